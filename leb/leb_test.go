package leb

import (
	"bytes"
	"encoding/binary"
	"math"
	"math/big"
	"math/rand"
	"slices"
	"sync"
	"testing"

	"stencil/api"
)

const (
	least = math.MinInt64
	most  = math.MaxInt64
)

// run is n times one byte, and others behind them.
func run(n int, part byte, behind ...byte) []byte {
	return append(bytes.Repeat([]byte{part}, n), behind...)
}

// words are the numbers at which the bytes turn (0, the powers of two and their neighbours, so each length from 1 to 10), and many others of every length, always the same ones.
func words() []uint64 {
	list := []uint64{0, math.MaxUint64, math.MaxUint64 - 1, 300}
	for k := range 64 {
		list = append(list, 1<<k-1, 1<<k, 1<<k+1)
	}
	source := rand.New(rand.NewSource(1))
	for range 20000 {
		list = append(list, source.Uint64()>>source.Intn(64))
	}
	return list
}

// ints are the numbers of words as ints, and their opposites.
func ints() []int {
	list := []int{least, least + 1, most, most - 1, -1}
	for _, x := range words() {
		list = append(list, int(x), -int(x))
	}
	return list
}

// cutSevens is P2.1 read off numbers without bound: the remainders by 128, with the bit 128 in all but the last one.
func cutSevens(x *big.Int) []byte {
	base := big.NewInt(128)
	rest, part := new(big.Int).Set(x), new(big.Int)
	var b []byte
	for {
		rest.DivMod(rest, base, part)
		if rest.Sign() == 0 {
			return append(b, byte(part.Int64()))
		}
		b = append(b, byte(part.Int64()+128))
	}
}

// asked is what P2.2 says of b at the place, clause by clause.
func asked(b []byte, at int) (uint64, int, api.Errno) {
	if at < 0 || at > len(b) {
		return 0, 0, api.ErrLebCut
	}
	rest := b[at:]
	if len(rest) >= 10 && allGoOn(rest[:9]) && rest[9] > 1 {
		return 0, 0, api.ErrLebLong
	}
	last := slices.IndexFunc(rest, func(part byte) bool { return part < 128 })
	if last < 0 {
		return 0, 0, api.ErrLebCut
	}
	if last > 0 && rest[last] == 0 {
		return 0, 0, api.ErrLebLong
	}
	sum := new(big.Int)
	for i := last; i >= 0; i-- {
		sum.Mul(sum, big.NewInt(128))
		sum.Add(sum, big.NewInt(int64(rest[i]%128)))
	}
	return sum.Uint64(), at + last + 1, api.OK
}

func allGoOn(b []byte) bool {
	return !slices.ContainsFunc(b, func(part byte) bool { return part < 128 })
}

// backAgain is what P2.3 says of the number that Take answers.
func backAgain(x uint64) int {
	half := new(big.Int).SetUint64(x)
	if half.Bit(0) == 1 {
		half.Add(half, big.NewInt(1))
		half.Neg(half)
	}
	half.Quo(half, big.NewInt(2))
	return int(half.Int64())
}

// expectTake holds Take and TakeInt against the number, the place and the error that are asked.
func expectTake(t *testing.T, b []byte, at int, want uint64, behind int, code api.Errno) {
	t.Helper()
	if x, place, e := Take(b, at); x != want || place != behind || e != code {
		t.Errorf("Take(%x, %d): %d, %d, %d, want %d, %d, %d", b, at, x, place, e, want, behind, code)
	}
	if x, place, e := TakeInt(b, at); x != backAgain(want) || place != behind || e != code {
		t.Errorf("TakeInt(%x, %d): %d, %d, %d, want %d, %d, %d", b, at, x, place, e, backAgain(want), behind, code)
	}
}

func TestP2_1Rows(t *testing.T) {
	for _, c := range []struct {
		x    uint64
		want []byte
	}{
		{0, []byte{0}},
		{1, []byte{1}},
		{127, []byte{0x7f}},
		{128, []byte{0x80, 1}},
		{129, []byte{0x81, 1}},
		{300, []byte{0xac, 2}},
		{1<<14 - 1, []byte{0xff, 0x7f}},
		{1 << 14, []byte{0x80, 0x80, 1}},
		{1<<63 - 1, run(8, 0xff, 0x7f)},
		{1 << 63, run(9, 0x80, 1)},
		{math.MaxUint64, run(9, 0xff, 1)},
	} {
		if b := Put(c.x); !bytes.Equal(b, c.want) {
			t.Errorf("Put(%d): %x, want %x", c.x, b, c.want)
		}
	}
}

func TestP2_1AgainstNumbersWithoutBound(t *testing.T) {
	lengths := map[int]int{}
	for _, x := range words() {
		b := Put(x)
		if want := cutSevens(new(big.Int).SetUint64(x)); !bytes.Equal(b, want) {
			t.Errorf("Put(%d): %x, want %x", x, b, want)
		}
		if want := binary.AppendUvarint(nil, x); !bytes.Equal(b, want) {
			t.Errorf("Put(%d): %x, the library has %x", x, b, want)
		}
		lengths[len(b)]++
	}
	for n := 1; n <= 10; n++ {
		if lengths[n] == 0 {
			t.Errorf("no number of %d bytes was put", n)
		}
	}
}

func TestP2_2Numbers(t *testing.T) {
	for _, c := range []struct {
		b      []byte
		at     int
		want   uint64
		behind int
	}{
		{[]byte{0}, 0, 0, 1},
		{[]byte{0x7f}, 0, 127, 1},
		{[]byte{0x80, 1}, 0, 128, 2},
		{run(9, 0xff, 1), 0, math.MaxUint64, 10},
		{run(9, 0x80, 1), 0, 1 << 63, 10},
		{run(8, 0xff, 0x7f), 0, 1<<63 - 1, 9},
		// What stands ahead and behind is of no weight.
		{[]byte{9, 0x80, 1, 7}, 1, 128, 3},
		{[]byte{9, 0x80, 1, 7}, 3, 7, 4},
		{[]byte{0, 0, 0}, 1, 0, 2},
		{[]byte{0x80, 0}, 1, 0, 2},
		{[]byte{5, 0xff}, 0, 5, 1},
		{append(run(9, 0xff, 1), 0xff), 0, math.MaxUint64, 10},
		{append(run(20, 0xff), 3), 12, 3<<56 | (1<<56 - 1), 21},
	} {
		expectTake(t, c.b, c.at, c.want, c.behind, api.OK)
	}
}

func TestP2_2Cut(t *testing.T) {
	for _, c := range []struct {
		b  []byte
		at int
	}{
		{nil, 0},
		{[]byte{}, 0},
		{nil, 1},
		{nil, -1},
		{[]byte{0x80}, 0},
		{[]byte{5, 0xff}, 1},
		{[]byte{5}, 1},
		{[]byte{5}, 2},
		{[]byte{5}, -1},
		{[]byte{5}, most},
		{[]byte{5}, least},
		{run(9, 0xff), 0},
		{run(9, 0x80), 0},
		{run(12, 0xff), 3},
	} {
		expectTake(t, c.b, c.at, 0, 0, api.ErrLebCut)
	}
	for n := range 10 {
		expectTake(t, run(n, 0x81), 0, 0, 0, api.ErrLebCut)
		// The spare room is no part of what is handed in.
		expectTake(t, run(n, 0x81, 1)[:n], 0, 0, 0, api.ErrLebCut)
	}
}

func TestP2_2Long(t *testing.T) {
	for _, b := range [][]byte{
		{0x80, 0},
		{0xff, 0},
		{0xff, 0x80, 0, 7},
		run(9, 0xff, 2),
		run(9, 0xff, 0),
		run(9, 0x80, 0),
		run(9, 0xff, 0x7f),
		run(9, 0x80, 2),
		run(10, 0x80),
		run(10, 0xff),
		run(10, 0x80, 1),
		run(10, 0x80, 0),
		run(9, 0x80, 0x81),
		run(9, 0x80, 0x81, 1),
		run(11, 0x80),
		run(100, 0xff),
	} {
		expectTake(t, b, 0, 0, 0, api.ErrLebLong)
		expectTake(t, append([]byte{5, 0x80}, b...), 2, 0, 0, api.ErrLebLong)
	}
	for n := 1; n <= 9; n++ {
		expectTake(t, run(n, 0x81, 0), 0, 0, 0, api.ErrLebLong)
	}
	for part := 2; part < 256; part++ {
		expectTake(t, run(9, 0x81, byte(part)), 0, 0, 0, api.ErrLebLong)
	}
}

func TestP2_2Short(t *testing.T) {
	b := make([]byte, 2)
	for first := range 256 {
		for second := range 256 {
			b[0], b[1] = byte(first), byte(second)
			for at := -1; at <= 3; at++ {
				x, behind, code := asked(b, at)
				expectTake(t, b, at, x, behind, code)
			}
		}
	}
}

// Bytes from among those at which the answer turns, about as long as a number may be.
func TestP2_2Mixed(t *testing.T) {
	parts := []byte{0, 1, 2, 0x7f, 0x80, 0x81, 0x82, 0xff, 0xfe, 0x80, 0xff, 0xaa, 0x80, 0xff}
	source := rand.New(rand.NewSource(2))
	codes := map[api.Errno]int{}
	for range 50000 {
		b := make([]byte, source.Intn(14))
		for i := range b {
			b[i] = parts[source.Intn(len(parts))]
		}
		// A run of bytes that go on brings the tenth byte within reach.
		for i := range min(len(b), source.Intn(11)) {
			b[i] |= 0x80
		}
		at := source.Intn(4) - 1
		x, behind, code := asked(b, at)
		expectTake(t, b, at, x, behind, code)
		codes[code]++
	}
	for _, code := range []api.Errno{api.OK, api.ErrLebCut, api.ErrLebLong} {
		if codes[code] < 1000 {
			t.Errorf("the error %d was asked only %d times", code, codes[code])
		}
	}
}

func TestP2_2LargeInput(t *testing.T) {
	b := run(1<<22, 0xff, 1)
	expectTake(t, b, 0, 0, 0, api.ErrLebLong)
	expectTake(t, b, len(b)-10, math.MaxUint64, len(b), api.OK)
	expectTake(t, b, len(b), 0, 0, api.ErrLebCut)
}

func TestP2_3Rows(t *testing.T) {
	for _, c := range []struct {
		x    int
		want []byte
	}{
		{0, []byte{0}},
		{-1, []byte{1}},
		{1, []byte{2}},
		{-2, []byte{3}},
		{63, []byte{0x7e}},
		{-64, []byte{0x7f}},
		{64, []byte{0x80, 1}},
		{-65, []byte{0x81, 1}},
		{least, run(9, 0xff, 1)},
		{most, append([]byte{0xfe}, run(8, 0xff, 1)...)},
		{least + 1, append([]byte{0xfd}, run(8, 0xff, 1)...)},
	} {
		if b := PutInt(c.x); !bytes.Equal(b, c.want) {
			t.Errorf("PutInt(%d): %x, want %x", c.x, b, c.want)
		}
		if x, behind, e := TakeInt(c.want, 0); x != c.x || behind != len(c.want) || e != api.OK {
			t.Errorf("TakeInt(%x, 0): %d, %d, %d, want %d, %d, 0", c.want, x, behind, e, c.x, len(c.want))
		}
	}
}

func TestP2_3AgainstNumbersWithoutBound(t *testing.T) {
	for _, x := range ints() {
		twice := new(big.Int).Lsh(big.NewInt(int64(x)), 1)
		if x < 0 {
			twice.Neg(twice)
			twice.Sub(twice, big.NewInt(1))
		}
		b := PutInt(x)
		if want := cutSevens(twice); !bytes.Equal(b, want) {
			t.Errorf("PutInt(%d): %x, want %x", x, b, want)
		}
		if want := binary.AppendVarint(nil, int64(x)); !bytes.Equal(b, want) {
			t.Errorf("PutInt(%d): %x, the library has %x", x, b, want)
		}
	}
}

func TestP2_4TakeOfPut(t *testing.T) {
	for _, x := range words() {
		b := Put(x)
		if y, behind, e := Take(b, 0); y != x || behind != len(b) || e != api.OK {
			t.Errorf("Take of Put(%d): %d, %d, %d", x, y, behind, e)
		}
	}
	for _, x := range ints() {
		b := PutInt(x)
		if y, behind, e := TakeInt(b, 0); y != x || behind != len(b) || e != api.OK {
			t.Errorf("TakeInt of PutInt(%d): %d, %d, %d", x, y, behind, e)
		}
	}
}

// Numbers one behind the other are read back one by one.
func TestP2_4Row(t *testing.T) {
	list := words()
	var b []byte
	for _, x := range list {
		b = append(b, Put(x)...)
	}
	at := 0
	for _, x := range list {
		y, behind, e := Take(b, at)
		if y != x || behind != at+len(Put(x)) || e != api.OK {
			t.Fatalf("Take at %d: %d, %d, %d, want %d", at, y, behind, e, x)
		}
		at = behind
	}
	expectTake(t, b, at, 0, 0, api.ErrLebCut)
}

// Of all bytes up to three, whatever is taken is what Put writes, so no number has two forms.
func TestP2_4PutOfTake(t *testing.T) {
	taken := map[uint64]int{}
	for n := range 1<<24 + 1<<16 + 1<<8 {
		b := bytesOfRow(n)
		x, behind, e := Take(b, 0)
		if e != api.OK || behind != len(b) {
			continue
		}
		if taken[x]++; !bytes.Equal(Put(x), b) || taken[x] > 1 {
			t.Fatalf("Put of Take(%x): %x", b, Put(x))
		}
		if y, _, _ := TakeInt(b, 0); !bytes.Equal(PutInt(y), b) {
			t.Fatalf("PutInt of TakeInt(%x): %x", b, PutInt(y))
		}
	}
	if len(taken) != 1<<21 {
		t.Errorf("%d numbers have up to three bytes, want %d", len(taken), 1<<21)
	}
}

// bytesOfRow is the n-th of all bytes of length 1 to 3, the short ones first.
func bytesOfRow(n int) []byte {
	if n < 1<<8 {
		return []byte{byte(n)}
	}
	n -= 1 << 8
	if n < 1<<16 {
		return []byte{byte(n), byte(n >> 8)}
	}
	n -= 1 << 16
	return []byte{byte(n), byte(n >> 8), byte(n >> 16)}
}

func TestP2_4LongForms(t *testing.T) {
	source := rand.New(rand.NewSource(3))
	for range 20000 {
		b := make([]byte, 1+source.Intn(10))
		for i := range b {
			b[i] = byte(source.Intn(256)) | 0x80
		}
		b[len(b)-1] = byte(source.Intn(3))
		x, behind, e := Take(b, 0)
		if e == api.OK && (behind != len(b) || !bytes.Equal(Put(x), b)) {
			t.Errorf("Put of Take(%x): %x", b, Put(x))
		}
	}
}

func TestR4ArgumentsStay(t *testing.T) {
	for _, whole := range [][]byte{
		run(9, 0xff, 1, 0xaa, 0xbb),
		run(9, 0xff, 2, 0xaa, 0xbb),
		{0x80, 0, 0xaa, 0xbb},
		{0x80, 0x80, 0xaa, 0xbb},
		{5, 6, 0xaa, 0xbb},
	} {
		kept := bytes.Clone(whole)
		b := whole[:len(whole)-2]
		for at := -1; at <= len(b)+1; at++ {
			Take(b, at)
			TakeInt(b, at)
		}
		if !bytes.Equal(whole, kept) {
			t.Errorf("%x became %x", kept, whole)
		}
	}
}

func TestR4AnswersShareNothing(t *testing.T) {
	for _, x := range []int{0, 1, 63, 64, 127, 128, 300, 1 << 40, most, least, -1} {
		for _, put := range []func() []byte{
			func() []byte { return Put(uint64(x)) },
			func() []byte { return PutInt(x) },
		} {
			first, second := put(), put()
			kept := bytes.Clone(second)
			first = first[:cap(first)]
			for i := range first {
				first[i] = 0xee
			}
			if !bytes.Equal(second, kept) || !bytes.Equal(put(), kept) {
				t.Errorf("of %d: %x became %x, and another one %x", x, kept, second, put())
			}
		}
	}
}

func TestR5AtOneTime(t *testing.T) {
	b := run(9, 0xff, 1)
	var group sync.WaitGroup
	for range 8 {
		group.Go(func() {
			for _, x := range words()[:500] {
				if y, _, e := Take(Put(x), 0); y != x || e != api.OK {
					t.Errorf("Take of Put(%d): %d, %d", x, y, e)
				}
				if y, _, e := TakeInt(b, 0); y != least || e != api.OK {
					t.Errorf("TakeInt(%x, 0): %d, %d", b, y, e)
				}
			}
		})
	}
	group.Wait()
}
