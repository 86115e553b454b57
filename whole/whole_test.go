package whole

import (
	"math"
	"math/big"
	"math/rand"
	"regexp"
	"slices"
	"strings"
	"testing"

	"stencil/api"
)

const (
	least = math.MinInt64
	most  = math.MaxInt64
)

// edges are the numbers about which an operation may turn: 0, the powers of two, their neighbours, the ends of the range.
func edges() []int {
	list := []int{least, least + 1, least + 2, most, most - 1, most - 2, 0, 7, -7, 10, -10, 3037000499, 3037000500, -3037000499, -3037000500}
	for k := range 63 {
		for d := -1; d <= 1; d++ {
			list = append(list, 1<<k+d, -1<<k+d)
		}
	}
	slices.Sort(list)
	return slices.Compact(list)
}

// spread are numbers of every length, always the same ones.
func spread(n int) []int {
	source := rand.New(rand.NewSource(1))
	list := make([]int, n)
	for i := range list {
		list[i] = int(source.Uint64()) >> source.Intn(64)
	}
	return list
}

func large(a int) *big.Int {
	return big.NewInt(int64(a))
}

// inRange is what P1.1 says of the number that an operation has without bound.
func inRange(n *big.Int) (int, api.Errno) {
	if !n.IsInt64() {
		return 0, api.ErrWholeOver
	}
	return int(n.Int64()), api.OK
}

type pairCall func(int, int) (int, api.Errno)

func expect(t *testing.T, name string, call pairCall, a, b, want int, code api.Errno) {
	t.Helper()
	if x, e := call(a, b); x != want || e != code {
		t.Errorf("%s(%d, %d): %d, %d, want %d, %d", name, a, b, x, e, want, code)
	}
}

// eachPair hands out all pairs of edges, and many others.
func eachPair(do func(a, b int)) {
	list := edges()
	for _, a := range list {
		for _, b := range list {
			do(a, b)
		}
	}
	others := spread(20000)
	for i := 1; i < len(others); i++ {
		do(others[i-1], others[i])
	}
}

func TestP1_1Rows(t *testing.T) {
	for _, c := range []struct {
		name string
		call pairCall
		a, b int
		want int
		code api.Errno
	}{
		{"Add", Add, 2, 3, 5, api.OK},
		{"Add", Add, 2, -3, -1, api.OK},
		{"Add", Add, most, 1, 0, api.ErrWholeOver},
		{"Add", Add, 1, most, 0, api.ErrWholeOver},
		{"Add", Add, least, -1, 0, api.ErrWholeOver},
		{"Add", Add, least, least, 0, api.ErrWholeOver},
		{"Add", Add, most, most, 0, api.ErrWholeOver},
		{"Add", Add, most, least, -1, api.OK},
		{"Add", Add, most - 1, 1, most, api.OK},
		{"Add", Add, least + 1, -1, least, api.OK},
		{"Sub", Sub, 2, 3, -1, api.OK},
		{"Sub", Sub, least, 1, 0, api.ErrWholeOver},
		{"Sub", Sub, most, -1, 0, api.ErrWholeOver},
		{"Sub", Sub, 0, least, 0, api.ErrWholeOver},
		{"Sub", Sub, -1, least, most, api.OK},
		{"Sub", Sub, least, least, 0, api.OK},
		{"Sub", Sub, -2, most, 0, api.ErrWholeOver},
		{"Sub", Sub, -1, most, least, api.OK},
		{"Mul", Mul, -3, -4, 12, api.OK},
		{"Mul", Mul, 3, -4, -12, api.OK},
		{"Mul", Mul, -1 << 62, 2, least, api.OK},
		{"Mul", Mul, 2, -1 << 62, least, api.OK},
		{"Mul", Mul, 1 << 62, 2, 0, api.ErrWholeOver},
		{"Mul", Mul, -1 << 62, -2, 0, api.ErrWholeOver},
		{"Mul", Mul, least, -1, 0, api.ErrWholeOver},
		{"Mul", Mul, -1, least, 0, api.ErrWholeOver},
		{"Mul", Mul, least, 1, least, api.OK},
		{"Mul", Mul, least, 0, 0, api.OK},
		{"Mul", Mul, least, least, 0, api.ErrWholeOver},
		{"Mul", Mul, 1 << 32, 1 << 32, 0, api.ErrWholeOver},
		{"Mul", Mul, most, -1, least + 1, api.OK},
		{"Mul", Mul, 3037000499, 3037000499, 9223372030926249001, api.OK},
		{"Mul", Mul, 3037000500, 3037000500, 0, api.ErrWholeOver},
	} {
		expect(t, c.name, c.call, c.a, c.b, c.want, c.code)
	}
}

func TestP1_1AsWithoutBound(t *testing.T) {
	eachPair(func(a, b int) {
		want, code := inRange(new(big.Int).Add(large(a), large(b)))
		expect(t, "Add", Add, a, b, want, code)
		want, code = inRange(new(big.Int).Sub(large(a), large(b)))
		expect(t, "Sub", Sub, a, b, want, code)
		want, code = inRange(new(big.Int).Mul(large(a), large(b)))
		expect(t, "Mul", Mul, a, b, want, code)
	})
}

func TestP1_1Neg(t *testing.T) {
	if x, e := Neg(least); x != 0 || e != api.ErrWholeOver {
		t.Errorf("Neg(%d): %d, %d", least, x, e)
	}
	for _, a := range edges() {
		want, code := inRange(new(big.Int).Neg(large(a)))
		if x, e := Neg(a); x != want || e != code {
			t.Errorf("Neg(%d): %d, %d, want %d, %d", a, x, e, want, code)
		}
	}
}

func TestP1_2Rows(t *testing.T) {
	for _, c := range []struct {
		name string
		call pairCall
		a, b int
		want int
		code api.Errno
	}{
		{"Div", Div, 7, 2, 3, api.OK},
		{"Div", Div, -7, 2, -3, api.OK},
		{"Div", Div, 7, -2, -3, api.OK},
		{"Div", Div, -7, -2, 3, api.OK},
		{"Div", Div, 1, 2, 0, api.OK},
		{"Div", Div, least, -1, 0, api.ErrWholeOver},
		{"Div", Div, least, 1, least, api.OK},
		{"Div", Div, most, -1, -most, api.OK},
		{"Div", Div, least, least, 1, api.OK},
		{"Div", Div, 1, 0, 0, api.ErrWholeZero},
		{"Div", Div, 0, 0, 0, api.ErrWholeZero},
		{"Div", Div, least, 0, 0, api.ErrWholeZero},
		{"Mod", Mod, 7, 2, 1, api.OK},
		{"Mod", Mod, -7, 2, -1, api.OK},
		{"Mod", Mod, 7, -2, 1, api.OK},
		{"Mod", Mod, -7, -2, -1, api.OK},
		{"Mod", Mod, least, -1, 0, api.OK},
		{"Mod", Mod, least, most, -1, api.OK},
		{"Mod", Mod, most, least, most, api.OK},
		{"Mod", Mod, 1, 0, 0, api.ErrWholeZero},
		{"Mod", Mod, 0, 0, 0, api.ErrWholeZero},
		{"Mod", Mod, least, 0, 0, api.ErrWholeZero},
	} {
		expect(t, c.name, c.call, c.a, c.b, c.want, c.code)
	}
}

func TestP1_2AsWithoutBound(t *testing.T) {
	eachPair(func(a, b int) {
		if b == 0 {
			expect(t, "Div", Div, a, b, 0, api.ErrWholeZero)
			expect(t, "Mod", Mod, a, b, 0, api.ErrWholeZero)
			return
		}
		quotient, rest := new(big.Int).QuoRem(large(a), large(b), new(big.Int))
		want, code := inRange(quotient)
		expect(t, "Div", Div, a, b, want, code)
		want, code = inRange(rest)
		expect(t, "Mod", Mod, a, b, want, code)
	})
}

func TestP1_3Rows(t *testing.T) {
	for _, c := range []struct {
		name string
		call pairCall
		a, k int
		want int
		code api.Errno
	}{
		{"Shl", Shl, 5, 2, 20, api.OK},
		{"Shl", Shl, -5, 2, -20, api.OK},
		{"Shl", Shl, 3, 62, 0, api.ErrWholeOver},
		{"Shl", Shl, 1, 62, 1 << 62, api.OK},
		{"Shl", Shl, 1, 63, 0, api.ErrWholeOver},
		{"Shl", Shl, 2, 63, 0, api.ErrWholeOver},
		{"Shl", Shl, -1, 63, least, api.OK},
		{"Shl", Shl, -2, 63, 0, api.ErrWholeOver},
		{"Shl", Shl, 0, 63, 0, api.OK},
		{"Shl", Shl, least, 0, least, api.OK},
		{"Shl", Shl, least, 1, 0, api.ErrWholeOver},
		{"Shl", Shl, most, 0, most, api.OK},
		{"Shl", Shl, most, 1, 0, api.ErrWholeOver},
		{"Shl", Shl, 0, 64, 0, api.ErrWholeShift},
		{"Shl", Shl, most, 64, 0, api.ErrWholeShift},
		{"Shl", Shl, 1, -1, 0, api.ErrWholeShift},
		{"Shr", Shr, 7, 1, 3, api.OK},
		{"Shr", Shr, -7, 1, -4, api.OK},
		{"Shr", Shr, -1, 63, -1, api.OK},
		{"Shr", Shr, least, 63, -1, api.OK},
		{"Shr", Shr, most, 63, 0, api.OK},
		{"Shr", Shr, least, 0, least, api.OK},
		{"Shr", Shr, 1, 64, 0, api.ErrWholeShift},
		{"Shr", Shr, 1, -1, 0, api.ErrWholeShift},
	} {
		expect(t, c.name, c.call, c.a, c.k, c.want, c.code)
	}
}

func TestP1_3AsWithoutBound(t *testing.T) {
	for _, a := range append(edges(), spread(1000)...) {
		for k := range 64 {
			want, code := inRange(new(big.Int).Lsh(large(a), uint(k)))
			expect(t, "Shl", Shl, a, k, want, code)
			want, code = inRange(new(big.Int).Rsh(large(a), uint(k)))
			expect(t, "Shr", Shr, a, k, want, code)
		}
		for _, k := range []int{-1, -2, -63, -64, 64, 65, 127, 128, 256, 1 << 32, least, most} {
			expect(t, "Shl", Shl, a, k, 0, api.ErrWholeShift)
			expect(t, "Shr", Shr, a, k, 0, api.ErrWholeShift)
		}
	}
}

func expectTo(t *testing.T, a, bits int, signed bool, want int, code api.Errno) {
	t.Helper()
	if x, e := To(a, bits, signed); x != want || e != code {
		t.Errorf("To(%d, %d, %v): %d, %d, want %d, %d", a, bits, signed, x, e, want, code)
	}
}

func TestP1_4Rows(t *testing.T) {
	for _, c := range []struct {
		a, bits int
		signed  bool
		want    int
	}{
		{300, 8, false, 44}, {255, 8, false, 255}, {256, 8, false, 0}, {-1, 8, false, 255},
		{200, 8, true, -56}, {127, 8, true, 127}, {128, 8, true, -128}, {-128, 8, true, -128}, {-129, 8, true, 127},
		{65535, 16, false, 65535}, {65536, 16, false, 0}, {-1, 16, false, 65535},
		{32767, 16, true, 32767}, {32768, 16, true, -32768}, {-32769, 16, true, 32767},
		{-1, 32, false, 4294967295}, {1 << 32, 32, false, 0},
		{1 << 31, 32, true, -1 << 31}, {1<<31 - 1, 32, true, 1<<31 - 1}, {-1<<31 - 1, 32, true, 1<<31 - 1},
		{least, 32, true, 0}, {least, 32, false, 0}, {most, 32, true, -1}, {most, 32, false, 4294967295},
	} {
		expectTo(t, c.a, c.bits, c.signed, c.want, api.OK)
	}
}

// residue is the one number of P1.4, reckoned without bound.
func residue(a, bits int, signed bool) int {
	all := new(big.Int).Lsh(large(1), uint(bits))
	n := new(big.Int).Mod(large(a), all)
	if signed && n.Bit(bits-1) == 1 {
		n.Sub(n, all)
	}
	return int(n.Int64())
}

func TestP1_4AsWithoutBound(t *testing.T) {
	for _, a := range append(edges(), spread(1000)...) {
		for _, signed := range []bool{false, true} {
			for _, bits := range []int{8, 16, 32} {
				expectTo(t, a, bits, signed, residue(a, bits, signed), api.OK)
			}
			for _, bits := range []int{least, -64, -32, -16, -8, -1, 0, 1, 7, 9, 15, 17, 24, 31, 33, 63, 64, 65, 264, most} {
				expectTo(t, a, bits, signed, 0, api.ErrWholeBits)
			}
		}
	}
}

func TestP1_5Text(t *testing.T) {
	for _, c := range []struct {
		a    int
		want string
	}{{0, "0"}, {7, "7"}, {-7, "-7"}, {100, "100"}, {-100, "-100"}, {most, "9223372036854775807"}, {least, "-9223372036854775808"}} {
		if s := Text(c.a); s != c.want {
			t.Errorf("Text(%d): %q, want %q", c.a, s, c.want)
		}
	}
	for _, a := range append(edges(), spread(1000)...) {
		if s, want := Text(a), large(a).String(); s != want {
			t.Errorf("Text(%d): %q, want %q", a, s, want)
		}
	}
}

func expectParse(t *testing.T, s string, want int, code api.Errno) {
	t.Helper()
	if x, e := Parse(s); x != want || e != code {
		t.Errorf("Parse(%.40q): %d, %d, want %d, %d", s, x, e, want, code)
	}
}

func TestP1_5ParseRows(t *testing.T) {
	for _, c := range []struct {
		s    string
		want int
		code api.Errno
	}{
		{"0", 0, api.OK}, {"1", 1, api.OK}, {"-1", -1, api.OK}, {"10", 10, api.OK}, {"-905", -905, api.OK},
		{"9223372036854775807", most, api.OK},
		{"-9223372036854775808", least, api.OK},
		{"9223372036854775808", 0, api.ErrWholeOver},
		{"-9223372036854775809", 0, api.ErrWholeOver},
		{"9999999999999999999", 0, api.ErrWholeOver},
		{"-9999999999999999999", 0, api.ErrWholeOver},
		{"10000000000000000000", 0, api.ErrWholeOver},
		{"18446744073709551615", 0, api.ErrWholeOver},
		{"18446744073709551616", 0, api.ErrWholeOver},
		{"18446744073709551617", 0, api.ErrWholeOver},
		{"-18446744073709551617", 0, api.ErrWholeOver},
		{strings.Repeat("9", 100000), 0, api.ErrWholeOver},
		{"-1" + strings.Repeat("0", 100000), 0, api.ErrWholeOver},
		{strings.Repeat("9", 100000) + "x", 0, api.ErrWholeForm},
		{"0" + strings.Repeat("9", 100000), 0, api.ErrWholeForm},
		{"", 0, api.ErrWholeForm}, {"-", 0, api.ErrWholeForm}, {"+", 0, api.ErrWholeForm},
		{"-0", 0, api.ErrWholeForm}, {"+0", 0, api.ErrWholeForm}, {"+1", 0, api.ErrWholeForm},
		{"00", 0, api.ErrWholeForm}, {"01", 0, api.ErrWholeForm}, {"-01", 0, api.ErrWholeForm}, {"-00", 0, api.ErrWholeForm},
		{"--1", 0, api.ErrWholeForm}, {"1-", 0, api.ErrWholeForm}, {"1-1", 0, api.ErrWholeForm},
		{" 1", 0, api.ErrWholeForm}, {"1 ", 0, api.ErrWholeForm}, {"- 1", 0, api.ErrWholeForm}, {"1\n", 0, api.ErrWholeForm},
		{"1_0", 0, api.ErrWholeForm}, {"0x1", 0, api.ErrWholeForm}, {"1e3", 0, api.ErrWholeForm}, {"1.0", 0, api.ErrWholeForm},
		{"1\x00", 0, api.ErrWholeForm}, {"\x00", 0, api.ErrWholeForm}, {"\xff", 0, api.ErrWholeForm},
		{"/1", 0, api.ErrWholeForm}, {"1:", 0, api.ErrWholeForm}, {"\u0661", 0, api.ErrWholeForm}, {"\u22121", 0, api.ErrWholeForm},
	} {
		expectParse(t, c.s, c.want, c.code)
	}
}

// parsed is what P1.5 says of a text, reckoned without bound.
func parsed(form *regexp.Regexp, s string) (int, api.Errno) {
	if !form.MatchString(s) {
		return 0, api.ErrWholeForm
	}
	n, _ := new(big.Int).SetString(s, 10)
	return inRange(n)
}

func TestP1_5ParseAllShortTexts(t *testing.T) {
	form := regexp.MustCompile(`\A(0|-?[1-9][0-9]*)\z`)
	texts := []string{""}
	for range 5 {
		for _, s := range texts {
			want, code := parsed(form, s)
			expectParse(t, s, want, code)
		}
		longer := []string{}
		for _, s := range texts {
			for _, c := range []string{"0", "1", "9", "-", "+", "/", ":", "x"} {
				longer = append(longer, s+c)
			}
		}
		texts = longer
	}
}

func TestP1_5ParseAroundTheRange(t *testing.T) {
	form := regexp.MustCompile(`\A(0|-?[1-9][0-9]*)\z`)
	for _, end := range []*big.Int{large(least), large(most), new(big.Int).Lsh(large(1), 64), new(big.Int).Lsh(large(-1), 64)} {
		for d := -300; d <= 300; d++ {
			s := new(big.Int).Add(end, large(d)).String()
			want, code := parsed(form, s)
			expectParse(t, s, want, code)
		}
	}
}

func TestP1_6ThereAndBack(t *testing.T) {
	for _, a := range append(edges(), spread(1000)...) {
		s := Text(a)
		x, e := Parse(s)
		if x != a || e != api.OK {
			t.Errorf("Parse(Text(%d)): %d, %d", a, x, e)
		}
		if again := Text(x); again != s {
			t.Errorf("Text(Parse(%q)): %q", s, again)
		}
		for k := range 64 {
			if y, e := Shl(a, k); e == api.OK {
				expect(t, "Shr of Shl", Shr, y, k, a, api.OK)
			}
		}
		for _, bits := range []int{8, 16, 32} {
			for _, signed := range []bool{false, true} {
				y, _ := To(a, bits, signed)
				expectTo(t, y, bits, signed, y, api.OK)
			}
		}
	}
}

func TestP1_6DivAndMod(t *testing.T) {
	eachPair(func(a, b int) {
		quotient, e := Div(a, b)
		if e != api.OK {
			return
		}
		rest, _ := Mod(a, b)
		product, _ := Mul(quotient, b)
		expect(t, "Add of Div times b and Mod", Add, product, rest, a, api.OK)
	})
}
