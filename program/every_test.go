package program

import "testing"

// expectEvery holds Decode against the second way, for all bytes behind those ahead that are made of these, up to that length; it answers how many were taken.
func expectEvery(t *testing.T, ahead []byte, length int, those ...int) int {
	t.Helper()
	taken := 0
	b := append(make([]byte, 0, len(ahead)+length), ahead...)
	var fill func()
	fill = func() {
		if t.Failed() {
			return
		}
		if expectJudged(t, b) < 0 {
			taken++
		}
		if len(b) == len(ahead)+length {
			return
		}
		for _, c := range those {
			b = append(b, byte(c))
			fill()
			b = b[:len(b)-1]
		}
	}
	fill()
	return taken
}

// TestP21Every: all short rows of bytes, of such as mean something somewhere.
func TestP21Every(t *testing.T) {
	for name, c := range map[string]struct {
		ahead  []byte
		length int
		those  []int
		least  int
	}{
		"all":    {nil, 7, []int{0, 1, 2, 0x80, 0xff}, 10},
		"texts":  {join(1, 2), 6, []int{0, 1, 2, 'a', 0x80, 0xc3, 0xa9}, 10},
		"codes":  {join(1, 0, 2), 7, []int{0, 1, 2, 0x80, 0xff}, 20},
		"trees":  {join(1, 0, 0, 1), 7, []int{0, 1, 2, 'a', 'b', 'P'}, 20},
		"attrs":  {join(1, 0, 0, 1, 1, 'p', 2, 1, 'b', 0), 6, []int{0, 1, 2, 'a', 'b', 'c', '-', 'B'}, 10},
		"kids":   {join(1, 0, 0, 1, 1, 'p', 0), 8, []int{0, 1, 'q', '_'}, 10},
		"blocks": {join(1, 0, 0, 0, 1), 7, []int{0, 1, 2, 64, 65, 0x80}, 20},
		"ops":    {join(1, 0, 0, 0, 1, 0, 1, 255), 8, []int{0, 1, 2, 0x80}, 20},
	} {
		t.Run(name, func(t *testing.T) {
			t.Parallel()
			if taken := expectEvery(t, c.ahead, c.length, c.those...); taken < c.least {
				t.Errorf("only %d are programs", taken)
			}
		})
	}
}

// TestP21EveryByte: programs with one byte that is another one, and with one byte more, for each place and each byte.
func TestP21EveryByte(t *testing.T) {
	t.Parallel()
	m, taken := newMaker(214), 0
	for range 6 {
		b := scribed(m.program()).bytes
		for at := range b[:min(len(b), 120)] {
			for c := range 256 {
				for _, other := range [][]byte{join(b[:at], c, b[at+1:]), join(b[:at], c, b[at:])} {
					if expectJudged(t, other) < 0 {
						taken++
					}
				}
			}
			if t.Failed() {
				return
			}
		}
	}
	if taken < 500 {
		t.Errorf("only %d are programs", taken)
	}
}
