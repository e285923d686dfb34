package bits_test

import (
	"bytes"
	"math"
	"slices"
	"testing"

	"incunable/bits"
)

// outside lists positions at which bytes of n bits have no bit.
func outside(n int) []int {
	return []int{n, n + 1, n + 7, n + 8, n + 1000, 1 << 31, 1<<31 - 1, math.MaxInt - 7, math.MaxInt, -1, -7, -8, -9, -n, -n - 1, -1 << 31, math.MinInt + 7, math.MinInt}
}

// samples are byte strings of several lengths, with none, some and all bits set.
func samples() [][]byte {
	all := [][]byte{nil, {}, {0x00}, {0xff}, {0x01}, {0x80}, {0x01, 0x80}, {0x00, 0x00, 0x00}, {0xff, 0xff, 0xff, 0xff}}
	for n := 1; n <= 70; n += 23 {
		b := make([]byte, n)
		for i := range b {
			b[i] = byte(i*i*37 + n*91 + 5)
		}
		all = append(all, b)
	}
	return all
}

// bitOf tells by arithmetic alone, without masks, whether bit i of b is 1.
func bitOf(b []byte, i int) bool {
	v := int(b[i/8])
	for range i % 8 {
		v /= 2
	}
	return v%2 == 1
}

func TestGetReadsEveryBit(t *testing.T) {
	for _, b := range samples() {
		for i := range 8 * len(b) {
			if got := bits.Get(b, i); got != bitOf(b, i) {
				t.Errorf("Get(% x, %d) = %v", b, i, got)
			}
		}
	}
}

func TestGetOrdersBytesFirstThenLeastSignificantBits(t *testing.T) {
	for i := range 24 {
		b := make([]byte, 3)
		b[i/8] = []byte{1, 2, 4, 8, 16, 32, 64, 128}[i%8]
		for j := range 24 {
			if got := bits.Get(b, j); got != (i == j) {
				t.Errorf("Get(% x, %d) = %v", b, j, got)
			}
		}
	}
}

func TestGetIsFalseWithoutABit(t *testing.T) {
	for _, b := range [][]byte{nil, {}, {0xff}, {0xff, 0xff, 0xff}} {
		for _, i := range outside(8 * len(b)) {
			if bits.Get(b, i) {
				t.Errorf("Get(% x, %d) is true", b, i)
			}
		}
	}
}

func TestGetExample(t *testing.T) {
	b := []byte{0x01, 0x80}
	if !bits.Get(b, 15) || bits.Get(b, 16) {
		t.Error("of 01 80, bit 15 is 1 and there is no bit 16")
	}
}

func TestFlipInvertsNamedBits(t *testing.T) {
	cases := []struct {
		b    []byte
		at   []int
		want []byte
	}{
		{[]byte{0x00, 0x00}, []int{9}, []byte{0x00, 0x02}},
		{[]byte{0x01, 0x80}, []int{0, 1, 1, 99, 8}, []byte{0x00, 0x81}},
		{[]byte{0x00}, []int{0}, []byte{0x01}},
		{[]byte{0x00}, []int{7}, []byte{0x80}},
		{[]byte{0xff}, []int{7}, []byte{0x7f}},
		{[]byte{0xff, 0xff}, []int{8, 0}, []byte{0xfe, 0xfe}},
		{[]byte{0x00}, []int{3, 3}, []byte{0x00}},
		{[]byte{0x00}, []int{3, 3, 3}, []byte{0x08}},
		{[]byte{0x00}, []int{3, 5, 3, 5, 3}, []byte{0x08}},
		{[]byte{0x5a}, []int{0, 1, 2, 3, 4, 5, 6, 7}, []byte{0xa5}},
		{[]byte{0x5a, 0x3c}, nil, []byte{0x5a, 0x3c}},
		{[]byte{0x5a, 0x3c}, []int{}, []byte{0x5a, 0x3c}},
		{nil, []int{0, 1}, nil},
		{[]byte{}, []int{0, 0, 8}, nil},
		{nil, nil, nil},
	}
	for _, c := range cases {
		if got := bits.Flip(c.b, c.at...); !bytes.Equal(got, c.want) {
			t.Errorf("Flip(% x, %v) = % x, not % x", c.b, c.at, got, c.want)
		}
	}
}

func TestFlipInvertsOnlyThatBit(t *testing.T) {
	for _, b := range samples() {
		for i := range 8 * len(b) {
			got := bits.Flip(b, i)
			if len(got) != len(b) {
				t.Fatalf("Flip(% x, %d) has %d bytes", b, i, len(got))
			}
			for j := range 8 * len(b) {
				if bitOf(got, j) != (bitOf(b, j) != (i == j)) {
					t.Errorf("Flip(% x, %d) = % x: bit %d", b, i, got, j)
				}
			}
		}
	}
}

func TestFlipIgnoresPositionsWithoutABit(t *testing.T) {
	for _, b := range [][]byte{nil, {}, {0x0f}, {0xa5, 0x00, 0xff}} {
		at := outside(8 * len(b))
		for _, i := range at {
			if got := bits.Flip(b, i); !bytes.Equal(got, b) {
				t.Errorf("Flip(% x, %d) = % x", b, i, got)
			}
		}
		if got := bits.Flip(b, at...); !bytes.Equal(got, b) {
			t.Errorf("Flip(% x, %v) = % x", b, at, got)
		}
	}
	if got := bits.Flip([]byte{0x00, 0x00}, -1, 9, math.MaxInt, 9, 16, 9, math.MinInt); !bytes.Equal(got, []byte{0x00, 0x02}) {
		t.Errorf("positions without a bit among others: % x", got)
	}
}

func TestCountAndZeros(t *testing.T) {
	cases := []struct {
		b           []byte
		ones, zeros int
	}{
		{nil, 0, 0},
		{[]byte{}, 0, 0},
		{[]byte{0x00}, 0, 8},
		{[]byte{0xff}, 8, 0},
		{[]byte{0x01, 0x80}, 2, 14},
		{[]byte{0xf0, 0x0f, 0x55}, 12, 12},
		{bytes.Repeat([]byte{0xff}, 1000), 8000, 0},
		{make([]byte, 1000), 0, 8000},
	}
	for _, c := range cases {
		if got := bits.Count(c.b); got != c.ones {
			t.Errorf("Count(% x) = %d, not %d", c.b, got, c.ones)
		}
		if got := bits.Zeros(c.b); got != c.zeros {
			t.Errorf("Zeros(% x) = %d, not %d", c.b, got, c.zeros)
		}
	}
}

func TestCountOfEveryByte(t *testing.T) {
	for v := range 256 {
		b := []byte{byte(v)}
		ones := 0
		for i := range 8 {
			if bitOf(b, i) {
				ones++
			}
		}
		if bits.Count(b) != ones || bits.Zeros(b) != 8-ones {
			t.Errorf("of %02x: Count %d, Zeros %d", v, bits.Count(b), bits.Zeros(b))
		}
	}
}

func TestAnd(t *testing.T) {
	cases := []struct{ a, b, want []byte }{
		{[]byte{0xf0}, []byte{0x3c, 0x55}, []byte{0x30, 0x55}},
		{[]byte{0xf0, 0x0f}, []byte{0x3c, 0x55}, []byte{0x30, 0x05}},
		{[]byte{0x00}, []byte{0xff, 0x00, 0xff}, []byte{0x00, 0x00, 0xff}},
		{[]byte{0xff}, []byte{0xa5}, []byte{0xa5}},
		{nil, []byte{0x3c, 0x55}, []byte{0x3c, 0x55}},
		{[]byte{}, []byte{0x00}, []byte{0x00}},
		{nil, nil, nil},
		{nil, []byte{}, nil},
		{[]byte{}, []byte{}, nil},
	}
	for _, c := range cases {
		if got := bits.And(c.a, c.b); !bytes.Equal(got, c.want) {
			t.Errorf("And(% x, % x) = % x, not % x", c.a, c.b, got, c.want)
		}
		if got := bits.And(c.b, c.a); !bytes.Equal(got, c.want) {
			t.Errorf("And(% x, % x) = % x, not % x", c.b, c.a, got, c.want)
		}
	}
}

func TestAndOfEveryTwo(t *testing.T) {
	for _, a := range samples() {
		for _, b := range samples() {
			got := bits.And(a, b)
			if len(got) != max(len(a), len(b)) {
				t.Fatalf("And(% x, % x) has %d bytes", a, b, len(got))
			}
			for i := range 8 * len(got) {
				inA := i >= 8*len(a) || bitOf(a, i)
				inB := i >= 8*len(b) || bitOf(b, i)
				if bitOf(got, i) != (inA && inB) {
					t.Errorf("And(% x, % x) = % x: bit %d", a, b, got, i)
				}
			}
		}
	}
}

func TestDiff(t *testing.T) {
	cases := []struct {
		a, b []byte
		want []int
	}{
		{[]byte{0x01, 0x00}, []byte{0x02, 0x80, 0x07}, []int{0, 1, 15}},
		{[]byte{0x00}, []byte{0xff}, []int{0, 1, 2, 3, 4, 5, 6, 7}},
		{[]byte{0x5a, 0x01}, []byte{0x5a, 0x00}, []int{8}},
		{[]byte{0x5a, 0x3c}, []byte{0x5a, 0x3c}, nil},
		{[]byte{0x5a}, []byte{0x5a, 0xff}, nil},
		{nil, []byte{0xff}, nil},
		{[]byte{}, []byte{0xff}, nil},
		{nil, nil, nil},
		{nil, []byte{}, nil},
		{[]byte{}, []byte{}, nil},
	}
	for _, c := range cases {
		if got := bits.Diff(c.a, c.b); !slices.Equal(got, c.want) {
			t.Errorf("Diff(% x, % x) = %v, not %v", c.a, c.b, got, c.want)
		}
		if got := bits.Diff(c.b, c.a); !slices.Equal(got, c.want) {
			t.Errorf("Diff(% x, % x) = %v, not %v", c.b, c.a, got, c.want)
		}
	}
}

func TestDiffOfEveryTwo(t *testing.T) {
	for _, a := range samples() {
		for _, b := range samples() {
			var want []int
			for i := range 8 * min(len(a), len(b)) {
				if bitOf(a, i) != bitOf(b, i) {
					want = append(want, i)
				}
			}
			if got := bits.Diff(a, b); !slices.Equal(got, want) {
				t.Errorf("Diff(% x, % x) = %v, not %v", a, b, got, want)
			}
		}
	}
}

func TestInvertingTwiceRestores(t *testing.T) {
	for _, b := range samples() {
		for i := -9; i < 8*len(b)+9; i++ {
			if got := bits.Flip(bits.Flip(b, i), i); !bytes.Equal(got, b) {
				t.Errorf("Flip of Flip(% x, %d) = % x", b, i, got)
			}
			if got := bits.Flip(b, i, i); !bytes.Equal(got, b) {
				t.Errorf("Flip(% x, %d, %d) = % x", b, i, i, got)
			}
		}
		for _, i := range outside(8 * len(b)) {
			if got := bits.Flip(bits.Flip(b, i), i); !bytes.Equal(got, b) {
				t.Errorf("Flip of Flip(% x, %d) = % x", b, i, got)
			}
		}
	}
}

func TestInvertingWhatDiffersMakesEqual(t *testing.T) {
	for _, a := range samples() {
		for _, b := range samples() {
			n := min(len(a), len(b))
			got := bits.Flip(a, bits.Diff(a, b)...)
			if !bytes.Equal(got[:n], b[:n]) || !bytes.Equal(got[n:], a[n:]) {
				t.Errorf("Flip(% x, Diff with % x) = % x", a, b, got)
			}
			if left := bits.Diff(got, b); len(left) != 0 {
				t.Errorf("Flip(% x, Diff with % x) still differs at %v", a, b, left)
			}
		}
	}
}

func TestArgumentsAreNotModified(t *testing.T) {
	for _, a := range samples() {
		for _, b := range samples() {
			keptA, keptB := slices.Clone(a), slices.Clone(b)
			at := []int{0, 3, -1, 3, 8*len(a) - 1, 8 * len(a)}
			keptAt := slices.Clone(at)
			flipped := bits.Flip(a, at...)
			both := bits.And(a, b)
			bits.Diff(a, b)
			// An answer is new memory: writing to it must not reach an argument.
			for i := range flipped {
				flipped[i] ^= 0xff
			}
			for i := range both {
				both[i] ^= 0xff
			}
			if !bytes.Equal(a, keptA) || !bytes.Equal(b, keptB) || !slices.Equal(at, keptAt) {
				t.Fatalf("arguments were modified: % x, % x, %v", a, b, at)
			}
		}
	}
}
