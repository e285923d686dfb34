package pack_test

import (
	"bytes"
	"math"
	"slices"
	"testing"

	"incunable/api"
	"incunable/pack"
)

// tops are the greatest numbers of fields, by their sizes from 1 on, written
// out as the chapter has them.
var tops = [8]int{0xff, 0xffff, 0xffffff, 0xffffffff, 0xffffffffff, 0xffffffffffff, 0xffffffffffffff, 0x4000000000000000}

// wrongSizes are sizes that no field has.
var wrongSizes = [8]int{-1, 0, 9, 10, -8, 64, math.MinInt, math.MaxInt}

// layouts are lists of sizes that are allowed: none, each size alone, several.
func layouts() [][]int {
	all := [][]int{nil, {}, {1, 4, 8}, {8, 4, 1}, {1, 2, 3, 4, 5, 6, 7, 8}, {8, 8, 8}, {2, 2}, {3, 1, 3}}
	for size := 1; size <= 8; size++ {
		all = append(all, []int{size}, slices.Repeat([]int{size}, 64))
	}
	mixed := make([]int, 64)
	for i := range mixed {
		mixed[i] = i*i*3%8 + 1
	}
	return append(all, mixed, mixed[:63], mixed[5:38])
}

// wrongLayouts are lists of sizes that are not allowed.
func wrongLayouts() [][]int {
	all := [][]int{slices.Repeat([]int{1}, 65), slices.Repeat([]int{8}, 65), slices.Repeat([]int{4}, 1000), slices.Repeat([]int{0}, 65)}
	for _, size := range wrongSizes {
		all = append(all, []int{size}, []int{size, 1}, []int{1, size}, []int{2, size, 3}, append(slices.Repeat([]int{1}, 63), size))
	}
	// Sizes whose sum is that of a layout are still wrong one by one.
	return append(all, []int{9, -1}, []int{-1, 9}, []int{0, 8}, []int{16, -8}, []int{math.MaxInt, math.MaxInt, 2})
}

// total is the sum of the sizes.
func total(sizes []int) int {
	sum := 0
	for _, size := range sizes {
		sum += size
	}
	return sum
}

// numbersOf are lists of numbers that fit into the sizes: the edges of each,
// and others between them.
func numbersOf(sizes []int) [][]int {
	zeros, ones, high, below := make([]int, len(sizes)), make([]int, len(sizes)), make([]int, len(sizes)), make([]int, len(sizes))
	for i, size := range sizes {
		ones[i], high[i], below[i] = 1, tops[size-1], tops[size-1]-1
	}
	all := [][]int{zeros, ones, high, below}
	seed := uint64(1)
	for range 20 {
		between := make([]int, len(sizes))
		for i, size := range sizes {
			seed = seed*6364136223846793005 + 1442695040888963407
			between[i] = int(seed>>2) % (tops[size-1] + 1)
		}
		all = append(all, between)
	}
	return all
}

// fieldsOf goes by the chapter's words: each number by its digits of base 256,
// the least significant one first.
func fieldsOf(sizes, numbers []int) []byte {
	var b []byte
	for i, size := range sizes {
		left := numbers[i]
		for range size {
			b = append(b, byte(left%256))
			left /= 256
		}
	}
	return b
}

// rejectPut fails unless Put answers ErrArg, and nothing beside it.
func rejectPut(t *testing.T, sizes []int, numbers ...int) {
	t.Helper()
	if b, e := pack.Put(sizes, numbers...); e != api.ErrArg || len(b) != 0 {
		t.Errorf("Put(%v, %v) = % x, %d, not ErrArg", sizes, numbers, b, e)
	}
}

// rejectTake fails unless Take answers that error, and nothing beside it.
func rejectTake(t *testing.T, sizes []int, b []byte, want api.Errno) {
	t.Helper()
	if numbers, e := pack.Take(sizes, b); e != want || len(numbers) != 0 {
		t.Errorf("Take(%v, % x) = %v, %d, not %d", sizes, b, numbers, e, want)
	}
}

func TestSizeIsTheSum(t *testing.T) {
	cases := []struct {
		sizes []int
		want  int
	}{
		{nil, 0},
		{[]int{}, 0},
		{[]int{1}, 1},
		{[]int{8}, 8},
		{[]int{1, 4, 8}, 13},
		{[]int{1, 2, 3, 4, 5, 6, 7, 8}, 36},
		{slices.Repeat([]int{1}, 64), 64},
		{slices.Repeat([]int{8}, 63), 504},
		{slices.Repeat([]int{8}, 64), 512},
	}
	for _, c := range cases {
		if n, ok := pack.Size(c.sizes); !ok || n != c.want {
			t.Errorf("Size(%v) = %d, %v, not %d", c.sizes, n, ok, c.want)
		}
	}
	for _, sizes := range layouts() {
		if n, ok := pack.Size(sizes); !ok || n != total(sizes) {
			t.Errorf("Size(%v) = %d, %v, not %d", sizes, n, ok, total(sizes))
		}
	}
}

func TestSizeOfEachSize(t *testing.T) {
	for size := -1; size <= 9; size++ {
		want, wantOK := size, true
		if size < 1 || size > 8 {
			want, wantOK = 0, false
		}
		if n, ok := pack.Size([]int{size}); n != want || ok != wantOK {
			t.Errorf("Size(%d) = %d, %v", size, n, ok)
		}
	}
}

func TestSizeRejectsWrongLayouts(t *testing.T) {
	for _, sizes := range wrongLayouts() {
		if n, ok := pack.Size(sizes); ok || n != 0 {
			t.Errorf("Size(%v) = %d, %v, not 0 and false", sizes, n, ok)
		}
	}
}

func TestSizeRejectsAWrongSizeAnywhere(t *testing.T) {
	for _, wrong := range wrongSizes {
		for i := range 64 {
			sizes := slices.Repeat([]int{3}, 64)
			sizes[i] = wrong
			if n, ok := pack.Size(sizes); ok || n != 0 {
				t.Errorf("Size with %d at %d = %d, %v", wrong, i, n, ok)
			}
		}
	}
}

func TestFitsAtTheEdges(t *testing.T) {
	for size := 1; size <= 8; size++ {
		top := tops[size-1]
		for _, n := range []int{0, 1, 2, 127, 128, 254, 255, top / 2, top - 1, top} {
			if !pack.Fits(n, size) {
				t.Errorf("Fits(%d, %d) is false", n, size)
			}
		}
		for _, n := range []int{top + 1, top + 2, math.MaxInt, -1, -2, -255, -256, -top, -top - 1, math.MinInt} {
			if pack.Fits(n, size) {
				t.Errorf("Fits(%d, %d) is true", n, size)
			}
		}
	}
}

func TestFitsOfEachPowerOfTwo(t *testing.T) {
	for size := 1; size <= 8; size++ {
		for i := range 63 {
			want := i < 8*size
			if got := pack.Fits(1<<i, size); got != want {
				t.Errorf("Fits(2^%d, %d) = %v", i, size, got)
			}
		}
	}
}

func TestNothingFitsAWrongSize(t *testing.T) {
	for _, size := range wrongSizes {
		for _, n := range []int{0, 1, 255, -1, 1 << 62, math.MaxInt, math.MinInt} {
			if pack.Fits(n, size) {
				t.Errorf("Fits(%d, %d) is true", n, size)
			}
		}
	}
}

func TestPutExamples(t *testing.T) {
	cases := []struct {
		sizes, numbers []int
		want           []byte
	}{
		{nil, nil, nil},
		{[]int{}, []int{}, nil},
		{[]int{2}, []int{300}, []byte{0x2c, 0x01}},
		{[]int{1}, []int{0}, []byte{0}},
		{[]int{1}, []int{255}, []byte{0xff}},
		{[]int{3}, []int{0x010203}, []byte{3, 2, 1}},
		{[]int{4}, []int{1 << 31}, []byte{0, 0, 0, 0x80}},
		{[]int{4}, []int{1<<32 - 1}, []byte{0xff, 0xff, 0xff, 0xff}},
		{[]int{8}, []int{0x0102030405060708}, []byte{8, 7, 6, 5, 4, 3, 2, 1}},
		{[]int{8}, []int{1 << 62}, []byte{0, 0, 0, 0, 0, 0, 0, 0x40}},
		{[]int{8}, []int{1<<62 - 1}, []byte{0xff, 0xff, 0xff, 0xff, 0xff, 0xff, 0xff, 0x3f}},
		{[]int{1, 2, 3}, []int{1, 2, 3}, []byte{1, 2, 0, 3, 0, 0}},
		{[]int{3, 2, 1}, []int{1, 2, 3}, []byte{1, 0, 0, 2, 0, 3}},
		{[]int{1, 4, 8}, []int{255, 1 << 31, 1 << 62}, []byte{0xff, 0, 0, 0, 0x80, 0, 0, 0, 0, 0, 0, 0, 0x40}},
	}
	for _, c := range cases {
		if b, e := pack.Put(c.sizes, c.numbers...); e != api.OK || !bytes.Equal(b, c.want) {
			t.Errorf("Put(%v, %v) = % x, %d, not % x", c.sizes, c.numbers, b, e, c.want)
		}
		if numbers, e := pack.Take(c.sizes, c.want); e != api.OK || !slices.Equal(numbers, c.numbers) {
			t.Errorf("Take(%v, % x) = %v, %d, not %v", c.sizes, c.want, numbers, e, c.numbers)
		}
	}
}

func TestPutTakesNumbersOneByOne(t *testing.T) {
	if b, e := pack.Put([]int{1, 2}, 7, 258); e != api.OK || !bytes.Equal(b, []byte{7, 2, 1}) {
		t.Errorf("Put of 7, 258 = % x, %d", b, e)
	}
	if b, e := pack.Put(nil); e != api.OK || len(b) != 0 {
		t.Errorf("Put of nothing = % x, %d", b, e)
	}
}

func TestPutRejectsWrongLayouts(t *testing.T) {
	for _, sizes := range wrongLayouts() {
		rejectPut(t, sizes, make([]int, len(sizes))...)
		rejectPut(t, sizes)
	}
}

func TestPutRejectsOtherCounts(t *testing.T) {
	for _, sizes := range layouts() {
		for _, count := range []int{0, 1, len(sizes) - 1, len(sizes) + 1, len(sizes) + 7, 65} {
			if count >= 0 && count != len(sizes) {
				rejectPut(t, sizes, make([]int, count)...)
			}
		}
	}
}

func TestPutRejectsNumbersThatDoNotFit(t *testing.T) {
	rejectPut(t, []int{1, 4, 8}, 256, 0, 0)
	rejectPut(t, []int{1, 4, 8}, 0, 1<<32, 0)
	rejectPut(t, []int{1, 4, 8}, 0, 0, 1<<62+1)
	for _, sizes := range layouts() {
		for i, size := range sizes {
			for _, wrong := range []int{tops[size-1] + 1, -1, -tops[size-1] - 1, math.MaxInt, math.MinInt} {
				numbers := make([]int, len(sizes))
				numbers[i] = wrong
				rejectPut(t, sizes, numbers...)
			}
		}
	}
}

func TestTakeRejectsWrongLayouts(t *testing.T) {
	for _, sizes := range wrongLayouts() {
		for _, n := range []int{0, 1, 8, 9, 64, 65, 520} {
			rejectTake(t, sizes, make([]byte, n), api.ErrArg)
		}
		rejectTake(t, sizes, nil, api.ErrArg)
	}
}

func TestTakeRejectsOtherLengths(t *testing.T) {
	for _, sizes := range layouts() {
		want := total(sizes)
		for n := range want + 20 {
			b := make([]byte, n)
			switch {
			case n < want:
				rejectTake(t, sizes, b, api.ErrEnd)
			case n > want:
				rejectTake(t, sizes, b, api.ErrExtra)
			default:
				if numbers, e := pack.Take(sizes, b); e != api.OK || !slices.Equal(numbers, make([]int, len(sizes))) {
					t.Errorf("Take(%v, %d zero bytes) = %v, %d", sizes, n, numbers, e)
				}
			}
		}
	}
	rejectTake(t, []int{1}, nil, api.ErrEnd)
	rejectTake(t, nil, []byte{0}, api.ErrExtra)
}

func TestTakeRejectsNumbersAboveTheGreatest(t *testing.T) {
	fields := [][]byte{
		{1, 0, 0, 0, 0, 0, 0, 0x40},
		{0, 0, 0, 0, 0, 0, 1, 0x40},
		{0, 0, 0, 0, 0, 0, 0, 0x41},
		{0, 0, 0, 0, 0, 0, 0, 0x60},
		{0xff, 0xff, 0xff, 0xff, 0xff, 0xff, 0xff, 0x7f},
		{0, 0, 0, 0, 0, 0, 0, 0x80},
		{1, 0, 0, 0, 0, 0, 0, 0x80},
		{0, 0, 0, 0, 0, 0, 0, 0xc0},
		{0xff, 0xff, 0xff, 0xff, 0xff, 0xff, 0xff, 0xff},
	}
	for _, field := range fields {
		rejectTake(t, []int{8}, field, api.ErrForm)
		rejectTake(t, []int{8, 1}, append(slices.Clone(field), 5), api.ErrForm)
		rejectTake(t, []int{2, 8}, append([]byte{5, 6}, field...), api.ErrForm)
		// Too few and too many bytes are named before it.
		rejectTake(t, []int{8, 1}, field, api.ErrEnd)
		rejectTake(t, []int{8}, append(slices.Clone(field), 5), api.ErrExtra)
	}
}

func TestTakeOfAllOnes(t *testing.T) {
	for size := 1; size <= 7; size++ {
		b := bytes.Repeat([]byte{0xff}, size)
		if numbers, e := pack.Take([]int{size}, b); e != api.OK || !slices.Equal(numbers, []int{tops[size-1]}) {
			t.Errorf("Take(%d, % x) = %v, %d", size, b, numbers, e)
		}
	}
}

func TestTakeInvertsPut(t *testing.T) {
	for _, sizes := range layouts() {
		for _, numbers := range numbersOf(sizes) {
			b, e := pack.Put(sizes, numbers...)
			if e != api.OK || !bytes.Equal(b, fieldsOf(sizes, numbers)) {
				t.Fatalf("Put(%v, %v) = % x, %d, not % x", sizes, numbers, b, e, fieldsOf(sizes, numbers))
			}
			back, e := pack.Take(sizes, b)
			if e != api.OK || !slices.Equal(back, numbers) {
				t.Errorf("Take(%v, % x) = %v, %d, not %v", sizes, b, back, e, numbers)
			}
		}
	}
}

func TestPutInvertsTake(t *testing.T) {
	for _, sizes := range layouts() {
		b := make([]byte, total(sizes))
		for i := range b {
			b[i] = byte(i*i*29+7) & 0x3f
		}
		numbers, e := pack.Take(sizes, b)
		if e != api.OK || len(numbers) != len(sizes) {
			t.Fatalf("Take(%v, % x) = %v, %d", sizes, b, numbers, e)
		}
		if again, e := pack.Put(sizes, numbers...); e != api.OK || !bytes.Equal(again, b) {
			t.Errorf("Put(%v, %v) = % x, %d, not % x", sizes, numbers, again, e, b)
		}
	}
}

func TestArgumentsAreNotModified(t *testing.T) {
	sizes, numbers := []int{1, 4, 8}, []int{255, 1 << 31, 1 << 62}
	first, _ := pack.Put(sizes, numbers...)
	kept := slices.Clone(first)
	back, _ := pack.Take(sizes, first)
	// An answer is new memory: writing to it must not reach an argument.
	clear(back)
	if !bytes.Equal(first, kept) {
		t.Errorf("the bytes of Take were modified: % x", first)
	}
	clear(first)
	if !slices.Equal(sizes, []int{1, 4, 8}) || !slices.Equal(numbers, []int{255, 1 << 31, 1 << 62}) {
		t.Errorf("arguments were modified: %v, %v", sizes, numbers)
	}
	if again, _ := pack.Put(sizes, numbers...); !bytes.Equal(again, kept) {
		t.Errorf("Put after its answer was changed = % x", again)
	}
}
