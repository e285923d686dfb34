package array_test

import (
	"bytes"
	"math"
	"slices"
	"testing"

	"incunable/api"
	"incunable/array"
)

// example is a geometry with 4 blocks, 16 rows, and raw pages of 37 bytes.
var example = api.Geom{Planes: 1, Blocks: 4, Pages: 4, Chunks: 1, Chunk: 4, Rungs: 1, Partial: 1}

// shape is a geometry, and how many blocks it has, pages of a block, and bytes
// of a raw page.
type shape struct {
	g                   api.Geom
	blocks, pages, size int
}

// small is the example with its numbers.
var small = shape{example, 4, 4, 37}

// shapes are valid geometries: the example, the least and the greatest one,
// and others between them, with their numbers written out.
func shapes() []shape {
	return []shape{
		small,
		{api.Geom{Planes: 1, Blocks: 2, Pages: 4, Chunks: 1, Chunk: 4, Rungs: 1, Partial: 1}, 2, 4, 37},
		{api.Geom{Planes: 4, Blocks: 256, Pages: 64, Chunks: 16, Chunk: 512, Rungs: 8, Partial: 8}, 256, 64, 8255},
		{api.Geom{Planes: 3, Blocks: 9, Pages: 6, Chunks: 2, Chunk: 8, Rungs: 5, Partial: 4}, 9, 6, 51},
		{api.Geom{Planes: 1, Blocks: 7, Pages: 62, Chunks: 3, Chunk: 5, Rungs: 3, Partial: 2}, 7, 62, 52},
	}
}

// wrongGeometries are the zero one, and others that differ from the example in
// one number or two, and are not valid.
func wrongGeometries() []api.Geom {
	all := []api.Geom{{}}
	change := func(f func(g *api.Geom)) {
		g := example
		f(&g)
		all = append(all, g)
	}
	for _, n := range []int{0, -1, -4, math.MinInt, math.MaxInt, 513} {
		change(func(g *api.Geom) { g.Planes = n })
		change(func(g *api.Geom) { g.Blocks = n })
		change(func(g *api.Geom) { g.Pages = n })
		change(func(g *api.Geom) { g.Chunks = n })
		change(func(g *api.Geom) { g.Chunk = n })
		change(func(g *api.Geom) { g.Rungs = n })
		change(func(g *api.Geom) { g.Partial = n })
	}
	change(func(g *api.Geom) { g.Planes = 3 })
	change(func(g *api.Geom) { g.Planes, g.Blocks = 5, 10 })
	change(func(g *api.Geom) { g.Blocks = 258 })
	change(func(g *api.Geom) { g.Blocks = 1 })
	change(func(g *api.Geom) { g.Pages = 5 })
	change(func(g *api.Geom) { g.Pages = 66 })
	change(func(g *api.Geom) { g.Chunk = 3 })
	change(func(g *api.Geom) { g.Rungs = 9 })
	change(func(g *api.Geom) { g.Partial = 9 })
	return all
}

// beyond are numbers of which none is that of one of the first count things.
func beyond(count int) []int {
	return []int{-1, -2, -count, math.MinInt, count, count + 1, 2 * count, 1 << 16, 1 << 32, math.MaxInt}
}

// cell is what the chapter says of a row.
type cell struct {
	raw      []byte
	programs int
	torn     bool
}

// oracle is what the chapter says of an array: all of it, byte by byte.
type oracle struct {
	shape
	rows   []cell
	erases []int
}

// erased are n bytes ff.
func erased(n int) []byte {
	return bytes.Repeat([]byte{0xff}, n)
}

// fresh is what a new array is to be.
func fresh(at shape, marked ...int) *oracle {
	o := &oracle{shape: at, rows: make([]cell, at.blocks*at.pages), erases: make([]int, at.blocks)}
	for i := range o.rows {
		o.rows[i].raw = erased(at.size)
	}
	for _, block := range marked {
		o.rows[block*at.pages].raw[at.size-1] = 0
	}
	return o
}

// program does what the chapter calls so.
func (o *oracle) program(row int, raw []byte) {
	for i := range raw {
		o.rows[row].raw[i] &= raw[i]
	}
	o.rows[row].programs++
}

// tear does what the chapter calls so.
func (o *oracle) tear(row int, raw []byte) {
	copy(o.rows[row].raw, raw)
	o.rows[row].torn = true
	o.rows[row].programs++
}

// erase does what the chapter calls so.
func (o *oracle) erase(block int) {
	for page := range o.pages {
		o.rows[block*o.pages+page] = cell{raw: erased(o.size)}
	}
	o.erases[block]++
}

// tearBlock does what the chapter calls so.
func (o *oracle) tearBlock(block int, raw []byte) {
	for page := range o.pages {
		o.tear(block*o.pages+page, raw)
	}
}

// made is a new array of a shape, and what it is to be.
func made(t *testing.T, at shape, marked ...int) (*array.Array, *oracle) {
	t.Helper()
	a, e := array.New(at.g, marked)
	if a == nil || e != api.OK {
		t.Fatalf("New(%v, %v) is %v, %d, not an array and OK", at.g, marked, a, e)
	}
	return a, fresh(at, marked...)
}

// expectRow fails unless a row is so.
func expectRow(t *testing.T, name string, a *array.Array, row int, want cell) {
	t.Helper()
	if got := a.Raw(row); !bytes.Equal(got, want.raw) {
		t.Errorf("%s: Raw(%d) is % x, not % x", name, row, got, want.raw)
	}
	if got := a.Programs(row); got != want.programs {
		t.Errorf("%s: Programs(%d) is %d, not %d", name, row, got, want.programs)
	}
	if got := a.Torn(row); got != want.torn {
		t.Errorf("%s: Torn(%d) is %t, not %t", name, row, got, want.torn)
	}
}

// expectAll fails unless each row and each block is as it is to be.
func expectAll(t *testing.T, name string, a *array.Array, o *oracle) {
	t.Helper()
	for i, want := range o.rows {
		expectRow(t, name, a, i, want)
	}
	for b, want := range o.erases {
		if got := a.Erases(b); got != want {
			t.Errorf("%s: Erases(%d) is %d, not %d", name, b, got, want)
		}
	}
}

// expectErr fails unless an operation answers this error.
func expectErr(t *testing.T, name string, got, want api.Errno) {
	t.Helper()
	if got != want {
		t.Errorf("%s is %d, not %d", name, got, want)
	}
}

// program programs a row of both.
func program(t *testing.T, a *array.Array, o *oracle, row int, raw []byte) {
	t.Helper()
	expectErr(t, "Program", a.Program(row, raw), api.OK)
	o.program(row, raw)
}

// tear tears a row of both.
func tear(t *testing.T, a *array.Array, o *oracle, row int, raw []byte) {
	t.Helper()
	expectErr(t, "Tear", a.Tear(row, raw), api.OK)
	o.tear(row, raw)
}

// erase erases a block of both.
func erase(t *testing.T, a *array.Array, o *oracle, block int) {
	t.Helper()
	expectErr(t, "Erase", a.Erase(block), api.OK)
	o.erase(block)
}

// tearBlock tears a block of both.
func tearBlock(t *testing.T, a *array.Array, o *oracle, block int, raw []byte) {
	t.Helper()
	expectErr(t, "TearBlock", a.TearBlock(block, raw), api.OK)
	o.tearBlock(block, raw)
}

// with are n bytes ff, but for the first ones.
func with(n int, first ...byte) []byte {
	raw := erased(n)
	copy(raw, first)
	return raw
}

// pattern are n bytes with ones and zeros that depend on a number.
func pattern(n, number int) []byte {
	raw := make([]byte, n)
	for i := range raw {
		raw[i] = byte((i+1)*(2*number+37) ^ number<<3 ^ i>>3)
	}
	return raw
}

// used is an array of a shape to which everything has been done that changes
// one, and what it is to be: its last block is left as it was.
func used(t *testing.T, at shape) (*array.Array, *oracle) {
	t.Helper()
	a, o := made(t, at, 0, at.blocks-1)
	tearBlock(t, a, o, 0, pattern(at.size, 1))
	erase(t, a, o, 0)
	program(t, a, o, 0, pattern(at.size, 2))
	program(t, a, o, 0, pattern(at.size, 3))
	tear(t, a, o, 1, pattern(at.size, 4))
	tear(t, a, o, 2, pattern(at.size, 5))
	program(t, a, o, 2, pattern(at.size, 6))
	program(t, a, o, at.pages-1, erased(at.size))
	return a, o
}

func TestP131NewArrays(t *testing.T) {
	for _, at := range shapes() {
		last := at.blocks - 1
		var all []int
		for b := range at.blocks {
			all = append(all, b)
		}
		backward := slices.Clone(all)
		slices.Reverse(backward)
		for _, marked := range [][]int{{}, {0}, {last}, {1}, {0, last}, {last, 0}, {last, last}, {1, 0, 1, 0}} {
			a, o := made(t, at, marked...)
			expectAll(t, "new", a, o)
			if at.blocks == 256 {
				break
			}
		}
		a, o := made(t, at, all...)
		expectAll(t, "all marked", a, o)
		if at.blocks < 256 {
			a, o = made(t, at, append(backward, all...)...)
			expectAll(t, "all marked twice", a, o)
		}
	}
	a, e := array.New(example, nil)
	expectErr(t, "New", e, api.OK)
	expectAll(t, "no list", a, fresh(small))
}

func TestP131MarkIsTheLastByteOfTheFirstPage(t *testing.T) {
	a, _ := made(t, small, 2)
	want := erased(37)
	want[36] = 0
	expectRow(t, "first page", a, 8, cell{raw: want})
	for _, row := range []int{0, 4, 7, 9, 10, 11, 12} {
		expectRow(t, "other page", a, row, cell{raw: erased(37)})
	}
}

func TestP131WrongGeometries(t *testing.T) {
	for _, g := range wrongGeometries() {
		for _, marked := range [][]int{nil, {}, {0}, {1}, {-1}} {
			if a, e := array.New(g, marked); a != nil || e != api.ErrArg {
				t.Errorf("New(%v, %v) is %v, %d, not nil and ErrArg", g, marked, a, e)
			}
		}
	}
}

func TestP131MarkedThatAreNoBlocks(t *testing.T) {
	for _, at := range shapes() {
		last := at.blocks - 1
		for _, n := range beyond(at.blocks) {
			for _, marked := range [][]int{{n}, {n, 0}, {0, n}, {0, n, last}, {n, n}, {0, last, last, n}} {
				if a, e := array.New(at.g, marked); a != nil || e != api.ErrArg {
					t.Errorf("New(%v, %v) is %v, %d, not nil and ErrArg", at.g, marked, a, e)
				}
			}
		}
	}
	// A row that is no block.
	if a, e := array.New(example, []int{15}); a != nil || e != api.ErrArg {
		t.Errorf("New with the last row is %v, %d, not nil and ErrArg", a, e)
	}
}

func TestP131RowsAndBlocksThatThereAreNot(t *testing.T) {
	for _, at := range shapes() {
		a, o := made(t, at, 0, at.blocks-1)
		for b := range at.blocks {
			// Only so can what is answered be told from what there is.
			erase(t, a, o, b)
			tear(t, a, o, b*at.pages, pattern(at.size, b))
			tear(t, a, o, (b+1)*at.pages-1, pattern(at.size, b))
		}
		for _, row := range beyond(at.blocks * at.pages) {
			expectRow(t, "no row", a, row, cell{})
		}
		for _, b := range beyond(at.blocks) {
			if got := a.Erases(b); got != 0 {
				t.Errorf("Erases(%d) is %d, not 0", b, got)
			}
		}
		expectRow(t, "last row", a, at.blocks*at.pages-1, o.rows[at.blocks*at.pages-1])
	}
}

func TestP131RawSharesNoMemory(t *testing.T) {
	for _, at := range shapes() {
		a, o := used(t, at)
		for _, row := range []int{0, 1, 2, 3, at.pages - 1, at.pages, (at.blocks - 1) * at.pages, at.blocks*at.pages - 1} {
			one, other := a.Raw(row), a.Raw(row)
			clear(one)
			if !bytes.Equal(other, o.rows[row].raw) {
				t.Errorf("Raw(%d) shares memory with another answer", row)
			}
			expectRow(t, "after a change of what Raw returned", a, row, o.rows[row])
			// What is behind the length belongs to nobody else either.
			_ = append(other, 0, 0, 0)
		}
		expectAll(t, "after all changes", a, o)
	}
}

func TestP131NewSharesNoMemory(t *testing.T) {
	marked := []int{2, 0}
	a, e := array.New(example, marked)
	expectErr(t, "New", e, api.OK)
	if !slices.Equal(marked, []int{2, 0}) {
		t.Errorf("New changed the list to %v", marked)
	}
	marked[0], marked[1] = 1, 1
	o := fresh(small, 0, 2)
	expectAll(t, "after a change of the list", a, o)
	erase(t, a, o, 2)
	expectAll(t, "after Erase", a, o)
}

func TestP131ArraysBesideEachOther(t *testing.T) {
	a, o := made(t, small, 1)
	b, p := made(t, small, 1)
	program(t, a, o, 5, pattern(37, 1))
	tear(t, a, o, 4, pattern(37, 2))
	erase(t, a, o, 3)
	expectAll(t, "the one", a, o)
	expectAll(t, "the other", b, p)
	tearBlock(t, b, p, 3, pattern(37, 3))
	expectAll(t, "the one", a, o)
	expectAll(t, "the other", b, p)
}

func TestP132Examples(t *testing.T) {
	a, _ := made(t, small)
	expectErr(t, "Program", a.Program(5, with(37, 0xf0)), api.OK)
	expectErr(t, "Program", a.Program(5, with(37, 0x3c)), api.OK)
	expectRow(t, "twice", a, 5, cell{raw: with(37, 0x30), programs: 2})
	expectErr(t, "Erase", a.Erase(1), api.OK)
	expectRow(t, "erased", a, 5, cell{raw: erased(37)})
	if a.Erases(1) != 1 {
		t.Errorf("Erases(1) is %d, not 1", a.Erases(1))
	}

	expectErr(t, "Program", a.Program(9, erased(37)), api.OK)
	expectRow(t, "ff", a, 9, cell{raw: erased(37), programs: 1})
}

func TestP132Program(t *testing.T) {
	for _, at := range shapes() {
		for _, row := range []int{0, 1, at.pages, at.blocks*at.pages - 1} {
			zeros := make([]byte, at.size)
			some, others := pattern(at.size, 5), pattern(at.size, 6)
			both := make([]byte, at.size)
			for i := range both {
				both[i] = some[i] & others[i]
			}
			for _, c := range []struct {
				name string
				raws [][]byte
				want []byte
			}{
				{"all", [][]byte{zeros}, zeros},
				{"none", [][]byte{erased(at.size)}, erased(at.size)},
				{"some", [][]byte{some}, some},
				{"the same twice", [][]byte{some, some}, some},
				{"two", [][]byte{some, others}, both},
				{"two in the other order", [][]byte{others, some}, both},
				{"to 1", [][]byte{zeros, erased(at.size)}, zeros},
				{"some to 1", [][]byte{some, erased(at.size)}, some},
				{"first none", [][]byte{erased(at.size), some}, some},
				{"each again", [][]byte{others, some, others, some, others}, both},
			} {
				a, _ := made(t, at)
				for _, raw := range c.raws {
					expectErr(t, c.name, a.Program(row, raw), api.OK)
				}
				expectRow(t, c.name, a, row, cell{raw: c.want, programs: len(c.raws)})
			}
		}
	}
}

func TestP132ProgramOfTheMark(t *testing.T) {
	a, o := made(t, small, 1)
	raw := erased(37)
	program(t, a, o, 4, raw)
	expectAll(t, "a mark stays", a, o)
	raw[36] = 0xf0
	program(t, a, o, 4, raw)
	program(t, a, o, 5, raw)
	program(t, a, o, 0, raw)
	expectAll(t, "marks are programmed", a, o)
}

func TestP132EachBit(t *testing.T) {
	a, o := made(t, small, 0)
	for bit := range 37 * 8 {
		raw := erased(37)
		raw[bit/8] &^= 1 << (bit % 8)
		row := bit % 16
		program(t, a, o, row, raw)
		expectRow(t, "bit by bit", a, row, o.rows[row])
	}
	expectAll(t, "all bits", a, o)
}

func TestP132Tear(t *testing.T) {
	for _, at := range shapes() {
		a, o := made(t, at, 0)
		last := at.blocks*at.pages - 1
		for _, row := range []int{0, 1, at.pages, last} {
			tear(t, a, o, row, pattern(at.size, row))
			expectRow(t, "erased", a, row, cell{raw: pattern(at.size, row), programs: 1, torn: true})
			tear(t, a, o, row, erased(at.size))
			expectRow(t, "torn", a, row, cell{raw: erased(at.size), programs: 2, torn: true})
			tear(t, a, o, row, make([]byte, at.size))
			tear(t, a, o, row, pattern(at.size, 3))
			expectRow(t, "torn again", a, row, cell{raw: pattern(at.size, 3), programs: 4, torn: true})
		}
		program(t, a, o, 2, make([]byte, at.size))
		tear(t, a, o, 2, pattern(at.size, 7))
		expectRow(t, "programmed", a, 2, cell{raw: pattern(at.size, 7), programs: 2, torn: true})
		if at.blocks < 256 {
			expectAll(t, "all", a, o)
		}
	}
}

func TestP132ProgramOfWhatIsTorn(t *testing.T) {
	a, o := made(t, small)
	tear(t, a, o, 6, with(37, 0xf0, 0x0f))
	program(t, a, o, 6, with(37, 0x3c, 0xff))
	expectRow(t, "torn", a, 6, cell{raw: with(37, 0x30, 0x0f), programs: 2, torn: true})
	tear(t, a, o, 7, erased(37))
	program(t, a, o, 7, pattern(37, 1))
	expectRow(t, "torn with ff", a, 7, cell{raw: pattern(37, 1), programs: 2, torn: true})
	expectAll(t, "all", a, o)
}

func TestP132Erase(t *testing.T) {
	for _, at := range shapes() {
		a, o := used(t, at)
		for n := range 3 {
			erase(t, a, o, 0)
			if got := a.Erases(0); got != n+2 {
				t.Errorf("Erases(0) is %d, not %d", got, n+2)
			}
			for page := range at.pages {
				expectRow(t, "erased", a, page, cell{raw: erased(at.size)})
			}
			program(t, a, o, n, pattern(at.size, n))
			expectRow(t, "programmed", a, n, cell{raw: pattern(at.size, n), programs: 1})
			tear(t, a, o, at.pages-1, pattern(at.size, n))
		}
		last := at.blocks - 1
		expectRow(t, "a mark", a, last*at.pages, fresh(at, last).rows[last*at.pages])
		erase(t, a, o, last)
		expectRow(t, "a mark that was erased", a, last*at.pages, cell{raw: erased(at.size)})
		if at.blocks < 256 {
			expectAll(t, "all", a, o)
		}
	}
}

func TestP132EraseOften(t *testing.T) {
	a, o := made(t, small)
	for n := range 1000 {
		erase(t, a, o, n%3)
	}
	expectAll(t, "often", a, o)
	if a.Erases(0) != 334 || a.Erases(2) != 333 || a.Erases(3) != 0 {
		t.Errorf("Erases are %d, %d, %d, not 334, 333, 0", a.Erases(0), a.Erases(2), a.Erases(3))
	}
}

func TestP132TearBlock(t *testing.T) {
	for _, at := range shapes() {
		a, o := used(t, at)
		last := at.blocks - 1
		for _, b := range []int{0, 1, last} {
			tearBlock(t, a, o, b, pattern(at.size, b))
			for page := range at.pages {
				row := b*at.pages + page
				expectRow(t, "torn", a, row, cell{raw: pattern(at.size, b), programs: o.rows[row].programs, torn: true})
			}
		}
		tearBlock(t, a, o, 1, erased(at.size))
		expectRow(t, "torn again", a, at.pages, o.rows[at.pages])
		if a.Erases(0) != 1 || a.Erases(1) != 0 {
			t.Errorf("Erases are %d, %d, not 1, 0", a.Erases(0), a.Erases(1))
		}
		if at.blocks < 256 {
			expectAll(t, "all", a, o)
		}
	}
	a, _ := made(t, small, 3)
	expectErr(t, "TearBlock", a.TearBlock(3, with(37, 0x12)), api.OK)
	for row := 12; row < 16; row++ {
		expectRow(t, "torn", a, row, cell{raw: with(37, 0x12), programs: 1, torn: true})
	}
	expectRow(t, "another block", a, 11, cell{raw: erased(37)})
}

// TestP132Orders does many operations in an order that hits each pair of kinds.
func TestP132Orders(t *testing.T) {
	for _, at := range []shape{small, shapes()[1], shapes()[3]} {
		a, o := made(t, at, 1)
		number := uint32(12345)
		below := func(n int) int {
			number = number*1664525 + 1013904223
			return int(number>>16) % n
		}
		for step := range 1500 {
			row, block, raw := below(at.blocks*at.pages), below(at.blocks), pattern(at.size, below(64))
			switch below(8) {
			case 0:
				erase(t, a, o, block)
			case 1:
				tearBlock(t, a, o, block, raw)
			case 2, 3:
				tear(t, a, o, row, raw)
			default:
				program(t, a, o, row, raw)
			}
			if step%25 == 0 {
				expectAll(t, "in some order", a, o)
			}
		}
		expectAll(t, "at the end", a, o)
	}
}

// TestP132AllOrders does up to four operations on one block, in each order.
func TestP132AllOrders(t *testing.T) {
	for order := range 4 * 4 * 4 * 4 {
		a, o := made(t, small, 1)
		for n, rest := 0, order; n < 4; n, rest = n+1, rest/4 {
			raw := pattern(37, n+order)
			switch rest % 4 {
			case 0:
				program(t, a, o, 4, raw)
			case 1:
				tear(t, a, o, 4, raw)
			case 2:
				erase(t, a, o, 1)
			case 3:
				tearBlock(t, a, o, 1, raw)
			}
		}
		expectAll(t, "in each order", a, o)
	}
}

func TestP132WrongArguments(t *testing.T) {
	for _, at := range shapes() {
		a, o := used(t, at)
		raw := make([]byte, at.size)
		for _, row := range beyond(at.blocks * at.pages) {
			expectErr(t, "Program of no row", a.Program(row, raw), api.ErrArg)
			expectErr(t, "Tear of no row", a.Tear(row, raw), api.ErrArg)
			expectErr(t, "Program of no row with nothing", a.Program(row, nil), api.ErrArg)
			expectErr(t, "Tear of no row with nothing", a.Tear(row, nil), api.ErrArg)
		}
		for _, b := range beyond(at.blocks) {
			expectErr(t, "Erase of no block", a.Erase(b), api.ErrArg)
			expectErr(t, "TearBlock of no block", a.TearBlock(b, raw), api.ErrArg)
			expectErr(t, "TearBlock of no block with nothing", a.TearBlock(b, nil), api.ErrArg)
		}
		for _, size := range []int{0, 1, at.size - 31, at.size - 1, at.size + 1, 2 * at.size} {
			raw := make([]byte, size)
			for _, row := range []int{0, 1, at.blocks*at.pages - 1} {
				expectErr(t, "Program with a wrong size", a.Program(row, raw), api.ErrArg)
				expectErr(t, "Tear with a wrong size", a.Tear(row, raw), api.ErrArg)
			}
			for _, b := range []int{0, 1, at.blocks - 1} {
				expectErr(t, "TearBlock with a wrong size", a.TearBlock(b, raw), api.ErrArg)
			}
		}
		expectErr(t, "Program with nothing", a.Program(0, nil), api.ErrArg)
		expectErr(t, "Tear with nothing", a.Tear(0, nil), api.ErrArg)
		expectErr(t, "TearBlock with nothing", a.TearBlock(0, nil), api.ErrArg)
		expectAll(t, "after wrong arguments", a, o)
	}
}

func TestP132BytesAreNotKept(t *testing.T) {
	for _, at := range shapes()[:2] {
		a, o := made(t, at, 0)
		raw := pattern(at.size, 9)
		for n, do := range []func(){
			func() { program(t, a, o, 1, raw) },
			func() { program(t, a, o, 1, raw) },
			func() { program(t, a, o, 0, raw) },
			func() { tear(t, a, o, 2, raw) },
			func() { program(t, a, o, 2, raw) },
			func() { tearBlock(t, a, o, 1, raw) },
			func() { program(t, a, o, at.pages, raw) },
		} {
			copy(raw, pattern(at.size, n))
			do()
			if !bytes.Equal(raw, pattern(at.size, n)) {
				t.Errorf("the bytes of operation %d were changed", n)
			}
			clear(raw)
			expectAll(t, "after a change of the bytes", a, o)
		}
		// The rows of a torn block do not share them with each other either.
		erase(t, a, o, 0)
		tearBlock(t, a, o, 0, pattern(at.size, 1))
		program(t, a, o, 1, pattern(at.size, 2))
		expectAll(t, "rows of a torn block", a, o)
	}
}

// expectNothing fails unless each call of an array that New did not make
// answers nothing.
func expectNothing(t *testing.T, name string, a *array.Array) {
	t.Helper()
	for _, n := range []int{0, 1, -1, 4, 15, 16, math.MinInt, math.MaxInt} {
		for _, raw := range [][]byte{nil, {}, {0}, erased(31), make([]byte, 37)} {
			expectErr(t, name+": Program", a.Program(n, raw), api.ErrNil)
			expectErr(t, name+": Tear", a.Tear(n, raw), api.ErrNil)
			expectErr(t, name+": TearBlock", a.TearBlock(n, raw), api.ErrNil)
		}
		expectErr(t, name+": Erase", a.Erase(n), api.ErrNil)
		expectRow(t, name, a, n, cell{})
		if got := a.Erases(n); got != 0 {
			t.Errorf("%s: Erases(%d) is %d, not 0", name, n, got)
		}
	}
}

func TestP132NoArray(t *testing.T) {
	expectNothing(t, "nil", nil)
	expectNothing(t, "plain", &array.Array{})
	expectNothing(t, "new", new(array.Array))
}

func TestP133NoBitTo1(t *testing.T) {
	a, o := made(t, small, 0)
	tear(t, a, o, 3, pattern(37, 50))
	for n := range 40 {
		for row := range 16 {
			before := a.Raw(row)
			program(t, a, o, row, pattern(37, n*row))
			for i, b := range a.Raw(row) {
				if b&^before[i] != 0 {
					t.Fatalf("Program turned a bit of byte %d of row %d to 1", i, row)
				}
			}
		}
	}
	expectAll(t, "all", a, o)
}

// TestP133OtherRowsAndBlocks does each operation on each row or block, of an
// array in which no two rows are the same, and looks at all others.
func TestP133OtherRowsAndBlocks(t *testing.T) {
	for _, at := range []shape{small, shapes()[1], shapes()[3]} {
		a, o := made(t, at, 1)
		for row := range at.blocks * at.pages {
			for range row % 3 {
				program(t, a, o, row, pattern(at.size, row))
			}
			if row%5 == 0 {
				tear(t, a, o, row, pattern(at.size, row+1))
			}
		}
		for row := range at.blocks * at.pages {
			program(t, a, o, row, pattern(at.size, 2*row))
			expectAll(t, "Program", a, o)
			tear(t, a, o, row, pattern(at.size, 2*row+1))
			expectAll(t, "Tear", a, o)
		}
		for _, b := range []int{1, 0, at.blocks - 1, 1} {
			tearBlock(t, a, o, b, pattern(at.size, b))
			expectAll(t, "TearBlock", a, o)
			erase(t, a, o, b)
			expectAll(t, "Erase", a, o)
		}
	}
}
