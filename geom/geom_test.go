package geom_test

import (
	"math"
	"slices"
	"testing"

	"incunable/api"
	"incunable/geom"
)

// small is the geometry of the chapter's last example.
var small = api.Geom{Planes: 2, Blocks: 8, Pages: 4, Chunks: 2, Chunk: 8, Rungs: 3, Partial: 1}

// large is the geometry of the chapter's first example.
var large = api.Geom{Planes: 2, Blocks: 16, Pages: 8, Chunks: 4, Chunk: 512, Rungs: 3, Partial: 1}

// least and greatest have each number at its edge, written out as the chapter
// and its limits have them.
var least = api.Geom{Planes: 1, Blocks: 2, Pages: 4, Chunks: 1, Chunk: 4, Rungs: 1, Partial: 1}
var greatest = api.Geom{Planes: 4, Blocks: 256, Pages: 64, Chunks: 16, Chunk: 512, Rungs: 8, Partial: 8}

// huge are numbers that no geometry has, and that no block, page or row is.
var huge = [10]int{-1, -2, -256, math.MinInt, math.MinInt + 1, 1 << 16, 1 << 31, 1 << 32, math.MaxInt - 1, math.MaxInt}

// change is a geometry's number by its name, and how to put another one there.
type change struct {
	name string
	low  int
	high int
	put  func(g *api.Geom, n int)
}

// changes are the seven numbers, with the least and the greatest value of each.
func changes() []change {
	return []change{
		{"Planes", 1, 4, func(g *api.Geom, n int) { g.Planes = n }},
		{"Blocks", 2, 256, func(g *api.Geom, n int) { g.Blocks = n }},
		{"Pages", 4, 64, func(g *api.Geom, n int) { g.Pages = n }},
		{"Chunks", 1, 16, func(g *api.Geom, n int) { g.Chunks = n }},
		{"Chunk", 4, 512, func(g *api.Geom, n int) { g.Chunk = n }},
		{"Rungs", 1, 8, func(g *api.Geom, n int) { g.Rungs = n }},
		{"Partial", 1, 8, func(g *api.Geom, n int) { g.Partial = n }},
	}
}

// allowed goes by the chapter's words: n is a value of that number, beside
// the others of base.
func allowed(base api.Geom, c change, n int) bool {
	if n < c.low || n > c.high {
		return false
	}
	switch c.name {
	case "Planes":
		return base.Blocks%n == 0
	case "Blocks":
		return n%base.Planes == 0
	case "Pages":
		return n%2 == 0
	}
	return true
}

// validGeoms are geometries that are valid: the examples, the edges, and
// others between them.
func validGeoms() []api.Geom {
	return []api.Geom{
		small, large, least, greatest,
		{Planes: 1, Blocks: 7, Pages: 6, Chunks: 3, Chunk: 5, Rungs: 2, Partial: 4},
		{Planes: 2, Blocks: 2, Pages: 4, Chunks: 1, Chunk: 4, Rungs: 1, Partial: 1},
		{Planes: 3, Blocks: 255, Pages: 62, Chunks: 15, Chunk: 511, Rungs: 7, Partial: 7},
		{Planes: 3, Blocks: 3, Pages: 10, Chunks: 16, Chunk: 4, Rungs: 8, Partial: 1},
		{Planes: 4, Blocks: 4, Pages: 64, Chunks: 1, Chunk: 512, Rungs: 1, Partial: 8},
		{Planes: 1, Blocks: 256, Pages: 4, Chunks: 2, Chunk: 100, Rungs: 5, Partial: 2},
	}
}

// wrongGeoms are geometries with one number that is not allowed, and some
// with several.
func wrongGeoms() []api.Geom {
	all := []api.Geom{
		{},
		{Planes: math.MaxInt, Blocks: math.MaxInt, Pages: math.MaxInt, Chunks: math.MaxInt, Chunk: math.MaxInt, Rungs: math.MaxInt, Partial: math.MaxInt},
		{Planes: math.MinInt, Blocks: math.MinInt, Pages: math.MinInt, Chunks: math.MinInt, Chunk: math.MinInt, Rungs: math.MinInt, Partial: math.MinInt},
		{Planes: -1, Blocks: -2, Pages: -4, Chunks: -1, Chunk: -4, Rungs: -1, Partial: -1},
		{Planes: 5, Blocks: 10, Pages: 8, Chunks: 1, Chunk: 4, Rungs: 1, Partial: 1},
		{Planes: 2, Blocks: 9, Pages: 8, Chunks: 1, Chunk: 4, Rungs: 1, Partial: 1},
		{Planes: 3, Blocks: 256, Pages: 8, Chunks: 1, Chunk: 4, Rungs: 1, Partial: 1},
		{Planes: 4, Blocks: 2, Pages: 8, Chunks: 1, Chunk: 4, Rungs: 1, Partial: 1},
		{Planes: 4, Blocks: 6, Pages: 8, Chunks: 1, Chunk: 4, Rungs: 1, Partial: 1},
		{Planes: 1, Blocks: 1, Pages: 8, Chunks: 1, Chunk: 4, Rungs: 1, Partial: 1},
		{Planes: 1, Blocks: 2, Pages: 5, Chunks: 1, Chunk: 4, Rungs: 1, Partial: 1},
		{Planes: 1, Blocks: 2, Pages: 63, Chunks: 1, Chunk: 4, Rungs: 1, Partial: 1},
	}
	for _, base := range []api.Geom{small, large, least, greatest} {
		for _, c := range changes() {
			for _, n := range append(huge[:], 0, c.low-1, c.high+1) {
				g := base
				c.put(&g, n)
				all = append(all, g)
			}
		}
	}
	return all
}

// rejectRow fails unless Row answers zero values.
func rejectRow(t *testing.T, g api.Geom, block, page int) {
	t.Helper()
	if row, ok := geom.Row(g, block, page); ok || row != 0 {
		t.Errorf("Row(%v, %d, %d) = %d, %v, not 0 and false", g, block, page, row, ok)
	}
}

// rejectSplit fails unless Split answers zero values.
func rejectSplit(t *testing.T, g api.Geom, row int) {
	t.Helper()
	if block, page, ok := geom.Split(g, row); ok || block != 0 || page != 0 {
		t.Errorf("Split(%v, %d) = %d, %d, %v, not 0, 0 and false", g, row, block, page, ok)
	}
}

// rejectPlane fails unless Plane answers zero values.
func rejectPlane(t *testing.T, g api.Geom, block int) {
	t.Helper()
	if plane, ok := geom.Plane(g, block); ok || plane != 0 {
		t.Errorf("Plane(%v, %d) = %d, %v, not 0 and false", g, block, plane, ok)
	}
}

func TestP41CheckOfValidGeometries(t *testing.T) {
	for _, g := range validGeoms() {
		if e := geom.Check(g); e != api.OK {
			t.Errorf("Check(%v) = %d, not OK", g, e)
		}
	}
}

func TestP41CheckOfWrongGeometries(t *testing.T) {
	for _, g := range wrongGeoms() {
		if e := geom.Check(g); e != api.ErrArg {
			t.Errorf("Check(%v) = %d, not ErrArg", g, e)
		}
	}
}

func TestP41CheckOfEachNumber(t *testing.T) {
	for _, base := range validGeoms() {
		for _, c := range changes() {
			for n := -3; n <= c.high+3; n++ {
				g := base
				c.put(&g, n)
				want := api.ErrArg
				if allowed(base, c, n) {
					want = api.OK
				}
				if e := geom.Check(g); e != want {
					t.Errorf("Check(%v) with %s %d = %d, not %d", g, c.name, n, e, want)
				}
			}
		}
	}
}

func TestP41CheckOfBlocksAndPlanes(t *testing.T) {
	for planes := -1; planes <= 6; planes++ {
		for blocks := -1; blocks <= 260; blocks++ {
			g := large
			g.Planes, g.Blocks = planes, blocks
			want := api.ErrArg
			if planes >= 1 && planes <= 4 && blocks >= 2 && blocks <= 256 && blocks%planes == 0 {
				want = api.OK
			}
			if e := geom.Check(g); e != want {
				t.Errorf("Check with %d blocks in %d planes = %d, not %d", blocks, planes, e, want)
			}
		}
	}
}

func TestP41DataAndRaw(t *testing.T) {
	cases := []struct {
		g         api.Geom
		data, raw int
	}{
		{small, 16, 51},
		{large, 2048, 2087},
		{least, 4, 37},
		{greatest, 8192, 8255},
		{api.Geom{Planes: 1, Blocks: 2, Pages: 4, Chunks: 3, Chunk: 5, Rungs: 1, Partial: 1}, 15, 52},
		{api.Geom{Planes: 1, Blocks: 2, Pages: 4, Chunks: 1, Chunk: 512, Rungs: 1, Partial: 1}, 512, 545},
		{api.Geom{Planes: 1, Blocks: 2, Pages: 4, Chunks: 16, Chunk: 4, Rungs: 1, Partial: 1}, 64, 127},
	}
	for _, c := range cases {
		if n := geom.Data(c.g); n != c.data {
			t.Errorf("Data(%v) = %d, not %d", c.g, n, c.data)
		}
		if n := geom.Raw(c.g); n != c.raw {
			t.Errorf("Raw(%v) = %d, not %d", c.g, n, c.raw)
		}
	}
}

func TestP41DataAndRawOfAllChunks(t *testing.T) {
	for chunks := 1; chunks <= 16; chunks++ {
		for chunk := 4; chunk <= 512; chunk++ {
			g := large
			g.Chunks, g.Chunk = chunks, chunk
			if n := geom.Data(g); n != chunks*chunk {
				t.Errorf("Data of %d chunks of %d = %d", chunks, chunk, n)
			}
			if n := geom.Raw(g); n != chunks*chunk+2*chunks+28+2+1 {
				t.Errorf("Raw of %d chunks of %d = %d", chunks, chunk, n)
			}
		}
	}
}

func TestP41WrongGeometriesHaveNothing(t *testing.T) {
	for _, g := range wrongGeoms() {
		if n := geom.Data(g); n != 0 {
			t.Errorf("Data(%v) = %d, not 0", g, n)
		}
		if n := geom.Raw(g); n != 0 {
			t.Errorf("Raw(%v) = %d, not 0", g, n)
		}
		for _, n := range append(huge[:], 0, 1, 3, 5) {
			rejectRow(t, g, n, 0)
			rejectRow(t, g, 0, n)
			rejectRow(t, g, 1, 1)
			rejectRow(t, g, n, n)
			rejectSplit(t, g, n)
			rejectPlane(t, g, n)
		}
	}
}

func TestP41RowExamples(t *testing.T) {
	cases := []struct {
		g                api.Geom
		block, page, row int
	}{
		{large, 15, 7, 127},
		{large, 9, 5, 77},
		{large, 0, 0, 0},
		{large, 0, 7, 7},
		{large, 1, 0, 8},
		{small, 3, 1, 13},
		{small, 7, 3, 31},
		{least, 1, 3, 7},
		{greatest, 255, 63, 16383},
		{greatest, 255, 0, 16320},
	}
	for _, c := range cases {
		if row, ok := geom.Row(c.g, c.block, c.page); !ok || row != c.row {
			t.Errorf("Row(%v, %d, %d) = %d, %v, not %d", c.g, c.block, c.page, row, ok, c.row)
		}
		if block, page, ok := geom.Split(c.g, c.row); !ok || block != c.block || page != c.page {
			t.Errorf("Split(%v, %d) = %d, %d, %v, not %d, %d", c.g, c.row, block, page, ok, c.block, c.page)
		}
	}
}

func TestP41PlaneExamples(t *testing.T) {
	cases := []struct {
		g            api.Geom
		block, plane int
	}{
		{small, 3, 1},
		{small, 0, 0},
		{small, 7, 1},
		{least, 0, 0},
		{least, 1, 0},
		{greatest, 255, 3},
		{greatest, 254, 2},
		{api.Geom{Planes: 3, Blocks: 255, Pages: 4, Chunks: 1, Chunk: 4, Rungs: 1, Partial: 1}, 253, 1},
	}
	for _, c := range cases {
		if plane, ok := geom.Plane(c.g, c.block); !ok || plane != c.plane {
			t.Errorf("Plane(%v, %d) = %d, %v, not %d", c.g, c.block, plane, ok, c.plane)
		}
	}
}

func TestP41NoSuchBlockPageOrRow(t *testing.T) {
	rejectRow(t, large, 16, 0)
	for _, g := range validGeoms() {
		for _, block := range append(huge[:], g.Blocks, g.Blocks+1, 256, -g.Blocks) {
			rejectPlane(t, g, block)
			rejectRow(t, g, block, 0)
			rejectRow(t, g, block, g.Pages-1)
			rejectRow(t, g, block, g.Pages)
		}
		for _, page := range append(huge[:], g.Pages, g.Pages+1, 64, -g.Pages) {
			rejectRow(t, g, 0, page)
			rejectRow(t, g, 1, page)
			rejectRow(t, g, g.Blocks-1, page)
			rejectRow(t, g, g.Blocks, page)
		}
		for _, row := range append(huge[:], g.Blocks*g.Pages, g.Blocks*g.Pages+1, -g.Pages, -g.Blocks*g.Pages) {
			rejectSplit(t, g, row)
		}
	}
}

func TestP42LowerAndUpper(t *testing.T) {
	if geom.Lower(5) != 4 || geom.Upper(4) != 5 {
		t.Errorf("Lower(5) = %d, Upper(4) = %d", geom.Lower(5), geom.Upper(4))
	}
	for pair := range 1000 {
		for _, page := range []int{2 * pair, 2*pair + 1} {
			if n := geom.Lower(page); n != 2*pair {
				t.Errorf("Lower(%d) = %d, not %d", page, n, 2*pair)
			}
			if n := geom.Upper(page); n != 2*pair+1 {
				t.Errorf("Upper(%d) = %d, not %d", page, n, 2*pair+1)
			}
		}
	}
}

func TestP42LowerAndUpperOfGreatPages(t *testing.T) {
	for _, lower := range []int{1 << 16, 1<<31 - 2, 1 << 31, 1 << 32, 1 << 62, math.MaxInt - 3, math.MaxInt - 1} {
		for _, page := range []int{lower, lower + 1} {
			if n := geom.Lower(page); n != lower {
				t.Errorf("Lower(%d) = %d, not %d", page, n, lower)
			}
			if n := geom.Upper(page); n != lower+1 {
				t.Errorf("Upper(%d) = %d, not %d", page, n, lower+1)
			}
		}
	}
}

func TestP42LowerAndUpperOfNegativePages(t *testing.T) {
	for _, page := range []int{-1, -2, -3, -4, -5, -256, -1 << 31, math.MinInt, math.MinInt + 1} {
		if n := geom.Lower(page); n != 0 {
			t.Errorf("Lower(%d) = %d, not 0", page, n)
		}
		if n := geom.Upper(page); n != 0 {
			t.Errorf("Upper(%d) = %d, not 0", page, n)
		}
	}
}

func TestP42Address(t *testing.T) {
	cases := []struct {
		n    int
		want []byte
	}{
		{0, []byte{0, 0}},
		{1, []byte{1, 0}},
		{255, []byte{0xff, 0}},
		{256, []byte{0, 1}},
		{513, []byte{1, 2}},
		{0x1234, []byte{0x34, 0x12}},
		{65535, []byte{0xff, 0xff}},
		{65536, []byte{0, 0}},
		{65537, []byte{1, 0}},
		{65536 + 513, []byte{1, 2}},
		{1 << 31, []byte{0, 0}},
		{1<<32 + 0xabcd, []byte{0xcd, 0xab}},
		{math.MaxInt, []byte{0xff, 0xff}},
		{math.MaxInt - 256, []byte{0xff, 0xfe}},
		{-1, []byte{0xff, 0xff}},
		{-2, []byte{0xfe, 0xff}},
		{-256, []byte{0, 0xff}},
		{-513, []byte{0xff, 0xfd}},
		{-65535, []byte{1, 0}},
		{-65536, []byte{0, 0}},
		{-65537, []byte{0xff, 0xff}},
		{math.MinInt, []byte{0, 0}},
		{math.MinInt + 513, []byte{1, 2}},
	}
	for _, c := range cases {
		if b := geom.Address(c.n); !slices.Equal(b, c.want) {
			t.Errorf("Address(%d) = % x, not % x", c.n, b, c.want)
		}
	}
}

func TestP42AddressAndNumberOfEachAddress(t *testing.T) {
	for n := range 1 << 16 {
		want := []byte{byte(n % 256), byte(n / 256)}
		for _, same := range []int{n, n + 1<<16, n + 3<<16, n - 1<<16, n - 5<<16} {
			if b := geom.Address(same); !slices.Equal(b, want) {
				t.Fatalf("Address(%d) = % x, not % x", same, b, want)
			}
		}
		if got, ok := geom.Number(want); !ok || got != n {
			t.Fatalf("Number(% x) = %d, %v, not %d", want, got, ok, n)
		}
	}
}

func TestP42NumberOfOtherLengths(t *testing.T) {
	for _, b := range [][]byte{nil, {}, {0}, {1}, {0xff}, {0, 0, 0}, {1, 2, 0}, {1, 2, 3}, {0, 0, 0, 0}, make([]byte, 1000)} {
		if n, ok := geom.Number(b); ok || n != 0 {
			t.Errorf("Number(% x) = %d, %v, not 0 and false", b, n, ok)
		}
	}
}

func TestP42AddressIsNewMemory(t *testing.T) {
	first := geom.Address(513)
	clear(first)
	if b := geom.Address(513); !slices.Equal(b, []byte{1, 2}) {
		t.Errorf("Address(513) after its answer was changed = % x", b)
	}
	b := []byte{1, 2}
	if n, ok := geom.Number(b); !ok || n != 513 || !slices.Equal(b, []byte{1, 2}) {
		t.Errorf("Number(1, 2) = %d, %v, with % x left", n, ok, b)
	}
}

func TestP43SplitInvertsRow(t *testing.T) {
	for _, g := range validGeoms() {
		next := 0
		for block := range g.Blocks {
			for page := range g.Pages {
				row, ok := geom.Row(g, block, page)
				if !ok || row != next {
					t.Fatalf("Row(%v, %d, %d) = %d, %v, not %d", g, block, page, row, ok, next)
				}
				b, p, ok := geom.Split(g, row)
				if !ok || b != block || p != page {
					t.Fatalf("Split(%v, %d) = %d, %d, %v, not %d, %d", g, row, b, p, ok, block, page)
				}
				next++
			}
		}
		rejectSplit(t, g, next)
	}
}

func TestP43RowInvertsSplit(t *testing.T) {
	for _, g := range validGeoms() {
		seen := make(map[[2]int]int)
		for row := range g.Blocks * g.Pages {
			block, page, ok := geom.Split(g, row)
			if !ok {
				t.Fatalf("Split(%v, %d) is false", g, row)
			}
			seen[[2]int{block, page}]++
			if back, ok := geom.Row(g, block, page); !ok || back != row {
				t.Fatalf("Row(%v, %d, %d) = %d, %v, not %d", g, block, page, back, ok, row)
			}
		}
		if len(seen) != g.Blocks*g.Pages {
			t.Errorf("the rows of %v have %d pages, not %d", g, len(seen), g.Blocks*g.Pages)
		}
	}
}

func TestP43EachBlockHasOnePlane(t *testing.T) {
	for _, g := range validGeoms() {
		counts := make([]int, g.Planes)
		for block := range g.Blocks {
			plane, ok := geom.Plane(g, block)
			if !ok || plane != block%g.Planes {
				t.Fatalf("Plane(%v, %d) = %d, %v", g, block, plane, ok)
			}
			counts[plane]++
			if again, ok := geom.Plane(g, block); !ok || again != plane {
				t.Errorf("Plane(%v, %d) = %d, and then %d, %v", g, block, plane, again, ok)
			}
		}
		for plane, n := range counts {
			if n != g.Blocks/g.Planes {
				t.Errorf("plane %d of %v has %d blocks, not %d", plane, g, n, g.Blocks/g.Planes)
			}
		}
	}
}
