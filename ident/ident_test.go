package ident_test

import (
	"bytes"
	"math"
	"slices"
	"testing"

	"incunable/api"
	"incunable/ident"
)

// example is a geometry with 4 blocks in 2 planes, 16 rows, and raw pages of
// 37 bytes.
var example = api.Geom{Planes: 2, Blocks: 4, Pages: 4, Chunks: 1, Chunk: 4, Rungs: 3, Partial: 5}

// least and greatest have each number at its edge, written out as the document
// has them.
var least = api.Geom{Planes: 1, Blocks: 2, Pages: 4, Chunks: 1, Chunk: 4, Rungs: 1, Partial: 1}
var greatest = api.Geom{Planes: 4, Blocks: 256, Pages: 64, Chunks: 16, Chunk: 512, Rungs: 8, Partial: 8}

// geometries are valid ones, none of them twice.
func geometries() []api.Geom {
	return []api.Geom{
		example, least, greatest,
		{Planes: 2, Blocks: 16, Pages: 8, Chunks: 2, Chunk: 512, Rungs: 3, Partial: 1},
		{Planes: 2, Blocks: 18, Pages: 8, Chunks: 2, Chunk: 512, Rungs: 3, Partial: 1},
		{Planes: 1, Blocks: 16, Pages: 8, Chunks: 2, Chunk: 512, Rungs: 3, Partial: 1},
		{Planes: 2, Blocks: 16, Pages: 8, Chunks: 2, Chunk: 300, Rungs: 3, Partial: 1},
		{Planes: 2, Blocks: 16, Pages: 8, Chunks: 2, Chunk: 44, Rungs: 3, Partial: 1},
		{Planes: 3, Blocks: 255, Pages: 62, Chunks: 15, Chunk: 511, Rungs: 7, Partial: 6},
		{Planes: 4, Blocks: 12, Pages: 10, Chunks: 3, Chunk: 256, Rungs: 5, Partial: 2},
		{Planes: 4, Blocks: 12, Pages: 10, Chunks: 3, Chunk: 255, Rungs: 2, Partial: 5},
		{Planes: 1, Blocks: 7, Pages: 6, Chunks: 5, Chunk: 9, Rungs: 8, Partial: 4},
	}
}

// change is a geometry's number by its name, the least and the greatest value
// that it may have, and where it stands.
type change struct {
	name      string
	low, high int
	at        func(g *api.Geom) *int
}

// changes are the seven numbers, in the order in which their bytes stand.
func changes() []change {
	return []change{
		{"Planes", 1, 4, func(g *api.Geom) *int { return &g.Planes }},
		{"Blocks", 2, 256, func(g *api.Geom) *int { return &g.Blocks }},
		{"Pages", 4, 64, func(g *api.Geom) *int { return &g.Pages }},
		{"Chunks", 1, 16, func(g *api.Geom) *int { return &g.Chunks }},
		{"Chunk", 4, 512, func(g *api.Geom) *int { return &g.Chunk }},
		{"Rungs", 1, 8, func(g *api.Geom) *int { return &g.Rungs }},
		{"Partial", 1, 8, func(g *api.Geom) *int { return &g.Partial }},
	}
}

// in is base with another number.
func (c change) in(base api.Geom, n int) api.Geom {
	*c.at(&base) = n
	return base
}

// allows goes by the words of chapter 4: whether n may be that number, beside
// the others of base.
func (c change) allows(base api.Geom, n int) bool {
	g := c.in(base, n)
	switch {
	case n < c.low || n > c.high:
		return false
	case c.name == "Planes" || c.name == "Blocks":
		return g.Blocks%g.Planes == 0
	case c.name == "Pages":
		return n%2 == 0
	}
	return true
}

// others are all valid geometries that differ from base in this number alone.
func (c change) others(base api.Geom) []api.Geom {
	var all []api.Geom
	for n := c.low; n <= c.high; n++ {
		if n != *c.at(&base) && c.allows(base, n) {
			all = append(all, c.in(base, n))
		}
	}
	return all
}

// huge are numbers that no geometry has; those of the second line have the two
// bytes of numbers that some have.
var huge = [14]int{
	math.MinInt, math.MinInt + 1, -65536, -256, -2, -1, 1 << 16, math.MaxInt,
	1<<16 + 1, 1<<16 + 4, 1<<32 + 4, 1<<62 + 4, -65536 + 4, math.MinInt + 4,
}

// wrongGeometries are geometries of which one number is not valid, or all.
func wrongGeometries() []api.Geom {
	all := []api.Geom{
		{},
		{Planes: -1, Blocks: -2, Pages: -4, Chunks: -1, Chunk: -4, Rungs: -1, Partial: -1},
		{Planes: 257, Blocks: 258, Pages: 260, Chunks: 257, Chunk: 260, Rungs: 257, Partial: 257},
	}
	for _, base := range []api.Geom{example, least, greatest} {
		for _, c := range changes() {
			for _, n := range append(huge[:], 0, c.low-1, c.high+1, *c.at(&base)+256) {
				if !c.allows(base, n) {
					all = append(all, c.in(base, n))
				}
			}
		}
	}
	return all
}

// byTheWords are the bytes of a geometry by the chapter's words.
func byTheWords(g api.Geom) []byte {
	var b []byte
	for _, c := range changes() {
		n := *c.at(&g)
		b = append(b, byte(n%256), byte(n/256))
	}
	return b
}

// expectPut fails unless Put returns these bytes.
func expectPut(t *testing.T, g api.Geom, want []byte) {
	t.Helper()
	if b, e := ident.Put(g); !bytes.Equal(b, want) || e != api.OK {
		t.Fatalf("Put(%v) is % x, %d, not % x, OK", g, b, e, want)
	}
}

// expectNoPut fails unless Put refuses a geometry.
func expectNoPut(t *testing.T, g api.Geom) {
	t.Helper()
	if b, e := ident.Put(g); len(b) != 0 || e != api.ErrArg {
		t.Fatalf("Put(%v) is % x, %d, not nothing, ErrArg", g, b, e)
	}
}

// expectTake fails unless Take returns this geometry, and this error.
func expectTake(t *testing.T, b []byte, want api.Geom, wantError api.Errno) {
	t.Helper()
	if g, e := ident.Take(b); g != want || e != wantError {
		t.Fatalf("Take(% x) is %v, %d, not %v, %d", b, g, e, want, wantError)
	}
}

func TestP181Examples(t *testing.T) {
	g := example
	g.Chunk = 300
	b, e := ident.Put(g)
	if e != api.OK || len(b) != 14 || b[8] != 0x2c || b[9] != 0x01 {
		t.Errorf("Put(%v) is % x, %d", g, b, e)
	}
	expectTake(t, b[:13], api.Geom{}, api.ErrEnd)
	expectTake(t, make([]byte, 13), api.Geom{}, api.ErrEnd)
}

func TestP181WrittenOut(t *testing.T) {
	for _, x := range []struct {
		g api.Geom
		b []byte
	}{
		{example, []byte{2, 0, 4, 0, 4, 0, 1, 0, 4, 0, 3, 0, 5, 0}},
		{least, []byte{1, 0, 2, 0, 4, 0, 1, 0, 4, 0, 1, 0, 1, 0}},
		{greatest, []byte{4, 0, 0, 1, 64, 0, 16, 0, 0, 2, 8, 0, 8, 0}},
		{
			api.Geom{Planes: 3, Blocks: 255, Pages: 62, Chunks: 15, Chunk: 511, Rungs: 7, Partial: 6},
			[]byte{3, 0, 255, 0, 62, 0, 15, 0, 255, 1, 7, 0, 6, 0},
		},
		{
			api.Geom{Planes: 1, Blocks: 256, Pages: 6, Chunks: 2, Chunk: 255, Rungs: 5, Partial: 3},
			[]byte{1, 0, 0, 1, 6, 0, 2, 0, 255, 0, 5, 0, 3, 0},
		},
		{
			api.Geom{Planes: 2, Blocks: 8, Pages: 10, Chunks: 9, Chunk: 256, Rungs: 4, Partial: 7},
			[]byte{2, 0, 8, 0, 10, 0, 9, 0, 0, 1, 4, 0, 7, 0},
		},
	} {
		expectPut(t, x.g, x.b)
		expectTake(t, x.b, x.g, api.OK)
	}
}

// Each number with each value that it may have, there and back, and with some
// that it may not have.
func TestP181PutOfEachNumber(t *testing.T) {
	for _, base := range geometries() {
		expectPut(t, base, byTheWords(base))
		for i, c := range changes() {
			for n := c.low - 5; n <= c.high+5; n++ {
				if !c.allows(base, n) {
					expectNoPut(t, c.in(base, n))
					continue
				}
				want := byTheWords(base)
				want[2*i], want[2*i+1] = byte(n%256), byte(n/256)
				expectPut(t, c.in(base, n), want)
				expectTake(t, want, c.in(base, n), api.OK)
			}
		}
	}
}

func TestP181PutOfWrongGeometries(t *testing.T) {
	for _, g := range wrongGeometries() {
		expectNoPut(t, g)
	}
}

// Bytes of which there are not 14: those of valid geometries with some of them
// gone, or more behind them, and others.
func TestP181TakeOfOtherLengths(t *testing.T) {
	expectTake(t, nil, api.Geom{}, api.ErrEnd)
	expectTake(t, []byte{}, api.Geom{}, api.ErrEnd)
	expectTake(t, append(byTheWords(example), 0), api.Geom{}, api.ErrExtra)
	expectTake(t, make([]byte, 15), api.Geom{}, api.ErrExtra)
	expectTake(t, make([]byte, 1<<20), api.Geom{}, api.ErrExtra)
	for _, part := range [][]byte{byTheWords(example), byTheWords(greatest), {0}, {0xff}, {1}} {
		all := bytes.Repeat(part, 70)
		for n := range 70 {
			switch {
			case n < 14:
				expectTake(t, all[:n], api.Geom{}, api.ErrEnd)
			case n > 14:
				expectTake(t, all[:n], api.Geom{}, api.ErrExtra)
			}
		}
	}
}

// Each number with each value that two bytes have.
func TestP181TakeOfEachNumber(t *testing.T) {
	for _, base := range geometries() {
		for i, c := range changes() {
			b := byTheWords(base)
			for n := range 1 << 16 {
				b[2*i], b[2*i+1] = byte(n), byte(n>>8)
				if c.allows(base, n) {
					expectTake(t, b, c.in(base, n), api.OK)
				} else {
					expectTake(t, b, api.Geom{}, api.ErrForm)
				}
			}
		}
	}
}

func TestP181TakeOfBytesOfNoGeometry(t *testing.T) {
	for _, b := range [][]byte{
		make([]byte, 14),
		bytes.Repeat([]byte{0xff}, 14),
		bytes.Repeat([]byte{1}, 14),
		bytes.Repeat([]byte{4, 0}, 8)[1:15],
		{0, 2, 0, 4, 0, 4, 0, 1, 0, 4, 0, 3, 0, 5},
		// Blocks that are no multiple of Planes, Pages that are odd.
		{3, 0, 4, 0, 4, 0, 1, 0, 4, 0, 3, 0, 5, 0},
		{4, 0, 2, 0, 4, 0, 1, 0, 4, 0, 3, 0, 5, 0},
		{2, 0, 4, 0, 5, 0, 1, 0, 4, 0, 3, 0, 5, 0},
		// The numbers in another order.
		{5, 0, 3, 0, 4, 0, 1, 0, 4, 0, 4, 0, 2, 0},
	} {
		expectTake(t, b, api.Geom{}, api.ErrForm)
	}
}

// All geometries of some numbers, there and back; their bytes are all
// different.
func TestP181ThereAndBack(t *testing.T) {
	seen := map[[14]byte]bool{}
	for _, planes := range []int{1, 2, 3, 4} {
		for _, blocks := range []int{12, 24, 252} {
			for _, pages := range []int{4, 12, 64} {
				for _, chunks := range []int{1, 12, 16} {
					for _, chunk := range []int{4, 12, 255, 256, 257, 512} {
						for _, rungs := range []int{1, 4, 8} {
							for _, partial := range []int{1, 4, 8} {
								g := api.Geom{Planes: planes, Blocks: blocks, Pages: pages,
									Chunks: chunks, Chunk: chunk, Rungs: rungs, Partial: partial}
								b, e := ident.Put(g)
								if e != api.OK || len(b) != 14 || seen[[14]byte(b)] {
									t.Fatalf("Put(%v) is % x, %d", g, b, e)
								}
								seen[[14]byte(b)] = true
								expectTake(t, b, g, api.OK)
							}
						}
					}
				}
			}
		}
	}
}

// What Put returns is new memory, and Take leaves and keeps nothing of what it
// is given.
func TestP181Memory(t *testing.T) {
	b, _ := ident.Put(example)
	for i := range b {
		b[i] = 0xee
	}
	expectPut(t, example, byTheWords(example))

	given := byTheWords(greatest)
	kept := slices.Clone(given)
	g, _ := ident.Take(given)
	if !bytes.Equal(given, kept) {
		t.Errorf("Take has made % x of its argument", given)
	}
	clear(given)
	if g != greatest {
		t.Errorf("the geometry has become %v", g)
	}
}
