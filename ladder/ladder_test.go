package ladder_test

import (
	"bytes"
	"math"
	"slices"
	"testing"

	"incunable/api"
	"incunable/chunk"
	"incunable/crc"
	"incunable/ladder"
	"incunable/page"
	"incunable/tag"
)

// example is a geometry with three rungs, whose raw pages have 51 bytes.
var example = api.Geom{Planes: 1, Blocks: 4, Pages: 4, Chunks: 2, Chunk: 8, Rungs: 3, Partial: 1}

// least and greatest have the least and the greatest pages, and ladders.
var (
	least    = api.Geom{Planes: 1, Blocks: 2, Pages: 4, Chunks: 1, Chunk: 4, Rungs: 1, Partial: 1}
	greatest = api.Geom{Planes: 4, Blocks: 256, Pages: 64, Chunks: 16, Chunk: 512, Rungs: 8, Partial: 8}
)

// some is a valid tag whose numbers have different bytes.
var some = api.Tag{Kind: api.KindTrim, Sector: 0x01020304, Seq: 0x1112131415161718, Erases: 0x21222324}

// geometries are valid ones, with each number of rungs.
func geometries() []api.Geom {
	all := []api.Geom{example, least}
	for rungs := 1; rungs <= 8; rungs++ {
		g := example
		g.Rungs = rungs
		g.Chunks, g.Chunk = 1+rungs%3, 4+rungs*3
		all = append(all, g)
	}
	return all
}

// wrongGeometries are the zero one, and others that differ from example in one
// number or two, and are not valid.
func wrongGeometries() []api.Geom {
	all := []api.Geom{{}}
	change := func(f func(g *api.Geom)) {
		g := example
		f(&g)
		all = append(all, g)
	}
	for _, n := range []int{0, -1, math.MinInt, math.MaxInt} {
		change(func(g *api.Geom) { g.Planes = n })
		change(func(g *api.Geom) { g.Blocks = n })
		change(func(g *api.Geom) { g.Pages = n })
		change(func(g *api.Geom) { g.Chunks = n })
		change(func(g *api.Geom) { g.Chunk = n })
		change(func(g *api.Geom) { g.Rungs = n })
		change(func(g *api.Geom) { g.Partial = n })
	}
	change(func(g *api.Geom) { g.Planes = 5; g.Blocks = 10 })
	change(func(g *api.Geom) { g.Planes = 3 })
	change(func(g *api.Geom) { g.Blocks = 1 })
	change(func(g *api.Geom) { g.Blocks = 257 })
	change(func(g *api.Geom) { g.Pages = 2 })
	change(func(g *api.Geom) { g.Pages = 5 })
	change(func(g *api.Geom) { g.Pages = 66 })
	change(func(g *api.Geom) { g.Chunks = 17 })
	change(func(g *api.Geom) { g.Chunk = 3 })
	change(func(g *api.Geom) { g.Chunk = 513 })
	change(func(g *api.Geom) { g.Rungs = 9 })
	change(func(g *api.Geom) { g.Partial = 9 })
	return all
}

// rawBytes is how many bytes chapter 4 says that a raw page has.
func rawBytes(g api.Geom) int {
	return g.Chunks*(g.Chunk+2) + 28 + 2 + 1
}

// tagAt is the first bit of the codeword of the tag.
func tagAt(g api.Geom) int {
	return g.Chunks * (g.Chunk + 2) * 8
}

// pattern is n bytes that differ from each other without an order that one
// sees.
func pattern(n, start int) []byte {
	b := make([]byte, n)
	x := uint32(start)
	for i := range b {
		x = x*1664525 + 1013904223
		b[i] = byte(x >> 24)
	}
	return b
}

// turned is a copy of b with these bits inverted.
func turned(b []byte, at ...int) []byte {
	c := slices.Clone(b)
	for _, k := range at {
		c[k/8] ^= 1 << (k % 8)
	}
	return c
}

// filled is n bytes of one value.
func filled(n int, v byte) []byte {
	return bytes.Repeat([]byte{v}, n)
}

// written is the raw page of data and a tag.
func written(t *testing.T, g api.Geom, data []byte, x api.Tag) []byte {
	t.Helper()
	raw, e := page.Encode(g, data, x)
	if e != api.OK || len(raw) != rawBytes(g) {
		t.Fatalf("Encode(%+v, %d bytes, %+v) = %d bytes, error %d", g, len(data), x, len(raw), e)
	}
	return raw
}

// labelled is raw with another label: these bytes of a tag, and of a checksum.
func labelled(t *testing.T, g api.Geom, raw, label, sum []byte) []byte {
	t.Helper()
	code, e := chunk.Encode(slices.Concat(label, sum))
	if e != api.OK {
		t.Fatal(e)
	}
	return slices.Concat(raw[:tagAt(g)/8], code, raw[len(raw)-1:])
}

// counting is a raw page that counts, and what is read there.
type counting struct {
	raw  []byte
	page api.Page
}

// thatCount are raw pages that count: Whole, Mended and Empty ones.
func thatCount(t *testing.T, g api.Geom) []counting {
	t.Helper()
	data := pattern(g.Chunks*g.Chunk, 1)
	raw := written(t, g, data, some)
	last := len(raw)*8 - 1
	erased := filled(len(raw), 0xff)
	is := func(state int) api.Page {
		return api.Page{Data: data, Tag: some, State: state}
	}
	empty := api.Page{State: api.Empty}
	all := []counting{
		{raw, is(api.Whole)},
		{turned(raw, last), is(api.Whole)}, // of the mark
		{turned(raw, 5), is(api.Mended)},
		{turned(raw, tagAt(g)), is(api.Mended)},
		{turned(raw, tagAt(g)+28*8+13), is(api.Mended)}, // of the word
		{erased, empty},
		{turned(erased, 0, 1, tagAt(g), tagAt(g)+1, last), empty},
		{append(filled(len(raw)-1, 0xff), 0), empty}, // marked
	}
	each := []int{tagAt(g) + 77}
	for i := range g.Chunks {
		each = append(each, i*(g.Chunk+2)*8+i)
	}
	return append(all, counting{turned(raw, each...), is(api.Mended)})
}

// refused are raw pages that do not count, each for another reason.
func refused(t *testing.T, g api.Geom) [][]byte {
	t.Helper()
	data := pattern(g.Chunks*g.Chunk, 1)
	raw := written(t, g, data, some)
	label, e := tag.Put(some)
	if e != api.OK {
		t.Fatal(e)
	}
	wrong := slices.Clone(label)
	wrong[20] = 1
	all := [][]byte{
		turned(raw, 5, 6),
		turned(raw, tagAt(g), tagAt(g)+100),
		labelled(t, g, raw, label, []byte{1, 2, 3, 4}),
		labelled(t, g, raw, wrong, crc.Bytes(crc.Sum(data, wrong))),
		make([]byte, len(raw)),
	}
	for i, want := range []api.Errno{api.ErrBits, api.ErrBits, api.ErrSum, api.ErrForm, api.ErrSum} {
		if _, _, _, e := page.Decode(g, all[i]); e != want {
			t.Fatalf("the refused page %d of %+v is refused with %d, not %d", i, g, e, want)
		}
	}
	return all
}

// wrongLengths are bytes that are no raw pages of g, though those of them that
// are long enough begin with one, or end with it.
func wrongLengths(g api.Geom, raw []byte) [][]byte {
	return [][]byte{
		nil, {}, {0xff},
		raw[:len(raw)-1], raw[1:],
		slices.Concat(raw, []byte{0xff}), slices.Concat([]byte{0}, raw), slices.Concat(raw, raw),
		filled(len(raw)-1, 0xff), filled(len(raw)+1, 0xff),
		filled(g.Chunks*g.Chunk, 0xff),
	}
}

// before are the refused pages for the rungs below the one of this number, a
// mixture that begins with the one of the number start.
func before(bad [][]byte, rung, start int) [][]byte {
	var all [][]byte
	for i := range rung {
		all = append(all, bad[(start+i)%len(bad)])
	}
	return all
}

// same reports whether two pages are equal; no data may be nil or empty.
func same(p, q api.Page) bool {
	return bytes.Equal(p.Data, q.Data) && p.Tag == q.Tag && p.State == q.State
}

// expectClimb fails unless Climb answers this page and this rung.
func expectClimb(t *testing.T, g api.Geom, rungs [][]byte, want api.Page, rung int) {
	t.Helper()
	p, r, e := ladder.Climb(g, rungs...)
	if !same(p, want) || r != rung || e != api.OK {
		t.Errorf("Climb(%+v, %d rungs) = %+v, %d, %d, not %+v, %d, OK", g, len(rungs), p, r, e, want, rung)
	}
}

// refuseClimb fails unless Climb answers this error, and nothing beside it.
func refuseClimb(t *testing.T, g api.Geom, rungs [][]byte, want api.Errno) {
	t.Helper()
	p, r, e := ladder.Climb(g, rungs...)
	if !nothing(p) || r != 0 || e != want {
		t.Errorf("Climb(%+v, %d rungs) = %+v, %d, %d, not nothing, 0, %d", g, len(rungs), p, r, e, want)
	}
}

// nothing reports whether p is the zero page.
func nothing(p api.Page) bool {
	return len(p.Data) == 0 && p.Tag == api.Tag{} && p.State == 0
}

// answer is what a read answers for a rung.
type answer struct {
	raw []byte
	e   api.Errno
}

// answers are these raw pages without an error.
func answers(rungs ...[]byte) []answer {
	var all []answer
	for _, raw := range rungs {
		all = append(all, answer{raw, api.OK})
	}
	return all
}

// walk is Walk of these answers, which must be asked for from the first one on,
// and only the first asked of them.
func walk(t *testing.T, g api.Geom, all []answer, asked int) (api.Page, int, api.Errno) {
	t.Helper()
	var calls []int
	p, rung, e := ladder.Walk(g, func(i int) ([]byte, api.Errno) {
		calls = append(calls, i)
		if i < 0 || i >= len(all) {
			return nil, api.ErrPower
		}
		return all[i].raw, all[i].e
	})
	var want []int
	for i := range asked {
		want = append(want, i)
	}
	if !slices.Equal(calls, want) {
		t.Errorf("Walk(%+v) asks for %v, not for %v", g, calls, want)
	}
	return p, rung, e
}

// expectWalk fails unless Walk answers this page and this rung, and asks for
// no rung behind it.
func expectWalk(t *testing.T, g api.Geom, all []answer, want api.Page, rung int) {
	t.Helper()
	p, r, e := walk(t, g, all, rung+1)
	if !same(p, want) || r != rung || e != api.OK {
		t.Errorf("Walk(%+v) = %+v, %d, %d, not %+v, %d, OK", g, p, r, e, want, rung)
	}
}

// refuseWalk fails unless Walk answers this error, and nothing beside it, after
// it has asked for so many rungs.
func refuseWalk(t *testing.T, g api.Geom, all []answer, want api.Errno, asked int) {
	t.Helper()
	p, r, e := walk(t, g, all, asked)
	if !nothing(p) || r != 0 || e != want {
		t.Errorf("Walk(%+v) = %+v, %d, %d, not nothing, 0, %d", g, p, r, e, want)
	}
}

func TestP91Examples(t *testing.T) {
	raw := written(t, example, []byte("sixteen bytes ok"), some)
	want := api.Page{Data: []byte("sixteen bytes ok"), Tag: some, State: api.Mended}
	expectClimb(t, example, [][]byte{turned(raw, 3, 4), turned(raw, 9)}, want, 1)
	expectClimb(t, example, [][]byte{turned(raw, 3, 4), turned(raw, 9), raw}, want, 1)
	expectClimb(t, example, [][]byte{filled(51, 0xff)}, api.Page{State: api.Empty}, 0)
	expectClimb(t, least, [][]byte{filled(37, 0xff)}, api.Page{State: api.Empty}, 0)
}

func TestP91EachRungAsTheOneThatCounts(t *testing.T) {
	for _, g := range geometries() {
		bad := refused(t, g)
		for rung := range g.Rungs {
			for i, good := range thatCount(t, g) {
				rungs := append(before(bad, rung, i), good.raw)
				expectClimb(t, g, rungs, good.page, rung)
				for len(rungs) < g.Rungs {
					rungs = append(rungs, bad[len(rungs)%len(bad)])
					expectClimb(t, g, rungs, good.page, rung)
				}
			}
		}
	}
}

func TestP91EachKindOfRefusedPageBeforeTheOneThatCounts(t *testing.T) {
	for _, g := range []api.Geom{example, greatest} {
		for _, bad := range refused(t, g) {
			for _, good := range thatCount(t, g) {
				expectClimb(t, g, [][]byte{bad, good.raw}, good.page, 1)
				expectClimb(t, g, [][]byte{bad, bad, good.raw}, good.page, 2)
			}
		}
	}
}

func TestP91TheFirstOfSeveralThatCount(t *testing.T) {
	for _, first := range thatCount(t, example) {
		for _, second := range thatCount(t, example) {
			bad := refused(t, example)[0]
			expectClimb(t, example, [][]byte{first.raw, second.raw}, first.page, 0)
			expectClimb(t, example, [][]byte{first.raw, second.raw, second.raw}, first.page, 0)
			expectClimb(t, example, [][]byte{bad, first.raw, second.raw}, first.page, 1)
			expectClimb(t, example, [][]byte{first.raw, bad, second.raw}, first.page, 0)
		}
	}
}

func TestP91NoRungAndTooMany(t *testing.T) {
	for _, g := range append(geometries(), greatest) {
		bad := refused(t, g)
		for _, good := range thatCount(t, g) {
			refuseClimb(t, g, nil, api.ErrArg)
			refuseClimb(t, g, [][]byte{}, api.ErrArg)
			full := slices.Repeat([][]byte{good.raw}, g.Rungs)
			expectClimb(t, g, full, good.page, 0)
			for _, n := range []int{1, 2, 8, 100} {
				refuseClimb(t, g, append(slices.Clone(full), slices.Repeat([][]byte{good.raw}, n)...), api.ErrArg)
			}
			// The rung that is too much would be the one that counts.
			refuseClimb(t, g, append(before(bad, g.Rungs, 0), good.raw), api.ErrArg)
		}
		refuseClimb(t, g, before(bad, g.Rungs+1, 0), api.ErrArg)
	}
}

func TestP91GeometriesThatAreNotValid(t *testing.T) {
	raw := written(t, example, pattern(16, 2), some)
	for _, g := range wrongGeometries() {
		for _, rungs := range [][][]byte{
			nil, {nil}, {{}}, {raw}, {raw, raw, raw}, {filled(51, 0xff)}, {filled(31, 0xff)}, {turned(raw, 1, 2)}, {raw[1:]},
		} {
			refuseClimb(t, g, rungs, api.ErrArg)
		}
		if n := rawBytes(g); n > 0 && n < 1<<14 {
			refuseClimb(t, g, [][]byte{filled(n, 0xff)}, api.ErrArg)
		}
	}
}

func TestP91BytesOfAnotherLengthAtEachPlace(t *testing.T) {
	for _, g := range geometries() {
		bad := refused(t, g)
		good := thatCount(t, g)[2].raw
		for n := 1; n <= g.Rungs; n++ {
			for at := range n {
				for _, wrong := range wrongLengths(g, good) {
					// No rung counts; it would be an ErrMedia.
					rungs := before(bad, n, at)
					rungs[at] = wrong
					refuseClimb(t, g, rungs, api.ErrArg)
					// Each rung but this one counts, be it before this one.
					rungs = slices.Repeat([][]byte{good}, n)
					rungs[at] = wrong
					refuseClimb(t, g, rungs, api.ErrArg)
				}
			}
		}
	}
}

func TestP91NoRungThatCounts(t *testing.T) {
	for _, g := range append(geometries(), greatest) {
		bad := refused(t, g)
		for n := 1; n <= g.Rungs; n++ {
			for start := range bad {
				refuseClimb(t, g, before(bad, n, start), api.ErrMedia)
				refuseClimb(t, g, slices.Repeat([][]byte{bad[start]}, n), api.ErrMedia)
			}
		}
	}
}

func TestP91EachSingleBitAndEachPairAtRungZero(t *testing.T) {
	data := pattern(16, 3)
	raw := written(t, example, data, some)
	whole := api.Page{Data: data, Tag: some, State: api.Whole}
	mended := api.Page{Data: data, Tag: some, State: api.Mended}
	for k := range 8*8 + 14 {
		expectClimb(t, example, [][]byte{turned(raw, k), raw}, mended, 0)
		for j := range k {
			expectClimb(t, example, [][]byte{turned(raw, j, k), raw}, whole, 1)
			refuseClimb(t, example, [][]byte{turned(raw, j, k)}, api.ErrMedia)
		}
	}
}

func TestP91ArgumentsAreNotChangedNorShared(t *testing.T) {
	for _, g := range append(geometries(), greatest) {
		for i, good := range thatCount(t, g) {
			var rungs [][]byte
			for _, raw := range append(before(refused(t, g), g.Rungs-1, i), good.raw) {
				// There is room behind the raw page that must stay as it is.
				rungs = append(rungs, slices.Concat(raw, filled(50, 0x77))[:len(raw)])
			}
			kept := make([][]byte, 0, len(rungs))
			for _, raw := range rungs {
				kept = append(kept, slices.Clone(raw[:len(raw)+50]))
			}
			p, _, _ := ladder.Climb(g, rungs...)
			for j := range p.Data {
				p.Data[j] ^= 0xff
			}
			_ = append(p.Data, 1, 2, 3)
			for j, raw := range rungs {
				if !bytes.Equal(raw[:len(raw)+50], kept[j]) {
					t.Errorf("%+v: the raw page %d of %d, or what stands behind it, has changed", g, j, len(rungs))
				}
			}
		}
	}
}

func TestP92Example(t *testing.T) {
	raw := written(t, example, []byte("sixteen bytes ok"), some)
	want := api.Page{Data: []byte("sixteen bytes ok"), Tag: some, State: api.Whole}
	expectWalk(t, example, answers(turned(raw, 3, 4), turned(raw, 90, 91), raw), want, 2)
}

func TestP92EachRungAsTheOneThatCounts(t *testing.T) {
	for _, g := range append(geometries(), greatest) {
		bad := refused(t, g)
		for rung := range g.Rungs {
			for i, good := range thatCount(t, g) {
				expectWalk(t, g, answers(append(before(bad, rung, i), good.raw)...), good.page, rung)
			}
		}
	}
}

func TestP92NoRungThatCounts(t *testing.T) {
	for _, g := range append(geometries(), greatest) {
		bad := refused(t, g)
		for start := range bad {
			refuseWalk(t, g, answers(before(bad, g.Rungs, start)...), api.ErrMedia, g.Rungs)
			// There is a page that would count, behind the rungs of g.
			beyond := append(before(bad, g.Rungs, start), thatCount(t, g)[0].raw)
			refuseWalk(t, g, answers(beyond...), api.ErrMedia, g.Rungs)
		}
	}
}

func TestP92GeometriesThatAreNotValid(t *testing.T) {
	raw := written(t, example, pattern(16, 4), some)
	for _, g := range wrongGeometries() {
		refuseWalk(t, g, answers(raw, raw, raw), api.ErrArg, 0)
		refuseWalk(t, g, answers(nil, nil, nil), api.ErrArg, 0)
		refuseWalk(t, g, []answer{{nil, api.ErrBusy}}, api.ErrArg, 0)
		if p, r, e := ladder.Walk(g, nil); !nothing(p) || r != 0 || e != api.ErrArg {
			t.Errorf("Walk(%+v, nil) = %+v, %d, %d, not nothing, 0, ErrArg", g, p, r, e)
		}
	}
}

func TestP92NoRead(t *testing.T) {
	for _, g := range append(geometries(), greatest) {
		if p, r, e := ladder.Walk(g, nil); !nothing(p) || r != 0 || e != api.ErrNil {
			t.Errorf("Walk(%+v, nil) = %+v, %d, %d, not nothing, 0, ErrNil", g, p, r, e)
		}
	}
}

func TestP92AnErrorOfReadAtEachRung(t *testing.T) {
	errors := []api.Errno{
		api.ErrNil, api.ErrArg, api.ErrLimit, api.ErrEnd, api.ErrForm, api.ErrSum, api.ErrExtra, api.ErrBits,
		api.ErrPower, api.ErrBusy, api.ErrFail, api.ErrChip, api.ErrMedia, api.ErrReadOnly, api.ErrOff, api.ErrNone,
		-1, 99, math.MinInt, math.MaxInt,
	}
	for _, g := range geometries() {
		bad := refused(t, g)
		good := thatCount(t, g)[0].raw
		for rung := range g.Rungs {
			for _, e := range errors {
				// The bytes beside the error do not matter.
				for _, raw := range [][]byte{nil, good, good[1:], bad[0], filled(len(good), 0xff)} {
					all := append(answers(before(bad, rung, int(e)&3)...), answer{raw, e}, answer{good, api.OK})
					refuseWalk(t, g, all, e, rung+1)
				}
			}
		}
	}
}

func TestP92BytesOfAnotherLengthAtEachRung(t *testing.T) {
	for _, g := range append(geometries(), greatest) {
		bad := refused(t, g)
		for _, good := range thatCount(t, g) {
			for rung := range g.Rungs {
				for i, wrong := range wrongLengths(g, good.raw) {
					all := append(before(bad, rung, i), wrong, good.raw)
					refuseWalk(t, g, answers(all...), api.ErrArg, rung+1)
				}
			}
		}
	}
}

func TestP92AnswersAreThoseOfClimb(t *testing.T) {
	for _, g := range append(geometries(), greatest) {
		pages := refused(t, g)
		for _, good := range thatCount(t, g) {
			pages = append(pages, good.raw)
		}
		for round := range 300 {
			var rungs [][]byte
			for _, b := range pattern(g.Rungs, round) {
				rungs = append(rungs, pages[int(b)%len(pages)])
			}
			p, r, e := ladder.Climb(g, rungs...)
			asked := g.Rungs
			if e == api.OK {
				asked = r + 1
			}
			q, s, f := walk(t, g, answers(rungs...), asked)
			if !same(p, q) || r != s || e != f {
				t.Errorf("%+v: Climb is %+v, %d, %d, and Walk %+v, %d, %d", g, p, r, e, q, s, f)
			}
		}
	}
}

func TestP92BytesThatAreReadAreNotChangedNorShared(t *testing.T) {
	for _, g := range append(geometries(), greatest) {
		bad := refused(t, g)
		for i, good := range thatCount(t, g) {
			// All rungs are read into one buffer, with room behind the raw page.
			buffer := filled(rawBytes(g)+50, 0x77)
			rungs := append(before(bad, g.Rungs-1, i), good.raw)
			p, rung, e := ladder.Walk(g, func(rung int) ([]byte, api.Errno) {
				if rung > 0 && !bytes.Equal(buffer[:rawBytes(g)], rungs[rung-1]) {
					t.Errorf("%+v: the raw page of rung %d has changed", g, rung-1)
				}
				copy(buffer, rungs[rung])
				return buffer[:rawBytes(g)], api.OK
			})
			if !bytes.Equal(buffer, slices.Concat(good.raw, filled(50, 0x77))) {
				t.Errorf("%+v: the raw page that counts, or what stands behind it, has changed", g)
			}
			clear(buffer)
			if !same(p, good.page) || rung != g.Rungs-1 || e != api.OK {
				t.Errorf("Walk(%+v) = %+v, %d, %d, not %+v, %d, OK", g, p, rung, e, good.page, g.Rungs-1)
			}
		}
	}
}

// others are lists of raw pages for the rungs behind the one that counts, at
// most so many.
func others(t *testing.T, g api.Geom, most int) [][][]byte {
	t.Helper()
	raw := written(t, g, pattern(g.Chunks*g.Chunk, 99), api.Tag{Kind: api.KindData, Sector: 9, Seq: 1 << 61})
	pages := append(refused(t, g), raw, turned(raw, 7), filled(len(raw), 0xff), pattern(len(raw), 5))
	all := [][][]byte{nil}
	for n := 1; n <= most; n++ {
		for start := range pages {
			all = append(all, before(pages, n, start))
		}
	}
	return all
}

func TestP93RungsBehindTheOneThatCounts(t *testing.T) {
	for _, g := range geometries() {
		bad := refused(t, g)
		for rung := range g.Rungs {
			for i, good := range thatCount(t, g) {
				first := append(before(bad, rung, i), good.raw)
				for _, behind := range others(t, g, g.Rungs-1-rung) {
					rungs := slices.Concat(first, behind)
					expectClimb(t, g, rungs, good.page, rung)
					expectWalk(t, g, answers(rungs...), good.page, rung)
				}
			}
		}
	}
}

func TestP93WhatReadWouldAnswerBehindTheOneThatCounts(t *testing.T) {
	for _, g := range geometries() {
		bad := refused(t, g)
		for rung := range g.Rungs {
			for i, good := range thatCount(t, g) {
				first := answers(append(before(bad, rung, i), good.raw)...)
				for _, e := range []api.Errno{api.OK, api.ErrPower, api.ErrBusy, api.ErrMedia} {
					for _, raw := range wrongLengths(g, good.raw) {
						behind := slices.Repeat([]answer{{raw, e}}, 8)
						expectWalk(t, g, slices.Concat(first, behind), good.page, rung)
					}
				}
			}
		}
	}
}
