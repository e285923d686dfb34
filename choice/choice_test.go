package choice_test

import (
	"bytes"
	"math"
	"slices"
	"testing"

	"incunable/api"
	"incunable/choice"
)

// The limits, written out as the document has them.
const (
	mostElements = 4096
	mostBusy     = 65536
	mostCycles   = 16777216
	mostNumber   = 4611686018427387904
	mostTorn     = 65536
)

// example is a geometry with 16 rows, 2 rungs, and raw pages of 37 bytes.
var example = api.Geom{Planes: 2, Blocks: 4, Pages: 4, Chunks: 1, Chunk: 4, Rungs: 2, Partial: 1}

// shape is a geometry, and how many blocks, rows and rungs it has, and bits of
// a raw page.
type shape struct {
	g                         api.Geom
	blocks, rows, rungs, bits int
}

// shapes are valid geometries: the example, the least and the greatest one,
// and others between them, with their numbers written out.
func shapes() []shape {
	return []shape{
		{example, 4, 16, 2, 296},
		{api.Geom{Planes: 1, Blocks: 2, Pages: 4, Chunks: 1, Chunk: 4, Rungs: 1, Partial: 1}, 2, 8, 1, 296},
		{api.Geom{Planes: 4, Blocks: 256, Pages: 64, Chunks: 16, Chunk: 512, Rungs: 8, Partial: 8}, 256, 16384, 8, 66040},
		{api.Geom{Planes: 3, Blocks: 9, Pages: 6, Chunks: 2, Chunk: 8, Rungs: 5, Partial: 4}, 9, 54, 5, 408},
		{api.Geom{Planes: 1, Blocks: 7, Pages: 62, Chunks: 3, Chunk: 5, Rungs: 3, Partial: 2}, 7, 434, 3, 416},
	}
}

// wrongGeometries are the zero one, and others that differ from the example in
// one number or two, and are not valid.
func wrongGeometries() []api.Geom {
	all := []api.Geom{{}}
	change := func(f func(g *api.Geom)) {
		g := example
		f(&g)
		all = append(all, g)
	}
	for _, n := range []int{0, -1, -4, math.MinInt, math.MaxInt, 513} {
		change(func(g *api.Geom) { g.Planes = n })
		change(func(g *api.Geom) { g.Blocks = n })
		change(func(g *api.Geom) { g.Pages = n })
		change(func(g *api.Geom) { g.Chunks = n })
		change(func(g *api.Geom) { g.Chunk = n })
		change(func(g *api.Geom) { g.Rungs = n })
		change(func(g *api.Geom) { g.Partial = n })
	}
	change(func(g *api.Geom) { g.Planes = 3 })
	change(func(g *api.Geom) { g.Planes, g.Blocks = 5, 10 })
	change(func(g *api.Geom) { g.Blocks = 258 })
	change(func(g *api.Geom) { g.Pages = 5 })
	change(func(g *api.Geom) { g.Rungs = 9 })
	return all
}

// full is a valid script of the example with something in each list.
func full() api.Script {
	return api.Script{
		Busy:   []int{2, 0, 7, 65536, 7},
		Fails:  []int{1, 3, 4, 9},
		Turns:  []api.Turn{{Row: 5, Rung: 1, Bit: 9}, {Row: 0, Rung: 1, Bit: 0}, {Row: 5, Rung: 1, Bit: 2}, {Row: 5, Rung: 0, Bit: 295}},
		Cut:    -1,
		Torn:   []byte{1, 2, 0xff},
		Marked: []int{0, 3},
	}
}

// cloned is a script that shares no memory with s.
func cloned(s api.Script) api.Script {
	s.Busy = slices.Clone(s.Busy)
	s.Fails = slices.Clone(s.Fails)
	s.Turns = slices.Clone(s.Turns)
	s.Torn = slices.Clone(s.Torn)
	s.Marked = slices.Clone(s.Marked)
	return s
}

// equal reports whether two scripts are the same.
func equal(a, b api.Script) bool {
	return slices.Equal(a.Busy, b.Busy) && slices.Equal(a.Fails, b.Fails) && slices.Equal(a.Turns, b.Turns) &&
		a.Cut == b.Cut && bytes.Equal(a.Torn, b.Torn) && slices.Equal(a.Marked, b.Marked)
}

// ascending are the first n numbers from start on.
func ascending(start, n int) []int {
	l := make([]int, n)
	for i := range l {
		l[i] = start + i
	}
	return l
}

// told is a teller of s, which is valid.
func told(t *testing.T, g api.Geom, s api.Script) *choice.Teller {
	t.Helper()
	x, e := choice.New(g, s)
	if x == nil || e != api.OK {
		t.Fatalf("New(%v, ..) is %v, %d, not a teller and OK", g, x, e)
	}
	return x
}

// expectRight fails unless Right answers want, and New goes by it.
func expectRight(t *testing.T, name string, g api.Geom, s api.Script, want bool) {
	t.Helper()
	before := cloned(s)
	if got := choice.Right(g, s); got != want {
		t.Errorf("%s: Right(%v, ..) is %t, not %t", name, g, got, want)
	}
	x, e := choice.New(g, s)
	if want && (x == nil || e != api.OK) {
		t.Errorf("%s: New(%v, ..) is %v, %d, not a teller and OK", name, g, x, e)
	}
	if !want && (x != nil || e != api.ErrArg) {
		t.Errorf("%s: New(%v, ..) is %v, %d, not nil and ErrArg", name, g, x, e)
	}
	if !equal(s, before) {
		t.Errorf("%s: the script was changed", name)
	}
}

// expectBusy fails unless the next durations are these.
func expectBusy(t *testing.T, x *choice.Teller, want ...int) {
	t.Helper()
	for i, n := range want {
		if got := x.Busy(); got != n {
			t.Errorf("Busy, time %d, is %d, not %d", i, got, n)
		}
	}
}

// expectFails fails unless the next programs and erases fail as told.
func expectFails(t *testing.T, x *choice.Teller, want ...bool) {
	t.Helper()
	for i, fails := range want {
		if got := x.Fails(); got != fails {
			t.Errorf("Fails, time %d, is %t, not %t", i, got, fails)
		}
	}
}

// expectTurns fails unless these bits are turned.
func expectTurns(t *testing.T, x *choice.Teller, row, rung int, want ...int) {
	t.Helper()
	if got := x.Turns(row, rung); !slices.Equal(got, want) {
		t.Errorf("Turns(%d, %d) is %v, not %v", row, rung, got, want)
	}
}

// expectTorn fails unless Torn answers these bytes.
func expectTorn(t *testing.T, x *choice.Teller, size int, want []byte) {
	t.Helper()
	if got := x.Torn(size); !bytes.Equal(got, want) {
		t.Errorf("Torn(%d) has %d bytes, not the %d that it should", size, len(got), len(want))
	}
}

// expectDone fails unless so much has been requested.
func expectDone(t *testing.T, x *choice.Teller, busy, work int) {
	t.Helper()
	if a, b := x.Done(); a != busy || b != work {
		t.Errorf("Done is %d, %d, not %d, %d", a, b, busy, work)
	}
}

func TestP121Examples(t *testing.T) {
	x := told(t, example, api.Script{Busy: []int{2}, Fails: []int{1, 3}, Cut: -1})
	expectBusy(t, x, 2, 0)
	expectFails(t, x, false, true, false, true, false)
	expectDone(t, x, 2, 5)

	x = told(t, example, api.Script{Busy: []int{3, 1}, Cut: -1})
	expectBusy(t, x, 3, 1, 0, 0)
	expectDone(t, x, 4, 0)
}

func TestP121ScriptsThatAreRight(t *testing.T) {
	for _, at := range shapes() {
		expectRight(t, "nothing", at.g, api.Script{}, true)
		expectRight(t, "no cut", at.g, api.Script{Cut: -1}, true)
		expectRight(t, "empty lists", at.g, api.Script{Busy: []int{}, Fails: []int{}, Turns: []api.Turn{}, Torn: []byte{}, Marked: []int{}}, true)
		expectRight(t, "every block marked", at.g, api.Script{Marked: ascending(0, at.blocks)}, true)
	}
	expectRight(t, "something in each list", example, full(), true)
}

func TestP121WrongGeometries(t *testing.T) {
	for _, g := range wrongGeometries() {
		for _, s := range []api.Script{{}, {Cut: -1}, full(), {Marked: []int{0}}, {Turns: []api.Turn{{}}}, {Cut: -2}} {
			expectRight(t, "geometry", g, s, false)
		}
	}
}

func TestP121LengthsOfLists(t *testing.T) {
	if api.MaxScript != mostElements {
		t.Fatalf("MaxScript is %d, not %d", api.MaxScript, mostElements)
	}
	for _, n := range []int{mostElements - 1, mostElements, mostElements + 1, 2 * mostElements, mostTorn} {
		want := n <= mostElements
		for _, at := range shapes() {
			busy := api.Script{Busy: make([]int, n)}
			fails := api.Script{Fails: ascending(0, n)}
			turns := api.Script{Turns: make([]api.Turn, n)}
			torn := api.Script{Torn: make([]byte, n)}
			expectRight(t, "Busy", at.g, busy, want)
			expectRight(t, "Fails", at.g, fails, want)
			expectRight(t, "Turns", at.g, turns, want)
			expectRight(t, "Torn", at.g, torn, want)
			// No chip has so many blocks.
			expectRight(t, "Marked", at.g, api.Script{Marked: ascending(0, n)}, false)
			expectRight(t, "four lists", at.g, api.Script{Busy: busy.Busy, Fails: fails.Fails, Turns: turns.Turns, Torn: torn.Torn}, want)
		}
	}
}

// Lists that are each short enough are right, however long they are together.
func TestP121LengthsOfOneListBesideOthers(t *testing.T) {
	long := func() api.Script {
		return api.Script{Busy: make([]int, mostElements), Fails: ascending(7, mostElements), Turns: make([]api.Turn, mostElements), Torn: make([]byte, mostElements), Marked: ascending(0, 4)}
	}
	expectRight(t, "all", example, long(), true)
	s := long()
	s.Busy = append(s.Busy, 0)
	expectRight(t, "Busy", example, s, false)
	s = long()
	s.Fails = append(s.Fails, mostNumber)
	expectRight(t, "Fails", example, s, false)
	s = long()
	s.Turns = append(s.Turns, api.Turn{})
	expectRight(t, "Turns", example, s, false)
	s = long()
	s.Torn = append(s.Torn, 0)
	expectRight(t, "Torn", example, s, false)
}

// expectNumber fails unless the scripts that with makes of a number are right
// for the numbers from least to most, and for no others.
func expectNumber(t *testing.T, name string, at shape, least, most int, with func(n int) []api.Script) {
	t.Helper()
	numbers := []int{least - 1, least, least + 1, most - 1, most, most + 1, -2, -1 << 31, -1 << 32, 1<<62 + 1, 1<<62 + 5, math.MinInt, math.MinInt + 1, math.MaxInt, math.MaxInt - 1}
	for _, n := range numbers {
		for _, s := range with(n) {
			expectRight(t, name, at.g, s, n >= least && n <= most)
		}
	}
}

func TestP121Durations(t *testing.T) {
	if api.MaxBusy != mostBusy {
		t.Fatalf("MaxBusy is %d, not %d", api.MaxBusy, mostBusy)
	}
	for _, at := range shapes() {
		expectNumber(t, "Busy", at, 0, mostBusy, func(n int) []api.Script {
			return []api.Script{{Busy: []int{n}}, {Busy: []int{n, 0, 9}}, {Busy: []int{9, n, 0}}, {Busy: []int{0, 9, n}}, {Busy: []int{n, n, n}}}
		})
	}
	expectRight(t, "falling", example, api.Script{Busy: []int{9, 8, 8, 0, 5}}, true)
}

func TestP121NumbersThatFail(t *testing.T) {
	for _, at := range shapes() {
		expectNumber(t, "Fails", at, 0, mostNumber, func(n int) []api.Script {
			return []api.Script{{Fails: []int{n}}}
		})
		expectNumber(t, "the last of Fails", at, 6, mostNumber, func(n int) []api.Script {
			return []api.Script{{Fails: []int{0, 5, n}}, {Fails: []int{5, n}}}
		})
		expectNumber(t, "the first of Fails", at, 0, mostNumber-6, func(n int) []api.Script {
			return []api.Script{{Fails: []int{n, mostNumber - 5, mostNumber}}, {Fails: []int{n, mostNumber - 5}}}
		})
		expectNumber(t, "the middle of Fails", at, 8, mostNumber-1, func(n int) []api.Script {
			return []api.Script{{Fails: []int{7, n, mostNumber}}}
		})
	}
}

func TestP121MarkedBlocks(t *testing.T) {
	for _, at := range shapes() {
		last := at.blocks - 1
		expectNumber(t, "Marked", at, 0, last, func(n int) []api.Script {
			return []api.Script{{Marked: []int{n}}}
		})
		expectNumber(t, "the last of Marked", at, 1, last, func(n int) []api.Script {
			return []api.Script{{Marked: []int{0, n}}}
		})
		expectNumber(t, "the first of Marked", at, 0, last-1, func(n int) []api.Script {
			return []api.Script{{Marked: []int{n, last}}}
		})
		expectRight(t, "every block and one more", at.g, api.Script{Marked: ascending(0, at.blocks+1)}, false)
		expectRight(t, "every block and one before", at.g, api.Script{Marked: ascending(-1, at.blocks+1)}, false)
		expectRight(t, "every block, falling", at.g, api.Script{Marked: falling(at.blocks)}, false)
		expectRight(t, "every block, the last one twice", at.g, api.Script{Marked: append(ascending(0, at.blocks), last)}, false)
		expectRight(t, "the block 0 twice", at.g, api.Script{Marked: []int{0, 0}}, false)
	}
}

// falling are the numbers below n, the greatest one first.
func falling(n int) []int {
	l := ascending(0, n)
	slices.Reverse(l)
	return l
}

// strictly reports, as the chapter has it, whether the elements are from 0 to
// most, and each one is less than all behind it.
func strictly(l []int, most int) bool {
	for i := range l {
		if l[i] < 0 || l[i] > most {
			return false
		}
		for j := range l[:i] {
			if l[j] >= l[i] {
				return false
			}
		}
	}
	return true
}

// Each list of up to four of these numbers is tried for Fails and for Marked.
func TestP121ListsOfNumbersThatAscendOrDoNot(t *testing.T) {
	numbers := []int{-1, 0, 1, 2, 3, 4, mostNumber - 1, mostNumber, mostNumber + 1}
	var try func(l []int)
	try = func(l []int) {
		if got, want := choice.Right(example, api.Script{Fails: l}), strictly(l, mostNumber); got != want {
			t.Errorf("Right with Fails %v is %t", l, got)
		}
		if got, want := choice.Right(example, api.Script{Marked: l}), strictly(l, 3); got != want {
			t.Errorf("Right with Marked %v is %t", l, got)
		}
		if len(l) == 4 {
			return
		}
		for _, n := range numbers {
			try(append(slices.Clone(l), n))
		}
	}
	try(nil)
}

func TestP121NumbersThatAreEqualAtEachPlace(t *testing.T) {
	for i := range 100 {
		s := api.Script{Fails: ascending(0, 101)}
		s.Fails[i+1] = s.Fails[i]
		expectRight(t, "equal", example, s, false)
		s.Fails[i], s.Fails[i+1] = i+1, i
		expectRight(t, "exchanged", example, s, false)
	}
}

func TestP121TurnsAtTheirEdges(t *testing.T) {
	for _, at := range shapes() {
		last := api.Turn{Row: at.rows - 1, Rung: at.rungs - 1, Bit: at.bits - 1}
		beside := func(turn api.Turn) []api.Script {
			return []api.Script{
				{Turns: []api.Turn{turn}},
				{Turns: []api.Turn{turn, last, {}}},
				{Turns: []api.Turn{last, turn, {}}},
				{Turns: []api.Turn{{}, last, turn}},
			}
		}
		for _, base := range []api.Turn{{}, last} {
			expectNumber(t, "Row", at, 0, at.rows-1, func(n int) []api.Script {
				return beside(api.Turn{Row: n, Rung: base.Rung, Bit: base.Bit})
			})
			expectNumber(t, "Rung", at, 0, at.rungs-1, func(n int) []api.Script {
				return beside(api.Turn{Row: base.Row, Rung: n, Bit: base.Bit})
			})
			expectNumber(t, "Bit", at, 0, at.bits-1, func(n int) []api.Script {
				return beside(api.Turn{Row: base.Row, Rung: base.Rung, Bit: n})
			})
		}
		expectRight(t, "the same turns, falling", at.g, api.Script{Turns: []api.Turn{last, last, {}, {}, last}}, true)
	}
}

func TestP121Cut(t *testing.T) {
	if api.MaxCycles != mostCycles {
		t.Fatalf("MaxCycles is %d, not %d", api.MaxCycles, mostCycles)
	}
	for _, at := range shapes() {
		expectNumber(t, "Cut", at, -1, mostCycles, func(n int) []api.Script {
			s := full()
			s.Turns, s.Marked = nil, nil
			s.Cut = n
			return []api.Script{{Cut: n}, s}
		})
	}
}

func TestP121AnyBytesMayBeTorn(t *testing.T) {
	for v := range 256 {
		expectRight(t, "Torn", example, api.Script{Torn: []byte{byte(v), 0, byte(v)}}, true)
	}
}

// One list or number that is wrong is enough, whichever it is.
func TestP121OneThingWrongBesideOthersThatAreRight(t *testing.T) {
	wrong := []func(s *api.Script){
		func(s *api.Script) { s.Busy[4] = -1 },
		func(s *api.Script) { s.Busy[0] = mostBusy + 1 },
		func(s *api.Script) { s.Fails[0] = -1 },
		func(s *api.Script) { s.Fails[2] = 3 },
		func(s *api.Script) { s.Fails[3] = mostNumber + 1 },
		func(s *api.Script) { s.Turns[3].Row = 16 },
		func(s *api.Script) { s.Turns[2].Rung = 2 },
		func(s *api.Script) { s.Turns[1].Bit = 296 },
		func(s *api.Script) { s.Turns[0].Bit = -1 },
		func(s *api.Script) { s.Cut = -2 },
		func(s *api.Script) { s.Cut = mostCycles + 1 },
		func(s *api.Script) { s.Torn = make([]byte, mostElements+1) },
		func(s *api.Script) { s.Marked[1] = 4 },
		func(s *api.Script) { s.Marked[1] = 0 },
	}
	for i, f := range wrong {
		s := full()
		f(&s)
		if choice.Right(example, s) {
			t.Errorf("Right is true of wrong script %d", i)
		}
		if x, e := choice.New(example, s); x != nil || e != api.ErrArg {
			t.Errorf("New of wrong script %d is %v, %d", i, x, e)
		}
	}
}

func TestP121BusyBeforeAtAndBehindTheEnd(t *testing.T) {
	for _, n := range []int{0, 1, 2, 3, 10, 100, mostElements - 1, mostElements} {
		s := api.Script{Cut: -1}
		for i := range n {
			s.Busy = append(s.Busy, 1+i*16)
		}
		x := told(t, example, s)
		expectBusy(t, x, s.Busy...)
		expectDone(t, x, n, 0)
		expectBusy(t, x, 0, 0, 0)
		expectDone(t, x, n+3, 0)
		expectBusy(t, x, make([]int, 2*mostElements)...)
		expectDone(t, x, n+3+2*mostElements, 0)
	}
	expectBusy(t, told(t, example, api.Script{Busy: []int{}}), 0, 0, 0)
}

func TestP121BusyAnswersEqualAndZeroAndGreatDurations(t *testing.T) {
	l := []int{0, 0, mostBusy, mostBusy, 0, 1, 1, mostBusy - 1, 0}
	x := told(t, example, api.Script{Busy: l})
	expectBusy(t, x, l...)
	expectBusy(t, x, 0, 0)
}

// Each set of the numbers below 8 is tried, with as many requests and more.
func TestP121FailsOfEachSet(t *testing.T) {
	for set := range 1 << 8 {
		s := api.Script{Cut: -1}
		want := make([]bool, 20)
		for n := range 8 {
			if set>>n&1 == 1 {
				s.Fails = append(s.Fails, n)
				want[n] = true
			}
		}
		x := told(t, example, s)
		expectFails(t, x, want...)
		expectDone(t, x, 0, len(want))
	}
}

func TestP121FailsOfManyProgramsAndErases(t *testing.T) {
	for _, step := range []int{1, 2, 3, 7, 50} {
		for _, start := range []int{0, 1, 12, 4095, 4096, 4097} {
			s := api.Script{Cut: -1}
			want := make([]bool, start+step*mostElements+1000)
			for i := range mostElements {
				s.Fails = append(s.Fails, start+step*i)
				want[start+step*i] = true
			}
			x := told(t, example, s)
			expectFails(t, x, want...)
			expectDone(t, x, 0, len(want))
		}
	}
}

func TestP121FailsThatAreNotReached(t *testing.T) {
	x := told(t, example, api.Script{Fails: []int{3, mostNumber - 1, mostNumber}})
	for n := range 100000 {
		if x.Fails() != (n == 3) {
			t.Errorf("Fails, time %d, is %t", n, n != 3)
		}
	}
	expectDone(t, x, 0, 100000)
}

func TestP121Done(t *testing.T) {
	for _, s := range []api.Script{{}, {Cut: -1}, full()} {
		x := told(t, example, s)
		expectDone(t, x, 0, 0)
		expectDone(t, x, 0, 0)
		x.Busy()
		expectDone(t, x, 1, 0)
		x.Fails()
		expectDone(t, x, 1, 1)
		x.Fails()
		expectDone(t, x, 1, 2)
		x.Turns(5, 1)
		x.Torn(9)
		x.Torn(-1)
		expectDone(t, x, 1, 2)
		x.Busy()
		expectDone(t, x, 2, 2)

		first := told(t, example, s)
		first.Fails()
		expectDone(t, first, 0, 1)
	}
}

// Requests of both kinds are counted apart, in whatever order they come.
func TestP121DoneInAnyOrder(t *testing.T) {
	const requests = 10
	for order := range 1 << requests {
		x := told(t, example, full())
		busy, work := 0, 0
		for i := range requests {
			if order>>i&1 == 1 {
				if want := busyAt(full(), busy); x.Busy() != want {
					t.Errorf("order %d: Busy, time %d, is not %d", order, busy, want)
				}
				busy++
			} else {
				if want := slices.Contains(full().Fails, work); x.Fails() != want {
					t.Errorf("order %d: Fails, time %d, is not %t", order, work, want)
				}
				work++
			}
			expectDone(t, x, busy, work)
		}
	}
}

// busyAt is the n-th duration, from 0 on.
func busyAt(s api.Script, n int) int {
	if n < len(s.Busy) {
		return s.Busy[n]
	}
	return 0
}

func TestP121DoneAfterMany(t *testing.T) {
	x := told(t, example, full())
	for n := range 200000 {
		x.Busy()
		x.Fails()
		x.Fails()
		if n%5000 == 0 {
			expectDone(t, x, n+1, 2*n+2)
		}
	}
	expectDone(t, x, 200000, 400000)
}

func TestP122TornExample(t *testing.T) {
	x := told(t, example, api.Script{Torn: []byte{1, 2}, Cut: -1})
	expectTorn(t, x, 5, []byte{1, 2, 1, 2, 1})
}

func TestP122TurnsOfAFewPlaces(t *testing.T) {
	x := told(t, example, full())
	expectTurns(t, x, 5, 1, 9, 2)
	expectTurns(t, x, 5, 0, 295)
	expectTurns(t, x, 0, 1, 0)
	expectTurns(t, x, 0, 0)
	expectTurns(t, x, 1, 5)
	expectTurns(t, x, 1, 0)
	expectTurns(t, x, 4, 1)
	expectTurns(t, x, 6, 1)
}

func TestP122NoTurns(t *testing.T) {
	for _, at := range shapes() {
		for _, s := range []api.Script{{}, {Turns: []api.Turn{}}} {
			x := told(t, at.g, s)
			for row := -1; row <= at.rows; row++ {
				for rung := -1; rung <= at.rungs; rung++ {
					expectTurns(t, x, row, rung)
				}
			}
		}
	}
}

func TestP122OneTurnAtEachPlace(t *testing.T) {
	for row := range 16 {
		for rung := range 2 {
			for _, bit := range []int{0, 1, 7, 8, 295} {
				x := told(t, example, api.Script{Turns: []api.Turn{{Row: row, Rung: rung, Bit: bit}}})
				expectTurns(t, x, row, rung, bit)
				for other := range 16 {
					if other != row {
						expectTurns(t, x, other, rung)
					}
					expectTurns(t, x, other, 1-rung)
				}
			}
		}
	}
}

func TestP122TurnsInTheOrderOfTheScript(t *testing.T) {
	a, b := []int{200, 3, 100, 4, 0, 295}, []int{7, 295, 6, 8, 5, 294}
	s := api.Script{Cut: -1}
	for i := range a {
		s.Turns = append(s.Turns, api.Turn{Row: 9, Rung: 1, Bit: a[i]}, api.Turn{Row: 8, Rung: 1, Bit: b[i]}, api.Turn{Row: 9, Rung: 0, Bit: i})
	}
	x := told(t, example, s)
	expectTurns(t, x, 9, 1, a...)
	expectTurns(t, x, 8, 1, b...)
	expectTurns(t, x, 9, 0, 0, 1, 2, 3, 4, 5)
	expectTurns(t, x, 8, 0)

	slices.Reverse(a)
	slices.Reverse(s.Turns)
	x = told(t, example, s)
	expectTurns(t, x, 9, 1, a...)
	expectTurns(t, x, 9, 0, 5, 4, 3, 2, 1, 0)
}

func TestP122TheSameTurnSeveralTimes(t *testing.T) {
	one, other := api.Turn{Row: 2, Rung: 1, Bit: 9}, api.Turn{Row: 2, Rung: 1, Bit: 4}
	apart := api.Turn{Row: 3, Rung: 1, Bit: 9}
	x := told(t, example, api.Script{Turns: []api.Turn{one, one}})
	expectTurns(t, x, 2, 1, 9, 9)
	x = told(t, example, api.Script{Turns: []api.Turn{one, apart, other, one, apart, one}})
	expectTurns(t, x, 2, 1, 9, 4, 9, 9)
	expectTurns(t, x, 3, 1, 9, 9)
}

// The script has as many turns as it may, which are spread over all places.
func TestP122ManyTurns(t *testing.T) {
	for _, at := range shapes() {
		s := api.Script{Cut: -1}
		for i := range mostElements {
			s.Turns = append(s.Turns, api.Turn{Row: i * 37 % at.rows, Rung: i * 5 % at.rungs, Bit: i * 7919 % at.bits})
		}
		want := make(map[[2]int][]int)
		for _, turn := range s.Turns {
			want[[2]int{turn.Row, turn.Rung}] = append(want[[2]int{turn.Row, turn.Rung}], turn.Bit)
		}
		x := told(t, at.g, s)
		for row := range at.rows {
			for rung := range at.rungs {
				expectTurns(t, x, row, rung, want[[2]int{row, rung}]...)
			}
		}
	}
	all := make([]api.Turn, mostElements)
	expectTurns(t, told(t, example, api.Script{Turns: all}), 0, 0, make([]int, mostElements)...)
}

func TestP122TurnsOfRowsAndRungsThatThereAreNot(t *testing.T) {
	for _, at := range shapes() {
		var s api.Script
		for row := range 8 {
			for rung := range at.rungs {
				s.Turns = append(s.Turns, api.Turn{Row: row, Rung: rung, Bit: row}, api.Turn{Row: at.rows - 1 - row, Rung: rung, Bit: rung})
			}
		}
		x := told(t, at.g, s)
		for _, n := range []int{-1, -2, -16, -1 << 32, math.MinInt, math.MinInt + 1, 1 << 16, 1 << 31, 1 << 32, 1<<32 + 1, 1 << 62, math.MaxInt} {
			for near := range 8 {
				expectTurns(t, x, n, near)
				expectTurns(t, x, near, n)
			}
			expectTurns(t, x, n, n)
		}
		for rung := range at.rungs {
			expectTurns(t, x, at.rows, rung)
			expectTurns(t, x, at.rows+1, rung)
		}
		for row := range at.rows {
			expectTurns(t, x, row, at.rungs)
			expectTurns(t, x, row, at.rungs+1)
		}
	}
}

// repeated are size bytes of l, counted out one by one; zero bytes if l has
// none.
func repeated(l []byte, size int) []byte {
	b := make([]byte, size)
	for i := range b {
		if len(l) > 0 {
			b[i] = l[i%len(l)]
		}
	}
	return b
}

// tornLists are lists of no byte, one, several, and as many as there may be.
func tornLists() [][]byte {
	long := make([]byte, mostElements)
	for i := range long {
		long[i] = byte(i * i / 3)
	}
	return [][]byte{nil, {}, {0}, {7}, {0xff}, {0, 1}, {1, 0}, {1, 2, 3}, {9, 9, 8, 9, 9}, long[:255], long[:256], long[:257], long[1:], long}
}

func TestP122TornOfEachSize(t *testing.T) {
	sizes := append(ascending(0, 300), 1000, mostElements-1, mostElements, mostElements+1, 2*mostElements+5, mostTorn-1, mostTorn)
	for _, l := range tornLists() {
		x := told(t, example, api.Script{Torn: l})
		for _, size := range sizes {
			expectTorn(t, x, size, repeated(l, size))
		}
		// Each time it begins with the first byte again.
		expectTorn(t, x, 7, repeated(l, 7))
		expectTorn(t, x, 7, repeated(l, 7))
	}
}

func TestP122TornOfSizesThatAreNotAnswered(t *testing.T) {
	for _, l := range tornLists() {
		x := told(t, example, api.Script{Torn: l})
		for _, size := range []int{-1, -2, -mostTorn, math.MinInt, mostTorn + 1, mostTorn + 2, 1 << 20, 1 << 31, 1 << 32, 1<<32 + 3, math.MaxInt} {
			expectTorn(t, x, size, nil)
		}
	}
}

// notMade are tellers that New did not return.
func notMade() []*choice.Teller {
	var plain choice.Teller
	return []*choice.Teller{nil, {}, &plain, new(choice.Teller)}
}

func TestP122TellersThatNewDidNotReturn(t *testing.T) {
	for _, x := range notMade() {
		for range 3 {
			expectBusy(t, x, 0, 0)
			expectFails(t, x, false, false)
			expectTurns(t, x, 0, 0)
			expectTurns(t, x, -1, 5)
			for _, size := range []int{-1, 0, 1, 5, mostTorn, mostTorn + 1} {
				expectTorn(t, x, size, nil)
			}
			expectDone(t, x, 0, 0)
		}
	}
}

// ask asks everything that does not count as a request, and checks it.
func ask(t *testing.T, x *choice.Teller) {
	t.Helper()
	expectTurns(t, x, 5, 1, 9, 2)
	expectTurns(t, x, 0, 1, 0)
	expectTurns(t, x, 3, 1)
	expectTorn(t, x, 4, []byte{1, 2, 0xff, 1})
	expectTorn(t, x, mostTorn+1, nil)
}

func TestP122AskingChangesNothing(t *testing.T) {
	x := told(t, example, full())
	for i := range 10 {
		ask(t, x)
		expectBusy(t, x, busyAt(full(), i))
		ask(t, x)
		expectFails(t, x, slices.Contains(full().Fails, i))
		ask(t, x)
		expectDone(t, x, i+1, i+1)
	}
}

// steps are what a teller may be asked for; what each answers is put into a
// list of numbers.
func steps() []func(x *choice.Teller) []int {
	number := func(is bool) []int {
		if is {
			return []int{1}
		}
		return []int{0}
	}
	bytesOf := func(b []byte) []int {
		l := []int{len(b)}
		for _, v := range b {
			l = append(l, int(v))
		}
		return l
	}
	return []func(x *choice.Teller) []int{
		func(x *choice.Teller) []int { return []int{x.Busy()} },
		func(x *choice.Teller) []int { return number(x.Fails()) },
		func(x *choice.Teller) []int { return x.Turns(5, 1) },
		func(x *choice.Teller) []int { return x.Turns(9, 9) },
		func(x *choice.Teller) []int { return bytesOf(x.Torn(11)) },
		func(x *choice.Teller) []int { return bytesOf(x.Torn(-1)) },
		func(x *choice.Teller) []int { a, b := x.Done(); return []int{a, b} },
	}
}

func TestP123TwoTellersOfTheSameScript(t *testing.T) {
	for _, s := range []api.Script{{}, full(), {Busy: ascending(1, 50), Fails: ascending(3, 50), Turns: full().Turns, Torn: []byte{4}}} {
		for stride := 1; stride < 7; stride++ {
			first, second := told(t, example, s), told(t, example, cloned(s))
			for i := range 500 {
				step := steps()[i*stride%7]
				if a, b := step(first), step(second); !slices.Equal(a, b) {
					t.Errorf("step %d of stride %d answers %v, and of the other teller %v", i, stride, a, b)
				}
			}
		}
	}
}

// Whatever one of the tellers is asked between, the other one goes on from
// where it was.
func TestP123TellersAreApart(t *testing.T) {
	s := full()
	want := told(t, example, s)
	var answers [][]int
	for i := range 60 {
		answers = append(answers, steps()[i%7](want))
	}
	first, second := told(t, example, s), told(t, example, s)
	for i := range 60 {
		if got := steps()[i%7](first); !slices.Equal(got, answers[i]) {
			t.Errorf("step %d answers %v, not %v", i, got, answers[i])
		}
		for n := range i % 5 {
			second.Busy()
			second.Fails()
			second.Torn(n)
			clear(second.Turns(5, 1))
			clear(second.Torn(11))
		}
	}
	// A teller that is made late begins at the beginning.
	late := told(t, example, s)
	for i := range 60 {
		if got := steps()[i%7](late); !slices.Equal(got, answers[i]) {
			t.Errorf("step %d of a late teller answers %v, not %v", i, got, answers[i])
		}
	}
}

// What is asked of one kind has no part in the answers of another kind.
func TestP123AnswersDoNotHangOnTheOrder(t *testing.T) {
	first, second := told(t, example, full()), told(t, example, full())
	var busy, fails []int
	for range 12 {
		busy = append(busy, steps()[0](first)...)
	}
	for range 12 {
		fails = append(fails, steps()[1](first)...)
	}
	for i := range 12 {
		if got := steps()[1](second); got[0] != fails[i] {
			t.Errorf("Fails, time %d, is %d, not %d", i, got[0], fails[i])
		}
		if got := steps()[0](second); got[0] != busy[i] {
			t.Errorf("Busy, time %d, is %d, not %d", i, got[0], busy[i])
		}
	}
}

func TestP123ATellerDoesNotShareItsScript(t *testing.T) {
	s := full()
	x := told(t, example, s)
	for i := range s.Busy {
		s.Busy[i] = 99
	}
	for i := range s.Fails {
		s.Fails[i] = i * 2
	}
	for i := range s.Turns {
		s.Turns[i] = api.Turn{Row: 3, Rung: 1, Bit: 77}
	}
	for i := range s.Torn {
		s.Torn[i] = 0x55
	}
	clear(s.Marked)
	for i := range 12 {
		ask(t, x)
		expectTurns(t, x, 5, 0, 295)
		expectBusy(t, x, busyAt(full(), i))
		expectFails(t, x, slices.Contains(full().Fails, i))
	}
}

func TestP123AScriptThatIsChangedLater(t *testing.T) {
	s := full()
	x := told(t, example, s)
	for i := range 12 {
		s.Busy[i%5], s.Fails[i%4], s.Torn[i%3] = 1000+i, i, byte(i)
		s.Turns[i%4].Bit = 50 + i
		expectBusy(t, x, busyAt(full(), i))
		expectFails(t, x, slices.Contains(full().Fails, i))
		ask(t, x)
	}
}

func TestP123AnswersAreNewMemory(t *testing.T) {
	s := full()
	x := told(t, example, s)
	for range 3 {
		turns, torn := x.Turns(5, 1), x.Torn(3)
		for i := range turns {
			turns[i] = 66
		}
		for i := range torn {
			torn[i] = 0x66
		}
		ask(t, x)
		// What is put behind an answer does not come into another one.
		_ = append(x.Turns(5, 1)[:1], 66)
		_ = append(x.Torn(3)[:1], 0x66)
		ask(t, x)
	}
	if !equal(s, full()) {
		t.Errorf("the script is %v, not %v", s, full())
	}
	first, second := x.Turns(5, 1), x.Turns(5, 1)
	first[0] = 66
	if second[0] != 9 {
		t.Errorf("two answers of Turns share their memory")
	}
}
