package chip_test

import (
	"bytes"
	"math"
	"slices"
	"strings"
	"testing"

	"incunable/api"
	"incunable/array"
	"incunable/chip"
	"incunable/cycle"
)

// example is a geometry with 4 blocks in 2 planes, 16 rows, and raw pages of
// 37 bytes.
var example = api.Geom{Planes: 2, Blocks: 4, Pages: 4, Chunks: 1, Chunk: 4, Rungs: 3, Partial: 5}

// exampleSize is how many bytes its raw pages have.
const exampleSize = 37

// geometries are valid ones: the example, the least and the greatest one, and
// others between them.
func geometries() []api.Geom {
	return []api.Geom{
		example,
		{Planes: 1, Blocks: 2, Pages: 4, Chunks: 1, Chunk: 4, Rungs: 1, Partial: 1},
		{Planes: 4, Blocks: 256, Pages: 64, Chunks: 16, Chunk: 512, Rungs: 8, Partial: 8},
		{Planes: 3, Blocks: 9, Pages: 6, Chunks: 2, Chunk: 8, Rungs: 5, Partial: 4},
		{Planes: 1, Blocks: 7, Pages: 62, Chunks: 3, Chunk: 5, Rungs: 3, Partial: 2},
	}
}

// quiet is a script in which nothing happens.
func quiet() api.Script {
	return api.Script{Cut: -1}
}

// busy is a script in which nothing happens but these durations.
func busy(durations ...int) api.Script {
	return api.Script{Busy: durations, Cut: -1}
}

// failing is a script in which nothing happens, but these programs and erases
// fail, and leave the bytes 5a a5.
func failing(numbers ...int) api.Script {
	return api.Script{Fails: numbers, Torn: []byte{0x5a, 0xa5}, Cut: -1}
}

// started is a new chip.
func started(t *testing.T, g api.Geom, s api.Script) *chip.Chip {
	t.Helper()
	c, e := chip.New(g, s)
	if c == nil || e != api.OK {
		t.Fatalf("New(%v, %v) is %v, %d, not a chip and OK", g, s, c, e)
	}
	return c
}

// cycles are those of a text, between which any white space may stand.
func cycles(t *testing.T, text string) []api.Cycle {
	t.Helper()
	l, at, e := cycle.Parse(strings.Join(strings.Fields(text), " "))
	if e != api.OK {
		t.Fatalf("%q is no text of cycles at %d", text, at)
	}
	return l
}

// bench is a chip that is tested.
type bench struct {
	t *testing.T
	c *chip.Chip
}

// on is a bench with a new chip of the example.
func on(t *testing.T, s api.Script) bench {
	t.Helper()
	return bench{t, started(t, example, s)}
}

// run does the cycles of a text, and fails unless each Read returns the byte
// that stands in it, and each other cycle 0.
func (b bench) run(text string) {
	b.t.Helper()
	for i, x := range cycles(b.t, text) {
		var want byte
		if x.Kind == api.Read {
			want = x.B
		}
		if got, e := b.c.Do(x); got != want || e != api.OK {
			b.t.Fatalf("cycle %d of %q is %02x, %d, not %02x, OK", i, text, got, e, want)
		}
	}
}

// lose loses the power at the next cycle, and fails unless that is told.
func (b bench) lose() {
	b.t.Helper()
	b.c.Cut(0)
	b.lost(api.Cycle{Kind: api.Command, B: 0x70})
}

// lost fails unless the power is lost at this cycle, or is off.
func (b bench) lost(x api.Cycle) {
	b.t.Helper()
	if got, e := b.c.Do(x); got != 0xff || e != api.ErrPower || b.c.On() {
		b.t.Fatalf("%v is %02x, %d, and On %t, not ff, ErrPower, and false", x, got, e, b.c.On())
	}
}

// counts fails unless so many cycles and works were counted.
func (b bench) counts(cycles, work int) {
	b.t.Helper()
	if got := b.c.Cycles(); got != cycles {
		b.t.Errorf("Cycles is %d, not %d", got, cycles)
	}
	if got := b.c.Work(); got != work {
		b.t.Errorf("Work is %d, not %d", got, work)
	}
}

// torn fails unless these rows are torn, and no others.
func (b bench) torn(rows ...int) {
	b.t.Helper()
	for row := range 16 {
		if got, want := b.c.Array().Torn(row), slices.Contains(rows, row); got != want {
			b.t.Errorf("Torn(%d) is %t, not %t", row, got, want)
		}
	}
}

// programs fails unless the rows have been programmed so often; those that are
// not named have not.
func (b bench) programs(times map[int]int) {
	b.t.Helper()
	for row := range 16 {
		if got := b.c.Array().Programs(row); got != times[row] {
			b.t.Errorf("Programs(%d) is %d, not %d", row, got, times[row])
		}
	}
}

// erases fails unless the blocks have been erased so often.
func (b bench) erases(times ...int) {
	b.t.Helper()
	for block, want := range times {
		if got := b.c.Array().Erases(block); got != want {
			b.t.Errorf("Erases(%d) is %d, not %d", block, got, want)
		}
	}
}

// raw fails unless a row has these bytes, and bytes ff behind them.
func (b bench) raw(row int, first ...byte) {
	b.t.Helper()
	want := erased(exampleSize)
	copy(want, first)
	if got := b.c.Array().Raw(row); !bytes.Equal(got, want) {
		b.t.Errorf("row %d is % x, not % x", row, got, want)
	}
}

// rawTorn fails unless a row has the bytes 5a a5, again and again.
func (b bench) rawTorn(rows ...int) {
	b.t.Helper()
	want := bytes.Repeat([]byte{0x5a, 0xa5}, exampleSize)[:exampleSize]
	for _, row := range rows {
		if got := b.c.Array().Raw(row); !bytes.Equal(got, want) {
			b.t.Errorf("row %d is % x, not % x", row, got, want)
		}
	}
}

// untouched fails unless all rows and blocks are as those of a new chip.
func (b bench) untouched() {
	b.t.Helper()
	b.torn()
	b.programs(nil)
	b.erases(0, 0, 0, 0)
	for row := range 16 {
		b.raw(row)
	}
}

func TestP141Examples(t *testing.T) {
	on(t, busy(0)).run("cff c70 re0")
	on(t, quiet()).run("c90 a00 r49 r4e r02 r03 r05")
}

func TestP141NewChips(t *testing.T) {
	for _, g := range geometries() {
		last := g.Blocks - 1
		scripts := []api.Script{
			{},
			quiet(),
			{Cut: api.MaxCycles, Busy: []int{0, api.MaxBusy}, Fails: []int{0, 7, 1 << 62}, Torn: []byte{1}},
			{Cut: -1, Marked: []int{0, last}, Turns: []api.Turn{{}, {Row: g.Blocks*g.Pages - 1, Rung: g.Rungs - 1, Bit: rawSize(g)*8 - 1}}},
			{Cut: -1, Busy: make([]int, api.MaxScript), Turns: make([]api.Turn, api.MaxScript), Torn: make([]byte, api.MaxScript)},
		}
		for _, s := range scripts {
			w := born(t, "new", g, s)
			w.sameCounts()
			for _, row := range []int{0, 1, g.Pages, last * g.Pages, g.Blocks*g.Pages - 1} {
				w.sameRow(row)
			}
			if g.Blocks < 256 {
				w.same()
			}
			if got := w.c.Array().Raw(g.Blocks * g.Pages); len(got) > 0 {
				t.Errorf("the array of %v has too many rows", g)
			}
		}
	}
}

// wrongGeometries are the zero one, and others that differ from the example in
// one number, and are not valid.
func wrongGeometries() []api.Geom {
	all := []api.Geom{{}}
	change := func(f func(g *api.Geom)) {
		g := example
		f(&g)
		all = append(all, g)
	}
	for _, n := range []int{0, -1, math.MinInt, math.MaxInt, 513} {
		change(func(g *api.Geom) { g.Planes = n })
		change(func(g *api.Geom) { g.Blocks = n })
		change(func(g *api.Geom) { g.Pages = n })
		change(func(g *api.Geom) { g.Chunks = n })
		change(func(g *api.Geom) { g.Chunk = n })
		change(func(g *api.Geom) { g.Rungs = n })
		change(func(g *api.Geom) { g.Partial = n })
	}
	change(func(g *api.Geom) { g.Planes = 3 })
	change(func(g *api.Geom) { g.Pages = 5 })
	return all
}

// wrongScripts are some that are not valid for the example, for each reason
// that the chapter of layer 12 names.
func wrongScripts() []api.Script {
	const bits = exampleSize * 8
	tooMany := api.MaxScript + 1
	ascending := make([]int, tooMany)
	for i := range ascending {
		ascending[i] = i
	}
	return []api.Script{
		{Busy: make([]int, tooMany)},
		{Fails: ascending},
		{Turns: make([]api.Turn, tooMany)},
		{Torn: make([]byte, tooMany)},
		{Marked: ascending},
		{Busy: []int{0, -1}},
		{Busy: []int{api.MaxBusy + 1}},
		{Fails: []int{-1}},
		{Fails: []int{2, 2}},
		{Fails: []int{3, 2}},
		{Fails: []int{1<<62 + 1}},
		{Turns: []api.Turn{{Row: -1}}},
		{Turns: []api.Turn{{}, {Row: 16}}},
		{Turns: []api.Turn{{Rung: -1}}},
		{Turns: []api.Turn{{Rung: 3}}},
		{Turns: []api.Turn{{Bit: -1}}},
		{Turns: []api.Turn{{Bit: bits}}},
		{Cut: -2},
		{Cut: api.MaxCycles + 1},
		{Cut: math.MinInt},
		{Marked: []int{-1}},
		{Marked: []int{4}},
		{Marked: []int{1, 1}},
		{Marked: []int{1, 0}},
	}
}

func TestP141NewErrors(t *testing.T) {
	for _, s := range wrongScripts() {
		if c, e := chip.New(example, s); c != nil || e != api.ErrArg {
			t.Errorf("New(example, %v) is %v, %d, not nil and ErrArg", s, c, e)
		}
	}
	for _, g := range wrongGeometries() {
		for _, s := range []api.Script{{}, quiet(), {Marked: []int{0}}, {Cut: -2}} {
			if c, e := chip.New(g, s); c != nil || e != api.ErrArg {
				t.Errorf("New(%v, %v) is %v, %d, not nil and ErrArg", g, s, c, e)
			}
		}
	}
}

func TestP141NewSharesNoMemory(t *testing.T) {
	script := func() api.Script {
		return api.Script{
			Busy:   []int{1, 0, 2, 0},
			Fails:  []int{1},
			Turns:  []api.Turn{{Row: 5, Bit: 0}, {Row: 5, Bit: 9}},
			Cut:    -1,
			Torn:   []byte{0x5a, 0xa5},
			Marked: []int{1},
		}
	}
	s := script()
	w := born(t, "changed script", example, script())
	w.c = started(t, example, s)
	s.Busy[0], s.Busy[2] = 5, 5
	s.Fails[0] = 0
	s.Turns[0], s.Turns[1] = api.Turn{Row: 4}, api.Turn{Row: 5, Bit: 3}
	s.Torn[0], s.Torn[1] = 0, 0
	s.Marked[0] = 0
	w.text(`cff c70 r00 r00
		c80 a00 a00 a05 a00 w0f c10 c70 r00
		c00 a00 a00 a05 a00 c30 c70 r00 r00 r00 c00 r00 r00 r00
		c80 a00 a00 a06 a00 w0f c10 c70 r00`)
	w.same()
	if s.Busy[0] != 5 || s.Fails[0] != 0 || s.Turns[0].Row != 4 || s.Torn[0] != 0 || s.Marked[0] != 0 {
		t.Error("the chip changed the script")
	}
}

func TestP141ChipsBesideEachOther(t *testing.T) {
	a, b := on(t, quiet()), on(t, quiet())
	a.run("c80 a00 a00 a05 a00 w0f c10 c70 re0")
	b.untouched()
	b.counts(0, 0)
	b.run("rff c00 rff")
	b.lose()
	if !a.c.On() {
		t.Error("the power of another chip is off")
	}
	a.run("c00 a00 a00 a05 a00 c30 c70 re0 c00 r0f")
}

func TestP141InvalidCycles(t *testing.T) {
	invalid := []api.Cycle{{}, {Kind: 0, B: 0x70}, {Kind: 5}, {Kind: 5, B: 0xff}, {Kind: -1}, {Kind: math.MinInt}, {Kind: math.MaxInt, B: 0x70}}
	for _, setup := range setups() {
		for _, s := range []api.Script{troubled(0), troubled(2)} {
			w := born(t, setup, example, s)
			w.text(settled(t, setup, s))
			w.cut(3)
			for range 4 {
				for _, x := range invalid {
					if b, e := w.c.Do(x); b != 0 || e != api.ErrArg {
						t.Errorf("%v is %02x, %d, not 0, ErrArg", x, b, e)
					}
				}
			}
			w.same()
			// The Cut is still 3, and what is listed or pending is still so.
			w.text("c10 c70 r00 r00")
			w.same()
		}
	}
}

func TestP141CyclesCountsWhatIsExecuted(t *testing.T) {
	b := on(t, busy(2, 0))
	b.counts(0, 0)
	b.run("caa rff w00 a00")
	b.counts(4, 0)
	// What is ignored is executed, too.
	b.run("cff c00 a00 w00 rff")
	b.counts(9, 0)
	b.run("c70 r80 r80 re0")
	b.counts(13, 0)
	b.lose()
	b.counts(13, 0)
	b.lost(api.Cycle{Kind: api.Read})
	b.c.Power()
	b.counts(13, 0)
	b.run("rff")
	b.counts(14, 0)
}

func TestP141WorkCountsWhatTheTellerIsAskedFor(t *testing.T) {
	b := on(t, failing(1, 4))
	b.run("c80 a00 a00 a04 a00 c11 c80 a00 a00 a08 a00 c10")
	b.counts(12, 0)
	b.run("c70 re1")
	b.counts(14, 2)
	b.run("c00 a00 a00 a04 a00 c30 c70 re0")
	b.counts(22, 2)
	b.run("c60 a04 a00 cd1 c60 a08 a00 cd1 c60 a0c a00 cd0 c70 re1")
	b.counts(36, 5)
	// What is interrupted is not asked for.
	b.run("c80 a00 a00 a05 a00 c10 cff")
	b.counts(43, 5)
	b.run("c60 a04 a00 cd0")
	b.lose()
	b.counts(47, 5)
	b.c.Power()
	b.counts(47, 5)
	b.run("c80 a00 a00 a05 a00 c15 c70 re0")
	b.counts(55, 6)
}

func TestP141CutByTheScript(t *testing.T) {
	for _, cut := range []int{0, 1, 2, 5, 100} {
		b := on(t, api.Script{Cut: cut})
		for range cut {
			b.run("rff")
		}
		b.counts(cut, 0)
		if !b.c.On() {
			t.Errorf("with Cut %d the power is lost too early", cut)
		}
		b.lost(api.Cycle{Kind: api.Read})
		b.c.Power()
		for range 200 {
			b.run("rff")
		}
		b.counts(cut+200, 0)
	}
	b := on(t, quiet())
	for range 10000 {
		b.run("rff")
	}
}

func TestP141CutByTheFunction(t *testing.T) {
	for _, script := range []int{-1, 0, 3, 50} {
		for _, cut := range []int{0, 1, 2, 7, 40} {
			b := on(t, api.Script{Cut: script})
			b.c.Cut(cut)
			for range cut {
				b.run("rff")
			}
			b.lost(api.Cycle{Kind: api.Write, B: 7})
			b.counts(cut, 0)
		}
	}
}

func TestP141CutNever(t *testing.T) {
	for _, never := range []int{-1, -2, -1000, math.MinInt} {
		b := on(t, api.Script{Cut: 2})
		b.run("rff")
		b.c.Cut(never)
		for range 1000 {
			b.run("rff")
		}
		b.counts(1001, 0)
	}
	b := on(t, api.Script{Cut: 0})
	b.c.Cut(math.MaxInt)
	b.run("rff rff rff")
}

func TestP141CutTwice(t *testing.T) {
	b := on(t, quiet())
	b.c.Cut(5)
	b.run("rff rff")
	b.c.Cut(1)
	b.run("rff")
	b.lost(api.Cycle{Kind: api.Read})
	b.c.Power()
	b.run("rff rff rff rff rff")
	b.c.Cut(2)
	b.run("rff rff")
	b.lost(api.Cycle{Kind: api.Command, B: 0xff})
	b.c.Power()
	b.run("rff rff rff")
	b.c.Cut(2)
	b.c.Cut(2)
	b.run("rff")
	b.c.Cut(2)
	b.run("rff rff")
	b.lost(api.Cycle{Kind: api.Address})
}

// longer is a text with every kind of work, and every way to wait for it, for
// a chip of the example.
const longer = `cff c70 r00 r00 r00 c90 a00 r00 r00 r00 r00 r00
	cec a00 c70 r00 r00 r00 c00 r00 r00 r00 cef a89 w01 w00 w00 w00 c70 r00 r00 r00
	c80 a00 a00 a05 a00 w0f w33 c10 c70 r00 r00 r00 c00 a00 a00 a05 a00 c30 c70 r00 r00 r00 c00 r00 r00
	c05 a01 a00 ce0 r00 r00
	c80 a00 a00 a0c a00 w77 c15 c70 r00 r00 c80 a00 a00 a0d a00 w66 c15 c70 r00 r00 r00
	c80 a00 a00 a0e a00 w55 c10 c70 r00 r00 r00
	c80 a00 a00 a07 a00 w44 c11 c70 r00 r00 r00 c80 a00 a00 a0b a00 w22 c10 c70 r00 r00 r00
	c60 a04 a00 cd1 c70 r00 r00 r00 c60 a08 a00 cd0 c70 r00 r00 r00
	c60 a00 a00 cd0 c70 r00 r00 r00`

func TestP141CutAtEachCycle(t *testing.T) {
	text := cycles(t, longer)
	for cut := range len(text) + 1 {
		for _, duration := range []int{0, 1, 2} {
			for _, byScript := range []bool{true, false} {
				s := troubled(duration)
				if byScript {
					s.Cut = cut
				}
				w := born(t, "cut", example, s)
				if !byScript {
					w.cut(cut)
				}
				w.do(text...)
				w.same()
				if w.c.On() != (cut == len(text)) {
					t.Fatalf("On is %t after a Cut of %d", w.c.On(), cut)
				}
				w.power()
				w.sameCounts()
				w.do(text...)
				w.same()
			}
		}
	}
}

func TestP141PowerOnAgain(t *testing.T) {
	// Each line leaves something that is to be gone, and then looks for it.
	for _, x := range []struct{ before, after string }{
		{"", "rff"},
		{"c70", "rff c70 re0"},
		{"c90 a00", "rff"},
		{"c90 a00 r49", "rff"},
		{"c90", "a00 rff"},
		{"cec a00", "c00 rff rff rff rff"},
		{"cec a00 c00 r02 r00", "rff c00 rff"},
		{"cec", "a00 c00 rff"},
		{"cef a89 w02 w00 w00 w00", "c00 a00 a00 a05 a00 c30 c70 re0 c00 rfe rff"},
		{"cef a89 w02 w00 w00", "w00 c00 a00 a05 a00 c30 c70 re0 c00 rff"},
		{"c00 a00 a00 a05", "a00 c30 c70 re0 c00 rff"},
		{"c00 a00 a00 a05 a00", "c30 c70 re0 c00 rff"},
		{"c00 a00 a00 a05 a00 c30", "c70 re0 c00 rff rff"},
		{"c00 a00 a00 a05 a00 c30 c70 re0 c00 rfe", "c00 rff rff"},
		{"c80 a00 a00 a05 a00 w00 w00", "w00 c10 c70 re0 c00 rff rff rff"},
		{"c80 a00 a00 a09 a00 w00 c11", "c80 a00 a00 a0d a00 c10 c70 re0"},
		{"c60 a09 a00", "cd0 c70 re0"},
		{"c60 a09 a00 cd1", "c60 a0d a00 cd0 c70 re0"},
		{"c05 a03 a00", "ce0 rff"},
		{"c80 a00 a00 a00 a00 w00 w11 w22 c05 a01 a00 ce0 r11", "rff c00 rff"},
	} {
		b := on(t, api.Script{Cut: -1, Turns: []api.Turn{{Row: 5, Rung: 0, Bit: 0}, {Row: 5, Rung: 2, Bit: 1}}})
		b.run(x.before)
		b.lose()
		b.c.Power()
		if !b.c.On() {
			t.Fatal("the power is not on")
		}
		b.run(x.after)
		b.torn()
		for row := range 12 {
			b.raw(row)
		}
		b.erases(0, 0, 0)
	}
}

func TestP141PowerOnAgainIsNotBusy(t *testing.T) {
	b := on(t, busy(9, 0, 9))
	b.run("cff")
	b.lose()
	b.c.Power()
	b.run("c70 re0 c90 a00 r49")
	b.run("cff c70 re0 cff")
	b.lose()
	b.c.Power()
	b.run("c00 rff c70 re0")
}

func TestP141PowerOnAgainHasNotFailed(t *testing.T) {
	b := on(t, failing(0, 1))
	b.run("c80 a00 a00 a05 a00 c15 c80 a00 a00 a06 a00 c10 c70 re3")
	b.lose()
	b.c.Power()
	b.run("c70 re0")
}

func TestP141PowerThatIsOn(t *testing.T) {
	for _, setup := range setups() {
		for _, s := range []api.Script{troubled(0), troubled(2)} {
			w := born(t, setup, example, s)
			w.text(settled(t, setup, s))
			w.cut(40)
			w.c.Power()
			w.same()
			w.text("r00 a00 w00 c10 c70 r00")
			w.c.Power()
			w.text("r00 r00 r00 c00 r00 r00 c80 a00 a00 a0f a00 c10 c70")
			w.c.Power()
			w.text(longer)
			w.same()
			if w.c.On() {
				t.Error("Power has changed the Cut")
			}
		}
	}
}

func TestP141ArrayIsTheChipsOwn(t *testing.T) {
	b := on(t, quiet())
	raw := erased(exampleSize)
	raw[0] = 0x12
	if e := b.c.Array().Program(5, raw); e != api.OK {
		t.Fatal(e)
	}
	b.run("c00 a00 a00 a05 a00 c30 c70 re0 c00 r12 rff")
	a := b.c.Array()
	b.run("c60 a04 a00 cd0 c70 re0")
	if a.Erases(1) != 1 || a.Raw(5)[0] != 0xff {
		t.Error("an array that was asked for is another one")
	}
	b.lose()
	if b.c.Array() != a {
		t.Error("the array is another one while the power is off")
	}
	b.c.Power()
	if b.c.Array() != a {
		t.Error("the array is another one when the power is on again")
	}
}

// TestP141RegisterIsNotTheArray looks whether the array keeps what the
// register had when a row was programmed, and the other way round.
func TestP141RegisterIsNotTheArray(t *testing.T) {
	b := on(t, quiet())
	b.run("c80 a00 a00 a05 a00 w0f c10 c70 re0 c80 a00 a00 a06 a00 w33 c10 c70 re0")
	b.raw(5, 0x0f)
	b.raw(6, 0x33)
	b.run("c00 a00 a00 a05 a00 c30 c70 re0 c60 a04 a00 cd0 c70 re0 c00 r0f")
	b.raw(5)
	clear(b.c.Array().Raw(7))
	b.run("c00 a00 a00 a07 a00 c30 c70 re0 c00 rff")
}

func TestP141NoChip(t *testing.T) {
	var none *chip.Chip
	for _, c := range []*chip.Chip{none, {}, new(chip.Chip)} {
		for range 2 {
			for _, kind := range []int{api.Command, api.Address, api.Write, api.Read, 0, 5, -1} {
				for _, v := range []byte{0, 0x70, 0xff} {
					if b, e := c.Do(api.Cycle{Kind: kind, B: v}); b != 0 || e != api.ErrNil {
						t.Errorf("Do is %02x, %d, not 0, ErrNil", b, e)
					}
				}
			}
			var noArray *array.Array
			if c.On() || c.Array() != noArray || c.Cycles() != 0 || c.Work() != 0 {
				t.Errorf("%t, %v, %d, %d are not all nothing", c.On(), c.Array(), c.Cycles(), c.Work())
			}
			c.Power()
			c.Cut(0)
			c.Cut(-1)
			c.Cut(7)
		}
	}
}

// image is all that can be seen of a chip without a cycle.
type image struct {
	raws         [][]byte
	programs     []int
	torn         []bool
	erases       []int
	cycles, work int
	on           bool
}

// seen is what can be seen of a chip of the example.
func seen(c *chip.Chip) image {
	i := image{cycles: c.Cycles(), work: c.Work(), on: c.On()}
	for row := range 16 {
		i.raws = append(i.raws, c.Array().Raw(row))
		i.programs = append(i.programs, c.Array().Programs(row))
		i.torn = append(i.torn, c.Array().Torn(row))
	}
	for block := range 4 {
		i.erases = append(i.erases, c.Array().Erases(block))
	}
	return i
}

// same tells whether two images are the same, but for the number of cycles.
func (i image) same(j image) bool {
	return slices.EqualFunc(i.raws, j.raws, bytes.Equal) &&
		slices.Equal(i.programs, j.programs) &&
		slices.Equal(i.torn, j.torn) &&
		slices.Equal(i.erases, j.erases) &&
		i.work == j.work && i.on == j.on
}

func TestP142NothingChangesWhileThePowerIsOff(t *testing.T) {
	for _, setup := range setups() {
		for _, s := range []api.Script{troubled(0), troubled(2)} {
			w := born(t, setup, example, s)
			w.text(settled(t, setup, s))
			w.cut(0)
			w.text("c70")
			before := seen(w.c)
			for _, kind := range []int{api.Command, api.Address, api.Write, api.Read, 0, 5, -1, math.MaxInt} {
				for v := range 256 {
					if b, e := w.c.Do(api.Cycle{Kind: kind, B: byte(v)}); b != 0xff || e != api.ErrPower {
						t.Fatalf("with the power off, kind %d, byte %02x is %02x, %d", kind, v, b, e)
					}
				}
			}
			w.text(longer)
			if after := seen(w.c); !after.same(before) || after.cycles != before.cycles {
				t.Fatalf("after %q something changed while the power was off", setup)
			}
			// It is as if nothing had been sent.
			w.power()
			w.text("r00 c00 r00 r00 c70 r00 r00")
			w.text(longer)
			w.same()
		}
	}
}

// TestP142CutWhileOff sets Cuts while the power is off, which was lost by the
// script or by another Cut: none of them counts when the power is on again.
func TestP142CutWhileOff(t *testing.T) {
	for _, lost := range []int{0, 3} {
		for _, byScript := range []bool{true, false} {
			for _, cuts := range [][]int{{0}, {1}, {2}, {7}, {-1}, {math.MinInt}, {math.MaxInt}, {0, 5}, {5, -1}, {-1, 0}} {
				s := quiet()
				if byScript {
					s.Cut = lost
				}
				b := on(t, s)
				if !byScript {
					b.c.Cut(lost)
				}
				for range lost {
					b.run("rff")
				}
				b.lost(api.Cycle{Kind: api.Read})
				for _, n := range cuts {
					b.c.Cut(n)
					b.lost(api.Cycle{Kind: api.Command, B: 0x70})
				}
				b.c.Power()
				for range 100 {
					b.run("rff")
				}
				b.counts(lost+100, 0)
				// With the power on, a Cut counts, also beside Power.
				b.c.Cut(2)
				b.c.Power()
				b.run("rff rff")
				b.lost(api.Cycle{Kind: api.Read})
				b.c.Cut(0)
				b.c.Power()
				b.c.Cut(1)
				b.run("rff")
				b.lost(api.Cycle{Kind: api.Read})
			}
		}
	}
}

func TestP142ReadsAddressesAndWritesChangeNoRow(t *testing.T) {
	for _, setup := range setups() {
		for _, s := range []api.Script{troubled(0), troubled(2)} {
			for _, kind := range []int{api.Address, api.Write, api.Read} {
				w := born(t, setup, example, s)
				w.text(settled(t, setup, s))
				if kind == api.Read && (w.o.pending() || len(w.o.behind) > 0) {
					continue
				}
				before := seen(w.c)
				for v := range 512 {
					w.do(api.Cycle{Kind: kind, B: byte(v)})
				}
				if !seen(w.c).same(before) {
					t.Errorf("after %q cycles of the kind %d changed a row", setup, kind)
				}
			}
		}
	}
}

// TestP142PendingWork looks at which Read it is that changes a row.
func TestP142PendingWork(t *testing.T) {
	b := on(t, busy(2, 2))
	b.run("c80 a00 a00 a05 a00 w0f c10")
	b.untouched()
	b.run("a00 w00 c00 a00 w00 c70 a00 w00 r80 r80")
	b.untouched()
	b.run("a00 w00 cff")
	b.torn(4, 5)

	b = on(t, quiet())
	b.run("c80 a00 a00 a05 a00 w0f c10 a00 w00")
	b.untouched()
	b.run("re0")
	b.raw(5, 0x0f)
	b.programs(map[int]int{5: 1})
	before := seen(b.c)
	b.run("re0 re0")
	if !seen(b.c).same(before) {
		t.Error("a second poll changed a row")
	}
}
