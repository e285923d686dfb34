package judge_test

import (
	"math"
	"slices"
	"strings"
	"testing"

	"incunable/api"
	"incunable/cycle"
	"incunable/judge"
)

// example is a geometry with 4 blocks in 2 planes, 16 rows, and raw pages of
// 37 bytes. The blocks 0 and 2 belong to one plane, 1 and 3 to the other one;
// their first rows are 00, 04, 08 and 0c.
var example = api.Geom{Planes: 2, Blocks: 4, Pages: 4, Chunks: 1, Chunk: 4, Rungs: 3, Partial: 2}

// greatest is the greatest geometry, with 4 planes, 16384 rows, and raw pages
// of 8255 bytes.
var greatest = api.Geom{Planes: 4, Blocks: 256, Pages: 64, Chunks: 16, Chunk: 512, Rungs: 8, Partial: 8}

// geometries are valid ones: the example, the least and the greatest one, and
// others between them.
func geometries() []api.Geom {
	return []api.Geom{
		example,
		{Planes: 1, Blocks: 2, Pages: 4, Chunks: 1, Chunk: 4, Rungs: 1, Partial: 1},
		greatest,
		{Planes: 3, Blocks: 9, Pages: 6, Chunks: 2, Chunk: 8, Rungs: 5, Partial: 4},
		{Planes: 4, Blocks: 8, Pages: 4, Chunks: 1, Chunk: 4, Rungs: 2, Partial: 1},
		{Planes: 1, Blocks: 7, Pages: 62, Chunks: 3, Chunk: 5, Rungs: 3, Partial: 3},
	}
}

// The parts of texts of cycles: reset resets the chip and waits for it, done
// waits, and all erases the four blocks of the example.
const (
	reset = "cff c70 re0 "
	done  = "c70 re0 "
	all   = reset + "c60 a00 a00 cd1 " + done + "c60 a04 a00 cd0 " + done + "c60 a08 a00 cd1 " + done + "c60 a0c a00 cd0 " + done
)

// loads loads a byte for a row of the example, from the column 0 on.
func loads(row string) string {
	return "c80 a00 a00 a" + row + " a00 w12 "
}

// programs programs a row of the example.
func programs(row string) string {
	return loads(row) + "c10 " + done
}

// blocks names the block of a row of the example as one to be erased.
func blocks(row string) string {
	return "c60 a" + row + " a00 "
}

// erases erases the block of a row of the example.
func erases(row string) string {
	return blocks(row) + "cd0 " + done
}

// reads reads a row of the example from a column on.
func reads(column, row string) string {
	return "c00 a" + column + " a00 a" + row + " a00 c30 " + done
}

// cycles are those of a text, between which any white space may stand.
func cycles(t *testing.T, text string) []api.Cycle {
	t.Helper()
	l, at, e := cycle.Parse(strings.Join(strings.Fields(text), " "))
	if e != api.OK {
		t.Fatalf("%q is no text of cycles at %d", text, at)
	}
	return l
}

// started is a new judge.
func started(t *testing.T, g api.Geom) *judge.Judge {
	t.Helper()
	j, e := judge.New(g)
	if j == nil || e != api.OK {
		t.Fatalf("New(%v) is %v, %d, not a judge and OK", g, j, e)
	}
	return j
}

// court is a judge that is tested.
type court struct {
	t *testing.T
	j *judge.Judge
}

// of is a court with a new judge of a geometry.
func of(t *testing.T, g api.Geom) court {
	t.Helper()
	return court{t, started(t, g)}
}

// behind is a court with a judge of the example that has accepted a text.
func behind(t *testing.T, text string) court {
	t.Helper()
	c := of(t, example)
	c.takes(text)
	return c
}

// takes fails unless all cycles of a text are accepted.
func (c court) takes(text string) {
	c.t.Helper()
	for i, x := range cycles(c.t, text) {
		if !c.j.Step(x) {
			c.t.Fatalf("cycle %d of %q is rejected", i, text)
		}
	}
}

// refuses fails unless each cycle of a text is rejected.
func (c court) refuses(text string) {
	c.t.Helper()
	for i, x := range cycles(c.t, text) {
		if c.j.Step(x) {
			c.t.Fatalf("cycle %d of %q is accepted", i, text)
		}
	}
}

// busy fails unless Busy is as it should be.
func (c court) busy(want bool) {
	c.t.Helper()
	if got := c.j.Busy(); got != want {
		c.t.Errorf("Busy is %t, not %t", got, want)
	}
}

// can fails unless these rows of the example can be programmed, and no others.
func (c court) can(rows ...int) {
	c.t.Helper()
	for row := -20; row < 300; row++ {
		if got, want := c.j.Can(row), slices.Contains(rows, row); got != want {
			c.t.Errorf("Can(%d) is %t, not %t", row, got, want)
		}
	}
	for _, row := range []int{math.MinInt, -1 << 32, 1 << 16, 1<<16 + 4, 1 << 32, math.MaxInt} {
		if c.j.Can(row) {
			c.t.Errorf("Can(%d) is true", row)
		}
	}
}

// from are the rows of the example from first to last.
func from(first, last int) []int {
	var l []int
	for row := first; row <= last; row++ {
		l = append(l, row)
	}
	return l
}

func TestP151Examples(t *testing.T) {
	of(t, example).takes("cff")
	of(t, example).refuses("c70")
}

func TestP151NewJudges(t *testing.T) {
	for _, g := range geometries() {
		c := of(t, g)
		c.busy(false)
		for row := -3; row < g.Blocks*g.Pages+3; row++ {
			if c.j.Can(row) {
				t.Fatalf("a new judge of %v lets row %d be programmed", g, row)
			}
		}
		c.takes(reset + "c90 a00")
	}
}

// wrongGeometries are the zero one, and others that differ from the example in
// one number, and are not valid.
func wrongGeometries() []api.Geom {
	all := []api.Geom{{}}
	change := func(f func(g *api.Geom)) {
		g := example
		f(&g)
		all = append(all, g)
	}
	for _, n := range []int{0, -1, math.MinInt, math.MaxInt, 513} {
		change(func(g *api.Geom) { g.Planes = n })
		change(func(g *api.Geom) { g.Blocks = n })
		change(func(g *api.Geom) { g.Pages = n })
		change(func(g *api.Geom) { g.Chunks = n })
		change(func(g *api.Geom) { g.Chunk = n })
		change(func(g *api.Geom) { g.Rungs = n })
		change(func(g *api.Geom) { g.Partial = n })
	}
	change(func(g *api.Geom) { g.Planes = 3 })
	change(func(g *api.Geom) { g.Planes, g.Blocks = 5, 10 })
	change(func(g *api.Geom) { g.Planes, g.Blocks = 1, 1 })
	change(func(g *api.Geom) { g.Blocks = 258 })
	change(func(g *api.Geom) { g.Pages = 2 })
	change(func(g *api.Geom) { g.Pages = 5 })
	change(func(g *api.Geom) { g.Pages = 66 })
	change(func(g *api.Geom) { g.Chunks = 17 })
	change(func(g *api.Geom) { g.Chunk = 3 })
	change(func(g *api.Geom) { g.Rungs = 9 })
	change(func(g *api.Geom) { g.Partial = 9 })
	return all
}

func TestP151NewErrors(t *testing.T) {
	for _, g := range wrongGeometries() {
		if j, e := judge.New(g); j != nil || e != api.ErrArg {
			t.Errorf("New(%v) is %v, %d, not nil and ErrArg", g, j, e)
		}
	}
}

func TestP151JudgesBesideEachOther(t *testing.T) {
	a, b := of(t, example), of(t, example)
	a.takes(all + programs("04"))
	b.busy(false)
	b.can()
	b.refuses("c70")
	a.takes("c80")
	b.j.Power()
	b.takes("cff")
	a.busy(false)
	b.busy(true)
	a.takes("a00 a00 a04 a00 w12 c15")
	a.can(0, 1, 2, 3, 5, 6, 7, 8, 9, 10, 11, 12, 13, 14, 15)
	b.can()
}

// situation is what a judge of the example has seen, and what it accepts then.
type situation struct {
	// before is what was sent, all of which is accepted.
	before string
	// accepts are the cycles that may follow, besides ff and 70; two stars
	// stand for every byte.
	accepts string
}

// fits tells whether a cycle is among those that a situation accepts.
func (s situation) fits(x api.Cycle) bool {
	const digits = "0123456789abcdef"
	letters := map[int]string{api.Command: "c", api.Address: "a", api.Write: "w", api.Read: "r"}
	letter, ok := letters[x.Kind]
	if !ok {
		return false
	}
	words := strings.Fields(s.accepts)
	return slices.Contains(words, letter+"**") ||
		slices.Contains(words, letter+digits[x.B>>4:x.B>>4+1]+digits[x.B&15:x.B&15+1])
}

// kinds are those of cycles, and some that there are not.
var kinds = [...]int{api.Command, api.Address, api.Write, api.Read, 0, 5, -1, 257, math.MinInt, math.MaxInt}

// opens are the commands that open an operation while there is no data.
const opens = " c90 cec cef c00 c80 c60 "

// ends are the commands that end a load.
const ends = " c10 c11 c15 "

// asleep is the one situation in which Command 70 is not accepted.
const asleep = ""

// basics are situations of a chip with nothing in the background, nothing
// named, and no program.
func basics() []situation {
	const (
		told   = reset + "c90 a00 "
		params = reset + "cec a00 " + done
	)
	page := all + reads("00", "05")
	out36 := "c00 " + strings.Repeat("r00 ", 36)
	return []situation{
		// Busy, and polled.
		{"cff", ""},
		{"cff cff", ""},
		{"cff c70", "r**"},
		{"cff c70 c70", "r**"},
		{"cff c70 r00", "r**"},
		{"cff c70 r80", "r**"},
		{"cff c70 rbf", "r**"},
		{"cff c70 r3f", "r**"},
		{"cff c70 r80 r80 r80", "r**"},
		{"cff c70 r40", "r**" + opens},
		{"cff c70 r60", "r**" + opens},
		{"cff c70 r41", "r**" + opens},
		{"cff c70 rc0", "r**" + opens},
		{"cff c70 re0", "r**" + opens},
		{"cff c70 re1", "r**" + opens},
		{"cff c70 re2", "r**" + opens},
		{"cff c70 rff", "r**" + opens},
		{"cff c70 re0 r80", "r**" + opens},
		{"cff c70 re0 r00 rbf", "r**" + opens},
		{"cff c70 re0 c70", "r**" + opens},
		{"cff c70 re0 cff", ""},
		{"cff c70 re0 cff c70", "r**"},

		// ID.
		{reset + "c90", "a00"},
		{told, "r**" + opens},
		{told + "r49 r4e", "r**" + opens},
		{told + "r49 r4e r02 r03", "r**" + opens},
		{told + "r49 r4e r02 r03 r02", opens},
		{told + "r49 r4e r02 r03 r02 c90", "a00"},
		{told + "r49 r4e r02 r03 r02 c90 a00", "r**" + opens},
		{told + "c70", "r**" + opens},
		{told + "r49 c70 r80 r80 r80 r80 r80", "r**" + opens},
		{reset + "c90 c70", "r**" + opens},
		{told + "cff", ""},

		// Parameters, and what data lets be done.
		{reset + "cec", "a00"},
		{reset + "cec c70", "r**" + opens},
		{reset + "cec a00", ""},
		{reset + "cec a00 c70", "r**"},
		{params, "r**" + opens + "c05"},
		{params + "c70", "r**" + opens + "c05"},
		{params + "c90", "a00"},
		{params + "c90 a00", "r**" + opens},
		{params + "cec", "a00"},
		{params + "cef", "a89"},
		{params + "c80", "a**"},
		{params + "c60", "a**"},
		{params + "c90 c70", "r**" + opens},
		{params + "cec c70", "r**" + opens},
		{params + "cef c70", "r**" + opens},
		{params + "c80 c70", "r**" + opens},
		{params + "c60 c70", "r**" + opens},
		{params + "c00 c70", "r**" + opens + "c05"},
		{params + "c05 c70", "r**" + opens + "c05"},
		{params + "c05 a00 c70", "r**" + opens + "c05"},
		{params + "c05 a00 a00 c70", "r**" + opens + "c05"},
		{params + "c00 c00", "a** r**" + opens + "c05"},
		{params + "c00 c05", "a**"},
		{params + "c00 c60", "a**"},
		{params + "cff c70 re0", "r**" + opens},

		// Feature.
		{reset + "cef", "a89"},
		{reset + "cef a89", "w**"},
		{reset + "cef a89 w01", "w**"},
		{reset + "cef a89 w01 w00 w00", "w**"},
		{reset + "cef a89 w01 w00 w00 w00", ""},
		{reset + "cef a89 wff wff wff wff", ""},
		{reset + "cef a89 w01 w00 w00 w00 c70", "r**"},
		{reset + "cef a89 w01 w00 w00 w00 " + done, "r**" + opens},
		{reset + "cef a89 w01 w00 w00 c70", "r**" + opens},
		{reset + "cef a89 w01 c70 cef a89 w01 w00 w00", "w**"},

		// Fetch without data, and its addresses.
		{reset + "c00", "a**"},
		{reset + "c00 a00", "a**"},
		{reset + "c00 aff", "a**"},
		{reset + "c00 a00 a00", "a**"},
		{reset + "c00 a24 a00 a00", "a00"},
		{reset + "c00 a25 a00 a00", ""},
		{reset + "c00 aff a00 a00", ""},
		{reset + "c00 a00 a01 a00", ""},
		{reset + "c00 a00 aff a00", ""},
		{reset + "c00 a00 a00 a0f", "a00"},
		{reset + "c00 a00 a00 a10", ""},
		{reset + "c00 a00 a00 aff", ""},
		{reset + "c00 a25 a00 a10", ""},
		{reset + "c00 a00 a00 a05 a00", "c30"},
		{reset + "c00 a24 a00 a0f a00", "c30"},
		{reset + "c00 a00 a00 a05 a00 c70", "r**" + opens},
		{reset + "c00 a00 a00 a05 a00 c30", ""},
		{reset + "c00 a00 a00 a05 a00 c30 c70", "r**"},
		{reset + "c00 a00 a00 a05 a00 c30 " + done, "r**" + opens + "c05"},

		// Fetch with data, and Out.
		{page + "c00", "a** r**" + opens + "c05"},
		{page + "c00 a00", "a**"},
		{page + "c00 a00 c70", "r**" + opens},
		{page + "c00 a00 c70 c00", "a**"},
		{page + "c00 a24 a00 a0f a00", "c30"},
		{page + "c00 r12", "r**" + opens + "c05"},
		{page + "c00 r12 c00", "a** r**" + opens + "c05"},
		{page + "c00 r12 c70", "r**" + opens + "c05"},
		{page + "c00 r12 c70 re0 r80 c00", "a** r**" + opens + "c05"},
		{page + out36, "r**" + opens + "c05"},
		{page + out36 + "rff", opens + "c05"},
		{page + out36 + "rff c00", "a**" + opens + "c05"},
		{page + out36 + "rff c70", "r**" + opens + "c05"},
		{page + out36 + "rff c70 c00", "a**" + opens + "c05"},
		{page + out36 + "c70 re0 c00", "a** r**" + opens + "c05"},
		{page + out36 + "c70 re0 c00 rff", opens + "c05"},
		{params + out36 + "rff", opens + "c05"},
		{page + out36 + "rff cec a00 " + done + out36, "r**" + opens + "c05"},
		{all + reads("24", "05") + "c00", "a** r**" + opens + "c05"},
		{all + reads("24", "05") + "c00 rff", opens + "c05"},
		{all + reads("23", "05") + "c00 rff", "r**" + opens + "c05"},
		{all + reads("23", "05") + "c00 rff rff", opens + "c05"},
		{page + "c90 a00 r49", "r**" + opens},

		// Move.
		{page + "c05", "a**"},
		{page + "c05 a23", "a00"},
		{page + "c05 a24", "a00"},
		{page + "c05 a25", ""},
		{page + "c05 aff", ""},
		{page + "c05 a24 a00", "ce0"},
		{page + "c05 a24 a00 ce0", "r**" + opens + "c05"},
		{page + "c05 a24 a00 ce0 rff", opens + "c05"},
		{page + "c05 a23 a00 ce0 rff", "r**" + opens + "c05"},
		{page + "c05 a23 a00 ce0 rff rff", opens + "c05"},
		{page + out36 + "rff c05 a24 a00 ce0", "r**" + opens + "c05"},
		{page + out36 + "rff c05 a24 a00 ce0 c05 a00 a00 ce0 " + out36, "r**" + opens + "c05"},
		// Only e0 moves the column.
		{page + out36 + "rff c05 a00 a00 c70 c00", "a**" + opens + "c05"},
		{page + "c05 a24 a00 c70 c00 rff", "r**" + opens + "c05"},

		// Erase.
		{reset + "c60", "a**"},
		{reset + "c60 a00", "a00"},
		{reset + "c60 a0f", "a00"},
		{reset + "c60 a10", ""},
		{reset + "c60 aff", ""},
		{reset + "c60 a0f a00", "cd0 cd1"},
		{reset + "c60 a04 a00", "cd0 cd1"},
		{reset + "c60 a04 a00 c70", "r**" + opens},
		{reset + "c60 a04 a00 cd0", ""},
		{reset + "c60 a04 a00 cd0 c70", "r**"},
		{reset + "c60 a04 a00 cd0 c70 r81", "r**"},
		{reset + "c60 a04 a00 cd0 c70 rc0", "r**" + opens},
		{reset + "c60 a04 a00 cd0 c70 re1", "r**" + opens},
		{reset + "c60 a04 a00 cd0 c70 re1 c60 a04 a00", "cd0 cd1"},
		{reset + "c60 a04 a00 cd0 cff", ""},
		{page + "c60 a04 a00 cd0 " + done, "r**" + opens},
	}
}

// erasing are situations in which blocks are named, or being erased.
func erasing() []situation {
	const named = reset + "c60 a05 a00 cd1 "
	return []situation{
		{named, ""},
		{named + "c70", "r**"},
		{named + "c70 r80", "r**"},
		{named + "c70 rc0", "r** c60"},
		{named + done, "r** c60"},
		{named + "c70 re1", "r** c60"},
		{named + done + "c60", "a**"},
		{named + done + "c60 a00", "a00"},
		{named + done + "c60 c70", "r** c60"},
		{named + done + "c60 a00 a00 c70", "r** c60"},
		// Block 1 is named: 0 and 2 belong to the other plane.
		{named + done + "c60 a00 a00", "cd0 cd1"},
		{named + done + "c60 a03 a00", "cd0 cd1"},
		{named + done + "c60 a08 a00", "cd0 cd1"},
		{named + done + "c60 a04 a00", ""},
		{named + done + "c60 a05 a00", ""},
		{named + done + "c60 a0c a00", ""},
		{named + done + "c60 a0f a00", ""},
		// Both planes have a block.
		{named + done + "c60 a08 a00 cd1", ""},
		{named + done + "c60 a08 a00 cd1 " + done, "r** c60"},
		{named + done + "c60 a08 a00 cd1 " + done + "c60 a00 a00", ""},
		{named + done + "c60 a08 a00 cd1 " + done + "c60 a04 a00", ""},
		{named + done + "c60 a08 a00 cd1 " + done + "c60 a08 a00", ""},
		{named + done + "c60 a08 a00 cd1 " + done + "c60 a0c a00", ""},
		// After d0, none is named.
		{named + done + "c60 a08 a00 cd0", ""},
		{named + done + "c60 a08 a00 cd0 " + done, "r**" + opens},
		{named + done + "c60 a08 a00 cd0 " + done + "c60 a04 a00", "cd0 cd1"},
		{named + done + "c60 a08 a00 cd0 " + done + "c60 a08 a00", "cd0 cd1"},
		{reset + "c60 a04 a00 cd0 " + done + "c60 a0c a00", "cd0 cd1"},
		{reset + "c60 a04 a00 cd0 " + done + "c60 a0c a00 cd1 " + done + "c60 a00 a00", "cd0 cd1"},
		// ff ends what is named.
		{named + reset, "r**" + opens},
		{named + reset + "c60 a04 a00", "cd0 cd1"},
		{named + done + "c60 a08 a00 " + reset, "r**" + opens},
	}
}

// loading are situations of a load, with blocks that are erased or not, and
// nothing in the background or named.
func loading() []situation {
	w36 := strings.Repeat("w00 ", 36)
	const half = reset + "c60 a04 a00 cd0 " + done // only block 1 is erased
	return []situation{
		{reset + "c80", "a**"},
		{reset + "c80 a00 a00", "a**"},
		{reset + "c80 a24 a00 a00", "a00"},
		{reset + "c80 a25 a00 a00", ""},
		{reset + "c80 a00 a01 a00", ""},
		{reset + "c80 a00 a00 a0f", "a00"},
		{reset + "c80 a00 a00 a10", ""},
		{reset + "c80 a00 a00 aff", ""},
		{reset + "c80 a25 a00 a10", ""},
		{all + "c80", "a**"},
		{all + "c80 a00", "a**"},
		{all + "c80 a00 a00 a05", "a00"},
		{all + "c80 a00 a00 a05 a00", "w**"},
		{all + "c80 a24 a00 a0f a00", "w**"},
		{all + "c80 a00 a00 a05 a00 c70", "r**" + opens},
		{all + loads("05"), "w**" + ends},
		{all + loads("05") + "c70", "r**" + opens},
		{all + loads("05") + w36, ends},
		{all + "c80 a00 a00 a05 a00 " + w36, "w**" + ends},
		{all + "c80 a24 a00 a05 a00 w12", ends},
		{all + "c80 a23 a00 a05 a00 w12", "w**" + ends},
		{all + "c80 a23 a00 a05 a00 w12 w13", ends},
		{all + "c80 a10 a00 a05 a00" + strings.Repeat(" w00", 0x14), "w**" + ends},
		{all + "c80 a10 a00 a05 a00" + strings.Repeat(" w00", 0x15), ends},
		{all + loads("05") + "w13 c70 c80 a24 a00 a05 a00", "w**"},

		// Each reason for which a row can't be programmed, or can.
		{reset + loads("00"), "w**"},
		{reset + loads("0f"), "w**"},
		{half + loads("03"), "w**"},
		{half + loads("04"), "w**" + ends},
		{half + loads("07"), "w**" + ends},
		{half + loads("08"), "w**"},
		{half + programs("05") + loads("04"), "w**"},
		{half + programs("05") + loads("05"), "w**" + ends},
		{half + programs("05") + loads("06"), "w**" + ends},
		{half + programs("05") + loads("07"), "w**" + ends},
		{half + programs("05") + programs("05") + loads("05"), "w**"},
		{half + programs("05") + programs("05") + loads("04"), "w**"},
		{half + programs("05") + programs("05") + loads("06"), "w**" + ends},
		{half + programs("07") + loads("06"), "w**"},
		{half + programs("07") + loads("07"), "w**" + ends},
		{all + programs("07") + loads("00"), "w**" + ends},
		{all + programs("07") + loads("08"), "w**" + ends},
		{all + programs("07") + loads("06"), "w**"},
		{all + programs("05") + programs("05") + erases("05") + loads("04"), "w**" + ends},
		{all + programs("05") + programs("05") + erases("05") + loads("05"), "w**" + ends},
		{all + programs("05") + programs("05") + erases("09") + loads("05"), "w**"},
		{all + loads("05") + "c10 c70 re1 " + programs("05") + loads("05"), "w**"},
		{all + "c60 a04 a00 cd0 c70 re1 " + loads("05"), "w**"},
		{all + "c60 a04 a00 cd0 c70 re1 " + loads("09"), "w**" + ends},
		{all + "c60 a04 a00 cd0 " + reset + loads("05"), "w**"},
		{all + "c60 a04 a00 cd0 c70 r81 re0 " + loads("05"), "w**" + ends},
		{all + "c60 a04 a00 cd0 c70 re0 re1 " + loads("05"), "w**" + ends},
		{all + "c60 a04 a00 cd1 c70 re1 " + reset + loads("05"), "w**" + ends},

		// 10 leaves nothing behind.
		{all + loads("05") + "c10", ""},
		{all + loads("05") + "c10 c70", "r**"},
		{all + programs("05"), "r**" + opens},
		{all + loads("05") + "c10 c70 re1", "r**" + opens},
		{all + loads("05") + "c10 c70 rc0", "r**" + opens},
		{all + reads("00", "05") + programs("05"), "r**" + opens},
	}
}

// naming are situations in which rows are named.
func naming() []situation {
	const named = all + "c80 a00 a00 a05 a00 w12 c11 "
	return []situation{
		{named, ""},
		{named + "c70", "r**"},
		{named + done, "r** c80"},
		{named + "c70 rc0", "r** c80"},
		{named + "c70 re3", "r** c80"},
		{named + done + "c80", "a**"},
		{named + done + "c80 c70", "r** c80"},
		{named + done + loads("01") + "c70", "r** c80"},
		{named + done + "c80 a00 a00 a01 a00", "w**"},
		// Page 1 of block 1 is named: 15 needs that nothing is.
		{named + done + loads("01"), "w** c10 c11"},
		{named + done + loads("09"), "w** c10 c11"},
		{named + done + loads("05"), "w**"},
		{named + done + loads("0d"), "w**"},
		{named + done + loads("00"), "w**"},
		{named + done + loads("02"), "w**"},
		{named + done + loads("03"), "w**"},
		{named + done + loads("06"), "w**"},
		{named + done + loads("08"), "w**"},
		{named + done + loads("0a"), "w**"},
		// Both planes have a row.
		{named + done + loads("09") + "c11", ""},
		{named + done + loads("09") + "c11 " + done, "r** c80"},
		{named + done + loads("09") + "c11 " + done + loads("01"), "w**"},
		{named + done + loads("09") + "c11 " + done + loads("05"), "w**"},
		{named + done + loads("09") + "c11 " + done + loads("0d"), "w**"},
		{named + done + loads("09") + "c11 " + done + loads("09"), "w**"},
		// After 10, none is named.
		{named + done + loads("09") + "c10", ""},
		{named + done + programs("09"), "r**" + opens},
		{named + done + programs("09") + loads("01"), "w**" + ends},
		{named + done + programs("09") + loads("09"), "w**" + ends},
		{named + done + programs("09") + loads("06"), "w**" + ends},
		{named + done + programs("09") + loads("05") + "c11 " + done + loads("09"), "w** c10 c11"},
		// What is named counts as programmed.
		{all + programs("05") + loads("05") + "c11 " + reset + loads("05"), "w**"},
		{named + reset, "r**" + opens},
		{named + reset + loads("04"), "w**"},
		{named + reset + loads("05"), "w**" + ends},
		{named + reset + loads("0d"), "w**" + ends},
		// A row of another plane that can't be programmed.
		{all + programs("0a") + loads("05") + "c11 " + done + loads("09"), "w**"},
		{all + programs("0a") + loads("05") + "c11 " + done + loads("01"), "w** c10 c11"},
	}
}

// caching are situations with a program in the background.
func caching() []situation {
	const cached = all + "c80 a00 a00 a05 a00 w12 c15 "
	return []situation{
		{cached, ""},
		{cached + "c70", "r**"},
		{cached + "c70 r80", "r**"},
		{cached + "c70 ra0", "r**"},
		{cached + "c70 rc0", "r** c80"},
		{cached + "c70 rc3", "r** c80"},
		{cached + "c70 r40", "r** c80"},
		{cached + "c70 rc0 r80", "r** c80"},
		{cached + "c70 rc0 ra0", "r** c80"},
		{cached + "c70 rc0 c70", "r** c80"},
		{cached + "c70 rc0 re0", "r**" + opens},
		{cached + "c70 rc0 c70 re0", "r**" + opens},
		{cached + "c70 re0", "r**" + opens},
		{cached + "c70 r60", "r**" + opens},
		{cached + "c70 re3", "r**" + opens},
		{cached + "c70 re0 rc0", "r**" + opens},
		{cached + "c70 rc0 c80", "a**"},
		{cached + "c70 rc0 c80 c70", "r** c80"},
		{cached + "c70 rc0 c80 a00 a00 a06 a00", "w**"},
		{cached + "c70 rc0 " + loads("06") + "c70", "r** c80"},
		{cached + "c70 rc0 " + loads("06") + "c70 re0", "r**" + opens},
		// Only the same block; 11 needs that nothing is in the background.
		{cached + "c70 rc0 " + loads("05"), "w** c10 c15"},
		{cached + "c70 rc0 " + loads("06"), "w** c10 c15"},
		{cached + "c70 rc0 " + loads("07"), "w** c10 c15"},
		{cached + "c70 rc0 " + loads("04"), "w**"},
		{cached + "c70 rc0 " + loads("01"), "w**"},
		{cached + "c70 rc0 " + loads("09"), "w**"},
		{cached + "c70 rc0 " + loads("0d"), "w**"},
		{cached + "c70 rc0 " + loads("0e"), "w**"},
		{cached + done + loads("01"), "w**" + ends},
		{cached + done + loads("04"), "w**"},
		{cached + done + loads("06"), "w**" + ends},
		{cached + done + loads("0d"), "w**" + ends},
		// Another program in the background takes its place.
		{cached + "c70 rc0 " + loads("06") + "c15", ""},
		{cached + "c70 rc0 " + loads("06") + "c15 c70 rc0", "r** c80"},
		{cached + "c70 rc0 " + loads("06") + "c15 c70 re0", "r**" + opens},
		{cached + "c70 rc0 " + loads("06") + "c15 c70 rc0 " + loads("05"), "w**"},
		{cached + "c70 rc0 " + loads("06") + "c15 c70 rc0 " + loads("07"), "w** c10 c15"},
		{cached + done + loads("09") + "c15 c70 rc0 " + loads("0a"), "w** c10 c15"},
		{cached + done + loads("09") + "c15 c70 rc0 " + loads("06"), "w**"},
		{cached + "c70 rc0 " + loads("05") + "c15 c70 rc0 " + loads("05"), "w**"},
		// A program that is not in the background does not end it.
		{cached + "c70 rc0 " + loads("06") + "c10", ""},
		{cached + "c70 rc0 " + loads("06") + "c10 c70 rc0", "r** c80"},
		{cached + "c70 rc0 " + loads("06") + "c10 c70 rc0 " + loads("09"), "w**"},
		{cached + "c70 rc0 " + loads("06") + "c10 c70 rc0 " + loads("07"), "w** c10 c15"},
		{cached + "c70 rc0 " + loads("06") + "c10 c70 re0", "r**" + opens},
		{cached + "c70 rc0 " + loads("06") + "c10 c70 re3", "r**" + opens},
		// A later erase of the block does not look at it any more.
		{cached + done + erases("05") + loads("04"), "w**" + ends},
		// ff ends it.
		{cached + "cff", ""},
		{cached + "cff c70 rc0", "r**" + opens},
		{cached + "c70 rc0 cff c70 rc0 " + loads("09"), "w**" + ends},
		{cached + "c70 rc0 " + loads("06") + reset + loads("09"), "w**" + ends},
		{cached + reset + loads("04"), "w**"},
	}
}

// situations are all of them, but that of a chip that is asleep.
func situations() []situation {
	return slices.Concat(basics(), erasing(), loading(), naming(), caching())
}

// tries fails unless the cycle that follows a text is accepted exactly if it
// should be, and everything behind it is rejected if it is not.
func tries(t *testing.T, before []api.Cycle, x api.Cycle, want bool) {
	t.Helper()
	c := of(t, example)
	for i, y := range before {
		if !c.j.Step(y) {
			t.Fatalf("cycle %d of %v is rejected", i, before)
		}
	}
	busy := c.j.Busy()
	if got := c.j.Step(x); got != want {
		t.Fatalf("after %s Step(%v) is %t, not %t", text(before), x, got, want)
	}
	if want {
		return
	}
	if c.j.Busy() != busy {
		t.Fatalf("after %s the rejected %v changes Busy", text(before), x)
	}
	c.refuses("cff c70 r80 re0 c90 a00 w00")
}

// text is that of cycles.
func text(l []api.Cycle) string {
	s, _ := cycle.Text(l)
	return s
}

// TestP151EachCycleInEachSituation tries each cycle there is, and many that
// there are not, in each situation.
func TestP151EachCycleInEachSituation(t *testing.T) {
	for _, s := range situations() {
		s.accepts += " cff c70"
		before := cycles(t, s.before)
		for _, kind := range kinds {
			for b := range 256 {
				x := api.Cycle{Kind: kind, B: byte(b)}
				tries(t, before, x, s.fits(x))
			}
		}
	}
}

func TestP151EachCycleAsleep(t *testing.T) {
	s := situation{asleep, "cff"}
	for _, kind := range kinds {
		for b := range 256 {
			x := api.Cycle{Kind: kind, B: byte(b)}
			tries(t, nil, x, s.fits(x))
			// And so it is when the power was lost.
			c := behind(t, reset+"cec a00 "+done+"c00 r02")
			c.j.Power()
			if got := c.j.Step(x); got != s.fits(x) {
				t.Fatalf("after Power Step(%v) is %t", x, got)
			}
		}
	}
}

// TestP151Rejected looks at what is left after a rejection, in each situation.
func TestP151Rejected(t *testing.T) {
	for _, s := range situations() {
		before := cycles(t, s.before)
		c := behind(t, s.before)
		busy := c.j.Busy()
		var can []bool
		for row := range 16 {
			can = append(can, c.j.Can(row))
		}
		if c.j.Step(api.Cycle{Kind: 7}) {
			t.Fatal("a cycle of no kind is accepted")
		}
		// Everything is rejected, even what would be accepted otherwise.
		for _, kind := range kinds {
			for b := range 256 {
				if x := (api.Cycle{Kind: kind, B: byte(b)}); c.j.Step(x) {
					t.Fatalf("after %s and a rejection Step(%v) is true", text(before), x)
				}
			}
		}
		c.refuses(all)
		c.refuses(s.before)
		// Nothing changes by it.
		if c.j.Busy() != busy {
			t.Errorf("after %s a rejection changes Busy", text(before))
		}
		for row := range 16 {
			if c.j.Can(row) != can[row] {
				t.Errorf("after %s a rejection changes Can(%d)", text(before), row)
			}
		}
		// It ends by Power, and not by the second one either.
		c.j.Power()
		c.busy(false)
		c.takes(all + programs("05"))
		c.refuses("ce0 cff")
		c.j.Power()
		c.j.Power()
		c.refuses("c70")
		c.refuses("cff")
		c.j.Power()
		c.takes("cff")
	}
}
