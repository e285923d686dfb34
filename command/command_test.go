package command_test

import (
	"bytes"
	"math"
	"slices"
	"strconv"
	"strings"
	"testing"

	"incunable/api"
	"incunable/chip"
	"incunable/command"
	"incunable/cycle"
	"incunable/trace"
	"incunable/wire"
)

// example is a geometry with 4 blocks in 2 planes, 16 rows, and raw pages of
// 37 bytes.
var example = api.Geom{Planes: 2, Blocks: 4, Pages: 4, Chunks: 1, Chunk: 4, Rungs: 3, Partial: 5}

// least and greatest have each number at its edge, written out as the document
// has them; long has rows whose second byte is not 0.
var (
	least    = api.Geom{Planes: 1, Blocks: 2, Pages: 4, Chunks: 1, Chunk: 4, Rungs: 1, Partial: 1}
	greatest = api.Geom{Planes: 4, Blocks: 256, Pages: 64, Chunks: 16, Chunk: 512, Rungs: 8, Partial: 8}
	long     = api.Geom{Planes: 3, Blocks: 12, Pages: 62, Chunks: 2, Chunk: 9, Rungs: 2, Partial: 1}
)

// most is the greatest budget, written out as the document has it.
const most = 65536

// wrongBudgets are those that a wait can't have.
var wrongBudgets = []int{-1, 0, most + 1, -2, -most, 2 * most, 1<<32 + 1, math.MinInt, math.MaxInt}

// exampleID and exampleOut are the Reads of the identification and of the
// parameters of a chip of the example.
const (
	exampleID  = "r49 r4e r02 r03 r05"
	exampleOut = "r02 r00 r04 r00 r04 r00 r01 r00 r04 r00 r03 r00 r05 r00"
)

// seen is the mark behind the cycles that a test has seen.
const seen = "seen"

// geometries are valid ones, none of them twice.
func geometries() []api.Geom {
	return []api.Geom{
		example, least, greatest, long,
		{Planes: 1, Blocks: 4, Pages: 4, Chunks: 1, Chunk: 4, Rungs: 3, Partial: 5},
		{Planes: 2, Blocks: 6, Pages: 4, Chunks: 1, Chunk: 4, Rungs: 3, Partial: 5},
		{Planes: 2, Blocks: 4, Pages: 6, Chunks: 1, Chunk: 4, Rungs: 3, Partial: 5},
		{Planes: 2, Blocks: 4, Pages: 4, Chunks: 2, Chunk: 4, Rungs: 3, Partial: 5},
		{Planes: 2, Blocks: 4, Pages: 4, Chunks: 1, Chunk: 260, Rungs: 3, Partial: 5},
		{Planes: 2, Blocks: 4, Pages: 4, Chunks: 1, Chunk: 4, Rungs: 2, Partial: 5},
		{Planes: 2, Blocks: 4, Pages: 4, Chunks: 1, Chunk: 4, Rungs: 3, Partial: 1},
	}
}

// wrongGeometries are geometries of which one number is not valid, or all.
func wrongGeometries() []api.Geom {
	return []api.Geom{
		{},
		{Planes: -2, Blocks: -4, Pages: -4, Chunks: -1, Chunk: -4, Rungs: -3, Partial: -5},
		{Planes: 0, Blocks: 4, Pages: 4, Chunks: 1, Chunk: 4, Rungs: 3, Partial: 5},
		{Planes: 5, Blocks: 5, Pages: 4, Chunks: 1, Chunk: 4, Rungs: 3, Partial: 5},
		{Planes: 2, Blocks: 5, Pages: 4, Chunks: 1, Chunk: 4, Rungs: 3, Partial: 5},
		{Planes: 2, Blocks: 258, Pages: 4, Chunks: 1, Chunk: 4, Rungs: 3, Partial: 5},
		{Planes: 2, Blocks: 4, Pages: 5, Chunks: 1, Chunk: 4, Rungs: 3, Partial: 5},
		{Planes: 2, Blocks: 4, Pages: 2, Chunks: 1, Chunk: 4, Rungs: 3, Partial: 5},
		{Planes: 2, Blocks: 4, Pages: 4, Chunks: 17, Chunk: 4, Rungs: 3, Partial: 5},
		{Planes: 2, Blocks: 4, Pages: 4, Chunks: 1, Chunk: 3, Rungs: 3, Partial: 5},
		{Planes: 2, Blocks: 4, Pages: 4, Chunks: 1, Chunk: 4, Rungs: 9, Partial: 5},
		{Planes: 2, Blocks: 4, Pages: 4, Chunks: 1, Chunk: 4, Rungs: 3, Partial: 0},
		{Planes: 2, Blocks: 1<<16 + 4, Pages: 4, Chunks: 1, Chunk: 4, Rungs: 3, Partial: 5},
		{Planes: 2, Blocks: 4, Pages: 4, Chunks: 1, Chunk: math.MaxInt, Rungs: 3, Partial: math.MinInt},
	}
}

// busy is a script in which the chip is busy for these durations, and nothing
// else happens.
func busy(durations ...int) api.Script {
	return api.Script{Busy: durations, Cut: -1}
}

// failing is a script in which these programs and erases fail.
func failing(works []int, durations ...int) api.Script {
	return api.Script{Busy: durations, Fails: works, Cut: -1}
}

// cycles are those of a text, between which any white space may stand.
func cycles(t *testing.T, text string) []api.Cycle {
	t.Helper()
	l, at, e := cycle.Parse(strings.Join(strings.Fields(text), " "))
	if e != api.OK {
		t.Fatalf("%q is no text of cycles at %d", text, at)
	}
	return l
}

// times is the text of n cycles with the same text.
func times(n int, text string) string {
	return strings.Repeat(" "+text, n)
}

// text is the text of cycles of a kind, with these bytes.
func text(kind int, b ...byte) string {
	s, _ := cycle.Text(cycle.Of(kind, b...))
	return s
}

// told tells cycles, unless they are too many.
func told(l []api.Cycle) string {
	if len(l) > 200 {
		return "many cycles, " + strconv.Itoa(len(l))
	}
	s, _ := cycle.Text(l)
	return s
}

// raw is how many bytes the raw pages of g have, by the words of chapter 4.
func raw(g api.Geom) int {
	return g.Chunks*(g.Chunk+2) + 28 + 2 + 1
}

// pattern is a raw page of g, which differs for different numbers.
func pattern(g api.Geom, n int) []byte {
	b := make([]byte, raw(g))
	for i := range b {
		b[i] = byte(i*7 + n*37 + n/256*11 + 5)
	}
	return b
}

// row is the text of the Addresses of a row.
func row(n int) string {
	return text(api.Address, byte(n%256), byte(n/256))
}

// The texts of orders, by the chapter's words, without their waits.
func programs(n int, b []byte) string {
	return "c80 a00 a00 " + row(n) + " " + text(api.Write, b...) + " c10 "
}

func erases(first int) string {
	return "c60 " + row(first) + " cd0 "
}

func sets(rung int) string {
	return "cef a89 " + text(api.Write, byte(rung)) + " w00 w00 w00 "
}

func fetches(n int) string {
	return "c00 a00 a00 " + row(n) + " c30 "
}

func outs(b []byte) string {
	return "c00 " + text(api.Read, b...) + " "
}

// ready is the text of a wait for a chip that is not busy.
const ready = "c70 re0 "

// waits is the text of a wait with so many polls of a busy chip, and then one
// with another status.
func waits(n int, last string) string {
	return "c70" + times(n, "r80") + " " + last + " "
}

// on is a new wire to a new chip, to which the cycles of a text have been sent.
func on(t *testing.T, g api.Geom, s api.Script, before string) *wire.Wire {
	t.Helper()
	c, e := chip.New(g, s)
	if e != api.OK {
		t.Fatalf("chip.New is %d", e)
	}
	w, e := wire.New(c)
	if e != api.OK {
		t.Fatalf("wire.New is %d", e)
	}
	expectError(t, "Send", w.Send(cycles(t, before)...), api.OK)
	w.Mark(seen)
	return w
}

// driver is a new driver of a new chip. The durations of the script begin
// behind those of New, which are 0.
func driver(t *testing.T, g api.Geom, s api.Script, budget int) *command.Driver {
	t.Helper()
	s.Busy = append([]int{0, 0}, s.Busy...)
	w := on(t, g, s, "")
	d, e := command.New(w, g, budget)
	expectError(t, "New", e, api.OK)
	w.Mark(seen)
	return d
}

// expectError fails unless two errors are equal.
func expectError(t *testing.T, what string, got, want api.Errno) {
	t.Helper()
	if got != want {
		t.Fatalf("%s is %d, not %d", what, got, want)
	}
}

// expectOn fails unless w sent the cycles of a text, and no other ones, since
// the last ones that were expected.
func expectOn(t *testing.T, w *wire.Wire, text string) {
	t.Helper()
	got, _ := w.Since(seen)
	if want := cycles(t, text); !slices.Equal(got, want) {
		t.Fatalf("sent was %s, not %s", told(got), told(want))
	}
	if w.Sent() != w.Chip().Cycles() {
		t.Fatalf("%d cycles were sent, and %d executed", w.Sent(), w.Chip().Cycles())
	}
	w.Mark(seen)
}

// expectSent is expectOn for the wire of a driver.
func expectSent(t *testing.T, d *command.Driver, text string) {
	t.Helper()
	expectOn(t, d.Wire(), text)
}

// expectOrder fails unless Order returns this status, and this error.
func expectOrder(t *testing.T, d *command.Driver, bits byte, order string, want byte, wantError api.Errno) {
	t.Helper()
	if b, e := d.Order(bits, cycles(t, order)...); b != want || e != wantError {
		t.Fatalf("Order(%02x, %s) is %02x, %d, not %02x, %d", bits, order, b, e, want, wantError)
	}
}

// expectRead fails unless Read returns these bytes, and this error.
func expectRead(t *testing.T, d *command.Driver, row, rung int, want []byte, wantError api.Errno) {
	t.Helper()
	if b, e := d.Read(row, rung); !bytes.Equal(b, want) || e != wantError {
		t.Fatalf("Read(%d, %d) is % x, %d, not % x, %d", row, rung, b, e, want, wantError)
	}
}

// expectNew fails unless New returns a driver of w.
func expectNew(t *testing.T, w *wire.Wire, g api.Geom, budget int) *command.Driver {
	t.Helper()
	d, e := command.New(w, g, budget)
	if d == nil || e != api.OK {
		t.Fatalf("New(%v, %d) is %v, %d", g, budget, d, e)
	}
	if d.Geom() != g || d.Wire() != w {
		t.Fatalf("Geom is %v, not %v, and Wire %p, not %p", d.Geom(), g, d.Wire(), w)
	}
	return d
}

// expectNoNew fails unless New returns no driver, and this error.
func expectNoNew(t *testing.T, w *wire.Wire, g api.Geom, budget int, want api.Errno) {
	t.Helper()
	if d, e := command.New(w, g, budget); d != nil || e != want {
		t.Fatalf("New(%v, %d) is %v, %d, not nil, %d", g, budget, d, e, want)
	}
}

// idOf and outOf are the Reads of the identification and of the parameters of a
// chip of a geometry.
func idOf(g api.Geom) string {
	return text(api.Read, 0x49, 0x4e, byte(g.Planes), byte(g.Rungs), byte(g.Partial))
}

func outOf(g api.Geom) string {
	var b []byte
	for _, n := range [7]int{g.Planes, g.Blocks, g.Pages, g.Chunks, g.Chunk, g.Rungs, g.Partial} {
		b = append(b, byte(n%256), byte(n/256))
	}
	return text(api.Read, b...)
}

func TestP191NewWrittenOut(t *testing.T) {
	w := on(t, example, busy(2, 1), "")
	expectNew(t, w, example, 3)
	expectOn(t, w, "cff c70 r80 r80 re0 c90 a00 r49 r4e r02 r03 r05 cec a00 c70 r80 re0 c00 "+
		"r02 r00 r04 r00 r04 r00 r01 r00 r04 r00 r03 r00 r05 r00")
}

func TestP191NewOfEachGeometry(t *testing.T) {
	for _, g := range geometries() {
		for _, budget := range []int{3, 4, 100, most - 1, most} {
			w := on(t, g, busy(1, 2), "")
			expectNew(t, w, g, budget)
			expectOn(t, w, "cff "+waits(1, "re0")+"c90 a00 "+idOf(g)+" cec a00 "+waits(2, "re0")+"c00 "+outOf(g))
		}
	}
}

// The chip has another geometry. If the identification tells it, the chip is
// asked for nothing more.
func TestP191NewOfOtherGeometries(t *testing.T) {
	for _, g := range geometries() {
		for _, other := range geometries() {
			if g == other {
				continue
			}
			w := on(t, g, busy(), "")
			expectNoNew(t, w, other, 5, api.ErrChip)
			if idOf(g) != idOf(other) {
				expectOn(t, w, "cff "+ready+"c90 a00 "+idOf(g))
			} else {
				expectOn(t, w, "cff "+ready+"c90 a00 "+idOf(g)+" cec a00 "+ready+"c00 "+outOf(g))
			}
			expectNew(t, w, g, 5)
		}
	}
}

// Nothing is sent, which a power that would be lost at the next cycle shows.
func TestP191NewOfWrongGeometries(t *testing.T) {
	w := on(t, example, busy(), "")
	w.Chip().Cut(0)
	for _, g := range wrongGeometries() {
		for _, budget := range append([]int{1, 5, most}, wrongBudgets...) {
			expectNoNew(t, w, g, budget, api.ErrArg)
		}
	}
	expectOn(t, w, "")
	if !w.Chip().On() {
		t.Fatal("a wrong geometry is told to the chip")
	}
}

func TestP191NewOfWrongBudgets(t *testing.T) {
	w := on(t, example, busy(), "")
	w.Chip().Cut(0)
	for _, budget := range wrongBudgets {
		for _, g := range geometries() {
			expectNoNew(t, w, g, budget, api.ErrArg)
		}
	}
	expectOn(t, w, "")
	if !w.Chip().On() {
		t.Fatal("a wrong budget lets something be sent")
	}
}

// noWires are nil, and wires that wire.New did not return.
func noWires() []*wire.Wire {
	return []*wire.Wire{nil, {}, {Recorder: trace.New()}}
}

// A wire that is nil comes ahead of all wrong arguments.
func TestP191NewWithoutAWire(t *testing.T) {
	for _, w := range noWires() {
		for _, g := range append(wrongGeometries(), geometries()...) {
			for _, budget := range append([]int{1, 5, most}, wrongBudgets...) {
				expectNoNew(t, w, g, budget, api.ErrNil)
			}
		}
		if w != nil && w.Recorder.All() != 0 {
			t.Error("a wire that New did not return has stored cycles")
		}
	}
}

// The durations of the reset and of the parameters around the budget.
func TestP191NewWithDurationsAroundTheBudget(t *testing.T) {
	for budget := 1; budget <= 6; budget++ {
		for first := range 9 {
			for second := range 9 {
				w := on(t, example, busy(first, second), "")
				asks := "c90 a00 " + exampleID + " cec a00 "
				switch {
				case first >= budget:
					expectNoNew(t, w, example, budget, api.ErrBusy)
					expectOn(t, w, "cff "+waits(budget, ""))
				case second >= budget:
					expectNoNew(t, w, example, budget, api.ErrBusy)
					expectOn(t, w, "cff "+waits(first, "re0")+asks+waits(budget, ""))
				default:
					expectNew(t, w, example, budget)
					expectOn(t, w, "cff "+waits(first, "re0")+asks+waits(second, "re0")+"c00 "+exampleOut)
				}
			}
		}
	}
}

func TestP191NewWithBudgetsAtTheLimits(t *testing.T) {
	for _, budget := range []int{1, 2, most - 1, most} {
		expectNew(t, on(t, example, busy(budget-1, budget-1), ""), example, budget)
		expectNoNew(t, on(t, example, busy(budget), ""), example, budget, api.ErrBusy)
		expectNoNew(t, on(t, example, busy(0, budget), ""), example, budget, api.ErrBusy)
	}
}

// New does not reset the chip once more behind a wait that was too short, and
// another New does.
func TestP191NewBehindANewThatFailed(t *testing.T) {
	w := on(t, example, busy(9, 1, 9, 1, 0), "")
	expectNoNew(t, w, example, 2, api.ErrBusy)
	expectOn(t, w, "cff c70 r80 r80")
	expectNoNew(t, w, example, 2, api.ErrBusy)
	expectOn(t, w, "cff "+waits(1, "re0")+"c90 a00 "+exampleID+" cec a00 c70 r80 r80")
	d := expectNew(t, w, example, 2)
	expectOn(t, w, "cff "+waits(1, "re0")+"c90 a00 "+exampleID+" cec a00 "+ready+"c00 "+exampleOut)
	expectError(t, "Erase", d.Erase(0), api.OK)
	expectOn(t, w, erases(0)+ready)
}

// Whatever the chip was doing, New interrupts it; then the rung is 0, and the
// driver knows that.
func TestP191NewInEachSituation(t *testing.T) {
	for _, before := range []string{
		"",
		"cff",
		"cff c70 r80",
		"c70 re0",
		"c90 a00 r49",
		"cec",
		"cef a89 w02 w00 w00 w00",
		"cef a89 w02 w00 w00 w00 c70 r80 r80 re0",
		"cef a89 w02 w00 w00 w00 c70 r80 r80 re0 c00 a00 a00 a05 a00 c30 c70 re0 c00 rff",
		"c00 a00 a00 a05",
		"c80 a00 a00 a05 a00 w11 w22",
		"c80 a00 a00 a05 a00 w11 w22 c10",
		"c80 a00 a00 a05 a00 w11 w22 c11",
		"c80 a00 a00 a05 a00 w11 w22 c15",
		"c60 a05 a00 cd0",
		"c60 a05 a00 cd1",
		"rff w00 c30",
	} {
		s := busy(2)
		for rung := range example.Rungs {
			s.Turns = append(s.Turns, api.Turn{Row: 0, Rung: rung, Bit: rung})
		}
		w := on(t, example, s, before)
		d := expectNew(t, w, example, 3)
		got, _ := w.Since(seen)
		if first := cycles(t, "cff c70"); len(got) < 2 || !slices.Equal(got[:2], first) {
			t.Fatalf("New sends %s", told(got))
		}
		w.Mark(seen)
		erased := bytes.Repeat([]byte{0xff}, raw(example))
		erased[0] = 0xfe
		expectRead(t, d, 0, 0, erased, api.OK)
		expectOn(t, w, fetches(0)+ready+outs(erased))
	}
}

// Two drivers of one wire each have what they know for themselves.
func TestP191TwoDrivers(t *testing.T) {
	d := driver(t, example, busy(), 3)
	other := expectNew(t, d.Wire(), example, 5)
	d.Wire().Mark(seen)
	expectError(t, "Erase", other.Erase(3), api.OK)
	expectError(t, "Erase", d.Erase(2), api.OK)
	expectSent(t, d, erases(12)+ready+erases(8)+ready)
}
