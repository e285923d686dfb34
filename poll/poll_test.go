package poll_test

import (
	"bytes"
	"math"
	"slices"
	"strings"
	"testing"

	"incunable/api"
	"incunable/chip"
	"incunable/cycle"
	"incunable/poll"
	"incunable/wire"
)

// most is the greatest budget, and the longest time that a chip is busy,
// written out as the document has it.
const most = 65536

// example is a geometry with 4 blocks in 2 planes, 16 rows, and raw pages of
// 37 bytes.
var example = api.Geom{Planes: 2, Blocks: 4, Pages: 4, Chunks: 1, Chunk: 4, Rungs: 3, Partial: 5}

// wrongBudgets are those that a wait can't have.
var wrongBudgets = []int{-1, 0, most + 1, -2, -most, 2 * most, 1<<32 + 1, math.MinInt, math.MinInt + 1, math.MaxInt}

// busy is a script in which the chip is busy for these durations, and nothing
// else happens.
func busy(durations ...int) api.Script {
	return api.Script{Busy: durations, Cut: -1}
}

// failing is a script in which these works fail.
func failing(works []int, durations ...int) api.Script {
	s := busy(durations...)
	s.Fails = works
	return s
}

// cycles are those of a text, between which any white space may stand.
func cycles(t *testing.T, text string) []api.Cycle {
	t.Helper()
	l, at, e := cycle.Parse(strings.Join(strings.Fields(text), " "))
	if e != api.OK {
		t.Fatalf("%q is no text of cycles at %d", text, at)
	}
	return l
}

// times is the text of n cycles with the same text.
func times(n int, text string) string {
	return strings.Repeat(" "+text, n)
}

// on is a new wire to a new chip of the example, to which the cycles of a text
// have been sent.
func on(t *testing.T, s api.Script, before string) *wire.Wire {
	t.Helper()
	c, e := chip.New(example, s)
	if e != api.OK {
		t.Fatalf("chip.New is %d", e)
	}
	w, e := wire.New(c)
	if e != api.OK {
		t.Fatalf("wire.New is %d", e)
	}
	expectError(t, "Send", w.Send(cycles(t, before)...), api.OK)
	return w
}

// expectError fails unless two errors are equal.
func expectError(t *testing.T, what string, got, want api.Errno) {
	t.Helper()
	if got != want {
		t.Fatalf("%s is %d, not %d", what, got, want)
	}
}

// expectWait fails unless Wait returns this status, and this error.
func expectWait(t *testing.T, w *wire.Wire, bits byte, budget int, want byte, wantError api.Errno) {
	t.Helper()
	if got, e := poll.Wait(w, bits, budget); got != want || e != wantError {
		t.Fatalf("Wait(%02x, %d) is %02x, %d, not %02x, %d", bits, budget, got, e, want, wantError)
	}
}

// expectReady fails unless Ready returns this status, and this error.
func expectReady(t *testing.T, w *wire.Wire, budget int, want byte, wantError api.Errno) {
	t.Helper()
	if got, e := poll.Ready(w, budget); got != want || e != wantError {
		t.Fatalf("Ready(%d) is %02x, %d, not %02x, %d", budget, got, e, want, wantError)
	}
}

// expectReset fails unless Reset returns this error.
func expectReset(t *testing.T, w *wire.Wire, budget int, want api.Errno) {
	t.Helper()
	if e := poll.Reset(w, budget); e != want {
		t.Fatalf("Reset(%d) is %d, not %d", budget, e, want)
	}
}

// expectTrace fails unless w stores these cycles, and the chip has executed
// just as many.
func expectTrace(t *testing.T, w *wire.Wire, want []api.Cycle) {
	t.Helper()
	got := w.Trace()
	if !slices.Equal(got, want) {
		t.Fatalf("Trace is %s, not %s", told(got), told(want))
	}
	if w.Sent() != len(want) || w.Chip().Cycles() != len(want) {
		t.Fatalf("%d cycles were sent and %d executed, not %d", w.Sent(), w.Chip().Cycles(), len(want))
	}
}

// expectText fails unless w stores the cycles of a text, and no others.
func expectText(t *testing.T, w *wire.Wire, want string) {
	t.Helper()
	expectTrace(t, w, cycles(t, want))
}

// told tells cycles, unless they are too many.
func told(l []api.Cycle) string {
	if len(l) > 200 {
		return "many cycles"
	}
	s, _ := cycle.Text(l)
	return s
}

// expectSameCells fails unless the cells of two chips are the same.
func expectSameCells(t *testing.T, got, want *chip.Chip) {
	t.Helper()
	a, b := got.Array(), want.Array()
	for row := range example.Blocks * example.Pages {
		if !bytes.Equal(a.Raw(row), b.Raw(row)) || a.Torn(row) != b.Torn(row) || a.Programs(row) != b.Programs(row) {
			t.Fatalf("row %d is % x, %t, %d, not % x, %t, %d", row,
				a.Raw(row), a.Torn(row), a.Programs(row), b.Raw(row), b.Torn(row), b.Programs(row))
		}
	}
	for block := range example.Blocks {
		if a.Erases(block) != b.Erases(block) {
			t.Fatalf("block %d was erased %d times, not %d", block, a.Erases(block), b.Erases(block))
		}
	}
}

// expectSameChip fails unless two chips are the same, also in what they do
// next; both of them go on by that.
func expectSameChip(t *testing.T, got, want *chip.Chip) {
	t.Helper()
	if got.On() != want.On() || got.Cycles() != want.Cycles() || got.Work() != want.Work() {
		t.Fatalf("the chip shows %t, %d, %d, not %t, %d, %d",
			got.On(), got.Cycles(), got.Work(), want.On(), want.Cycles(), want.Work())
	}
	expectSameCells(t, got, want)
	for _, x := range cycles(t, `r00 r00 c10 c70 r00 r00 r00 r00 r00 r00 r00 r00 c00 r00 r00 r00
		c80 a00 a00 a06 a00 w21 c10 c70 r00 r00 r00 r00 c00 a00 a00 a06 a00 c30 c70 r00 r00 r00 c00 r00
		cff c70 r00 r00 r00 c90 a00 r00 r00`) {
		b, e := got.Do(x)
		if c, f := want.Do(x); b != c || e != f {
			t.Fatalf("the chip goes on with %02x, %d, not %02x, %d", b, e, c, f)
		}
	}
	expectSameCells(t, got, want)
}

func TestP171Example(t *testing.T) {
	w := on(t, busy(5), "cff")
	expectReady(t, w, 5, 0, api.ErrBusy)
	expectReady(t, w, 1, 0xe0, api.OK)
	expectText(t, w, "cff c70 r80 r80 r80 r80 r80 c70 re0")
}

func TestP171AChipThatIsNotBusy(t *testing.T) {
	for _, before := range []string{"", "cff", "cff c70", "cff c70 r00", "c90 a00 r00", "c80 a00", "c00 r00", "r00", "w00"} {
		for _, budget := range []int{1, 2, 100, most} {
			w := on(t, busy(), before)
			sent := w.Trace()
			expectReady(t, w, budget, 0xe0, api.OK)
			expectTrace(t, w, append(sent, cycles(t, "c70 re0")...))
		}
	}
}

// Nothing is sent if the budget is refused: the chip is as one that was not
// waited for, and no power is lost.
func TestP171BudgetsThatAreRefused(t *testing.T) {
	for _, budget := range wrongBudgets {
		for _, bits := range []byte{0, 0x40, 0x60, 0xff} {
			w, twin := on(t, busy(3, 1), "cff c70"), on(t, busy(3, 1), "cff c70")
			w.Chip().Cut(0)
			expectWait(t, w, bits, budget, 0, api.ErrArg)
			expectReady(t, w, budget, 0, api.ErrArg)
			expectText(t, w, "cff c70")
			if _, ok := w.Since("power"); ok {
				t.Fatalf("the power was lost with the budget %d", budget)
			}
			w.Chip().Cut(-1)
			expectSameChip(t, w.Chip(), twin.Chip())
		}
	}
}

func TestP171BudgetsAtTheLimits(t *testing.T) {
	if api.MaxBusy != most {
		t.Fatalf("MaxBusy is %d, not %d", api.MaxBusy, most)
	}
	for _, budget := range []int{1, 2, most - 1, most} {
		for _, duration := range []int{0, 1, budget - 1, budget, most} {
			w := on(t, busy(duration), "cff")
			if duration < budget {
				expectReady(t, w, budget, 0xe0, api.OK)
				expectText(t, w, "cff c70"+times(duration, "r80")+" re0")
				continue
			}
			expectReady(t, w, budget, 0, api.ErrBusy)
			expectText(t, w, "cff c70"+times(budget, "r80"))
		}
	}
}

func TestP171DurationsAroundTheBudget(t *testing.T) {
	for budget := 1; budget <= 20; budget++ {
		for duration := range 25 {
			w := on(t, busy(duration), "cff")
			if duration < budget {
				expectReady(t, w, budget, 0xe0, api.OK)
				expectText(t, w, "cff c70"+times(duration, "r80")+" re0")
				expectReady(t, w, 1, 0xe0, api.OK)
				expectText(t, w, "cff c70"+times(duration, "r80")+" re0 c70 re0")
				continue
			}
			expectReady(t, w, budget, 0, api.ErrBusy)
			expectText(t, w, "cff c70"+times(budget, "r80"))
			// A second wait goes on where the first one has stopped.
			rest := duration - budget
			expectReady(t, w, rest+1, 0xe0, api.OK)
			expectText(t, w, "cff c70"+times(budget, "r80")+" c70"+times(rest, "r80")+" re0")
		}
	}
}

// Many waits that are too short, until the chip is ready.
func TestP171ManyWaitsThatAreTooShort(t *testing.T) {
	w := on(t, busy(10), "cff")
	want := "cff"
	for range 3 {
		expectReady(t, w, 3, 0, api.ErrBusy)
		want += " c70 r80 r80 r80"
		expectText(t, w, want)
	}
	expectReady(t, w, 3, 0xe0, api.OK)
	expectText(t, w, want+" c70 r80 re0")
}

// situation is a chip that something is done with, and the statuses that its
// polls then return; all behind them are the last one.
type situation struct {
	name   string
	script api.Script
	before string
	shows  []byte
}

// situations have each status that there is.
var situations = []situation{
	{"not busy", busy(), "", []byte{0xe0}},
	{"busy", busy(4), "cff", []byte{0x80, 0x80, 0x80, 0x80, 0xe0}},
	{"a read", busy(2), "c00 a00 a00 a05 a00 c30", []byte{0x80, 0x80, 0xe0}},
	{"a program", busy(1), "c80 a00 a00 a05 a00 w11 c10", []byte{0x80, 0xe0}},
	{"a program that fails", failing([]int{0}, 2), "c80 a00 a00 a05 a00 w11 c10", []byte{0x80, 0x80, 0xe1}},
	{"an erase", busy(3), "c60 a05 a00 cd0", []byte{0x80, 0x80, 0x80, 0xe0}},
	{"an erase that fails", failing([]int{0}), "c60 a05 a00 cd0", []byte{0xe1}},
	{"in the background", busy(3, 2), "c80 a00 a00 a05 a00 w11 c15", []byte{0x80, 0x80, 0xc0, 0xc0, 0xc0, 0xe0}},
	{"in the background, not busy", busy(2), "c80 a00 a00 a05 a00 w11 c15", []byte{0xc0, 0xc0, 0xe0}},
	{"a failure in the background", failing([]int{0}, 1, 1), "c80 a00 a00 a05 a00 w11 c15", []byte{0x80, 0xc0, 0xe2}},
	{"a failure ahead of the background", failing([]int{0}, 9, 0, 2, 1), `c80 a00 a00 a04 a00 w11 c15 c70 r00
		c80 a00 a00 a05 a00 w22 c15`, []byte{0x80, 0xc2, 0xc2, 0xe0}},
	{"two failures in the background", failing([]int{0, 1}, 9, 0, 2, 1), `c80 a00 a00 a04 a00 w11 c15 c70 r00
		c80 a00 a00 a05 a00 w22 c15`, []byte{0x80, 0xc2, 0xc2, 0xe2}},
	{"a failure in the background, and one", failing([]int{0, 1}, 9, 0, 2), `c80 a00 a00 a04 a00 w11 c15 c70 r00
		c80 a00 a00 a05 a00 w22 c10`, []byte{0x80, 0x80, 0xe3}},
}

// wire is a new wire in the situation.
func (s situation) wire(t *testing.T) *wire.Wire {
	t.Helper()
	return on(t, s.script, s.before)
}

// at is the status that a poll returns, by its number from 0 on.
func (s situation) at(n int) byte {
	return s.shows[min(n, len(s.shows)-1)]
}

// wait is what a wait should return, and the cycles that it should send, if
// some polls have come before it.
func (s situation) wait(from int, bits byte, budget int) (byte, api.Errno, []api.Cycle) {
	sent := cycle.Of(api.Command, 0x70)
	for n := range budget {
		b := s.at(from + n)
		sent = append(sent, api.Cycle{Kind: api.Read, B: b})
		if ^b&bits == 0 {
			return b, api.OK, sent
		}
	}
	return 0, api.ErrBusy, sent
}

// All bits in each situation, with small budgets, twice.
func TestP171AllBitsInEachSituation(t *testing.T) {
	for _, s := range situations {
		for bits := range 256 {
			for budget := 1; budget <= len(s.shows)+1; budget++ {
				w := s.wire(t)
				before := w.Trace()
				b, e, sent := s.wait(0, byte(bits), budget)
				expectWait(t, w, byte(bits), budget, b, e)
				expectTrace(t, w, append(before, sent...))

				before = w.Trace()
				b, e, sent = s.wait(len(sent)-1, byte(bits), budget)
				expectWait(t, w, byte(bits), budget, b, e)
				expectTrace(t, w, append(before, sent...))
			}
		}
	}
}

// Ready is a wait for the bits 60.
func TestP171ReadyInEachSituation(t *testing.T) {
	for _, s := range situations {
		for budget := 1; budget <= len(s.shows)+2; budget++ {
			w := s.wire(t)
			before := w.Trace()
			b, e, sent := s.wait(0, 0x60, budget)
			expectReady(t, w, budget, b, e)
			expectTrace(t, w, append(before, sent...))
		}
	}
}

// Some waits, written out.
func TestP171BitsOfTheStatus(t *testing.T) {
	in := func(name string) *wire.Wire {
		at := slices.IndexFunc(situations, func(s situation) bool { return s.name == name })
		return situations[at].wire(t)
	}
	expectWait(t, in("busy"), 0x00, 1, 0x80, api.OK)
	expectWait(t, in("busy"), 0x80, 1, 0x80, api.OK)
	expectWait(t, in("busy"), 0x40, 9, 0xe0, api.OK)
	expectWait(t, in("busy"), 0x40, 4, 0, api.ErrBusy)
	expectWait(t, in("in the background"), 0x40, 3, 0xc0, api.OK)
	expectWait(t, in("in the background"), 0xc0, 3, 0xc0, api.OK)
	expectWait(t, in("in the background"), 0x20, 6, 0xe0, api.OK)
	expectWait(t, in("in the background"), 0x20, 5, 0, api.ErrBusy)
	expectWait(t, in("in the background"), 0x60, 5, 0, api.ErrBusy)
	expectWait(t, in("an erase that fails"), 0x01, 1, 0xe1, api.OK)
	expectWait(t, in("an erase that fails"), 0x61, 1, 0xe1, api.OK)
	expectWait(t, in("an erase that fails"), 0x02, 9, 0, api.ErrBusy)
	expectWait(t, in("an erase that fails"), 0x03, 9, 0, api.ErrBusy)
	expectWait(t, in("a failure ahead of the background"), 0x02, 9, 0xc2, api.OK)
	expectWait(t, in("a failure ahead of the background"), 0x22, 9, 0, api.ErrBusy)
	expectWait(t, in("two failures in the background"), 0x22, 9, 0xe2, api.OK)
	expectWait(t, in("a failure in the background, and one"), 0x03, 9, 0xe3, api.OK)
	expectWait(t, in("a failure in the background, and one"), 0x04, 9, 0, api.ErrBusy)
	expectWait(t, in("not busy"), 0xff, 9, 0, api.ErrBusy)
	expectWait(t, in("not busy"), 0xe0, 1, 0xe0, api.OK)
	expectWait(t, in("not busy"), 0xe1, 1, 0, api.ErrBusy)
}

// What is pending is done by the poll that returns the bits, and not before.
func TestP171WaitDoesTheWork(t *testing.T) {
	w := on(t, busy(2), "c80 a00 a00 a05 a00 w0f c10")
	expectReady(t, w, 2, 0, api.ErrBusy)
	if w.Chip().Work() != 0 || w.Chip().Array().Raw(5)[0] != 0xff {
		t.Error("the program has been done by two polls")
	}
	expectReady(t, w, 2, 0xe0, api.OK)
	if w.Chip().Work() != 1 || w.Chip().Array().Raw(5)[0] != 0x0f {
		t.Error("the program has not been done")
	}
}

// The state of the chip is status then, in which each Read is a poll.
func TestP171ReadsBehindAWait(t *testing.T) {
	w := on(t, busy(3), "cff c90 a00")
	expectReady(t, w, 1, 0, api.ErrBusy)
	b, e := w.Read(3)
	if !bytes.Equal(b, []byte{0x80, 0x80, 0xe0}) || e != api.OK {
		t.Errorf("Read(3) is % x, %d", b, e)
	}
	expectText(t, w, "cff c90 a00 c70 r80 r80 r80 re0")
}

// A geometry of its own has no influence on a wait.
func TestP171TheLargestChip(t *testing.T) {
	g := api.Geom{Planes: 4, Blocks: 256, Pages: 64, Chunks: 1, Chunk: 4, Rungs: 8, Partial: 8}
	c, _ := chip.New(g, busy(7))
	w, _ := wire.New(c)
	w.Command(0xff)
	expectReady(t, w, 7, 0, api.ErrBusy)
	expectReady(t, w, 7, 0xe0, api.OK)
	expectText(t, w, "cff"+" c70"+times(7, "r80")+" c70 re0")
}

// Two waits with the same arguments return the same.
func TestWaitsAreTheSame(t *testing.T) {
	for _, s := range situations {
		a, b := s.wire(t), s.wire(t)
		for range 4 {
			x, e := poll.Ready(a, 2)
			expectReady(t, b, 2, x, e)
			expectTrace(t, b, a.Trace())
		}
		expectSameChip(t, a.Chip(), b.Chip())
	}
}
