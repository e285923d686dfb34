package ident_test

import (
	"bytes"
	"math"
	"slices"
	"strconv"
	"strings"
	"testing"

	"incunable/api"
	"incunable/chip"
	"incunable/cycle"
	"incunable/ident"
	"incunable/judge"
	"incunable/poll"
	"incunable/wire"
)

// most is the greatest budget, and the longest time that a chip is busy,
// written out as the document has it.
const most = 65536

// wrongBudgets are those that a wait can't have.
var wrongBudgets = []int{-1, 0, most + 1, -2, -most, 2 * most, 1<<32 + 1, math.MinInt, math.MinInt + 1, math.MaxInt}

// exampleID and exampleOut are the Reads of the identification and of the
// parameters of a chip of the example.
const (
	exampleID  = "r49 r4e r02 r03 r05"
	exampleOut = "r02 r00 r04 r00 r04 r00 r01 r00 r04 r00 r03 r00 r05 r00"
)

// erasedOut are the Reads of a row that is erased.
const erasedOut = "rff rff rff rff rff rff rff rff rff rff rff rff rff rff"

// busy is a script in which the chip is busy for these durations, and nothing
// else happens.
func busy(durations ...int) api.Script {
	return api.Script{Busy: durations, Cut: -1}
}

// failing is a script in which the first program or erase fails.
func failing(durations ...int) api.Script {
	return api.Script{Busy: durations, Fails: []int{0}, Cut: -1}
}

// cycles are those of a text, between which any white space may stand.
func cycles(t *testing.T, text string) []api.Cycle {
	t.Helper()
	l, at, e := cycle.Parse(strings.Join(strings.Fields(text), " "))
	if e != api.OK {
		t.Fatalf("%q is no text of cycles at %d", text, at)
	}
	return l
}

// times is the text of n cycles with the same text.
func times(n int, text string) string {
	return strings.Repeat(" "+text, n)
}

// reads is the text of Reads of these bytes.
func reads(b []byte) string {
	s, _ := cycle.Text(cycle.Of(api.Read, b...))
	return s
}

// on is a new wire to a new chip, to which the cycles of a text have been sent.
func on(t *testing.T, g api.Geom, s api.Script, before string) *wire.Wire {
	t.Helper()
	c, e := chip.New(g, s)
	if e != api.OK {
		t.Fatalf("chip.New is %d", e)
	}
	w, e := wire.New(c)
	if e != api.OK {
		t.Fatalf("wire.New is %d", e)
	}
	expectError(t, "Send", w.Send(cycles(t, before)...), api.OK)
	return w
}

// expectError fails unless two errors are equal.
func expectError(t *testing.T, what string, got, want api.Errno) {
	t.Helper()
	if got != want {
		t.Fatalf("%s is %d, not %d", what, got, want)
	}
}

// expectID fails unless ID returns these bytes, and this error.
func expectID(t *testing.T, w *wire.Wire, want []byte, wantError api.Errno) {
	t.Helper()
	if b, e := ident.ID(w); !bytes.Equal(b, want) || e != wantError {
		t.Fatalf("ID is % x, %d, not % x, %d", b, e, want, wantError)
	}
}

// expectParameters fails unless Parameters returns this geometry, and this
// error.
func expectParameters(t *testing.T, w *wire.Wire, budget int, want api.Geom, wantError api.Errno) {
	t.Helper()
	if g, e := ident.Parameters(w, budget); g != want || e != wantError {
		t.Fatalf("Parameters with the budget %d is %v, %d, not %v, %d", budget, g, e, want, wantError)
	}
}

// expectTrace fails unless w stores these cycles, and the chip has executed
// just as many.
func expectTrace(t *testing.T, w *wire.Wire, want []api.Cycle) {
	t.Helper()
	got := w.Trace()
	if !slices.Equal(got, want) {
		t.Fatalf("Trace is %s, not %s", told(got), told(want))
	}
	if w.Sent() != len(want) || w.Chip().Cycles() != len(want) {
		t.Fatalf("%d cycles were sent and %d executed, not %d", w.Sent(), w.Chip().Cycles(), len(want))
	}
}

// expectBehind fails unless w stores the cycles of a text behind these ones.
func expectBehind(t *testing.T, w *wire.Wire, before []api.Cycle, text string) {
	t.Helper()
	expectTrace(t, w, append(slices.Clone(before), cycles(t, text)...))
}

// told tells cycles, unless they are too many.
func told(l []api.Cycle) string {
	if len(l) > 200 {
		return "many cycles, " + strconv.Itoa(len(l))
	}
	s, _ := cycle.Text(l)
	return s
}

// expectSameCells fails unless the cells of two chips of the example are the
// same.
func expectSameCells(t *testing.T, got, want *chip.Chip) {
	t.Helper()
	a, b := got.Array(), want.Array()
	for row := range example.Blocks * example.Pages {
		if !bytes.Equal(a.Raw(row), b.Raw(row)) || a.Torn(row) != b.Torn(row) || a.Programs(row) != b.Programs(row) {
			t.Fatalf("row %d is % x, %t, %d, not % x, %t, %d", row,
				a.Raw(row), a.Torn(row), a.Programs(row), b.Raw(row), b.Torn(row), b.Programs(row))
		}
	}
	for block := range example.Blocks {
		if a.Erases(block) != b.Erases(block) {
			t.Fatalf("block %d was erased %d times, not %d", block, a.Erases(block), b.Erases(block))
		}
	}
}

// expectSameChip fails unless two chips of the example are the same, also in
// what they do next; both of them go on by that.
func expectSameChip(t *testing.T, got, want *chip.Chip) {
	t.Helper()
	if got.On() != want.On() || got.Cycles() != want.Cycles() || got.Work() != want.Work() {
		t.Fatalf("the chip shows %t, %d, %d, not %t, %d, %d",
			got.On(), got.Cycles(), got.Work(), want.On(), want.Cycles(), want.Work())
	}
	expectSameCells(t, got, want)
	for _, x := range cycles(t, `r00 r00 c10 c70 r00 r00 r00 r00 r00 r00 r00 r00 c00 r00 r00 r00 r00
		c80 a00 a00 a06 a00 w21 c10 c70 r00 r00 r00 r00 c00 a00 a00 a06 a00 c30 c70 r00 r00 r00 c00 r00
		cff c70 r00 r00 r00 c90 a00 r00 r00`) {
		b, e := got.Do(x)
		if c, f := want.Do(x); b != c || e != f {
			t.Fatalf("the chip goes on with %02x, %d, not %02x, %d", b, e, c, f)
		}
	}
	expectSameCells(t, got, want)
}

// situation is a chip of the example that something was done with. What its
// Reads return to ID, what its polls and then its Reads return to Parameters,
// and what that returns.
type situation struct {
	name             string
	script           api.Script
	before           string
	id, wait, out    string
	parameters       api.Geom
	wantedParameters api.Errno
}

// wire is a new wire in the situation.
func (s situation) wire(t *testing.T) *wire.Wire {
	t.Helper()
	return on(t, example, s.script, s.before)
}

// answering are situations in which the chip is not engaged. It is busy for two
// polls next, so that Parameters has three.
func answering() []situation {
	var all []situation
	for _, x := range []struct{ name, before string }{
		{"a new chip", ""},
		{"cycles that may not come", "rff w00 a00 c30"},
		{"the status", "c70 re0"},
		{"the identification is asked for", "c90"},
		{"some of the identification is read", "c90 a00 r49 r4e"},
		{"all of the identification is read", "c90 a00 r49 r4e r02 r03 r05 rff rff"},
		{"the parameters are asked for", "cec"},
		{"half another rung", "cef a89 w02 w00"},
		{"a Fetch", "c00"},
		{"some of a Fetch", "c00 a01 a00 a05"},
		{"a row is to be read", "c00 a01 a00 a05 a00"},
		{"the register is read", "c00 rff rff rff"},
		{"the column is moved", "c05 a21 a00 ce0 rff"},
		{"a Move", "c05 a21"},
		{"a row is loaded", "c80 a03 a00 a05 a00 w11 w22"},
		{"an erase", "c60 a05 a00"},
	} {
		all = append(all, situation{x.name, busy(2, 3), x.before, exampleID, "r80 r80 re0", exampleOut, example, api.OK})
	}
	return append(all,
		situation{"a reset", busy(0, 2), "cff", exampleID, "r80 r80 re0", exampleOut, example, api.OK},
		situation{"a reset that is waited for", busy(1, 2), "cff c70 r80 re0", exampleID, "r80 r80 re0", exampleOut, example, api.OK},
		situation{"the parameters, not busy", busy(0, 2), "cec a00", exampleID, "r80 r80 re0", exampleOut, example, api.OK},
		situation{"some of the parameters are read", busy(0, 1), "cec a00 c00 r02 r00 r04", exampleID, "r80 re0", exampleOut, example, api.OK},
		situation{"another rung", busy(0, 2), "cef a89 w02 w00 w00 w00", exampleID, "r80 r80 re0", exampleOut, example, api.OK},
		situation{"a row that was read", busy(0, 1), "c00 a20 a00 a05 a00 c30 c70 re0 c00 rff", exampleID, "r80 re0", exampleOut, example, api.OK},
		situation{"a row is queued", busy(0, 2), "c80 a00 a00 a05 a00 w11 c11 c70 re0", exampleID, "r80 r80 re0", exampleOut, example, api.OK},
		situation{"a block is queued", busy(0, 2), "c60 a05 a00 cd1", exampleID, "r80 r80 re0", exampleOut, example, api.OK},
		situation{"a program failed", failing(0, 2), "c80 a00 a00 a05 a00 w11 c10 c70 re1", exampleID, "r80 r80 re0", exampleOut, example, api.OK},
		situation{"an erase failed", failing(0, 0), "c60 a05 a00 cd0 re1", exampleID, "re0", exampleOut, example, api.OK},
		situation{"in the background", busy(2, 0, 1), "c80 a00 a00 a05 a00 w11 c15", exampleID, "r80 rc0 rc0 re0", exampleOut, example, api.OK},
		situation{"shortly in the background", busy(2, 0), "c80 a00 a00 a05 a00 w11 c15 c70 rc0 rc0", exampleID, "re0", exampleOut, example, api.OK},
		situation{"a failure in the background", failing(1, 0, 1), "c80 a00 a00 a05 a00 w11 c15", exampleID, "r80 rc0 re2", exampleOut, example, api.OK},
		situation{"a failure that was in the background", failing(0, 0, 1), "c80 a00 a00 a05 a00 w11 c15 re2", exampleID, "r80 re0", exampleOut, example, api.OK},
	)
}

// engaged are situations in which the chip is engaged: it ignores what it is
// asked, and Parameters reads what is in the register behind the work.
func engaged() []situation {
	other := api.Geom{Planes: 1, Blocks: 7, Pages: 6, Chunks: 5, Chunk: 9, Rungs: 8, Partial: 4}
	stored := "c80 a00 a00 a04 a00 w01 w00 w07 w00 w06 w00 w05 w00 w09 w00 w08 w00 w04 w00 c10 c70 re0 "
	const ignored = "rff rff rff rff rff"
	return []situation{
		{"busy with a reset", busy(3), "cff", ignored, "r80 r80 r80 re0", erasedOut, api.Geom{}, api.ErrForm},
		{"busy with a reset, and the status", busy(3), "cff c70", "r80 r80 r80 re0 re0", "r80 r80 r80 re0", erasedOut, api.Geom{}, api.ErrForm},
		{"busy with a reset, and polled", busy(6), "cff c70 r80", "r80 r80 r80 r80 r80", "r80 r80 r80 r80 r80 re0", erasedOut, api.Geom{}, api.ErrForm},
		{"busy with the parameters", busy(2), "cec a00", "r80 r80 re0 re0 re0", "r80 r80 re0", exampleOut, example, api.OK},
		{"busy with another rung", busy(1), "cef a89 w02 w00 w00 w00", "r80 re0 re0 re0 re0", "r80 re0", erasedOut, api.Geom{}, api.ErrForm},
		{"a read", busy(2), "c00 a00 a00 a05 a00 c30", "r80 r80 re0 re0 re0", "r80 r80 re0", erasedOut, api.Geom{}, api.ErrForm},
		{"a read, not busy", busy(), "c00 a00 a00 a05 a00 c30", "re0 re0 re0 re0 re0", "re0", erasedOut, api.Geom{}, api.ErrForm},
		{"a read of a geometry", busy(0, 1), stored + "c00 a00 a00 a04 a00 c30", "r80 re0 re0 re0 re0", "r80 re0",
			"r01 r00 r07 r00 r06 r00 r05 r00 r09 r00 r08 r00 r04 r00", other, api.OK},
		{"a read of some of a geometry", busy(0, 1), stored + "c00 a02 a00 a04 a00 c30", "r80 re0 re0 re0 re0", "r80 re0",
			"r07 r00 r06 r00 r05 r00 r09 r00 r08 r00 r04 r00 rff rff", api.Geom{}, api.ErrForm},
		{"a program", busy(1), "c80 a00 a00 a05 a00 w11 c10", "r80 re0 re0 re0 re0", "r80 re0", erasedOut, api.Geom{}, api.ErrForm},
		{"a program, not busy", busy(), "c80 a00 a00 a05 a00 w11 c10", "re0 re0 re0 re0 re0", "re0", erasedOut, api.Geom{}, api.ErrForm},
		{"a program that fails", failing(4), "c80 a00 a00 a05 a00 w11 c10", "r80 r80 r80 r80 re1", "r80 r80 r80 r80 re1", erasedOut, api.Geom{}, api.ErrForm},
		{"an erase, not busy", busy(), "c60 a05 a00 cd0", "re0 re0 re0 re0 re0", "re0", erasedOut, api.Geom{}, api.ErrForm},
		{"busy, and in the background", busy(2, 1), "c80 a00 a00 a05 a00 w11 c15", "r80 rc0 rc0 re0 re0", "r80 rc0 rc0 re0", erasedOut, api.Geom{}, api.ErrForm},
	}
}

// readBytes are the bytes of a text of Reads.
func readBytes(t *testing.T, text string) []byte {
	t.Helper()
	var b []byte
	for _, x := range cycles(t, text) {
		b = append(b, x.B)
	}
	return b
}

// sends runs something with a wire in the situation, and fails unless it sends
// the cycles of a text, and leaves the chip as these cycles alone would.
func (s situation) sends(t *testing.T, text string, run func(t *testing.T, w *wire.Wire)) {
	t.Helper()
	t.Run(s.name, func(t *testing.T) {
		w, twin := s.wire(t), s.wire(t)
		expectTrace(t, w, cycles(t, s.before))
		run(t, w)
		expectBehind(t, w, cycles(t, s.before), text)
		twin.Send(cycles(t, text)...)
		expectSameChip(t, w.Chip(), twin.Chip())
	})
}

func TestP182IDInEachSituation(t *testing.T) {
	for _, s := range slices.Concat(answering(), engaged()) {
		s.sends(t, "c90 a00 "+s.id, func(t *testing.T, w *wire.Wire) {
			expectID(t, w, readBytes(t, s.id), api.OK)
		})
	}
}

func TestP182ParametersInEachSituation(t *testing.T) {
	for _, s := range slices.Concat(answering(), engaged()) {
		for _, budget := range []int{len(cycles(t, s.wait)), 100, most} {
			s.sends(t, "cec a00 c70 "+s.wait+" c00 "+s.out, func(t *testing.T, w *wire.Wire) {
				expectParameters(t, w, budget, s.parameters, s.wantedParameters)
			})
		}
	}
}

// With a budget that is too small, Parameters stops when it is used up.
func TestP182ParametersTooShortInEachSituation(t *testing.T) {
	for _, s := range slices.Concat(answering(), engaged()) {
		for budget := 1; budget < len(cycles(t, s.wait)); budget++ {
			polls, _ := cycle.Text(cycles(t, s.wait)[:budget])
			s.sends(t, "cec a00 c70 "+polls, func(t *testing.T, w *wire.Wire) {
				expectParameters(t, w, budget, api.Geom{}, api.ErrBusy)
			})
		}
	}
}

// The parameters are asked for first, and a wrong budget is then refused by the
// wait; nothing of the wait is sent.
func TestP182WrongBudgetsInEachSituation(t *testing.T) {
	for _, s := range slices.Concat(answering(), engaged()) {
		for _, budget := range wrongBudgets {
			s.sends(t, "cec a00", func(t *testing.T, w *wire.Wire) {
				expectParameters(t, w, budget, api.Geom{}, api.ErrArg)
			})
		}
	}
}

// The five bytes of each chip.
func TestP182IDOfEachGeometry(t *testing.T) {
	for planes := 1; planes <= 4; planes++ {
		for rungs := 1; rungs <= 8; rungs++ {
			for partial := 1; partial <= 8; partial++ {
				g := api.Geom{Planes: planes, Blocks: 24, Pages: 6, Chunks: 7, Chunk: 9, Rungs: rungs, Partial: partial}
				w := on(t, g, busy(7), "")
				want := []byte{0x49, 0x4e, byte(planes), byte(rungs), byte(partial)}
				for n := 1; n <= 3; n++ {
					expectID(t, w, want, api.OK)
					expectBehind(t, w, nil, times(n, "c90 a00 "+reads(want)))
				}
			}
		}
	}
}

// The parameters of each chip: each number with each value that it may have.
func TestP182ParametersOfEachGeometry(t *testing.T) {
	for _, base := range geometries() {
		all := []api.Geom{base}
		for _, c := range changes() {
			all = append(all, c.others(base)...)
		}
		for _, g := range all {
			w := on(t, g, busy(1), "")
			expectParameters(t, w, 2, g, api.OK)
			expectBehind(t, w, nil, "cec a00 c70 r80 re0 c00 "+reads(byTheWords(g)))
		}
	}
}

// expectDuration fails unless Parameters of a new chip that is busy for a
// duration returns the geometry, or ErrBusy if the budget is too small; the
// wire is returned.
func expectDuration(t *testing.T, duration, budget int) *wire.Wire {
	t.Helper()
	w := on(t, example, busy(duration), "")
	if duration < budget {
		expectParameters(t, w, budget, example, api.OK)
		expectBehind(t, w, nil, "cec a00 c70"+times(duration, "r80")+" re0 c00 "+exampleOut)
	} else {
		expectParameters(t, w, budget, api.Geom{}, api.ErrBusy)
		expectBehind(t, w, nil, "cec a00 c70"+times(budget, "r80"))
	}
	return w
}

// Durations around the budget. Behind a wait that is too short, the chip is
// still busy, and the next call waits for the rest.
func TestP182DurationsAroundTheBudget(t *testing.T) {
	for budget := 1; budget <= 10; budget++ {
		for duration := range 14 {
			w := expectDuration(t, duration, budget)
			if duration < budget {
				continue
			}
			short := w.Trace()
			rest := duration - budget
			expectParameters(t, w, rest+1, example, api.OK)
			expectBehind(t, w, short, "cec a00 c70"+times(rest, "r80")+" re0 c00 "+exampleOut)
		}
	}
}

func TestP182BudgetsAtTheLimits(t *testing.T) {
	if api.MaxBusy != most {
		t.Fatalf("MaxBusy is %d, not %d", api.MaxBusy, most)
	}
	for _, budget := range []int{1, 2, most - 1, most} {
		for _, duration := range []int{0, 1, budget - 1, budget, most} {
			expectDuration(t, duration, budget)
		}
	}
}

// Both orders, one after the other, in each order of them.
func TestP182ManyOrders(t *testing.T) {
	w := on(t, example, busy(1, 0, 2, 4, 0, 3), "")
	durations := []int{1, 0, 2, 4, 0, 3, 0, 0}
	text := ""
	for _, duration := range durations {
		expectID(t, w, []byte{0x49, 0x4e, 2, 3, 5}, api.OK)
		expectParameters(t, w, duration+1, example, api.OK)
		text += " c90 a00 " + exampleID + " cec a00 c70" + times(duration, "r80") + " re0 c00 " + exampleOut
		expectBehind(t, w, nil, text)
	}
}

// What ID returns is new memory.
func TestP182Memory(t *testing.T) {
	w := on(t, example, busy(), "")
	b, _ := ident.ID(w)
	clear(b)
	expectBehind(t, w, nil, "c90 a00 "+exampleID)
	expectID(t, w, []byte{0x49, 0x4e, 2, 3, 5}, api.OK)
}

// expectRules fails unless the judge accepts all that was sent.
func expectRules(t *testing.T, g api.Geom, w *wire.Wire) {
	t.Helper()
	if n, ok := judge.Run(g, w.Trace()); !ok {
		t.Fatalf("the judge rejects cycle %d of %s", n, told(w.Trace()))
	}
}

// Behind a reset, what is sent follows the rules of the bus, also if the budget
// is too small, or wrong.
func TestOrdersFollowTheRules(t *testing.T) {
	for _, g := range geometries() {
		for _, budget := range []int{-1, 0, 1, 2, 3, 4, most, most + 1} {
			w := on(t, g, busy(1, 2), "")
			expectError(t, "Reset", poll.Reset(w, 2), api.OK)
			ident.ID(w)
			expectRules(t, g, w)
			ident.Parameters(w, budget)
			expectRules(t, g, w)

			w = on(t, g, busy(1, 2, 1), "")
			expectError(t, "Reset", poll.Reset(w, 2), api.OK)
			if ident.Check(w, g, budget) == api.OK {
				ident.Check(w, g, budget)
				ident.ID(w)
			}
			expectRules(t, g, w)
		}
	}
}
