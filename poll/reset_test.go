package poll_test

import (
	"slices"
	"testing"

	"incunable/api"
	"incunable/poll"
	"incunable/wire"
)

func TestP172Example(t *testing.T) {
	w := on(t, busy(3), "")
	expectReset(t, w, 4, api.OK)
	expectText(t, w, "cff c70 r80 r80 r80 re0")
	if n := poll.Polls(w.Trace()); n != 4 {
		t.Errorf("there were %d polls, not 4", n)
	}
}

func TestP172BudgetsThatAreRefused(t *testing.T) {
	for _, budget := range wrongBudgets {
		before := "c80 a00 a00 a05 a00 w0f c10"
		w, twin := on(t, busy(3, 1), before), on(t, busy(3, 1), before)
		w.Chip().Cut(0)
		expectReset(t, w, budget, api.ErrArg)
		expectText(t, w, before)
		if !w.Chip().On() {
			t.Fatalf("the power was lost with the budget %d", budget)
		}
		w.Chip().Cut(-1)
		expectSameChip(t, w.Chip(), twin.Chip())
	}
}

func TestP172BudgetsAtTheLimits(t *testing.T) {
	for _, budget := range []int{1, 2, most - 1, most} {
		for _, duration := range []int{0, 1, budget - 1, budget, most} {
			want, e := resetting(t, duration, budget)
			w := on(t, busy(duration), "")
			expectReset(t, w, budget, e)
			expectTrace(t, w, want)
		}
	}
}

func TestP172DurationsAroundTheBudget(t *testing.T) {
	for budget := 1; budget <= 12; budget++ {
		for duration := range 16 {
			want, e := resetting(t, duration, budget)
			w := on(t, busy(duration, 2), "")
			expectReset(t, w, budget, e)
			expectTrace(t, w, want)
			if duration < budget {
				continue
			}
			// The chip is still busy, and is waited for, or reset again.
			rest := duration - budget
			expectReady(t, w, rest+1, 0xe0, api.OK)
			expectTrace(t, w, append(want, cycles(t, "c70"+times(rest, "r80")+" re0")...))

			w = on(t, busy(duration, 2), "")
			expectReset(t, w, budget, e)
			expectReset(t, w, 3, api.OK)
			expectTrace(t, w, append(want, cycles(t, "cff c70 r80 r80 re0")...))
		}
	}
}

// interrupted is something that a reset comes into, and the rows that are torn
// by it.
type interrupted struct {
	name   string
	before string
	torn   []int
}

// interruptions have each kind of work, pending and not.
var interruptions = []interrupted{
	{"nothing", "", nil},
	{"a reset", "cff", nil},
	{"a reset that is waited for", "cff c70 r00", nil},
	{"the identification", "c90 a00 r00", nil},
	{"the parameters", "cec a00", nil},
	{"another rung", "cef a89 w02 w00 w00 w00 c70 r00 r00 r00 r00", nil},
	{"half an order", "c80 a00 a00", nil},
	{"a row that is loaded", "c80 a00 a00 a05 a00 w11", nil},
	{"a read", "c00 a00 a00 a05 a00 c30", nil},
	{"a read, shortly before its end", "c00 a00 a00 a05 a00 c30 c70 r00 r00 r00", nil},
	{"a program of a lower page", "c80 a00 a00 a04 a00 w11 c10", []int{4}},
	{"a program of an upper page", "c80 a00 a00 a07 a00 w11 c10 c70 r00", []int{6, 7}},
	{"a row that is queued", "c80 a00 a00 a05 a00 w11 c11", nil},
	{"programs in both planes", `c80 a00 a00 a05 a00 w11 c11 c70 r00 r00 r00 r00
		c80 a00 a00 a08 a00 w22 c10 c70 r00 r00`, []int{4, 5, 8}},
	{"an erase", "c60 a05 a00 cd0", []int{4, 5, 6, 7}},
	{"a block that is queued", "c60 a05 a00 cd1", nil},
	{"erases in both planes", `c60 a05 a00 cd1 c70 r00 r00 r00 r00
		c60 a08 a00 cd0 c70 r00`, []int{4, 5, 6, 7, 8, 9, 10, 11}},
	{"a program in the background, and busy", "c80 a00 a00 a05 a00 w11 c15", []int{4, 5}},
	{"a program in the background", "c80 a00 a00 a0c a00 w11 c15 c70 r00 r00 r00 r00", []int{12}},
	{"a program in the background, and one", `c80 a00 a00 a04 a00 w11 c15 c70 r00 r00 r00 r00
		c80 a00 a00 a06 a00 w22 c10`, []int{4, 6}},
	{"a program that is done", "c80 a00 a00 a05 a00 w11 c10 c70 r00 r00 r00 r00", nil},
	{"a background that is done", "c80 a00 a00 a05 a00 w11 c15 c70 r00 r00 r00 r00 r00 r00 r00", nil},
}

// wire is a new wire in the situation, with a chip that is busy for three polls
// at a time, but for d polls behind the next command ff. The first program or
// erase fails if fails is set.
func (x interrupted) wire(t *testing.T, d int, fails bool) *wire.Wire {
	t.Helper()
	s := busy(3, 3, 3, 3, 3, 3, 3, 3)
	if fails {
		s.Fails = []int{0}
	}
	s.Busy[x.durations(t)] = d
	return on(t, s, x.before)
}

// durations is for how many durations the chip asks before the reset.
func (x interrupted) durations(t *testing.T) int {
	t.Helper()
	n := 0
	for _, c := range cycles(t, x.before) {
		switch {
		case c.Kind == api.Command && slices.Contains([]byte{0xff, 0x30, 0x10, 0x11, 0xd0, 0xd1}, c.B):
			n++
		case c.Kind == api.Command && c.B == 0x15:
			n += 2
		case c.Kind == api.Command && (c.B == 0xec || c.B == 0xef):
			n++
		}
	}
	return n
}

// A reset in each situation: what it sends, what it returns, and what is torn.
func TestP172ResetInEachSituation(t *testing.T) {
	for _, x := range interruptions {
		for _, fails := range []bool{false, true} {
			for d := range 5 {
				for budget := 1; budget <= 6; budget++ {
					w, twin := x.wire(t, d, fails), x.wire(t, d, fails)
					before := w.Trace()
					want, e := resetting(t, d, budget)
					expectReset(t, w, budget, e)
					expectTrace(t, w, append(before, want...))
					expectTorn(t, x, w, fails)
					twin.Send(want...)
					expectSameChip(t, w.Chip(), twin.Chip())
				}
			}
		}
	}
}

// expectTorn fails unless just the rows are torn that a reset should tear; if a
// work has failed before it, its rows may be, too.
func expectTorn(t *testing.T, x interrupted, w *wire.Wire, fails bool) {
	t.Helper()
	for row := range example.Blocks * example.Pages {
		torn, should := w.Chip().Array().Torn(row), slices.Contains(x.torn, row)
		if torn != should && (should || !fails || w.Chip().Work() == 0) {
			t.Fatalf("%s: row %d is torn: %t", x.name, row, torn)
		}
	}
}

// A reset takes the bits of a failure away.
func TestP172ResetBehindAFailure(t *testing.T) {
	for _, s := range situations {
		w := s.wire(t)
		poll.Ready(w, 20)
		before := w.Trace()
		expectReset(t, w, 1, api.OK)
		expectTrace(t, w, append(before, cycles(t, "cff c70 re0")...))
	}
}

// Behind a reset that returns ErrBusy, the work is interrupted all the same.
func TestP172AResetThatIsTooShort(t *testing.T) {
	w := on(t, busy(2, 9), "c80 a00 a00 a05 a00 w0f c10")
	expectReset(t, w, 2, api.ErrBusy)
	if !w.Chip().Array().Torn(5) || !w.Chip().Array().Torn(4) {
		t.Error("the program was not interrupted")
	}
	expectReady(t, w, 7, 0, api.ErrBusy)
	expectReady(t, w, 1, 0xe0, api.OK)
	expectText(t, w, "c80 a00 a00 a05 a00 w0f c10 cff c70 r80 r80 c70"+times(7, "r80")+" c70 re0")
}
