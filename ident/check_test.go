package ident_test

import (
	"slices"
	"testing"

	"incunable/api"
	"incunable/ident"
	"incunable/poll"
	"incunable/wire"
)

// expectCheck fails unless Check returns this error.
func expectCheck(t *testing.T, w *wire.Wire, g api.Geom, budget int, want api.Errno) {
	t.Helper()
	if e := ident.Check(w, g, budget); e != want {
		t.Fatalf("Check(%v, %d) is %d, not %d", g, budget, e, want)
	}
}

// isIdentified reports whether the identification tells the number, so that a
// chip can be refused for it before it is asked for its parameters.
func isIdentified(c change) bool {
	return c.name == "Planes" || c.name == "Rungs" || c.name == "Partial"
}

// idOf and outOf are the Reads of the identification and of the parameters of a
// chip of a geometry.
func idOf(g api.Geom) string {
	return reads([]byte{0x49, 0x4e, byte(g.Planes), byte(g.Rungs), byte(g.Partial)})
}

func outOf(g api.Geom) string {
	return reads(byTheWords(g))
}

func TestP183Example(t *testing.T) {
	g := api.Geom{Planes: 2, Blocks: 16, Pages: 8, Chunks: 2, Chunk: 512, Rungs: 3, Partial: 1}
	other := g
	other.Blocks = 18
	w := on(t, g, busy(), "")
	expectCheck(t, w, other, 5, api.ErrChip)
	expectCheck(t, w, g, 5, api.OK)
	expectCheck(t, on(t, other, busy(), ""), other, 5, api.OK)
	expectCheck(t, on(t, other, busy(), ""), g, 5, api.ErrChip)
}

// A geometry that is not valid is refused before anything is sent, whatever the
// budget is: the chip is as one that was not asked, and no power is lost.
func TestP183WrongGeometries(t *testing.T) {
	w, twin := on(t, example, busy(2), "cff c70 r80"), on(t, example, busy(2), "cff c70 r80")
	w.Chip().Cut(0)
	for _, g := range wrongGeometries() {
		for _, budget := range []int{5, 0, -1, most, most + 1} {
			expectCheck(t, w, g, budget, api.ErrArg)
		}
	}
	expectBehind(t, w, nil, "cff c70 r80")
	w.Chip().Cut(-1)
	expectSameChip(t, w.Chip(), twin.Chip())
}

func TestP183OwnGeometry(t *testing.T) {
	for _, g := range geometries() {
		for _, duration := range []int{0, 1, 5, 40} {
			for _, budget := range []int{duration + 1, duration + 2, most} {
				w := on(t, g, busy(duration), "")
				expectCheck(t, w, g, budget, api.OK)
				expectBehind(t, w, nil, "c90 a00 "+idOf(g)+" cec a00 c70"+times(duration, "r80")+" re0 c00 "+outOf(g))
			}
		}
	}
}

// Each geometry that differs from the chip's in one number. If that is in the
// identification, nothing more is sent.
func TestP183OneOtherNumber(t *testing.T) {
	for _, g := range geometries() {
		for _, c := range changes() {
			for _, other := range c.others(g) {
				w := on(t, g, busy(1), "")
				expectCheck(t, w, other, 2, api.ErrChip)
				if isIdentified(c) {
					expectBehind(t, w, nil, "c90 a00 "+idOf(g))
					continue
				}
				expectBehind(t, w, nil, "c90 a00 "+idOf(g)+" cec a00 c70 r80 re0 c00 "+outOf(g))
			}
		}
	}
}

// The chip has the other geometry, and is asked for the example.
func TestP183ChipsOfOtherGeometries(t *testing.T) {
	for _, c := range changes() {
		for _, other := range c.others(example) {
			w := on(t, other, busy(1), "")
			expectCheck(t, w, example, 2, api.ErrChip)
			expectCheck(t, w, other, 2, api.OK)
		}
	}
}

// A chip that is not engaged is accepted without a reset, too; what it is asked
// leaves it as the cycles alone would.
func TestP183AnsweringSituations(t *testing.T) {
	for _, s := range answering() {
		s.sends(t, "c90 a00 "+s.id+" cec a00 c70 "+s.wait+" c00 "+s.out, func(t *testing.T, w *wire.Wire) {
			expectCheck(t, w, example, len(cycles(t, s.wait)), api.OK)
		})
		for _, c := range changes() {
			for _, other := range c.others(example)[:1] {
				sent := "c90 a00 " + s.id
				if !isIdentified(c) {
					sent += " cec a00 c70 " + s.wait + " c00 " + s.out
				}
				s.sends(t, sent, func(t *testing.T, w *wire.Wire) {
					expectCheck(t, w, other, len(cycles(t, s.wait)), api.ErrChip)
				})
			}
		}
	}
}

// A chip that is engaged does not identify itself: it is refused whatever the
// budget is, and not asked for its parameters.
func TestP183EngagedSituations(t *testing.T) {
	for _, s := range engaged() {
		for _, budget := range []int{1, 100, most, 0, -1, most + 1} {
			s.sends(t, "c90 a00 "+s.id, func(t *testing.T, w *wire.Wire) {
				expectCheck(t, w, example, budget, api.ErrChip)
			})
		}
	}
}

// The chip tells another geometry while it is engaged, but its identification
// is asked for first.
func TestP183EngagedWithAnotherGeometry(t *testing.T) {
	for _, s := range engaged() {
		if s.wantedParameters == api.OK {
			w := s.wire(t)
			expectCheck(t, w, s.parameters, most, api.ErrChip)
			expectBehind(t, w, cycles(t, s.before), "c90 a00 "+s.id)
		}
	}
}

// Durations around the budget, for the chip's own geometry and for others: the
// identification comes first, then the wait, then the geometry.
func TestP183DurationsAroundTheBudget(t *testing.T) {
	for budget := 1; budget <= 8; budget++ {
		for duration := range 11 {
			sent := "c90 a00 " + exampleID + " cec a00 c70" + times(duration, "r80") + " re0 c00 " + exampleOut
			own, other := api.OK, api.ErrChip
			if duration >= budget {
				sent = "c90 a00 " + exampleID + " cec a00 c70" + times(budget, "r80")
				own, other = api.ErrBusy, api.ErrBusy
			}
			w := on(t, example, busy(duration), "")
			expectCheck(t, w, example, budget, own)
			expectBehind(t, w, nil, sent)
			for _, c := range changes() {
				w := on(t, example, busy(duration), "")
				if isIdentified(c) {
					expectCheck(t, w, c.others(example)[0], budget, api.ErrChip)
					expectBehind(t, w, nil, "c90 a00 "+exampleID)
					continue
				}
				expectCheck(t, w, c.others(example)[0], budget, other)
				expectBehind(t, w, nil, sent)
			}
		}
	}
}

func TestP183BudgetsAtTheLimits(t *testing.T) {
	for _, budget := range []int{1, 2, most - 1, most} {
		expectCheck(t, on(t, example, busy(budget-1), ""), example, budget, api.OK)
		expectCheck(t, on(t, example, busy(budget), ""), example, budget, api.ErrBusy)
	}
}

// A wrong budget is the wait's error, behind that of the identification and
// ahead of that of the geometry.
func TestP183WrongBudgets(t *testing.T) {
	for _, budget := range wrongBudgets {
		w := on(t, example, busy(2), "")
		expectCheck(t, w, example, budget, api.ErrArg)
		expectBehind(t, w, nil, "c90 a00 "+exampleID+" cec a00")
		for _, c := range changes() {
			w := on(t, example, busy(2), "")
			if isIdentified(c) {
				expectCheck(t, w, c.others(example)[0], budget, api.ErrChip)
				expectBehind(t, w, nil, "c90 a00 "+exampleID)
				continue
			}
			expectCheck(t, w, c.others(example)[0], budget, api.ErrArg)
			expectBehind(t, w, nil, "c90 a00 "+exampleID+" cec a00")
		}
	}
}

// Behind a wait that was too short, the chip is busy, and is refused till it
// is ready, or reset.
func TestP183BehindAWaitThatIsTooShort(t *testing.T) {
	short := "c90 a00 " + exampleID + " cec a00 c70 r80 r80"
	w := on(t, example, busy(8, 1), "")
	expectCheck(t, w, example, 2, api.ErrBusy)
	expectBehind(t, w, nil, short)
	expectCheck(t, w, example, 2, api.ErrChip)
	expectBehind(t, w, nil, short+" c90 a00 r80 r80 r80 r80 r80")
	if b, e := poll.Ready(w, 2); b != 0xe0 || e != api.OK {
		t.Fatalf("Ready is %02x, %d", b, e)
	}
	expectCheck(t, w, example, 2, api.OK)

	w = on(t, example, busy(8, 1, 1), "")
	expectCheck(t, w, example, 2, api.ErrBusy)
	expectError(t, "Reset", poll.Reset(w, 2), api.OK)
	expectCheck(t, w, example, 2, api.OK)
}

// Each chip accepts its own geometry behind a reset, and no other one of all
// that are tested.
func TestP184EachPairOfGeometries(t *testing.T) {
	for _, g := range geometries() {
		w := on(t, g, busy(3, 2, 2, 1, 1, 0, 3, 3, 2, 0, 1), "")
		expectError(t, "Reset", poll.Reset(w, 4), api.OK)
		for _, other := range geometries() {
			want := api.ErrChip
			if other == g {
				want = api.OK
			}
			expectCheck(t, w, other, 4, want)
		}
	}
}

// Geometries that differ from the example in two numbers.
func TestP184TwoOtherNumbers(t *testing.T) {
	w := on(t, example, busy(1), "")
	expectError(t, "Reset", poll.Reset(w, 2), api.OK)
	for _, c := range changes() {
		for _, once := range c.others(example) {
			if c.name == "Chunk" && once.Chunk%16 != 4 || c.name == "Blocks" && once.Blocks%16 != 4 {
				continue
			}
			for _, d := range changes() {
				for _, twice := range d.others(once) {
					// The second change may be to the same number, and take the first one back.
					want := api.ErrChip
					if twice == example {
						want = api.OK
					}
					expectCheck(t, w, twice, 1, want)
				}
			}
		}
	}
}

// resetting is a script in which the chip is busy for these durations behind
// the first cycles of a situation.
func resetting(s situation, durations ...int) api.Script {
	script := s.script
	script.Busy = append(slices.Clone(script.Busy), durations...)
	return script
}

// A reset in each situation, with a budget above all durations: the chip's own
// geometry is accepted, and no other one.
func TestP184AfterAResetInEachSituation(t *testing.T) {
	for _, s := range slices.Concat(answering(), engaged()) {
		budget := 1 + slices.Max(append(slices.Clone(s.script.Busy), 5))
		w := on(t, example, resetting(s, 5, 4, 0, 3), s.before)
		expectError(t, "Reset", poll.Reset(w, budget), api.OK)
		expectCheck(t, w, example, budget, api.OK)
		for _, c := range changes() {
			for _, other := range c.others(example) {
				w := on(t, example, resetting(s, 5, 4, 0, 3), s.before)
				expectError(t, "Reset", poll.Reset(w, budget), api.OK)
				expectCheck(t, w, other, budget, api.ErrChip)
			}
		}
	}
}

// All durations of the reset and of the parameters below the budget.
func TestP184DurationsBelowTheBudget(t *testing.T) {
	for budget := 1; budget <= 12; budget++ {
		for first := range budget {
			for second := range budget {
				w := on(t, example, busy(first, second), "")
				expectError(t, "Reset", poll.Reset(w, budget), api.OK)
				expectCheck(t, w, example, budget, api.OK)
				expectCheck(t, w, least, budget, api.ErrChip)
			}
		}
	}
}
