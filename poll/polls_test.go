package poll_test

import (
	"math"
	"slices"
	"testing"

	"incunable/api"
	"incunable/cycle"
	"incunable/poll"
)

// expectPolls fails unless Polls returns n.
func expectPolls(t *testing.T, l []api.Cycle, n int) {
	t.Helper()
	if got := poll.Polls(l); got != n {
		t.Fatalf("Polls of %v is %d, not %d", l, got, n)
	}
}

func TestP173Texts(t *testing.T) {
	for _, x := range []struct {
		text string
		n    int
	}{
		{"", 0},
		// Reads ahead of every other cycle are none, whatever they return.
		{"r00", 0},
		{"re0", 0},
		{"r70", 0},
		{"r70 re0 r80", 0},
		// Reads behind 70.
		{"c70", 0},
		{"c70 re0", 1},
		{"c70 r00", 1},
		{"c70 r70", 1},
		{"c70 rff r80 rc0 re0", 4},
		{"re0 c70 re0", 1},
		{"r80 r80 c70 r80 r80 re0 re0", 4},
		{"cff c70 r80 r80 re0", 3},
		{"c90 a00 c70 re0", 1},
		{"c70 c70 re0", 1},
		// Reads behind another command.
		{"cff r80 re0", 0},
		{"c00 r80 re0", 0},
		{"c71 re0", 0},
		{"c07 re0", 0},
		{"cf0 re0", 0},
		{"c70 cff re0", 0},
		{"c70 c00 re0 re0", 0},
		{"c70 re0 c00 re0 re0", 1},
		// Reads behind an address and a write, also with the byte 70.
		{"c90 a00 r49 r4e", 0},
		{"c70 a00 re0", 0},
		{"c70 a70 re0", 0},
		{"a70 re0", 0},
		{"c70 w00 re0", 0},
		{"c70 w70 re0", 0},
		{"w70 re0", 0},
		{"c70 re0 a70 re0 re0", 1},
		{"c70 re0 w70 re0 re0", 1},
		// Several runs.
		{"cff c70 r80 re0 c90 a00 r49 r4e c70 re0", 3},
		{"c70 re0 c70 re0 c70 re0", 3},
		{"c70 re0 re0 c00 re0 c70 c70 re0 a00 re0 c70 re0 re0 re0", 6},
		{"c70 re0 c70", 1},
		{"c00 a00 a00 a05 a00 c30 c70 r80 r80 re0 c00 re0 re0 c05 a01 a00 ce0 re0", 3},
	} {
		expectPolls(t, cycles(t, x.text), x.n)
	}
	expectPolls(t, nil, 0)
	expectPolls(t, []api.Cycle{}, 0)
}

// A cycle of a kind that is not valid is a cycle other than a Read.
func TestP173KindsThatAreNotValid(t *testing.T) {
	for _, kind := range []int{0, -1, 5, 256 + api.Read, 1<<32 + api.Read, 1<<32 + api.Command, math.MinInt, math.MaxInt} {
		for _, b := range []byte{0, 0x70, 0xe0} {
			odd := api.Cycle{Kind: kind, B: b}
			expectPolls(t, []api.Cycle{odd}, 0)
			expectPolls(t, append([]api.Cycle{odd}, cycles(t, "re0")...), 0)
			expectPolls(t, slices.Concat(cycles(t, "c70 re0"), []api.Cycle{odd}, cycles(t, "re0 re0")), 1)
			expectPolls(t, slices.Concat(cycles(t, "c70 re0"), []api.Cycle{odd}, cycles(t, "c70 re0 re0")), 3)
		}
	}
}

// pollsByTheWords counts the polls by the chapter's words, one after the other.
func pollsByTheWords(l []api.Cycle) int {
	n := 0
	for at, x := range l {
		if x.Kind != api.Read {
			continue
		}
		for before := at - 1; before >= 0; before-- {
			if y := l[before]; y.Kind != api.Read {
				if y.Kind == api.Command && y.B == 0x70 {
					n++
				}
				break
			}
		}
	}
	return n
}

// All lists of up to six of some cycles.
func TestP173AllShortLists(t *testing.T) {
	some := append(cycles(t, "c70 cff a70 w70 r70 re0"), api.Cycle{Kind: 0, B: 0x70})
	lists := [][]api.Cycle{nil}
	for range 6 {
		var longer [][]api.Cycle
		for _, l := range lists {
			expectPolls(t, l, pollsByTheWords(l))
			for _, x := range some {
				longer = append(longer, append(slices.Clone(l), x))
			}
		}
		lists = longer
	}
	for _, l := range lists {
		expectPolls(t, l, pollsByTheWords(l))
	}
}

// Each kind and byte before a Read, and in the Read.
func TestP173EachByte(t *testing.T) {
	for kind := api.Command; kind <= api.Read; kind++ {
		for b := range 256 {
			x := api.Cycle{Kind: kind, B: byte(b)}
			n := 0
			if kind == api.Command && b == 0x70 {
				n = 2
			}
			expectPolls(t, append([]api.Cycle{x}, cycles(t, "re0 r70")...), n)
			n = 0
			if kind == api.Read {
				n = 1
			}
			expectPolls(t, append(cycles(t, "c70"), x), n)
		}
	}
}

func TestP173TheTraceOfWaits(t *testing.T) {
	w := on(t, busy(3, 5), "")
	expectPolls(t, w.Trace(), 0)
	expectReset(t, w, 4, api.OK)
	expectPolls(t, w.Trace(), 4)
	w.Command(0xff)
	expectReady(t, w, 5, 0, api.ErrBusy)
	expectPolls(t, w.Trace(), 9)
	expectReady(t, w, 5, 0xe0, api.OK)
	expectPolls(t, w.Trace(), 10)
	expectWait(t, w, 0x01, 7, 0, api.ErrBusy)
	expectPolls(t, w.Trace(), 17)
	// The power is lost at the third poll, which is not stored.
	w.Chip().Cut(3)
	expectWait(t, w, 0x01, 7, 0, api.ErrPower)
	expectPolls(t, w.Trace(), 19)
	w.Chip().Power()
	w.Command(0x90)
	w.Address(0)
	w.Read(5)
	expectPolls(t, w.Trace(), 19)
}

func TestP173ManyPolls(t *testing.T) {
	l := append(cycle.Of(api.Command, 0x70), cycle.Of(api.Read, make([]byte, 1<<20)...)...)
	expectPolls(t, l, 1<<20)
	expectPolls(t, l[1:], 0)
	l[1<<19].Kind = api.Write
	expectPolls(t, l, 1<<19-1)
}

// The cycles that Polls is given are not changed.
func TestPollsChangesNothing(t *testing.T) {
	l := cycles(t, "re0 c70 re0 re0 c00 r11 c70 r22")
	kept := slices.Clone(l)
	expectPolls(t, l, 3)
	if !slices.Equal(l, kept) {
		t.Errorf("the cycles have become %s", told(l))
	}
}

// starts are orders that start something, each of which asks for one duration.
var starts = []string{
	"cff",
	"cec a00",
	"cef a89 w01 w00 w00 w00",
	"c00 a00 a00 a05 a00 c30",
	"c80 a00 a00 a05 a00 w11 c10",
	"c80 a00 a00 a05 a00 w11 c11",
	"c60 a05 a00 cd0",
	"c60 a05 a00 cd1",
}

// pollsOf is how many polls a wait sends, counted from the trace.
func pollsOf(w interface{ Trace() []api.Cycle }, wait func()) int {
	before := poll.Polls(w.Trace())
	wait()
	return poll.Polls(w.Trace()) - before
}

// A duration below the budget never causes ErrBusy, and the wait has one poll
// more than it; a greater one causes it, after budget polls.
func TestP174EachOrder(t *testing.T) {
	for _, start := range starts {
		for _, fails := range [][]int{nil, {0}} {
			for budget := 1; budget <= 9; budget++ {
				for duration := range 12 {
					w := on(t, failing(fails, duration), start)
					var e api.Errno
					n := pollsOf(w, func() { _, e = poll.Ready(w, budget) })
					want, polls := api.OK, duration+1
					if duration >= budget {
						want, polls = api.ErrBusy, budget
					}
					if e != want || n != polls {
						t.Fatalf("%s, %d polls with the budget %d: %d, after %d polls", start, duration, budget, e, n)
					}
				}
			}
		}
	}
}

// A wait for bits that never come has just budget polls.
func TestP174BitsThatNeverCome(t *testing.T) {
	for _, budget := range []int{1, 2, 3, 10, 1000, most} {
		for _, bits := range []byte{0x01, 0x02, 0x04, 0x08, 0x10, 0x1f, 0xff} {
			w := on(t, busy(1), "cff")
			var e api.Errno
			n := pollsOf(w, func() { _, e = poll.Wait(w, bits, budget) })
			if e != api.ErrBusy || n != budget || w.Sent() != budget+2 {
				t.Fatalf("Wait(%02x, %d) is %d, after %d polls and %d cycles", bits, budget, e, n, w.Sent())
			}
		}
	}
}

// A long run of orders, whose durations are all below the budget: each is
// waited for, and none of them causes ErrBusy.
func TestP174ALongRun(t *testing.T) {
	for budget := 1; budget <= 30; budget++ {
		durations := make([]int, 400)
		for i := range durations {
			durations[i] = (i*i*7 + i*3 + budget) % budget
		}
		w := on(t, busy(durations...), "")
		for i, duration := range durations {
			w.Send(cycles(t, starts[i%len(starts)])...)
			n := pollsOf(w, func() { expectReady(t, w, budget, 0xe0, api.OK) })
			if n != duration+1 || n > budget {
				t.Fatalf("there were %d polls for %d, with the budget %d", n, duration, budget)
			}
		}
	}
}

// Two durations belong to a program in the background. Each is waited for by
// itself: until the chip accepts orders, and then until all is done.
func TestP174InTheBackground(t *testing.T) {
	for budget := 1; budget <= 8; budget++ {
		for behind := range budget {
			for ahead := range budget {
				w := on(t, busy(behind, ahead), "c80 a00 a00 a05 a00 w11 c15")
				n := pollsOf(w, func() {
					if _, e := poll.Wait(w, 0x40, budget); e != api.OK {
						t.Fatalf("Wait(40, %d) is %d", budget, e)
					}
				})
				if n != ahead+1 {
					t.Fatalf("there were %d polls for %d", n, ahead)
				}
				n = pollsOf(w, func() { expectReady(t, w, budget, 0xe0, api.OK) })
				if n != max(behind, 1) {
					t.Fatalf("there were %d polls for %d in the background", n, behind)
				}
			}
		}
	}
}

// A wait for both durations at once has no more polls than the budget, either:
// it needs as many as their sum, and one more.
func TestP174BothDurationsAtOnce(t *testing.T) {
	for behind := range 6 {
		for ahead := range 6 {
			for budget := 1; budget <= 13; budget++ {
				w := on(t, busy(behind, ahead), "c80 a00 a00 a05 a00 w11 c15")
				var e api.Errno
				n := pollsOf(w, func() { _, e = poll.Ready(w, budget) })
				want, polls := api.OK, ahead+behind+1
				if polls > budget {
					want, polls = api.ErrBusy, budget
				}
				if e != want || n != polls {
					t.Fatalf("%d and %d with the budget %d: %d, after %d polls", ahead, behind, budget, e, n)
				}
			}
		}
	}
}
