package wire_test

import (
	"slices"
	"testing"

	"incunable/api"
	"incunable/chip"
	"incunable/cycle"
	"incunable/wire"
)

// way is how a list of cycles is sent, in one call or in several, of which none
// comes behind one that returns an error.
type way struct {
	name string
	send func(t *testing.T, w *wire.Wire, l []api.Cycle) api.Errno
}

// ways are in one call of Send, in one of Send for each cycle, in one of the
// function of its kind for each cycle, and in one of the function of their kind
// for all neighbors of one kind.
func ways() []way {
	return []way{
		{"one Send", func(t *testing.T, w *wire.Wire, l []api.Cycle) api.Errno { return w.Send(l...) }},
		{"a Send each", sendEach},
		{"a function each", sendEachOfItsKind},
		{"a function for neighbors", sendNeighbors},
	}
}

// sendEach sends each cycle by itself.
func sendEach(t *testing.T, w *wire.Wire, l []api.Cycle) api.Errno {
	for _, x := range l {
		if e := w.Send(x); e != api.OK {
			return e
		}
	}
	return api.OK
}

// sendEachOfItsKind sends each cycle by itself, by the function of its kind.
func sendEachOfItsKind(t *testing.T, w *wire.Wire, l []api.Cycle) api.Errno {
	t.Helper()
	for _, x := range l {
		if e := sendOfAKind(t, w, []api.Cycle{x}); e != api.OK {
			return e
		}
	}
	return api.OK
}

// sendNeighbors sends all neighbors of one kind by one call.
func sendNeighbors(t *testing.T, w *wire.Wire, l []api.Cycle) api.Errno {
	t.Helper()
	for len(l) > 0 {
		n := 1
		for n < len(l) && l[n].Kind == l[0].Kind {
			n++
		}
		if e := sendOfAKind(t, w, l[:n]); e != api.OK {
			return e
		}
		l = l[n:]
	}
	return api.OK
}

// sendOfAKind sends cycles of one kind by its function, and fails unless Read
// returns the bytes that are stored, or none if there is an error.
func sendOfAKind(t *testing.T, w *wire.Wire, l []api.Cycle) api.Errno {
	t.Helper()
	var b []byte
	for _, x := range l {
		b = append(b, x.B)
	}
	switch l[0].Kind {
	case api.Command:
		return w.Command(b...)
	case api.Address:
		return w.Address(b...)
	case api.Write:
		return w.Write(b...)
	}
	before := w.Sent()
	got, e := w.Read(len(b))
	if e != api.OK {
		if len(got) != 0 {
			t.Fatalf("Read returns the error %d and % x", e, got)
		}
		return e
	}
	if !slices.Equal(w.Trace()[before:], cycle.Of(api.Read, got...)) {
		t.Fatalf("Read returns % x, but other bytes are stored", got)
	}
	return e
}

// withCut is a script with another Cut.
func withCut(s api.Script, n int) api.Script {
	s.Cut = n
	return s
}

// The power is lost at each cycle of a run, in each way; then it is on again,
// and the run is sent once more.
func TestP161PowerLostAtEachCycle(t *testing.T) {
	l := cycles(t, longRun)
	for _, by := range ways() {
		for n := range l {
			w, twin := on(t, withCut(eventful(), n)), started(t, withCut(eventful(), n))
			want, e := do(twin, l)
			expectError(t, "the run itself", e, api.ErrPower)
			expectError(t, by.name, by.send(t, w, l), api.ErrPower)
			if len(want) != n {
				t.Fatalf("%d cycles come before the loss of power, not %d", len(want), n)
			}
			expectTrace(t, w, want)
			expectPower(t, w, nil)
			expectSameSight(t, w.Chip(), twin)

			w.Chip().Power()
			twin.Power()
			again, e := do(twin, l)
			expectError(t, "the run itself", e, api.OK)
			expectError(t, by.name, by.send(t, w, l), api.OK)
			expectTrace(t, w, append(want, again...))
			expectPower(t, w, again)
			expectSameChip(t, w.Chip(), twin)
		}
	}
}

// The power is lost at the cycle behind the run, or at none.
func TestP161PowerLostBehindARun(t *testing.T) {
	l := cycles(t, longRun)
	for _, by := range ways() {
		for _, n := range []int{len(l), len(l) + 1, api.MaxCycles, -1} {
			w, twin := on(t, withCut(eventful(), n)), started(t, withCut(eventful(), n))
			want, _ := do(twin, l)
			expectError(t, by.name, by.send(t, w, l), api.OK)
			expectTrace(t, w, want)
			expectNoPower(t, w)
			if n == len(l) {
				expectError(t, "Write", w.Write(1), api.ErrPower)
				expectTrace(t, w, want)
				expectPower(t, w, nil)
			}
		}
	}
}

// Each function returns the error of the cycle at which the power is lost,
// wherever that is among its own.
func TestP161PowerLostWithinACall(t *testing.T) {
	for _, f := range functions() {
		for n := range 7 {
			w, twin := on(t, cut(2+n)), started(t, cut(2+n))
			w.Command(0xff, 0x70)
			b := []byte{0x80, 0, 5, 0, 0, 9, 1}
			want, _ := do(twin, append(cycles(t, "cff c70"), cycle.Of(f.kind, b...)...))
			expectError(t, f.name, f.send(w, b...), api.ErrPower)
			if len(want) != 2+n {
				t.Fatalf("%d cycles come before the loss of power, not %d", len(want), 2+n)
			}
			expectTrace(t, w, want)
			expectPower(t, w, nil)
			expectSameChip(t, w.Chip(), twin)
		}
	}
}

// expectOff fails unless all that is sent is answered with ErrPower, and
// changes nothing.
func expectOff(t *testing.T, w *wire.Wire, stored, behind []api.Cycle) {
	t.Helper()
	cyclesBefore, workBefore := w.Chip().Cycles(), w.Chip().Work()
	for _, f := range functions() {
		expectError(t, f.name, f.send(w, 0), api.ErrPower)
		expectError(t, f.name, f.send(w, 0xff, 0x70), api.ErrPower)
		expectError(t, f.name, f.send(w, 1, 2, 3), api.ErrPower)
		expectError(t, f.name, f.send(w), api.OK)
	}
	expectRead(t, w, 1, nil, api.ErrPower)
	expectRead(t, w, 1000, nil, api.ErrPower)
	expectRead(t, w, most, nil, api.ErrPower)
	expectRead(t, w, 0, nil, api.OK)
	expectRead(t, w, -1, nil, api.ErrArg)
	expectRead(t, w, most+1, nil, api.ErrArg)
	// The chip looks for the power first.
	expectError(t, "Send", w.Send(of(5, 0)), api.ErrPower)
	expectTrace(t, w, stored)
	expectPower(t, w, behind)
	if w.Chip().On() || w.Chip().Cycles() != cyclesBefore || w.Chip().Work() != workBefore {
		t.Fatalf("the chip has become another one")
	}
}

func TestP161WhileThePowerIsOff(t *testing.T) {
	l := cycles(t, longRun)
	for _, n := range []int{0, 1, 2, 3, 17, len(l) - 1} {
		w, twin := on(t, withCut(eventful(), n)), started(t, withCut(eventful(), n))
		want, _ := do(twin, l)
		expectError(t, "Send", w.Send(l...), api.ErrPower)
		expectOff(t, w, want, nil)
		expectOff(t, w, want, nil)
		expectSameChip(t, w.Chip(), twin)
	}
}

// The mark power stands where the power was lost last.
func TestP161ThePowerIsLostAgain(t *testing.T) {
	w := on(t, cut(2))
	expectError(t, "Command", w.Command(0xff, 0x70, 0x70), api.ErrPower)
	w.Chip().Power()
	expectPower(t, w, nil)
	w.Command(0x90)
	w.Address(0)
	expectPower(t, w, cycles(t, "c90 a00"))
	w.Chip().Cut(1)
	expectRead(t, w, 2, nil, api.ErrPower)
	expectText(t, w, "cff c70 c90 a00 r49")
	expectPower(t, w, nil)
	expectOff(t, w, cycles(t, "cff c70 c90 a00 r49"), nil)
	w.Chip().Power()
	w.Command(0xff)
	expectText(t, w, "cff c70 c90 a00 r49 cff")
	expectPower(t, w, cycles(t, "cff"))
	// It is lost again before anything was sent.
	w.Chip().Cut(0)
	w.Command(0x70)
	expectPower(t, w, nil)
	w.Chip().Power()
	w.Chip().Cut(0)
	w.Command(0x70)
	expectText(t, w, "cff c70 c90 a00 r49 cff")
	expectPower(t, w, nil)
}

// The power is lost at a cycle that was not sent by this wire: it sets no mark,
// neither then nor behind it.
func TestP161ThePowerIsLostWithoutTheWire(t *testing.T) {
	w := on(t, quiet())
	w.Command(0xff)
	w.Chip().Cut(0)
	w.Chip().Do(of(api.Command, 0x70))
	for _, f := range functions() {
		expectError(t, f.name, f.send(w, 1, 2), api.ErrPower)
	}
	expectText(t, w, "cff")
	expectNoPower(t, w)
	w.Chip().Power()
	w.Command(0x70)
	expectText(t, w, "cff c70")
	expectNoPower(t, w)

	// A mark that it set before stays where it is.
	w.Chip().Cut(0)
	w.Command(0x70)
	w.Chip().Power()
	w.Command(0x90)
	w.Chip().Cut(0)
	w.Chip().Do(of(api.Command, 0x70))
	expectError(t, "Address", w.Address(0), api.ErrPower)
	expectText(t, w, "cff c70 c90")
	expectPower(t, w, cycles(t, "c90"))
}

// Two wires to one chip store what each of them sends, and only the one sets
// the mark at whose cycle the power is lost.
func TestTwoWiresToOneChip(t *testing.T) {
	c := started(t, cut(6))
	first, second := wired(t, c), wired(t, c)
	first.Command(0x90)
	second.Address(0)
	expectRead(t, first, 1, []byte{0x49}, api.OK)
	expectRead(t, second, 2, []byte{0x4e, 0x02}, api.OK)
	expectRead(t, first, 1, []byte{0x03}, api.OK)
	expectRead(t, second, 1, nil, api.ErrPower)
	expectRead(t, first, 1, nil, api.ErrPower)
	expectText(t, first, "c90 r49 r03")
	expectText(t, second, "a00 r4e r02")
	expectNoPower(t, first)
	expectPower(t, second, nil)
	if first.Chip() != c || second.Chip() != c || c.Cycles() != 6 {
		t.Error("the wires do not share the chip")
	}
}

// sim is what a wire should store, beside a chip that gets the same cycles
// without it.
type sim struct {
	twin   *chip.Chip
	stored []api.Cycle
	marked bool
	mark   int
}

// send is what a wire should do with cycles.
func (s *sim) send(l []api.Cycle) api.Errno {
	was := s.twin.On()
	sent, e := do(s.twin, l)
	s.stored = append(s.stored, sent...)
	if was && !s.twin.On() {
		s.marked, s.mark = true, len(s.stored)
	}
	return e
}

// numbers are an endless list, the same for each start.
type numbers uint64

// below is the next number, from 0 to n-1.
func (r *numbers) below(n int) int {
	*r = *r*6364136223846793005 + 1442695040888963407
	return int((uint64(*r) >> 33) % uint64(n))
}

// some are a few cycles: a piece of the long run, or any, of which some are not
// valid.
func (r *numbers) some(run []api.Cycle) []api.Cycle {
	n := r.below(12)
	if r.below(3) > 0 {
		at := r.below(len(run))
		return run[at:min(at+n, len(run))]
	}
	var l []api.Cycle
	for range n {
		l = append(l, of(1+r.below(4), byte(r.below(256))))
		if r.below(20) == 0 {
			l[len(l)-1].Kind = wrongKinds[r.below(len(wrongKinds))]
		}
	}
	return l
}

// step does one thing with a wire, and with what it should be.
func (r *numbers) step(t *testing.T, w *wire.Wire, s *sim, run []api.Cycle) {
	t.Helper()
	switch r.below(12) {
	case 0:
		n := r.below(30) - 3
		w.Chip().Cut(n)
		s.twin.Cut(n)
	case 1, 2:
		w.Chip().Power()
		s.twin.Power()
	case 3:
		x := run[r.below(len(run))]
		w.Chip().Do(x)
		s.twin.Do(x)
	case 4, 5, 6:
		f := functions()[r.below(8)]
		b := make([]byte, r.below(5))
		for i := range b {
			b[i] = byte(r.below(256))
		}
		want := s.send(cycle.Of(f.kind, b...))
		expectError(t, f.name, f.send(w, b...), want)
	default:
		l := r.some(run)
		want := s.send(l)
		expectError(t, "Send", w.Send(l...), want)
	}
}

// Long runs of all that can be done with a wire.
func TestP161LongRuns(t *testing.T) {
	run := cycles(t, longRun)
	for start := range 60 {
		r := numbers(start)
		w, s := on(t, eventful()), &sim{twin: started(t, eventful())}
		for range 300 {
			r.step(t, w, s, run)
			expectTrace(t, w, s.stored)
			if s.marked {
				expectPower(t, w, s.stored[s.mark:])
			} else {
				expectNoPower(t, w)
			}
		}
		expectSameChip(t, w.Chip(), s.twin)
	}
}
