package poll_test

import (
	"testing"

	"incunable/api"
	"incunable/trace"
	"incunable/wire"
)

// noWires are nil, and wires that wire.New did not return.
func noWires() []*wire.Wire {
	return []*wire.Wire{nil, {}, {Recorder: trace.New()}}
}

func TestP171NoWire(t *testing.T) {
	for _, w := range noWires() {
		for _, budget := range []int{1, 2, most} {
			for _, bits := range []byte{0, 0x60, 0xff} {
				expectWait(t, w, bits, budget, 0, api.ErrNil)
			}
			expectReady(t, w, budget, 0, api.ErrNil)
			expectReset(t, w, budget, api.ErrNil)
		}
		// The chapter names the error of the budget before that of the wire.
		for _, budget := range wrongBudgets {
			expectWait(t, w, 0x60, budget, 0, api.ErrArg)
			expectReady(t, w, budget, 0, api.ErrArg)
			expectReset(t, w, budget, api.ErrArg)
		}
		if w != nil && w.Recorder.All() != 0 {
			t.Error("a wire that New did not return has stored cycles")
		}
	}
}

// expectPower fails unless the mark power is set, with nothing behind it.
func expectPower(t *testing.T, w *wire.Wire) {
	t.Helper()
	if l, ok := w.Since("power"); len(l) != 0 || !ok {
		t.Fatalf("since the mark power are %s, %t", told(l), ok)
	}
}

// The power is off already: nothing is sent, and no mark is set.
func TestP171ThePowerIsOff(t *testing.T) {
	w := on(t, busy(3), "cff")
	w.Chip().Cut(0)
	w.Chip().Do(api.Cycle{Kind: api.Command, B: 0x70})
	for range 2 {
		expectWait(t, w, 0, 1, 0, api.ErrPower)
		expectWait(t, w, 0x40, most, 0, api.ErrPower)
		expectReady(t, w, 5, 0, api.ErrPower)
		expectReset(t, w, 5, api.ErrPower)
		expectText(t, w, "cff")
		if _, ok := w.Since("power"); ok {
			t.Fatal("there is a mark power, but it was not lost by this wire")
		}
	}
	for _, budget := range wrongBudgets {
		expectWait(t, w, 0x40, budget, 0, api.ErrArg)
		expectReady(t, w, budget, 0, api.ErrArg)
		expectReset(t, w, budget, api.ErrArg)
	}
	w.Chip().Power()
	expectReady(t, w, 1, 0xe0, api.OK)
	expectText(t, w, "cff c70 re0")
}

// The power is lost at each cycle of a wait, and behind its last one: at the
// command, at the first Read, at a later one, at the last.
func TestP171ThePowerIsLost(t *testing.T) {
	for _, s := range situations {
		for _, bits := range []byte{0, 0x01, 0x40, 0x60} {
			for budget := 1; budget <= len(s.shows)+1; budget++ {
				b, e, sent := s.wait(0, bits, budget)
				for n := range sent {
					expectLoss(t, s, bits, budget, sent[:n])
				}
				w := s.wire(t)
				before := w.Trace()
				w.Chip().Cut(len(sent))
				expectWait(t, w, bits, budget, b, e)
				expectTrace(t, w, append(before, sent...))
				if !w.Chip().On() {
					t.Fatal("the power is lost ahead of its cycle")
				}
			}
		}
	}
}

// expectLoss fails unless a wait during which the power is lost behind some
// cycles returns ErrPower, and sends just these.
func expectLoss(t *testing.T, s situation, bits byte, budget int, sent []api.Cycle) {
	t.Helper()
	w := s.wire(t)
	want := append(w.Trace(), sent...)
	w.Chip().Cut(len(sent))
	expectWait(t, w, bits, budget, 0, api.ErrPower)
	expectTrace(t, w, want)
	expectPower(t, w)
	if w.Chip().On() {
		t.Fatal("the power is not lost")
	}
	// It stays off, and nothing more is sent.
	expectWait(t, w, bits, budget, 0, api.ErrPower)
	expectTrace(t, w, want)
	expectPower(t, w)

	w.Chip().Power()
	expectReady(t, w, budget, 0xe0, api.OK)
	expectTrace(t, w, append(want, cycles(t, "c70 re0")...))
}

func TestP171ThePowerIsLostWhereReadyWaits(t *testing.T) {
	for n, want := range []string{"cff", "cff c70", "cff c70 r80", "cff c70 r80 r80", "cff c70 r80 r80 r80"} {
		w := on(t, busy(3), "cff")
		w.Chip().Cut(n)
		expectReady(t, w, 4, 0, api.ErrPower)
		expectText(t, w, want)
		expectPower(t, w)
	}
	w := on(t, busy(3), "cff")
	w.Chip().Cut(5)
	expectReady(t, w, 4, 0xe0, api.OK)
	expectText(t, w, "cff c70 r80 r80 r80 re0")
}

// A poll at which the power is lost does no work: the row is torn.
func TestP171ThePowerIsLostWithAProgramPending(t *testing.T) {
	for n := range 4 {
		w := on(t, busy(2), "c80 a00 a00 a04 a00 w0f c10")
		w.Chip().Cut(n)
		expectReady(t, w, 3, 0, api.ErrPower)
		if !w.Chip().Array().Torn(4) || w.Chip().Work() != 0 {
			t.Fatalf("the row is not torn, with the power lost behind %d cycles", n)
		}
	}
}

// The power is lost at each cycle of a reset, and behind its last one.
func TestP172ThePowerIsLost(t *testing.T) {
	for duration := range 6 {
		for budget := 1; budget <= 7; budget++ {
			sent, e := resetting(t, duration, budget)
			for n := range sent {
				w := on(t, busy(2, duration), "cff")
				w.Chip().Cut(n)
				expectReset(t, w, budget, api.ErrPower)
				expectTrace(t, w, append(cycles(t, "cff"), sent[:n]...))
				expectPower(t, w)
				expectReset(t, w, budget, api.ErrPower)
				expectTrace(t, w, append(cycles(t, "cff"), sent[:n]...))
				w.Chip().Power()
				expectReady(t, w, budget, 0xe0, api.OK)
			}
			w := on(t, busy(2, duration), "cff")
			w.Chip().Cut(len(sent))
			expectReset(t, w, budget, e)
			expectTrace(t, w, append(cycles(t, "cff"), sent...))
		}
	}
}

// resetting are the cycles that a reset should send, and what it should return.
func resetting(t *testing.T, duration, budget int) ([]api.Cycle, api.Errno) {
	t.Helper()
	if duration < budget {
		return cycles(t, "cff c70"+times(duration, "r80")+" re0"), api.OK
	}
	return cycles(t, "cff c70"+times(budget, "r80")), api.ErrBusy
}
