package ident_test

import (
	"testing"

	"incunable/api"
	"incunable/ident"
	"incunable/trace"
	"incunable/wire"
)

// noWires are nil, and wires that wire.New did not return.
func noWires() []*wire.Wire {
	return []*wire.Wire{nil, {}, {Recorder: trace.New()}}
}

func TestP182NoWire(t *testing.T) {
	for _, w := range noWires() {
		expectID(t, w, nil, api.ErrNil)
		for _, budget := range append(wrongBudgets, 1, 2, most) {
			expectParameters(t, w, budget, api.Geom{}, api.ErrNil)
		}
		if w != nil && w.Recorder.All() != 0 {
			t.Error("a wire that New did not return has stored cycles")
		}
	}
}

// The geometry comes ahead of the wire, and the wire ahead of the budget.
func TestP183NoWire(t *testing.T) {
	for _, w := range noWires() {
		for _, budget := range append(wrongBudgets, 1, 2, most) {
			for _, g := range geometries() {
				expectCheck(t, w, g, budget, api.ErrNil)
			}
			for _, g := range wrongGeometries() {
				expectCheck(t, w, g, budget, api.ErrArg)
			}
		}
	}
}

// call is something that is done with a wire, which returns an error and else
// nothing if it is refused; and the text of what it sends if the power stays
// on.
type call struct {
	name string
	sent string
	run  func(t *testing.T, w *wire.Wire, want api.Errno)
}

// parameters is a call of Parameters that returns the example, or an error.
func parameters(budget int) func(t *testing.T, w *wire.Wire, want api.Errno) {
	return func(t *testing.T, w *wire.Wire, want api.Errno) {
		t.Helper()
		g := api.Geom{}
		if want == api.OK {
			g = example
		}
		expectParameters(t, w, budget, g, want)
	}
}

// calls are of each kind, with a chip that is busy for two polls.
func calls() []call {
	const asked = "c90 a00 " + exampleID
	const asks = "cec a00 c70 r80 r80 re0 c00 " + exampleOut
	return []call{
		{"ID", asked, func(t *testing.T, w *wire.Wire, want api.Errno) {
			t.Helper()
			var b []byte
			if want == api.OK {
				b = []byte{0x49, 0x4e, 2, 3, 5}
			}
			expectID(t, w, b, want)
		}},
		{"Parameters", asks, parameters(3)},
		{"Parameters, with a greater budget", asks, parameters(most)},
		{"Check", asked + " " + asks, func(t *testing.T, w *wire.Wire, want api.Errno) {
			t.Helper()
			expectCheck(t, w, example, 3, want)
		}},
	}
}

// expectPower fails unless the mark power is set, with nothing behind it.
func expectPower(t *testing.T, w *wire.Wire) {
	t.Helper()
	if l, ok := w.Since("power"); len(l) != 0 || !ok {
		t.Fatalf("since the mark power are %s, %t", told(l), ok)
	}
}

// The power is lost at each cycle of a call, and behind its last one.
func TestP182And183ThePowerIsLost(t *testing.T) {
	for _, x := range calls() {
		sent := cycles(t, x.sent)
		for n := range sent {
			t.Log(x.name, n)
			w := on(t, example, busy(2, 2), "")
			w.Chip().Cut(n)
			x.run(t, w, api.ErrPower)
			expectTrace(t, w, sent[:n])
			expectPower(t, w)
			if w.Chip().On() {
				t.Fatal("the power is not lost")
			}
			// It stays off, and nothing more is sent.
			x.run(t, w, api.ErrPower)
			expectTrace(t, w, sent[:n])
			expectPower(t, w)

			w.Chip().Power()
			x.run(t, w, api.OK)
			expectTrace(t, w, append(cycles(t, x.sent)[:n], sent...))
		}
		w := on(t, example, busy(2), "")
		w.Chip().Cut(len(sent))
		x.run(t, w, api.OK)
		expectTrace(t, w, sent)
		if !w.Chip().On() {
			t.Fatal("the power is lost ahead of its cycle")
		}
	}
}

// The power is lost at each cycle of a Check that would return another error;
// that is returned if the power is lost only behind it.
func TestP183ThePowerIsLostBehindAnotherError(t *testing.T) {
	for _, x := range []struct {
		g      api.Geom
		budget int
		sent   string
		want   api.Errno
	}{
		{example, 2, "c90 a00 " + exampleID + " cec a00 c70 r80 r80", api.ErrBusy},
		{example, 0, "c90 a00 " + exampleID + " cec a00", api.ErrArg},
		{least, 5, "c90 a00 " + exampleID, api.ErrChip},
		{changes()[1].in(example, 6), 3, "c90 a00 " + exampleID + " cec a00 c70 r80 r80 re0 c00 " + exampleOut, api.ErrChip},
	} {
		sent := cycles(t, x.sent)
		for n := range sent {
			w := on(t, example, busy(2), "")
			w.Chip().Cut(n)
			expectCheck(t, w, x.g, x.budget, api.ErrPower)
			expectTrace(t, w, sent[:n])
			expectPower(t, w)
		}
		w := on(t, example, busy(2), "")
		w.Chip().Cut(len(sent))
		expectCheck(t, w, x.g, x.budget, x.want)
		expectTrace(t, w, sent)
	}
}

// The power is off already: nothing is sent, and no mark is set. A geometry
// that is not valid is refused first, a wrong budget is not.
func TestP182And183ThePowerIsOff(t *testing.T) {
	w := on(t, example, busy(2), "")
	w.Chip().Cut(0)
	w.Chip().Do(api.Cycle{Kind: api.Command, B: 0x70})
	for range 2 {
		expectID(t, w, nil, api.ErrPower)
		for _, budget := range append(wrongBudgets, 1, 5, most) {
			expectParameters(t, w, budget, api.Geom{}, api.ErrPower)
			expectCheck(t, w, example, budget, api.ErrPower)
			expectCheck(t, w, least, budget, api.ErrPower)
			expectCheck(t, w, api.Geom{}, budget, api.ErrArg)
		}
	}
	expectTrace(t, w, nil)
	if _, ok := w.Since("power"); ok {
		t.Fatal("there is a mark power, but it was not lost by this wire")
	}
	w.Chip().Power()
	if g, e := ident.Parameters(w, 3); g != example || e != api.OK {
		t.Fatalf("Parameters is %v, %d", g, e)
	}
}
