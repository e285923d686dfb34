package wire_test

import (
	"math"
	"slices"
	"testing"

	"incunable/api"
	"incunable/cycle"
	"incunable/wire"
)

func TestP162Example(t *testing.T) {
	w := on(t, quiet())
	w.Command(0xff, 0x70)
	w.Read(1)
	if s, e := cycle.Text(w.Trace()); s != "cff c70 re0" || e != api.OK {
		t.Errorf("the text of Trace is %q, %d", s, e)
	}
	if w.Sent() != 3 {
		t.Errorf("Sent is %d, not 3", w.Sent())
	}
}

func TestP162BehindEachCall(t *testing.T) {
	w := on(t, quiet())
	c := w.Chip()
	steps := []struct {
		name string
		call func() api.Errno
		adds string
	}{
		{"Command(90)", func() api.Errno { return w.Command(0x90) }, "c90"},
		{"Command()", func() api.Errno { return w.Command() }, ""},
		{"Address(0)", func() api.Errno { return w.Address(0) }, "a00"},
		{"Read(2)", func() api.Errno { _, e := w.Read(2); return e }, "r49 r4e"},
		{"Read(0)", func() api.Errno { _, e := w.Read(0); return e }, ""},
		{"Send", func() api.Errno { return w.Send(of(4, 0x12), of(1, 0x80)) }, "r02 c80"},
		{"Send()", func() api.Errno { return w.Send() }, ""},
		{"Address(0, 0, 5, 0)", func() api.Errno { return w.Address(0, 0, 5, 0) }, "a00 a00 a05 a00"},
		{"Write(1, 2)", func() api.Errno { return w.Write(1, 2) }, "w01 w02"},
		{"Command(10, 70)", func() api.Errno { return w.Command(0x10, 0x70) }, "c10 c70"},
		{"Read(1)", func() api.Errno { _, e := w.Read(1); return e }, "re0"},
	}
	var want []api.Cycle
	for _, s := range steps {
		expectError(t, s.name, s.call(), api.OK)
		want = append(want, cycles(t, s.adds)...)
		expectTrace(t, w, want)
		if w.Chip() != c || c.Cycles() != len(want) {
			t.Fatalf("behind %s, the chip is another one, or executed %d cycles, not %d", s.name, c.Cycles(), len(want))
		}
	}
}

// Asking changes nothing.
func TestP162AskingChangesNothing(t *testing.T) {
	w, twin := on(t, eventful()), started(t, eventful())
	l := cycles(t, "cff c70 r00 r00 r00 c90 a00 r00")
	want, _ := do(twin, l)
	w.Send(l...)
	for range 3 {
		expectTrace(t, w, want)
		expectSameSight(t, w.Chip(), twin)
	}
	expectSameChip(t, w.Chip(), twin)
	// What the chip does without the wire is not stored.
	expectTrace(t, w, want)
}

// What Trace returns is the caller's own.
func TestP162TraceIsNotShared(t *testing.T) {
	for n := range 40 {
		w := on(t, quiet())
		l := slices.Repeat([]api.Cycle{of(1, 0x70)}, n)
		w.Send(l...)
		got, other := w.Trace(), w.Trace()
		whole := got[:cap(got)]
		for i := range whole {
			whole[i] = of(77, 77)
		}
		if !slices.Equal(other, l) {
			t.Fatalf("another answer has become %s", text(other))
		}
		expectTrace(t, w, l)
		_ = append(got, of(77, 77))
		w.Address(1)
		expectTrace(t, w, append(l, of(2, 1)))
		if !slices.Equal(other, l) {
			t.Fatalf("an answer has become %s by what was sent behind it", text(other))
		}
		// An answer may be sent again.
		w.Send(w.Trace()...)
		if w.Sent() != 2*(n+1) {
			t.Fatalf("Sent is %d, not %d", w.Sent(), 2*(n+1))
		}
	}
}

// A wire that has sent more cycles than it stores counts all of them.
func TestP162BeyondTheLimit(t *testing.T) {
	w := on(t, quiet())
	expectError(t, "Command(ff, 70)", w.Command(0xff, 0x70), api.OK)
	if b, e := w.Read(most - 3); len(b) != most-3 || e != api.OK {
		t.Fatalf("Read is %d bytes, %d", len(b), e)
	}
	expectFull(t, w, most-1, most-1)
	expectError(t, "Command(90)", w.Command(0x90), api.OK)
	expectFull(t, w, most, most)
	expectError(t, "Address(0)", w.Address(0), api.OK)
	expectFull(t, w, most, most+1)
	// What is no longer stored is still sent.
	expectRead(t, w, 2, []byte{0x49, 0x4e}, api.OK)
	expectFull(t, w, most, most+3)
	expectNoPower(t, w)
	w.Chip().Cut(1)
	expectError(t, "Send", w.Send(of(4, 0), of(4, 0)), api.ErrPower)
	expectFull(t, w, most, most+4)
	expectPower(t, w, nil)
	w.Chip().Power()
	expectError(t, "Write", w.Write(1, 2, 3), api.OK)
	expectFull(t, w, most, most+7)
	expectPower(t, w, nil)
	if got := w.Trace(); got[0] != of(1, 0xff) || got[1] != of(1, 0x70) || got[2] != of(4, 0xe0) || got[most-1] != of(1, 0x90) {
		t.Error("Trace has other cycles")
	}
}

// expectFull fails unless a wire stores so many cycles, and has sent so many.
func expectFull(t *testing.T, w *wire.Wire, stored, sent int) {
	t.Helper()
	if got := len(w.Trace()); got != stored {
		t.Errorf("Trace has %d cycles, not %d", got, stored)
	}
	if w.Sent() != sent {
		t.Errorf("Sent is %d, not %d", w.Sent(), sent)
	}
}

// A wire that New did not return answers as a nil one does.
func TestP162ANilWire(t *testing.T) {
	for range 2 {
		expectNil(t, nil)
	}
	expectNil(t, &wire.Wire{})
	expectNil(t, new(wire.Wire))
	// Not even if it has a recorder, which stores nothing then.
	made := on(t, quiet())
	expectNil(t, &wire.Wire{Recorder: made.Recorder})
	expectTrace(t, made, nil)
}

// expectNil fails unless a wire returns ErrNil, and nothing.
func expectNil(t *testing.T, w *wire.Wire) {
	t.Helper()
	for _, f := range []struct {
		name string
		send func(b ...byte) api.Errno
	}{{"Command", w.Command}, {"Address", w.Address}, {"Write", w.Write}} {
		expectError(t, f.name, f.send(), api.ErrNil)
		expectError(t, f.name, f.send(0xff), api.ErrNil)
		expectError(t, f.name, f.send(0xff, 0x70), api.ErrNil)
	}
	expectError(t, "Send", w.Send(), api.ErrNil)
	expectError(t, "Send", w.Send(of(1, 0xff), of(4, 0)), api.ErrNil)
	expectError(t, "Send", w.Send(of(5, 0)), api.ErrNil)
	for _, n := range []int{0, 1, 2, most, most + 1, -1, math.MinInt, math.MaxInt} {
		expectRead(t, w, n, nil, api.ErrNil)
	}
	if l, n, c := w.Trace(), w.Sent(), w.Chip(); len(l) != 0 || n != 0 || c != nil {
		t.Fatalf("Trace, Sent and Chip are %s, %d, %v, not nothing", text(l), n, c)
	}
}

// cutAt sends a list in two calls, or two groups of them, of which the second
// one begins at a place.
func cutAt(t *testing.T, by way, w *wire.Wire, l []api.Cycle, at int) api.Errno {
	t.Helper()
	if e := by.send(t, w, l[:at]); e != api.OK {
		return e
	}
	return by.send(t, w, l[at:])
}

func TestP163CutAtEachPlace(t *testing.T) {
	l := cycles(t, longRun)
	twin := started(t, eventful())
	want, _ := do(twin, l)
	for _, by := range ways() {
		for at := range len(l) + 1 {
			w, twin := on(t, eventful()), started(t, eventful())
			do(twin, l)
			expectError(t, by.name, cutAt(t, by, w, l, at), api.OK)
			expectTrace(t, w, want)
			expectNoPower(t, w)
			expectSameChip(t, w.Chip(), twin)
		}
	}
}

func TestP163CutAtTwoPlaces(t *testing.T) {
	l := cycles(t, longRun)[:40]
	twin := started(t, eventful())
	want, _ := do(twin, l)
	for _, by := range ways() {
		for last := range len(l) + 1 {
			for first := range last + 1 {
				w := on(t, eventful())
				expectError(t, by.name, cutAt(t, by, w, l[:last], first), api.OK)
				expectError(t, by.name, by.send(t, w, l[last:]), api.OK)
				expectTrace(t, w, want)
				expectSameSight(t, w.Chip(), twin)
			}
		}
	}
}

// The power is lost, or a cycle is not valid, before a cut, at it, and behind
// it.
func TestP163CutAtEachPlaceWithAnError(t *testing.T) {
	l := cycles(t, longRun)[:60]
	bad := slices.Insert(slices.Clone(l), 30, of(5, 0x70))
	for _, by := range ways() {
		for at := range len(l) + 1 {
			for _, n := range []int{0, 1, 29, 30, 31, 59} {
				w, twin := on(t, withCut(eventful(), n)), started(t, withCut(eventful(), n))
				want, _ := do(twin, l)
				expectError(t, by.name, cutAt(t, by, w, l, at), api.ErrPower)
				expectTrace(t, w, want)
				expectPower(t, w, nil)
				expectSameSight(t, w.Chip(), twin)
			}
		}
	}
	for _, by := range ways()[:2] {
		for at := range len(bad) + 1 {
			w, twin := on(t, eventful()), started(t, eventful())
			want, _ := do(twin, bad)
			expectError(t, by.name, cutAt(t, by, w, bad, at), api.ErrArg)
			expectTrace(t, w, want)
			expectNoPower(t, w)
			expectSameChip(t, w.Chip(), twin)
		}
	}
}

// When the power is lost, what is sent in further calls has no effect either.
func TestP163CallsBehindALossOfPower(t *testing.T) {
	l := cycles(t, longRun)
	for n := range l {
		w, twin := on(t, withCut(eventful(), n)), started(t, withCut(eventful(), n))
		want, _ := do(twin, l)
		for i, x := range l {
			wantError := api.OK
			if i >= n {
				wantError = api.ErrPower
			}
			expectError(t, "Send", w.Send(x), wantError)
		}
		expectTrace(t, w, want)
		expectPower(t, w, nil)
		expectSameChip(t, w.Chip(), twin)
	}
}

// Bytes in one call and in several, cut at each place, by each function.
func TestP163BytesCutAtEachPlace(t *testing.T) {
	b := []byte{0x80, 0, 0xff, 5, 0x70, 0, 0, 9, 0x10, 0x90}
	for _, situation := range situations {
		for _, f := range functions() {
			once := on(t, eventful())
			once.Send(cycles(t, situation)...)
			expectError(t, f.name, f.send(once, b...), api.OK)
			for at := range len(b) + 1 {
				w := on(t, eventful())
				w.Send(cycles(t, situation)...)
				expectError(t, f.name, f.send(w, b[:at]...), api.OK)
				expectError(t, f.name, f.send(w, b[at:]...), api.OK)
				expectTrace(t, w, once.Trace())
				expectSameSight(t, w.Chip(), once.Chip())
			}
		}
	}
}

// Reads in one call and in several return the same bytes.
func TestP163ReadsCutAtEachPlace(t *testing.T) {
	first := cycles(t, "cff c70 r00 r00 cec a00 c70 r00 r00 r00 r00 c00")
	once := on(t, eventful())
	once.Send(first...)
	want, e := once.Read(45)
	expectError(t, "Read", e, api.OK)
	for at := range 46 {
		w := on(t, eventful())
		w.Send(first...)
		a, e := w.Read(at)
		expectError(t, "Read", e, api.OK)
		b, e := w.Read(45 - at)
		expectError(t, "Read", e, api.OK)
		if got := slices.Concat(a, b); !slices.Equal(got, want) {
			t.Fatalf("Read(%d) and Read(%d) are % x, not % x", at, 45-at, got, want)
		}
		expectTrace(t, w, once.Trace())
		expectSameSight(t, w.Chip(), once.Chip())
	}
}
