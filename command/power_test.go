package command_test

import (
	"testing"

	"incunable/api"
	"incunable/command"
	"incunable/wire"
)

// noDrivers are nil, and one that New did not return.
func noDrivers() []*command.Driver {
	return []*command.Driver{nil, {}}
}

func TestP194NoDriver(t *testing.T) {
	for _, d := range noDrivers() {
		if d.Geom() != (api.Geom{}) || d.Wire() != nil {
			t.Errorf("Geom is %v, and Wire %v", d.Geom(), d.Wire())
		}
		for _, bits := range []byte{0x00, 0x40, 0x60, 0xff} {
			for _, l := range []string{"", "cff", "c60 a04 a00 cd0"} {
				expectOrder(t, d, bits, l, 0, api.ErrNil)
			}
		}
		if b, e := d.Order(0x60, api.Cycle{}); b != 0 || e != api.ErrNil {
			t.Errorf("Order is %02x, %d", b, e)
		}
		for _, n := range []int{0, 1, -1, 1 << 40} {
			for _, rung := range []int{0, 1, -1, 1 << 40} {
				expectRead(t, d, n, rung, nil, api.ErrNil)
			}
			for _, b := range [][]byte{nil, {1}, pattern(example, 0)} {
				expectError(t, "Program", d.Program(n, b), api.ErrNil)
			}
			expectError(t, "Erase", d.Erase(n), api.ErrNil)
		}
	}
}

func TestGeomAndWireStay(t *testing.T) {
	d := driver(t, example, busy(9, 9), 2)
	w := d.Wire()
	g := d.Geom()
	g.Blocks = 7
	d.Erase(1)
	d.Wire().Chip().Cut(0)
	d.Erase(1)
	if d.Geom() != example || d.Wire() != w || w.Chip() == nil {
		t.Fatalf("Geom is %v, and Wire %p, not %p", d.Geom(), d.Wire(), w)
	}
}

// call is something that is done with a driver, the durations behind those of
// New, what was done before, and the text of what it sends if the power stays
// on.
type call struct {
	name      string
	durations []int
	before    func(d *command.Driver)
	sent      string
	run       func(t *testing.T, d *command.Driver, want api.Errno)
}

// program, erase and read are what calls do.
func program(t *testing.T, d *command.Driver, want api.Errno) {
	t.Helper()
	expectError(t, "Program", d.Program(5, pattern(example, 5)), want)
}

func erase(t *testing.T, d *command.Driver, want api.Errno) {
	t.Helper()
	expectError(t, "Erase", d.Erase(1), want)
}

func order(t *testing.T, d *command.Driver, want api.Errno) {
	t.Helper()
	status := byte(0)
	if want == api.OK {
		status = 0xe0
	}
	expectOrder(t, d, 0x60, "c60 a0c a00 cd0", status, want)
}

func read(rung int) func(t *testing.T, d *command.Driver, want api.Errno) {
	return func(t *testing.T, d *command.Driver, want api.Errno) {
		t.Helper()
		b := at(blank(), rung)
		if want != api.OK {
			b = nil
		}
		expectRead(t, d, 9, rung, b, want)
	}
}

// calls are of each kind.
func calls() []call {
	nothing := func(*command.Driver) {}
	stuck := func(d *command.Driver) { d.Erase(0) }
	atRung := func(d *command.Driver) { d.Read(0, 2) }
	one := waits(1, "re0")
	return []call{
		{"Order", []int{1}, nothing, erases(12) + one, order},
		{"Program", []int{1}, nothing, programs(5, pattern(example, 5)) + one, program},
		{"Erase", []int{1}, nothing, erases(4) + one, erase},
		{"Read", []int{1}, nothing, fetches(9) + one + outs(at(blank(), 0)), read(0)},
		{"Read at another rung", []int{1, 1}, nothing, sets(1) + one + fetches(9) + one + outs(at(blank(), 1)), read(1)},
		{"Read at the same rung again", []int{0, 0, 1}, atRung, fetches(9) + one + outs(at(blank(), 2)), read(2)},
		{"Order if stuck", []int{9, 9, 1, 1}, stuck, "cff " + one + erases(12) + one, order},
		{"Program if stuck", []int{9, 9, 1}, stuck, "cff " + one + programs(5, pattern(example, 5)) + ready, program},
		{"Read if stuck", []int{9, 9, 0, 1}, stuck, "cff " + ready + sets(1) + one + fetches(9) + ready + outs(at(blank(), 1)), read(1)},
	}
}

// begun is a driver of the example with which something can be done.
func (x call) begun(t *testing.T) *command.Driver {
	t.Helper()
	d := driver(t, example, telling(example, busy(x.durations...)), 3)
	x.before(d)
	d.Wire().Mark(seen)
	return d
}

// expectPower fails unless the mark power is set, with nothing behind it.
func expectPower(t *testing.T, w *wire.Wire) {
	t.Helper()
	if l, ok := w.Since("power"); len(l) != 0 || !ok {
		t.Fatalf("since the mark power are %s, %t", told(l), ok)
	}
	if w.Chip().On() {
		t.Fatal("the power is not lost")
	}
}

// The power is lost at each cycle of a call, and behind its last one.
func TestThePowerIsLost(t *testing.T) {
	for _, x := range calls() {
		t.Run(x.name, func(t *testing.T) {
			sent := cycles(t, x.sent)
			for n := range sent {
				d := x.begun(t)
				d.Wire().Chip().Cut(n)
				x.run(t, d, api.ErrPower)
				expectSent(t, d, told(sent[:n]))
				expectPower(t, d.Wire())
				// It stays off, and nothing more is sent.
				for _, again := range calls() {
					again.run(t, d, api.ErrPower)
				}
				expectSent(t, d, "")
			}
			d := x.begun(t)
			d.Wire().Chip().Cut(len(sent))
			x.run(t, d, api.OK)
			expectSent(t, d, x.sent)
			if !d.Wire().Chip().On() {
				t.Fatal("the power is lost ahead of its cycle")
			}
		})
	}
}

// A power that is lost is not a wait that is too short: the driver is not
// stuck. One that is stays so.
func TestP191ThePowerIsOnAgain(t *testing.T) {
	for n := range cycles(t, erases(4)+"c70 r80") {
		d := driver(t, example, busy(1, 0), 3)
		d.Wire().Chip().Cut(n)
		erase(t, d, api.ErrPower)
		d.Wire().Chip().Power()
		d.Wire().Mark(seen)
		erase(t, d, api.OK)
		got, _ := d.Wire().Since(seen)
		if l := cycles(t, erases(4)+"c70"); told(got[:len(l)]) != told(l) {
			t.Fatalf("sent was %s", told(got))
		}

		d = driver(t, example, busy(9, 9), 3)
		erase(t, d, api.ErrBusy)
		d.Wire().Chip().Cut(0)
		erase(t, d, api.ErrPower)
		d.Wire().Chip().Power()
		d.Wire().Mark(seen)
		erase(t, d, api.OK)
		expectSent(t, d, "cff "+ready+erases(4)+ready)
	}
}

// The power is lost in the reset behind a wait that was too short: the error is
// that of the wait, and the driver is stuck.
func TestP191ThePowerIsLostInAReset(t *testing.T) {
	for n := range cycles(t, "cff c70 r80 re0") {
		before := erases(12) + "c70 r80 r80 r80 "
		d := driver(t, example, busy(9, 1), 3)
		d.Wire().Chip().Cut(len(cycles(t, before)) + n)
		order(t, d, api.ErrBusy)
		expectSent(t, d, before+told(cycles(t, "cff c70 r80 re0")[:n]))
		expectPower(t, d.Wire())
		for _, x := range calls() {
			x.run(t, d, api.ErrPower)
		}
		expectSent(t, d, "")
		d.Wire().Chip().Power()
		order(t, d, api.OK)
		got, _ := d.Wire().Since(seen)
		if l := cycles(t, "cff c70"); told(got[:2]) != told(l) {
			t.Fatalf("sent was %s", told(got))
		}
	}
}

// The power is lost at each cycle of New, and behind its last one; it is off
// when New begins.
func TestP191ThePowerIsLostInNew(t *testing.T) {
	sent := cycles(t, "cff c70 r80 re0 c90 a00 "+exampleID+" cec a00 c70 r80 r80 re0 c00 "+exampleOut)
	for n := range sent {
		w := on(t, example, busy(1, 2, 0, 0), "")
		w.Chip().Cut(n)
		expectNoNew(t, w, example, 3, api.ErrPower)
		expectOn(t, w, told(sent[:n]))
		expectPower(t, w)
		// Only a wrong wire, geometry or budget is refused ahead of that.
		expectNoNew(t, w, example, 3, api.ErrPower)
		expectNoNew(t, w, least, 3, api.ErrPower)
		expectNoNew(t, w, api.Geom{}, 3, api.ErrArg)
		expectNoNew(t, w, example, 0, api.ErrArg)
		expectOn(t, w, "")
		w.Chip().Power()
		d := expectNew(t, w, example, 3)
		erase(t, d, api.OK)
	}
	w := on(t, example, busy(1, 2), "")
	w.Chip().Cut(len(sent))
	expectNew(t, w, example, 3)
	expectOn(t, w, told(sent))
}
