package command_test

import (
	"slices"
	"testing"

	"incunable/api"
	"incunable/command"
	"incunable/judge"
	"incunable/wire"
)

// numbers are ones that follow each other without a rule to be seen.
type numbers uint32

// below is a number from 0 to n minus 1.
func (s *numbers) below(n int) int {
	*s = *s*1664525 + 1013904223
	return int(*s>>8) % n
}

// host gives orders by numbers to a driver, while a judge watches.
type host struct {
	*command.Driver
	numbers
	judge  *judge.Judge
	geom   api.Geom
	budget int
	// lost says that the power was lost since the driver was made.
	lost bool
}

// script is one with durations around the budget, failures and turned bits.
func (s *numbers) script(g api.Geom, budget int) api.Script {
	x := api.Script{Cut: -1, Torn: []byte{0x5a, 0xff, 0x00}}
	for range 300 {
		d := 0
		switch s.below(8) {
		case 0, 1:
			d = s.below(budget)
		case 2:
			d = budget - 1 + s.below(3)
		}
		x.Busy = append(x.Busy, d)
	}
	for n := range 200 {
		if s.below(9) == 0 {
			x.Fails = append(x.Fails, n)
		}
	}
	for range 10 {
		x.Turns = append(x.Turns, api.Turn{Row: s.below(g.Blocks * g.Pages), Rung: s.below(g.Rungs), Bit: s.below(8 * raw(g))})
	}
	return x
}

// watch fails unless the judge accepts what was sent since it last watched; if
// the power was lost behind that, it is switched on again.
func (h *host) watch(t *testing.T, w *wire.Wire) {
	t.Helper()
	l, _ := w.Since(seen)
	for i, x := range l {
		if !h.judge.Step(x) {
			t.Fatalf("the judge rejects cycle %d of %s", i, told(l))
		}
	}
	if !w.Chip().On() {
		h.judge.Power()
		w.Chip().Power()
		h.lost = true
	}
	w.Mark(seen)
}

// begin makes the driver a new one.
func (h *host) begin(t *testing.T, w *wire.Wire) {
	t.Helper()
	for e := api.ErrBusy; e != api.OK; {
		h.Driver, e = command.New(w, h.geom, h.budget)
		h.watch(t, w)
		if e != api.OK && e != api.ErrBusy && e != api.ErrPower {
			t.Fatalf("New is %d", e)
		}
	}
	h.lost = false
}

// can returns a row that can be programmed; false if the one that the numbers
// say is not followed by one.
func (h *host) can() (int, bool) {
	for row := h.below(h.geom.Blocks * h.geom.Pages); row < h.geom.Blocks*h.geom.Pages; row++ {
		if h.judge.Can(row) {
			return row, true
		}
	}
	return 0, false
}

// pair programs a row in the background, and then the next one.
func (h *host) pair(t *testing.T, row int) {
	if row%2 != 0 || !h.judge.Can(row+1) {
		return
	}
	status, e := h.Order(0x40, command.Load(row, pattern(h.geom, row), 0x15)...)
	h.watch(t, h.Wire())
	if e == api.OK && status&0x02 == 0 {
		h.Order(0x60, command.Load(row+1, pattern(h.geom, row+1), 0x10)...)
	}
}

// stripe programs a row and the same one of the next block, if that is in
// another plane.
func (h *host) stripe(row int) {
	next := row + h.geom.Pages
	if h.geom.Planes == 1 || !h.judge.Can(next) {
		return
	}
	if _, e := h.Order(0x60, command.Load(row, pattern(h.geom, row), 0x11)...); e == api.OK {
		h.Order(0x60, command.Load(next, pattern(h.geom, next), 0x10)...)
	}
}

// wrong does what is refused.
func (h *host) wrong() {
	h.Read(-1, 0)
	h.Read(0, h.geom.Rungs)
	h.Program(0, nil)
	h.Program(h.geom.Blocks*h.geom.Pages, pattern(h.geom, 0))
	h.Erase(h.geom.Blocks)
}

// act does something.
func (h *host) act(t *testing.T) {
	t.Helper()
	g := h.geom
	switch h.below(16) {
	case 0, 1:
		h.Erase(h.below(g.Blocks))
	case 2, 3, 4, 5:
		if row, ok := h.can(); ok {
			h.Program(row, pattern(g, row))
		}
	case 6, 7, 8:
		if row, ok := h.can(); ok {
			h.pair(t, row)
		}
	case 9:
		if row, ok := h.can(); ok {
			h.stripe(row)
		}
	case 10, 11, 12:
		h.Read(h.below(g.Blocks*g.Pages), h.below(g.Rungs))
	case 13:
		h.wrong()
	case 14:
		h.Order(byte(h.below(256)))
	case 15:
		l := []string{"cff", "c90 a00 r00 r00", "cec a00", "cef a89 w00 w01 w02 w03", "c00 a00 a00 a01 a00 c30", ""}
		h.Order(0x60, cycles(t, l[h.below(len(l))])...)
	}
	h.watch(t, h.Wire())
}

// Whatever orders are given, whatever is busy, fails or is turned, and wherever
// the power is lost: the judge accepts what is sent, if only rows are
// programmed that can be.
func TestP194TheRulesOfTheBus(t *testing.T) {
	for _, g := range []api.Geom{
		example, least,
		{Planes: 2, Blocks: 4, Pages: 4, Chunks: 1, Chunk: 4, Rungs: 2, Partial: 1},
		{Planes: 4, Blocks: 8, Pages: 6, Chunks: 2, Chunk: 5, Rungs: 8, Partial: 2},
	} {
		for seed := range 60 {
			h := host{numbers: numbers(seed), geom: g, budget: 1 + seed%4}
			j, e := judge.New(g)
			expectError(t, "judge.New", e, api.OK)
			h.judge = j
			w := on(t, g, h.script(g, h.budget), "")
			h.begin(t, w)
			for range 80 {
				if h.below(10) == 0 {
					w.Chip().Cut(h.below(120))
				}
				h.act(t)
				// A chip that was switched on again wants a reset.
				if h.lost {
					h.begin(t, w)
				}
			}
		}
	}
}

// step is one of what the driver can do, that the rules of the bus allow if the
// row 4 can be programmed.
type step func(d *command.Driver)

// steps are of each kind, with each end.
func steps() []step {
	b := pattern(example, 4)
	return []step{
		func(d *command.Driver) { d.Erase(1) },
		func(d *command.Driver) { d.Erase(2) },
		func(d *command.Driver) { d.Read(4, 0) },
		func(d *command.Driver) { d.Read(5, 1) },
		func(d *command.Driver) { d.Order(0x60) },
		func(d *command.Driver) { d.Order(0x01) },
		func(d *command.Driver) { d.Read(16, 0) },
		func(d *command.Driver) { d.Program(4, b[1:]) },
		// The first program of a block that may not be erased is left out.
		func(d *command.Driver) {
			if d.Erase(1) == api.OK {
				d.Program(4, b)
			}
		},
		func(d *command.Driver) {
			if d.Erase(1) == api.OK {
				d.Program(4, b)
				d.Read(4, 2)
				d.Program(5, b)
			}
		},
	}
}

// All sequences of three steps, on a chip that is not busy, one that is at
// times too long, and one whose resets are too long, too.
func TestP194AllSequences(t *testing.T) {
	for _, s := range []api.Script{
		busy(),
		busy(0, 2, 0, 1, 0, 0, 2, 0, 1, 0),
		busy(2, 2, 1, 2, 2, 2, 0, 1, 2, 2, 2, 2),
		failing([]int{0, 2, 3, 5}, 1, 0, 1, 2, 1),
	} {
		for _, first := range steps() {
			for _, second := range steps() {
				for _, third := range steps() {
					d := driver(t, example, s, 2)
					for _, do := range []step{first, second, third} {
						do(d)
					}
					l := d.Wire().Trace()
					if n, ok := judge.Run(example, l); !ok {
						t.Fatalf("the judge rejects cycle %d of %s", n, told(l[max(0, n-40):n+1]))
					}
				}
			}
		}
	}
}

// The power is lost at each cycle of some orders: what is sent before, and what
// a new driver sends then, follows the rules.
func TestP194ThePowerIsLost(t *testing.T) {
	orders := func(d *command.Driver) {
		d.Erase(1)
		d.Program(4, pattern(example, 4))
		d.Read(4, 1)
		d.Order(0x40, command.Load(6, pattern(example, 6), 0x15)...)
		d.Order(0x60, command.Load(7, pattern(example, 7), 0x10)...)
		d.Read(6, 0)
	}
	durations := []int{1, 0, 1, 2, 1, 0, 3, 1, 0}
	d := driver(t, example, busy(durations...), 4)
	orders(d)
	all, _ := d.Wire().Since(seen)
	for n := range all {
		d := driver(t, example, busy(durations...), 4)
		d.Wire().Chip().Cut(n)
		orders(d)
		l, _ := d.Wire().Since(seen)
		if !slices.Equal(l, all[:n]) {
			t.Fatalf("sent was %s, not %s", told(l), told(all[:n]))
		}
		h := host{geom: example, budget: 4}
		h.judge, _ = judge.New(example)
		for _, x := range cycles(t, exampleBegin) {
			h.judge.Step(x)
		}
		h.watch(t, d.Wire())
		h.begin(t, d.Wire())
		orders(h.Driver)
		h.watch(t, d.Wire())
	}
}
