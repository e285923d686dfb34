package command_test

import (
	"bytes"
	"math"
	"slices"
	"testing"

	"incunable/api"
	"incunable/command"
)

// telling is a script in which each row tells the rung at which it is read: at
// the rung n, the bit n of its first byte is turned.
func telling(g api.Geom, s api.Script) api.Script {
	for n := range g.Blocks * g.Pages {
		for rung := range g.Rungs {
			s.Turns = append(s.Turns, api.Turn{Row: n, Rung: rung, Bit: rung})
		}
	}
	return s
}

// at is what a row that has b reads as at a rung, by that script.
func at(b []byte, rung int) []byte {
	b = bytes.Clone(b)
	b[0] ^= 1 << rung
	return b
}

// blank is a raw page of the example that is erased.
func blank() []byte {
	return bytes.Repeat([]byte{0xff}, raw(example))
}

func TestP193WrittenOut(t *testing.T) {
	const erased = "rff rff rff rff rff rff rff rff rff rff rff rff rff rff rff rff rff rff " +
		"rff rff rff rff rff rff rff rff rff rff rff rff rff rff rff rff rff rff"
	s := busy(2, 0, 1)
	s.Turns = []api.Turn{{Row: 13, Rung: 0, Bit: 0}, {Row: 13, Rung: 2, Bit: 7}}
	d := driver(t, example, s, 3)
	b, e := d.Read(13, 0)
	if e != api.OK || len(b) != 37 || b[0] != 0xfe {
		t.Fatalf("Read is % x, %d", b, e)
	}
	expectSent(t, d, "c00 a00 a00 a0d a00 c30 c70 r80 r80 re0 c00 rfe "+erased)
	b, e = d.Read(13, 2)
	if e != api.OK || len(b) != 37 || b[0] != 0x7f {
		t.Fatalf("Read is % x, %d", b, e)
	}
	expectSent(t, d, "cef a89 w02 w00 w00 w00 c70 re0 c00 a00 a00 a0d a00 c30 c70 r80 re0 c00 r7f "+erased)
}

// Each row of some geometries at each rung: what was programmed is read, as
// the rung has it.
func TestP193EachRowAndRung(t *testing.T) {
	for _, g := range small() {
		s := busy()
		rows := g.Blocks * g.Pages
		if rows*g.Rungs <= api.MaxScript {
			s = telling(g, s)
		}
		d := driver(t, g, s, 1)
		for n := range rows {
			expectError(t, "Program", d.Program(n, pattern(g, n)), api.OK)
		}
		d.Wire().Mark(seen)
		for rung := range g.Rungs {
			for n := range rows {
				want := pattern(g, n)
				if len(s.Turns) > 0 {
					want = at(want, rung)
				}
				expectRead(t, d, n, rung, want, api.OK)
				sent := fetches(n) + ready + outs(want)
				if n == 0 && rung > 0 {
					sent = sets(rung) + ready + sent
				}
				expectSent(t, d, sent)
			}
		}
	}
}

// The greatest raw pages, at the last rung.
func TestP193TheGreatestChip(t *testing.T) {
	d := driver(t, greatest, busy(), 1)
	b := pattern(greatest, 3)
	expectError(t, "Program", d.Program(16383, b), api.OK)
	d.Wire().Mark(seen)
	expectRead(t, d, 16383, 7, b, api.OK)
	expectSent(t, d, "cef a89 w07 w00 w00 w00 "+ready+"c00 a00 a00 aff a3f c30 "+ready+outs(b))
}

func TestP193RowsThatDoNotExist(t *testing.T) {
	for _, g := range small() {
		for _, n := range noRows(g) {
			for _, rung := range []int{0, g.Rungs - 1, g.Rungs, -1} {
				expectNothing(t, g, func(d *command.Driver) api.Errno {
					b, e := d.Read(n, rung)
					if len(b) != 0 {
						t.Errorf("Read(%d, %d) is % x", n, rung, b)
					}
					return e
				})
			}
		}
	}
}

func TestP193RungsThatDoNotExist(t *testing.T) {
	for _, g := range small() {
		for _, rung := range []int{-1, g.Rungs, g.Rungs + 1, -g.Rungs, 8, 256, 257, 1 << 32, math.MinInt, math.MaxInt} {
			for _, n := range []int{0, 3, g.Blocks*g.Pages - 1} {
				expectNothing(t, g, func(d *command.Driver) api.Errno {
					b, e := d.Read(n, rung)
					if len(b) != 0 {
						t.Errorf("Read(%d, %d) is % x", n, rung, b)
					}
					return e
				})
			}
		}
	}
}

// The rung is set when it is another one than the last, and not otherwise.
func TestP193EachSequenceOfRungs(t *testing.T) {
	for first := range 3 {
		for second := range 3 {
			for third := range 3 {
				d := driver(t, example, telling(example, busy()), 1)
				known := 0
				for _, rung := range []int{first, second, second, third} {
					want := at(blank(), rung)
					expectRead(t, d, 5, rung, want, api.OK)
					sent := fetches(5) + ready + outs(want)
					if rung != known {
						sent = sets(rung) + ready + sent
					}
					expectSent(t, d, sent)
					known = rung
				}
			}
		}
	}
}

// Other orders, and those that are refused, leave the rung as it is.
func TestP193OtherOrdersBetween(t *testing.T) {
	d := driver(t, example, telling(example, failing([]int{1})), 1)
	expectRead(t, d, 0, 2, at(blank(), 2), api.OK)
	for _, between := range []func(){
		func() { d.Program(5, pattern(example, 5)) },
		func() { d.Program(6, pattern(example, 6)) },
		func() { d.Erase(1) },
		func() { d.Order(0x60) },
		func() { d.Order(0x60, cycles(t, "c90 a00 r00 r00")...) },
		func() { d.Order(0x60, api.Cycle{}) },
		func() { d.Read(16, 0) },
		func() { d.Read(0, 3) },
		func() { d.Read(-1, 1) },
		func() { d.Program(16, nil) },
		func() { d.Erase(4) },
	} {
		between()
		d.Wire().Mark(seen)
		expectRead(t, d, 0, 2, at(blank(), 2), api.OK)
		expectSent(t, d, fetches(0)+ready+outs(at(blank(), 2)))
	}
}

// Behind a reset the rung is 0: it is set again for another one, and not for 0.
func TestP193BehindAReset(t *testing.T) {
	for _, x := range []struct {
		durations []int
		last      string
	}{
		{[]int{0, 0, 9, 0}, "cff " + ready},
		{[]int{0, 0, 9, 1}, "cff " + waits(1, "re0")},
		{[]int{0, 0, 9, 9, 1}, "cff c70 r80 r80"},
	} {
		for rung := range 3 {
			d := driver(t, example, telling(example, busy(x.durations...)), 2)
			expectRead(t, d, 0, 2, at(blank(), 2), api.OK)
			expectSent(t, d, sets(2)+ready+fetches(0)+ready+outs(at(blank(), 2)))
			expectError(t, "Erase", d.Erase(1), api.ErrBusy)
			expectSent(t, d, erases(4)+"c70 r80 r80 "+x.last)

			sent := fetches(0) + ready + outs(at(blank(), rung))
			if rung > 0 {
				sent = sets(rung) + ready + sent
			}
			if len(x.durations) == 5 {
				sent = "cff " + waits(1, "re0") + sent
			}
			expectRead(t, d, 0, rung, at(blank(), rung), api.OK)
			expectSent(t, d, sent)
			expectRead(t, d, 1, rung, at(blank(), rung), api.OK)
			expectSent(t, d, fetches(1)+ready+outs(at(blank(), rung)))
		}
	}
}

// The chip is busy with the rung, or with the row, around the budget.
func TestP193DurationsAroundTheBudget(t *testing.T) {
	for budget := 1; budget <= 5; budget++ {
		for first := range 8 {
			for second := range 8 {
				d := driver(t, example, telling(example, busy(first, second)), budget)
				want := at(blank(), 1)
				switch {
				case first >= budget && second >= budget:
					expectRead(t, d, 9, 1, nil, api.ErrBusy)
					expectSent(t, d, sets(1)+waits(budget, "")+"cff "+waits(budget, ""))
				case first >= budget:
					expectRead(t, d, 9, 1, nil, api.ErrBusy)
					expectSent(t, d, sets(1)+waits(budget, "")+"cff "+waits(second, "re0"))
				case second >= budget:
					expectRead(t, d, 9, 1, nil, api.ErrBusy)
					expectSent(t, d, sets(1)+waits(first, "re0")+fetches(9)+waits(budget, "")+"cff "+ready)
				default:
					expectRead(t, d, 9, 1, want, api.OK)
					expectSent(t, d, sets(1)+waits(first, "re0")+fetches(9)+waits(second, "re0")+outs(want))
				}
			}
		}
	}
}

// Behind a rung that took too long, and behind a row that did, the rung is 0.
func TestP193TooLong(t *testing.T) {
	for _, durations := range [][]int{{9, 0}, {0, 9, 0}} {
		for rung := range 3 {
			d := driver(t, example, telling(example, busy(durations...)), 2)
			expectRead(t, d, 9, 1, nil, api.ErrBusy)
			d.Wire().Mark(seen)
			sent := fetches(9) + ready + outs(at(blank(), rung))
			if rung > 0 {
				sent = sets(rung) + ready + sent
			}
			expectRead(t, d, 9, rung, at(blank(), rung), api.OK)
			expectSent(t, d, sent)
		}
	}
}

// A driver that is stuck resets the chip ahead of the first order of a Read.
func TestP193Stuck(t *testing.T) {
	for rung := range 3 {
		d := driver(t, example, telling(example, busy(9, 9, 9, 1)), 2)
		expectError(t, "Erase", d.Erase(1), api.ErrBusy)
		d.Wire().Mark(seen)
		expectRead(t, d, 9, rung, nil, api.ErrBusy)
		expectSent(t, d, "cff c70 r80 r80")
		sent := fetches(9) + ready + outs(at(blank(), rung))
		if rung > 0 {
			sent = sets(rung) + ready + sent
		}
		expectRead(t, d, 9, rung, at(blank(), rung), api.OK)
		expectSent(t, d, "cff "+waits(1, "re0")+sent)
	}
}

// A Read whose rung is set, and whose driver is stuck then by the row.
func TestP193StuckByTheRow(t *testing.T) {
	d := driver(t, example, telling(example, busy(0, 9, 9, 0)), 2)
	expectRead(t, d, 9, 1, nil, api.ErrBusy)
	expectSent(t, d, sets(1)+ready+fetches(9)+"c70 r80 r80 cff c70 r80 r80")
	expectRead(t, d, 9, 1, at(blank(), 1), api.OK)
	expectSent(t, d, "cff "+ready+sets(1)+ready+fetches(9)+ready+outs(at(blank(), 1)))
}

// A failure is no error of a Read. The status still tells one if the chip was
// left with work, and ignored the order; the register, which was loaded up to
// its end, is read from there on then.
func TestP193AFailure(t *testing.T) {
	b := pattern(example, 4)
	s := telling(example, failing([]int{0}, 2))
	d := driver(t, example, s, 3)
	if status, e := d.Order(0x00, command.Load(4, b, 0x10)...); status != 0x80 || e != api.OK {
		t.Fatalf("Order is %02x, %d", status, e)
	}
	d.Wire().Mark(seen)
	expectRead(t, d, 9, 0, blank(), api.OK)
	expectSent(t, d, fetches(9)+"c70 r80 re1 "+outs(blank()))
	expectRead(t, d, 9, 0, at(blank(), 0), api.OK)
	expectSent(t, d, fetches(9)+ready+outs(at(blank(), 0)))

	// It is the order of the rung that is ignored: the driver takes it as set.
	d = driver(t, example, s, 3)
	d.Order(0x00, command.Load(4, b, 0x10)...)
	d.Wire().Mark(seen)
	expectRead(t, d, 9, 2, at(blank(), 0), api.OK)
	expectSent(t, d, sets(2)+"c70 r80 re1 "+fetches(9)+ready+outs(at(blank(), 0)))
	expectRead(t, d, 9, 2, at(blank(), 0), api.OK)
	expectSent(t, d, fetches(9)+ready+outs(at(blank(), 0)))
}

// All orders wait for what is in the background, too. A chip that was left busy
// shows it: it ignores the order, and tells what it had to do before.
func TestP192AndP193TheBits(t *testing.T) {
	left := loads("a04", "c15") + "c70 r80 "
	for _, x := range []struct {
		durations []int
		run       func(d *command.Driver) api.Errno
		sent      string
	}{
		{[]int{2, 2}, func(d *command.Driver) api.Errno { return d.Program(5, pattern(example, 5)) },
			programs(5, pattern(example, 5)) + "c70 r80 rc0 rc0 re0"},
		{[]int{2, 3}, func(d *command.Driver) api.Errno { return d.Erase(1) },
			erases(4) + "c70 r80 r80 rc0 rc0 re0"},
		{[]int{1, 2}, func(d *command.Driver) api.Errno { _, e := d.Read(9, 0); return e },
			fetches(9) + "c70 r80 rc0 re0 " + outs(blank())},
		{[]int{3, 2}, func(d *command.Driver) api.Errno { _, e := d.Read(9, 2); return e },
			sets(2) + "c70 r80 rc0 rc0 rc0 re0 " + fetches(9) + ready + outs(at(blank(), 0))},
	} {
		d := driver(t, example, telling(example, busy(x.durations...)), 5)
		expectOrder(t, d, 0x00, loads("a04", "c15"), 0x80, api.OK)
		expectSent(t, d, left)
		expectError(t, "what is ignored", x.run(d), api.OK)
		expectSent(t, d, x.sent)
	}
}

// Programs and erases that failed before don't matter: the torn rows are read.
func TestP193TornRows(t *testing.T) {
	s := failing([]int{0, 1})
	s.Torn = []byte{0x12, 0x34}
	d := driver(t, example, s, 3)
	torn := append(bytes.Repeat(s.Torn, 18), 0x12)
	expectError(t, "Program", d.Program(4, pattern(example, 4)), api.ErrFail)
	expectRead(t, d, 4, 0, torn, api.OK)
	expectError(t, "Erase", d.Erase(2), api.ErrFail)
	for n := range 16 {
		want := blank()
		if n == 4 || n/4 == 2 {
			want = torn
		}
		expectRead(t, d, n, 1, want, api.OK)
	}
}

// A Read that is not OK has no effect on the cells, nor has one that is.
func TestP193TheCellsStay(t *testing.T) {
	d := driver(t, example, telling(example, busy(0, 0, 9, 0, 9, 9, 0)), 2)
	a := d.Wire().Chip().Array()
	for n := range 16 {
		a.Program(n, pattern(example, n))
	}
	for rung := range 3 {
		for n := range 16 {
			d.Read(n, rung)
		}
	}
	for n := range 16 {
		if !bytes.Equal(a.Raw(n), pattern(example, n)) || a.Programs(n) != 1 || a.Torn(n) {
			t.Fatalf("row %d is % x now", n, a.Raw(n))
		}
	}
}

// What Read returns is its own.
func TestP193Memory(t *testing.T) {
	d := driver(t, example, busy(), 2)
	b := pattern(example, 4)
	d.Program(4, b)
	first, _ := d.Read(4, 0)
	second, _ := d.Read(4, 0)
	clear(first)
	d.Wire().Mark(seen)
	expectRead(t, d, 4, 0, b, api.OK)
	expectSent(t, d, fetches(4)+ready+outs(b))
	if !bytes.Equal(second, b) {
		t.Fatalf("what was read is % x now", second)
	}
}

// model is what a driver knows, by the words of the chapter, with what it has
// sent, to a chip of the example that is erased and tells its rungs.
type model struct {
	durations []int
	budget    int
	rung      int
	stuck     bool
	sent      string
}

// wait is a wait; false if it is too short.
func (m *model) wait() bool {
	d := 0
	if len(m.durations) > 0 {
		d, m.durations = m.durations[0], m.durations[1:]
	}
	if d >= m.budget {
		m.sent += waits(m.budget, "")
		return false
	}
	m.sent += waits(d, "re0")
	return true
}

// reset is a reset.
func (m *model) reset() bool {
	m.sent += "cff "
	m.rung = 0
	m.stuck = !m.wait()
	return !m.stuck
}

// order is an order.
func (m *model) order(text string) bool {
	if m.stuck && !m.reset() {
		return false
	}
	m.sent += text
	if !m.wait() {
		m.reset()
		return false
	}
	return true
}

// read is a Read of the row 9.
func (m *model) read(rung int) bool {
	if m.rung != rung {
		if !m.order(sets(rung)) {
			return false
		}
		m.rung = rung
	}
	if !m.order(fetches(9)) {
		return false
	}
	m.sent += outs(at(blank(), rung))
	return true
}

// sometimes are durations around a budget of 2, that follow each other without
// a rule to be seen.
func sometimes(n, seed int) []int {
	var l []int
	kinds := [8]int{0, 1, 0, 2, 1, 0, 5, 2}
	state := uint32(seed)*2654435761 + 12345
	for range n {
		state = state*1664525 + 1013904223
		l = append(l, kinds[state>>29])
	}
	return l
}

// All sequences of four Reads and erases, with durations around the budget.
func TestP193AllSequences(t *testing.T) {
	for seed := range 30 {
		for n := range 4 * 4 * 4 * 4 {
			durations := sometimes(24, seed*256+n)
			m := &model{durations: slices.Clone(durations), budget: 2}
			d := driver(t, example, telling(example, busy(durations...)), 2)
			for left, i := n, 0; i < 4; left, i = left/4, i+1 {
				rung := left % 4
				if rung == 3 {
					want := api.OK
					if !m.order(erases(4)) {
						want = api.ErrBusy
					}
					expectError(t, "Erase", d.Erase(1), want)
				} else if m.read(rung) {
					expectRead(t, d, 9, rung, at(blank(), rung), api.OK)
				} else {
					expectRead(t, d, 9, rung, nil, api.ErrBusy)
				}
				expectSent(t, d, m.sent)
				m.sent = ""
			}
		}
	}
}
