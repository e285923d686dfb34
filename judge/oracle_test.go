package judge_test

import (
	"maps"
	"math"
	"slices"
	"testing"

	"incunable/api"
	"incunable/judge"
)

// oracle is a judge by the words of the chapter, one after the other.
type oracle struct {
	g api.Geom

	// What is stored for blocks and rows.
	erased   map[int]int // 1 for the blocks that are erased
	last     map[int]int // the last page plus 1
	programs map[int]int

	open   string
	listed []int
	count  int

	busy       bool
	background []int // the block, if there is one
	data       bool
	column     int
	rows       []int
	blocks     []int
	erases     []int

	other    api.Cycle // the last cycle other than a Read
	rejected bool
}

// foretold is what a new judge is to be; g is valid.
func foretold(g api.Geom) *oracle {
	return &oracle{g: g, erased: map[int]int{}, last: map[int]int{}, programs: map[int]int{}, open: "Asleep"}
}

// twin is the same once more.
func (o *oracle) twin() *oracle {
	p := *o
	p.erased, p.last, p.programs = maps.Clone(o.erased), maps.Clone(o.last), maps.Clone(o.programs)
	p.listed, p.background = slices.Clone(o.listed), slices.Clone(o.background)
	p.rows, p.blocks, p.erases = slices.Clone(o.rows), slices.Clone(o.blocks), slices.Clone(o.erases)
	return &p
}

// raw is how many bytes a raw page has.
func (o *oracle) raw() int {
	return o.g.Chunks*(o.g.Chunk+2) + 28 + 2 + 1
}

// can tells whether a row can be programmed.
func (o *oracle) can(row int) bool {
	if row < 0 || row >= o.g.Blocks*o.g.Pages {
		return false
	}
	block, page := row/o.g.Pages, row%o.g.Pages
	return o.erased[block] == 1 && !(page < o.last[block]-1) && o.programs[row] < o.g.Partial
}

// starts is what the chapter calls 'it starts'.
func (o *oracle) starts() bool {
	o.busy, o.open, o.listed, o.count = true, "Free", nil, 0
	return true
}

// noLongerErased are the blocks of the erases.
func (o *oracle) noLongerErased() {
	for _, b := range o.erases {
		o.erased[b] = 0
	}
}

// afterReset is the state after ff.
func (o *oracle) afterReset() {
	o.noLongerErased()
	o.erases, o.rows, o.blocks, o.background, o.data = nil, nil, nil, nil, false
	o.starts()
	o.other = api.Cycle{Kind: api.Command, B: 0xff}
}

// power is that the power is lost.
func (o *oracle) power() {
	o.afterReset()
	o.open, o.busy, o.rejected = "Asleep", false, false
}

// step is a cycle; it tells whether it is accepted. What rules has done to the
// open operation before it rejects a cycle, nothing asks for any more.
func (o *oracle) step(x api.Cycle) bool {
	if o.rejected || !o.rules(x) {
		o.rejected = true
		return false
	}
	if x.Kind != api.Read {
		o.other = x
	}
	return true
}

// rules are the nine rules.
func (o *oracle) rules(x api.Cycle) bool {
	if x == (api.Cycle{Kind: api.Command, B: 0xff}) {
		o.afterReset()
		return true
	}
	if o.open == "Asleep" {
		return false
	}
	if x == (api.Cycle{Kind: api.Command, B: 0x70}) {
		if !o.busy {
			o.open, o.listed, o.count = "Free", nil, 0
		}
		return true
	}
	if x.Kind == api.Read && o.other == (api.Cycle{Kind: api.Command, B: 0x70}) {
		if x.B&0x40 != 0 {
			if o.busy && x.B&0x01 != 0 {
				o.noLongerErased()
			}
			o.busy, o.erases = false, nil
			if x.B&0x20 != 0 {
				o.background = nil
			}
		}
		return true
	}
	if o.busy {
		return false
	}
	switch x.Kind {
	case api.Command:
		return o.command(x.B)
	case api.Address:
		return o.address(x.B)
	case api.Write:
		return o.write()
	case api.Read:
		return o.read()
	}
	return false
}

// number is that of the Addresses listed at a place.
func (o *oracle) number(at int) int {
	return o.listed[at] + 256*o.listed[at+1]
}

// command is rule 6.
func (o *oracle) command(b byte) bool {
	n := len(o.listed)
	switch {
	case o.open == "Load" && n == 4 && o.count > 0:
		return (b == 0x10 || b == 0x15 || b == 0x11) && o.program(b, o.number(2))
	case o.open == "Erase" && n == 2:
		return (b == 0xd0 || b == 0xd1) && o.erase(b, o.number(0)/o.g.Pages)
	case o.open == "Fetch" && n == 4:
		if b != 0x30 {
			return false
		}
		o.data, o.column = true, o.number(0)
		return o.starts()
	case o.open == "Move" && n == 2:
		if b != 0xe0 {
			return false
		}
		o.column, o.open, o.listed = o.number(0), "Out", nil
		return true
	case o.open == "Free", o.open == "Out", o.open == "ID" && n == 1, o.open == "Fetch" && n == 0 && o.data:
		return o.opens(b)
	}
	return false
}

// opens is a command that opens an operation.
func (o *oracle) opens(b byte) bool {
	next := map[byte]string{0x90: "ID", 0xec: "Parameters", 0xef: "Feature", 0x00: "Fetch", 0x05: "Move", 0x80: "Load", 0x60: "Erase"}[b]
	if next == "" || next == "Move" && !o.data {
		return false
	}
	if len(o.background) > 0 || len(o.rows) > 0 {
		if b != 0x80 {
			return false
		}
	} else if len(o.blocks) > 0 && b != 0x60 {
		return false
	}
	if b != 0x00 && b != 0x05 {
		o.data = false
	}
	o.open, o.listed, o.count = next, nil, 0
	return true
}

// program is 10, 15 or 11.
func (o *oracle) program(b byte, row int) bool {
	if !o.can(row) {
		return false
	}
	block, page := row/o.g.Pages, row%o.g.Pages
	for _, r := range o.rows {
		if r%o.g.Pages != page || r/o.g.Pages%o.g.Planes == block%o.g.Planes {
			return false
		}
	}
	if len(o.background) > 0 && o.background[0] != block {
		return false
	}
	if b == 0x15 && len(o.rows) > 0 || b == 0x11 && len(o.background) > 0 {
		return false
	}
	o.data = false
	o.last[block] = page + 1
	o.programs[row]++
	if b == 0x11 {
		o.rows = append(o.rows, row)
	} else {
		o.rows = nil
	}
	if b == 0x15 {
		o.background = []int{block}
	}
	return o.starts()
}

// erase is d0 or d1.
func (o *oracle) erase(b byte, block int) bool {
	for _, other := range o.blocks {
		if other%o.g.Planes == block%o.g.Planes {
			return false
		}
	}
	o.blocks = append(o.blocks, block)
	o.data = false
	if b == 0xd0 {
		for _, one := range o.blocks {
			o.erased[one], o.last[one] = 1, 0
			for page := range o.g.Pages {
				o.programs[one*o.g.Pages+page] = 0
			}
		}
		o.erases, o.blocks = o.blocks, nil
	}
	return o.starts()
}

// address is rule 7.
func (o *oracle) address(b byte) bool {
	most := map[string]int{"ID": 1, "Parameters": 1, "Feature": 1, "Fetch": 4, "Load": 4, "Move": 2, "Erase": 2}[o.open]
	if len(o.listed) >= most {
		return false
	}
	if (o.open == "ID" || o.open == "Parameters") && b != 0 || o.open == "Feature" && b != 0x89 {
		return false
	}
	o.listed = append(o.listed, int(b))
	if o.open == "Fetch" {
		o.data = false
	}
	if o.open == "Parameters" {
		o.data, o.column = true, 0
		return o.starts()
	}
	if len(o.listed) < most {
		return true
	}
	rows := o.g.Blocks * o.g.Pages
	switch o.open {
	case "Fetch", "Load":
		o.column = o.number(0)
		return o.number(2) < rows && o.column < o.raw()
	case "Move":
		return o.number(0) < o.raw()
	case "Erase":
		return o.number(0) < rows
	}
	return true
}

// write is rule 8.
func (o *oracle) write() bool {
	if o.open == "Feature" && len(o.listed) == 1 {
		o.count++
		if o.count == 4 {
			o.starts()
		}
		return true
	}
	if o.open == "Load" && len(o.listed) == 4 {
		o.count++
		return o.column+o.count <= o.raw()
	}
	return false
}

// read is rule 9.
func (o *oracle) read() bool {
	if o.open == "ID" && len(o.listed) == 1 {
		o.count++
		return o.count <= 5
	}
	if o.open == "Fetch" && len(o.listed) == 0 && o.data {
		o.open = "Out"
	}
	if o.open != "Out" || o.column >= o.raw() {
		return false
	}
	o.column++
	return true
}

// twins are a judge, and what it is to be.
type twins struct {
	t *testing.T
	j *judge.Judge
	o *oracle
}

// born are new twins.
func born(t *testing.T, g api.Geom) *twins {
	t.Helper()
	return &twins{t, started(t, g), foretold(g)}
}

// step gives both a cycle, and fails unless the judge answers what it should;
// it tells whether the cycle is accepted.
func (w *twins) step(x api.Cycle) bool {
	w.t.Helper()
	open := w.o.open
	want := w.o.step(x)
	if got := w.j.Step(x); got != want {
		w.t.Fatalf("in %s with %v listed, Step(%v) is %t, not %t", open, w.o.listed, x, got, want)
	}
	if got := w.j.Busy(); got != w.o.busy {
		w.t.Fatalf("after %v Busy is %t, not %t", x, got, w.o.busy)
	}
	return want
}

// power tells both that the power was lost.
func (w *twins) power() {
	w.j.Power()
	w.o.power()
}

// same fails unless Can is what it should be for all rows, and for some that
// there are not.
func (w *twins) same() {
	w.t.Helper()
	n := w.o.g.Blocks * w.o.g.Pages
	for row := -2; row < n+2; row++ {
		if got, want := w.j.Can(row), w.o.can(row); got != want {
			w.t.Fatalf("Can(%d) is %t, not %t", row, got, want)
		}
	}
	for _, row := range []int{math.MinInt, -n, n + 1<<16, 1 << 32, math.MaxInt} {
		if w.j.Can(row) {
			w.t.Fatalf("Can(%d) is true", row)
		}
	}
}

// telling are bytes that mean something in some situation, or nearly do.
var telling = [...]byte{0x00, 0x01, 0x02, 0x03, 0x04, 0x05, 0x06, 0x08, 0x0c, 0x0f, 0x10, 0x11, 0x12, 0x15, 0x24, 0x25, 0x30, 0x40, 0x41, 0x60, 0x61, 0x70, 0x80, 0x81, 0x89, 0x90, 0xc0, 0xc1, 0xd0, 0xd1, 0xe0, 0xe1, 0xec, 0xef, 0xff}

// probes look for all that a judge may store.
func probes() []string {
	const wait = "c70 re0 "
	return []string{
		"c70 rc0 c80 a00 a00 a06 a00 w00 c15 c70 rc0 c80 a00 a00 a07 a00 w00 c10",
		"c70 rc0 c80 a00 a00 a0a a00 w00 c11 " + wait + "c80 a00 a00 a06 a00 w00 c10 " + wait + "c60",
		"c70 rc0 c80 a00 a00 a05 a00 w00 c15",
		"c70 rc0 c60 a00 a00 cd1 " + wait + "c60 a04 a00 cd0 " + wait + "c60 a08 a00 cd0",
		"c70 rc0 c60 a0c a00 cd0 c70 re1 c80 a00 a00 a0d a00 w00 c10",
		"c70 rc0 c05 a23 a00 ce0 r00 r00 c60",
		"c70 rc0 c00 r00 r00 r00 r00 r00 r00 r00 r00",
		"c70 re1 c90 a00 r00",
		"a00 a00 a00 a00 w00 w00 c10",
		"a00 a00 a05 a00 c30 c70 re0 c00 r00",
		"a05 a00 cd0 c70 re0 c80 a00 a00 a05 a00 w00 c10",
		"w00 w00 w00 w00 c70 re0",
		"r00 r00 r00 r00 r00 r00",
		"re1 re1 c60 a00 a00 cd0",
		"ce0 r00 r00",
		"c15 c70 rc0 c80 a00 a00 a07 a00 w00 c15",
		"cff c70 re0 c60 a08 a00 cd1 " + wait + "c60 a0c a00 cd0",
	}
}

// TestP151EachCycleThenOthers gives each cycle in each situation, and then
// looks for all that it may have done.
func TestP151EachCycleThenOthers(t *testing.T) {
	var parsed [][]api.Cycle
	for _, p := range probes() {
		parsed = append(parsed, cycles(t, p))
	}
	for _, s := range append(situations(), situation{before: asleep}) {
		var before []api.Cycle
		if s.before != asleep {
			before = cycles(t, s.before)
		}
		t.Run("", func(t *testing.T) {
			t.Parallel()
			for _, kind := range []int{api.Command, api.Address, api.Write, api.Read} {
				for _, b := range telling {
					cycleThenOthers(t, before, api.Cycle{Kind: kind, B: b}, parsed)
				}
			}
		})
	}
}

// cycleThenOthers gives a cycle behind others, and then each of the probes, if
// it is accepted.
func cycleThenOthers(t *testing.T, before []api.Cycle, x api.Cycle, probes [][]api.Cycle) {
	t.Helper()
	for _, probe := range probes {
		w := born(t, example)
		for _, y := range before {
			w.step(y)
		}
		accepted := w.step(x)
		w.same()
		if !accepted {
			return
		}
		for _, y := range probe {
			w.step(y)
		}
		w.same()
		w.power()
		w.same()
	}
}

// chance is a source of numbers that look like random ones, but are always the
// same.
type chance uint32

// below is a number from 0 to n - 1.
func (x *chance) below(n int) int {
	*x = *x*1664525 + 1013904223
	return int(*x>>16) % n
}

// list makes cycles of a kind.
func list(kind int, b ...byte) []api.Cycle {
	var l []api.Cycle
	for _, v := range b {
		l = append(l, api.Cycle{Kind: kind, B: v})
	}
	return l
}

// row is the address of a row of one of the first blocks, or nearly so.
func (x *chance) row(g api.Geom) []byte {
	row := x.below(g.Blocks*g.Pages + 1)
	if x.below(4) > 0 {
		row = x.below(4 * g.Pages)
	}
	return []byte{byte(row), byte(row / 256)}
}

// column is the address of a column, or nearly so.
func (x *chance) column(o *oracle) []byte {
	if x.below(2) == 0 {
		return []byte{0, 0}
	}
	at := x.below(o.raw() + 1)
	if x.below(2) == 0 {
		at = o.raw() - x.below(4)
	}
	return []byte{byte(at), byte(at / 256)}
}

// order is something that means something as a whole, most of the time.
func (x *chance) order(o *oracle) []api.Cycle {
	command := func(b ...byte) []api.Cycle { return list(api.Command, b...) }
	status := []byte{0xe0, 0xe0, 0xe0, 0xc0, 0xe1, 0xe2, 0x80, 0x81, 0xc1, 0x60}
	polls := command(0x70)
	for range 1 + x.below(3) {
		polls = append(polls, api.Cycle{Kind: api.Read, B: status[x.below(len(status))]})
	}
	reads := list(api.Read, make([]byte, x.below(7))...)
	load := slices.Concat(command(0x80), list(api.Address, x.column(o)...), list(api.Address, x.row(o.g)...), list(api.Write, make([]byte, 1+x.below(3))...))
	erase := slices.Concat(command(0x60), list(api.Address, x.row(o.g)...))
	switch x.below(16) {
	case 0:
		return slices.Concat(command(0xff), polls)
	case 1:
		return slices.Concat(command(0x90), list(api.Address, 0), reads)
	case 2:
		return slices.Concat(command(0xec), list(api.Address, 0), polls)
	case 3:
		return slices.Concat(command(0xef), list(api.Address, 0x89), list(api.Write, 1, 0, 0, 0), polls)
	case 4:
		return slices.Concat(command(0x00), list(api.Address, x.column(o)...), list(api.Address, x.row(o.g)...), command(0x30), polls)
	case 5:
		return slices.Concat(command(0x00), reads)
	case 6:
		return slices.Concat(command(0x05), list(api.Address, x.column(o)...), command(0xe0), reads)
	case 7, 8:
		return slices.Concat(load, command(0x10), polls)
	case 9, 10:
		return slices.Concat(load, command(0x11), polls)
	case 11, 12:
		return slices.Concat(load, command(0x15), polls)
	case 13, 14:
		return slices.Concat(erase, command(0xd0), polls)
	case 15:
		return slices.Concat(erase, command(0xd1), polls)
	}
	return polls
}

// some are cycles that may mean anything.
func (x *chance) some() []api.Cycle {
	var l []api.Cycle
	for range 1 + x.below(3) {
		l = append(l, api.Cycle{Kind: x.below(6), B: telling[x.below(len(telling))]})
	}
	return l
}

// small are the geometries for long runs: of few blocks, but for one.
func small() []api.Geom {
	return slices.DeleteFunc(geometries(), func(g api.Geom) bool { return g == greatest })
}

// TestP151LongRuns gives many orders, some of them broken off, with losses of
// power; most of the cycles that would be rejected are left out.
func TestP151LongRuns(t *testing.T) {
	for number, g := range small() {
		accepted, programs := 0, 0
		for seed := range 60 {
			x := chance(seed*10 + number)
			w := born(t, g)
			for range 200 {
				l := x.order(w.o)
				if x.below(12) == 0 {
					l = append(l[:x.below(len(l))], x.some()...)
				}
				if x.below(60) == 0 || w.o.rejected && x.below(3) == 0 {
					w.power()
					w.step(api.Cycle{Kind: api.Command, B: 0xff})
				}
				for _, y := range l {
					if x.below(400) > 0 && !w.o.twin().step(y) {
						continue
					}
					if w.step(y) {
						accepted++
					}
				}
				w.same()
			}
			for row := range g.Blocks * g.Pages {
				programs += w.o.programs[row]
			}
		}
		// The runs are worth something only if much is accepted in them.
		if accepted < 20000 || programs < 100 {
			t.Errorf("with %v only %d cycles are accepted, and %d pages programmed", g, accepted, programs)
		}
	}
}

// acceptedRun is a long run of accepted cycles.
func acceptedRun(seed int, g api.Geom, length int) []api.Cycle {
	x := chance(seed)
	o := foretold(g)
	var l []api.Cycle
	for len(l) < length {
		for _, y := range append(x.order(o), list(api.Command, 0xff)[:x.below(2)*x.below(2)]...) {
			if p := o.twin(); p.step(y) {
				o = p
				l = append(l, y)
			}
		}
	}
	return l
}

// TestP153Prefixes runs every prefix of long accepted runs.
func TestP153Prefixes(t *testing.T) {
	for number, g := range geometries() {
		length := 1200
		if g == greatest {
			length = 200
		}
		for seed := range 3 {
			l := acceptedRun(seed*10+number, g, length)
			for n := range len(l) + 1 {
				if got, ok := judge.Run(g, l[:n]); got != n || !ok {
					t.Fatalf("Run of the first %d of %d cycles is %d, %t", n, len(l), got, ok)
				}
			}
		}
	}
	for _, s := range situations() {
		l := cycles(t, s.before)
		for n := range l {
			if got, ok := judge.Run(example, l[:n]); got != n || !ok {
				t.Fatalf("Run of the first %d cycles of %q is %d, %t", n, s.before, got, ok)
			}
		}
	}
}

// TestP153Busy gives every cycle at every place of long accepted runs at which
// the chip is busy: only 70, ff and polls are accepted there.
func TestP153Busy(t *testing.T) {
	for number, g := range []api.Geom{example, small()[1]} {
		l := acceptedRun(number, g, 300)
		places := 0
		for n := range len(l) + 1 {
			c := of(t, g)
			for _, y := range l[:n] {
				c.j.Step(y)
			}
			if !c.j.Busy() {
				continue
			}
			places++
			polling := false
			for _, y := range l[:n] {
				polling = y.Kind == api.Read && polling || y == api.Cycle{Kind: api.Command, B: 0x70}
			}
			for _, kind := range kinds {
				for b := range 256 {
					x := api.Cycle{Kind: kind, B: byte(b)}
					want := kind == api.Command && (b == 0x70 || b == 0xff) || kind == api.Read && polling
					if got, ok := judge.Run(g, append(slices.Clone(l[:n]), x)); ok != want || got < n {
						t.Fatalf("while the chip is busy, %v is accepted: %t", x, ok)
					}
				}
			}
		}
		if places < 50 {
			t.Errorf("the chip was busy only at %d places", places)
		}
	}
}
