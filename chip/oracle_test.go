package chip_test

import (
	"bytes"
	"slices"
	"testing"

	"incunable/api"
	"incunable/chip"
)

// cell is what the chapters say of a row.
type cell struct {
	raw      []byte
	programs int
	torn     bool
}

// job is a row that is to be programmed, and with what.
type job struct {
	row int
	raw []byte
}

// oracle is a chip by the words of the chapter, one after the other, with the
// array and the teller by those of their chapters.
type oracle struct {
	g    api.Geom
	s    api.Script
	size int

	cells  []cell
	erases []int

	durations, work int

	on          bool
	cut, cycles int

	state        string
	listed       []byte
	reads        int
	rung, column int
	register     []byte
	busy         int
	reading      int
	programs     []job
	erasing      []int
	behind       []job
	wait         int
	rows         []job
	blocks       []int
	fail, before bool
}

// rawSize is how many bytes a raw page of g has.
func rawSize(g api.Geom) int {
	return g.Chunks*(g.Chunk+2) + 28 + 2 + 1
}

// erased are n bytes ff.
func erased(n int) []byte {
	return bytes.Repeat([]byte{0xff}, n)
}

// foretold is what a new chip is to be; g and s are valid.
func foretold(g api.Geom, s api.Script) *oracle {
	o := &oracle{g: g, s: s, size: rawSize(g), on: true, cut: s.Cut}
	o.cells = make([]cell, g.Blocks*g.Pages)
	for i := range o.cells {
		o.cells[i].raw = erased(o.size)
	}
	for _, b := range s.Marked {
		o.cells[b*g.Pages].raw[o.size-1] = 0
	}
	o.erases = make([]int, g.Blocks)
	o.wake()
	return o
}

// wake is what the chip has when the power is on again.
func (o *oracle) wake() {
	o.busy, o.reading, o.programs, o.erasing, o.behind, o.wait = 0, -1, nil, nil, nil, 0
	o.rows, o.blocks = nil, nil
	o.to("idle")
	o.rung, o.column = 0, 0
	o.register = erased(o.size)
	o.fail, o.before = false, false
}

// to makes the state another one.
func (o *oracle) to(state string) {
	o.state, o.listed, o.reads = state, nil, 0
}

// duration is the next Busy.
func (o *oracle) duration() int {
	o.durations++
	if o.durations > len(o.s.Busy) {
		return 0
	}
	return o.s.Busy[o.durations-1]
}

// fails tells whether the next program or erase fails.
func (o *oracle) fails() bool {
	o.work++
	return slices.Contains(o.s.Fails, o.work-1)
}

// tear tears a row.
func (o *oracle) tear(row int) {
	x := &o.cells[row]
	for i := range x.raw {
		x.raw[i] = 0
		if len(o.s.Torn) > 0 {
			x.raw[i] = o.s.Torn[i%len(o.s.Torn)]
		}
	}
	x.torn = true
	x.programs++
}

// tearBlock tears all rows of a block.
func (o *oracle) tearBlock(block int) {
	for p := range o.g.Pages {
		o.tear(block*o.g.Pages + p)
	}
}

// pending tells whether work is pending.
func (o *oracle) pending() bool {
	return o.reading >= 0 || len(o.programs) > 0 || len(o.erasing) > 0
}

// engaged tells whether the chip is engaged.
func (o *oracle) engaged() bool {
	return o.busy > 0 || o.pending()
}

// program programs a row, or tears it; it tells whether it failed.
func (o *oracle) program(j job) bool {
	if o.fails() {
		o.tear(j.row)
		return true
	}
	for i, b := range j.raw {
		o.cells[j.row].raw[i] &= b
	}
	o.cells[j.row].programs++
	return false
}

// performBehind performs the program in the background.
func (o *oracle) performBehind() {
	if len(o.behind) == 0 {
		return
	}
	o.before = o.program(o.behind[0])
	o.behind, o.wait = nil, 0
}

// perform performs the pending work.
func (o *oracle) perform() {
	if !o.pending() {
		return
	}
	o.performBehind()
	if o.reading >= 0 {
		o.register = bytes.Clone(o.cells[o.reading].raw)
		for _, turn := range o.s.Turns {
			if turn.Row == o.reading && turn.Rung == o.rung {
				o.register[turn.Bit/8] ^= 1 << (turn.Bit % 8)
			}
		}
	}
	for _, j := range o.programs {
		if o.program(j) {
			o.fail = true
		}
	}
	for _, b := range o.erasing {
		if o.fails() {
			o.tearBlock(b)
			o.fail = true
			continue
		}
		for p := range o.g.Pages {
			o.cells[b*o.g.Pages+p] = cell{raw: erased(o.size)}
		}
		o.erases[b]++
	}
	o.reading, o.programs, o.erasing = -1, nil, nil
}

// interrupt interrupts the work.
func (o *oracle) interrupt() {
	for _, j := range append(slices.Clone(o.behind), o.programs...) {
		if j.row%o.g.Pages%2 == 1 {
			o.tear(j.row - 1)
		}
		o.tear(j.row)
	}
	for _, b := range o.erasing {
		o.tearBlock(b)
	}
	o.reading, o.programs, o.erasing, o.behind, o.wait = -1, nil, nil, nil, 0
}

// poll is a Read in the state status.
func (o *oracle) poll() byte {
	if o.busy > 0 {
		o.busy--
		return 0x80
	}
	o.perform()
	answer := byte(0xe0)
	if len(o.behind) > 0 && o.wait > 0 {
		o.wait--
		answer = 0xc0
	} else {
		o.performBehind()
		if o.fail {
			answer += 1
		}
	}
	if o.before {
		answer += 2
	}
	return answer
}

// starts is what the chapter calls 'it starts'; the work is pending already.
func (o *oracle) starts(keepsQueued, wasBehind bool) {
	o.fail = false
	if !wasBehind {
		o.before = false
	}
	if !keepsQueued {
		o.rows, o.blocks = nil, nil
	}
	o.busy = o.duration()
	o.to("status")
}

// number is that of the address that was listed at a place.
func (o *oracle) number(at int) int {
	return int(o.listed[at]) + 256*int(o.listed[at+1])
}

// do is Do, for a valid cycle and with the power on.
func (o *oracle) do(x api.Cycle) (byte, api.Errno) {
	if o.cut == 0 {
		o.interrupt()
		o.wake()
		o.on, o.cut = false, -1
		return 0xff, api.ErrPower
	}
	if o.cut > 0 {
		o.cut--
	}
	o.cycles++
	return o.execute(x), api.OK
}

// execute is a cycle.
func (o *oracle) execute(x api.Cycle) byte {
	switch {
	case x == api.Cycle{Kind: api.Command, B: 0xff}:
		o.interrupt()
		o.rows, o.blocks, o.rung, o.fail, o.before = nil, nil, 0, false, false
		o.busy = o.duration()
		o.to("idle")
		return 0
	case x == api.Cycle{Kind: api.Command, B: 0x70}:
		o.to("status")
		return 0
	case x.Kind == api.Read && o.state == "status":
		return o.poll()
	case o.engaged() && x.Kind == api.Read:
		return 0xff
	case o.engaged():
		return 0
	}
	answer, inTable := o.table(x)
	if !inTable {
		o.to("idle")
		o.rows, o.blocks = nil, nil
		if x.Kind == api.Read {
			return 0xff
		}
	}
	return answer
}

// table is the table of the chapter.
func (o *oracle) table(x api.Cycle) (byte, bool) {
	switch x.Kind {
	case api.Command:
		return 0, o.opens(x.B) || o.ends(x.B)
	case api.Address:
		return 0, o.address(x.B)
	case api.Write:
		return 0, o.write(x.B)
	}
	return o.read()
}

// opens is the first row of the table.
func (o *oracle) opens(b byte) bool {
	to := map[byte]string{0x90: "id", 0xec: "parameters", 0xef: "feature", 0: "fetch", 5: "move", 0x60: "erase", 0x80: "load"}[b]
	if to == "" {
		return false
	}
	if b != 0x80 {
		o.rows = nil
	}
	if b != 0x60 {
		o.blocks = nil
	}
	if b == 0x80 {
		o.register = erased(o.size)
	}
	o.to(to)
	return true
}

// ends are the rows of the table in which a Command is given after Addresses.
func (o *oracle) ends(b byte) bool {
	most := map[string]int{"fetch": 4, "load": 4, "move": 2, "erase": 2}[o.state]
	if most == 0 || len(o.listed) < most {
		return false
	}
	if o.state == "move" {
		if b == 0xe0 {
			o.column = o.number(0)
			o.to("out")
		}
		return b == 0xe0
	}
	row := o.number(most - 2)
	if row >= len(o.cells) {
		return false
	}
	block := row / o.g.Pages
	j := job{row, bytes.Clone(o.register)}
	wasBehind := len(o.behind) > 0
	switch {
	case o.state == "fetch" && b == 0x30:
		o.column = o.number(0)
		o.reading = row
	case o.state == "load" && b == 0x11:
		if len(o.rows) < o.g.Planes {
			o.rows = append(o.rows, j)
		}
	case o.state == "load" && b == 0x10:
		o.programs = append(slices.Clone(o.rows), j)
	case o.state == "load" && b == 0x15:
		o.performBehind()
		o.behind, o.wait = []job{j}, o.duration()
	case o.state == "erase" && b == 0xd1:
		if len(o.blocks) < o.g.Planes {
			o.blocks = append(o.blocks, block)
		}
	case o.state == "erase" && b == 0xd0:
		o.erasing = append(slices.Clone(o.blocks), block)
	default:
		return false
	}
	o.starts(b == 0x11 || b == 0xd1, wasBehind)
	return true
}

// address is an Address in the table.
func (o *oracle) address(b byte) bool {
	switch {
	case o.state == "id" && b == 0:
		o.to("told")
	case o.state == "parameters" && b == 0:
		o.register = erased(o.size)
		for i, n := range []int{o.g.Planes, o.g.Blocks, o.g.Pages, o.g.Chunks, o.g.Chunk, o.g.Rungs, o.g.Partial} {
			o.register[2*i], o.register[2*i+1] = byte(n%256), byte(n/256)
		}
		o.column = 0
		o.starts(false, len(o.behind) > 0)
	case o.state == "feature" && len(o.listed) == 0 && b == 0x89,
		o.state == "fetch" && len(o.listed) < 4,
		o.state == "load" && len(o.listed) < 4,
		o.state == "move" && len(o.listed) < 2,
		o.state == "erase" && len(o.listed) < 2:
		o.listed = append(o.listed, b)
		if o.state == "load" && len(o.listed) == 4 {
			o.column = o.number(0)
		}
	default:
		return false
	}
	return true
}

// write is a Write in the table.
func (o *oracle) write(b byte) bool {
	switch {
	case o.state == "load" && len(o.listed) == 4:
		if o.column < o.size {
			o.register[o.column] = b
		}
		o.column++
	case o.state == "feature" && len(o.listed) > 0:
		o.listed = append(o.listed, b)
		if len(o.listed) == 5 {
			if int(o.listed[1]) < o.g.Rungs {
				o.rung = int(o.listed[1])
			}
			o.starts(false, len(o.behind) > 0)
		}
	default:
		return false
	}
	return true
}

// read is a Read in the table.
func (o *oracle) read() (byte, bool) {
	if o.state == "told" {
		o.reads++
		if o.reads > 5 {
			return 0xff, true
		}
		return []byte{0x49, 0x4e, byte(o.g.Planes), byte(o.g.Rungs), byte(o.g.Partial)}[o.reads-1], true
	}
	if o.state == "fetch" && len(o.listed) == 0 {
		o.to("out")
	}
	if o.state != "out" {
		return 0, false
	}
	o.column++
	if o.column > o.size {
		return 0xff, true
	}
	return o.register[o.column-1], true
}

// twins are a chip, and what it is to be.
type twins struct {
	t    *testing.T
	name string
	c    *chip.Chip
	o    *oracle
}

// born are new twins.
func born(t *testing.T, name string, g api.Geom, s api.Script) *twins {
	t.Helper()
	return &twins{t, name, started(t, g, s), foretold(g, s)}
}

// do does a valid cycle to both, if the power is on, and fails unless the chip
// answers what it should.
func (w *twins) do(l ...api.Cycle) {
	w.t.Helper()
	for _, x := range l {
		var wantByte byte = 0xff
		want := api.ErrPower
		if w.o.on {
			wantByte, want = w.o.do(x)
		}
		if b, e := w.c.Do(x); b != wantByte || e != want {
			w.t.Fatalf("%s: cycle %d, %v, in the state %q is %02x, %d, not %02x, %d", w.name, w.o.cycles, x, w.o.state, b, e, wantByte, want)
		}
	}
}

// text does the cycles of a text; the bytes of its Reads do not matter.
func (w *twins) text(s string) {
	w.t.Helper()
	w.do(cycles(w.t, s)...)
}

// cut sets the Cut of both, if the power is on.
func (w *twins) cut(n int) {
	w.c.Cut(n)
	if w.o.on {
		w.o.cut = n
	}
}

// power switches the power of both on.
func (w *twins) power() {
	w.c.Power()
	w.o.on = true
}

// same fails unless the chip's counts and its array are what they should be.
func (w *twins) same() {
	w.t.Helper()
	w.sameCounts()
	for i := range w.o.cells {
		w.sameRow(i)
	}
	for b, n := range w.o.erases {
		if got := w.c.Array().Erases(b); got != n {
			w.t.Fatalf("%s: Erases(%d) is %d, not %d", w.name, b, got, n)
		}
	}
}

// sameCounts fails unless the chip's counts are what they should be.
func (w *twins) sameCounts() {
	w.t.Helper()
	if got := w.c.Cycles(); got != w.o.cycles {
		w.t.Fatalf("%s: Cycles is %d, not %d", w.name, got, w.o.cycles)
	}
	if got := w.c.Work(); got != w.o.work {
		w.t.Fatalf("%s: Work is %d, not %d", w.name, got, w.o.work)
	}
	if got := w.c.On(); got != w.o.on {
		w.t.Fatalf("%s: On is %t, not %t", w.name, got, w.o.on)
	}
}

// sameRow fails unless a row is what it should be.
func (w *twins) sameRow(i int) {
	w.t.Helper()
	want := w.o.cells[i]
	a := w.c.Array()
	if got := a.Raw(i); !bytes.Equal(got, want.raw) {
		w.t.Fatalf("%s: row %d is % x, not % x", w.name, i, got, want.raw)
	}
	if got := a.Programs(i); got != want.programs {
		w.t.Fatalf("%s: Programs(%d) is %d, not %d", w.name, i, got, want.programs)
	}
	if got := a.Torn(i); got != want.torn {
		w.t.Fatalf("%s: Torn(%d) is %t, not %t", w.name, i, got, want.torn)
	}
}
