package chip_test

import (
	"slices"
	"strings"
	"testing"

	"incunable/api"
)

// troubled is a script in which every duration is the given one, some programs
// and erases fail, some bits are turned, and a block is marked.
func troubled(duration int) api.Script {
	return api.Script{
		Busy:  slices.Repeat([]int{duration}, 600),
		Fails: []int{1, 4, 5, 9, 12, 13},
		Turns: []api.Turn{
			{Row: 0, Rung: 0, Bit: 7}, {Row: 5, Rung: 0, Bit: 0}, {Row: 5, Rung: 0, Bit: 9}, {Row: 5, Rung: 1, Bit: 3},
			{Row: 5, Rung: 2, Bit: 3}, {Row: 5, Rung: 2, Bit: 17}, {Row: 15, Rung: 1, Bit: 295},
		},
		Torn:   []byte{0x5a, 0xa5, 0x81},
		Cut:    -1,
		Marked: []int{3},
	}
}

// setups are what is done to a chip of the example to bring it into each of
// its states. A + stands for polls until the chip is not busy, and a * for one
// more, which performs the pending work.
func setups() []string {
	const (
		load  = " c80 a00 a00 a05 a00 w0f w33 "
		other = " c80 a02 a00 a08 a00 w71 "
		third = " c80 a00 a00 a0e a00 w18 w81 "
		eras  = " c60 a05 a00 "
		oeras = " c60 a08 a00 "
	)
	return []string{
		"", "cff", "cff +", "c70", "c70 r00 r00", "caa", "caa r00",
		"c90", "c90 a00", "c90 a00 r00", "c90 a00 r00 r00 r00 r00", "c90 a00 r00 r00 r00 r00 r00", "c90 a00 r00 r00 r00 r00 r00 r00",
		"cec", "cec a00", "cec a00 + c00 r00 r00 r00",
		"cef", "cef a89", "cef a89 w01", "cef a89 w01 w02", "cef a89 w01 w02 w00", "cef a89 w01 w02 w00 w00", "cef a89 w02 w00 w00 w00 + c00 a00 a00 a05 a00",
		"c00", "c00 a01", "c00 a01 a00", "c00 a01 a00 a05", "c00 a01 a00 a05 a00", "c00 a01 a00 a10 a00", "c00 a00 a00 a05 a01",
		"c00 a01 a00 a05 a00 c30", "c00 a01 a00 a05 a00 c30 * c00", "c00 a01 a00 a05 a00 c30 * c00 r00 r00",
		"c00 r00", "c00 a24 a00 a00 a00 c30 * c00 r00", "c00 a24 a00 a00 a00 c30 * c00 r00 r00",
		"c05", "c05 a02", "c05 a02 a00", "c05 a02 a00 ce0", "c05 a24 a00 ce0 r00", "c05 a00 a01",
		"c80", "c80 a01", "c80 a01 a00", "c80 a01 a00 a05", "c80 a01 a00 a05 a00", load, "c80 a24 a00 a05 a00 w12 w13", "c80 a00 a01 a05 a00 w12", "c80 a00 a00 a10 a00 w12", "c80 a00 a00 a05 a01",
		load + "c11", load + "c11 +" + other, load + "c11 + c80", load + "c11 +" + other + "c11", load + "c11 +" + other + "c11 +" + third, load + "c11 +" + other + "c11 +" + third + "c11",
		load + "c11 +" + other + "c11 +" + third + "c11 +" + load,
		load + "c10", load + "c10 *", load + "c11 +" + other + "c10", load + "c10 *" + load + "c10", load + "c10 *" + load + "c10 *",
		load + "c15", load + "c15 + r00", load + "c15 +" + other, load + "c15 +" + other + "c15", load + "c15 +" + other + "c10", load + "c15 +" + load + "c10",
		load + "c15 +" + other + "c11", load + "c15 +" + other + "c11 +" + third, load + "c15 +" + other + "c11 +" + third + "c10",
		load + "c11 +" + other + "c15", load + "c15 + c00 a00 a00 a05 a00 c30", load + "c15 +" + eras, load + "c15 +" + eras + "cd0", load + "c15 +" + eras + "cd1",
		load + "c15 +" + other + "c15 +" + third + "c15", load + "c15 + c90 a00 r00", load + "c15 + cec a00", load + "c15 + caa",
		"c60", "c60 a05", eras, "c60 a10 a00", eras + "cd1", eras + "cd1 +" + oeras, eras + "cd1 + c60", eras + "cd1 +" + oeras + "cd1", eras + "cd1 +" + oeras + "cd1 + c60 a00 a00",
		eras + "cd0", eras + "cd0 *", eras + "cd1 +" + oeras + "cd0", eras + "cd1 +" + oeras + "cd0 *", load + "c10 *" + eras + "cd1 +" + oeras + "cd1 + c60 a00 a00 cd0",
		load + "c11 +" + eras, eras + "cd1 +" + load, load + "c11 +" + eras + "cd0", eras + "cd1 +" + load + "c10",
	}
}

// settled is a setup as text, with the polls that a script asks for, in which
// every duration is the same one.
func settled(t *testing.T, setup string, s api.Script) string {
	t.Helper()
	polls := " c70 " + strings.Repeat("r00 ", s.Busy[0])
	setup = strings.ReplaceAll(setup, "+", polls)
	return strings.ReplaceAll(setup, "*", polls+"r00 ")
}

// quickProbes look whether a chip is in the state that it should be in, for
// cycles of which nothing is expected.
func quickProbes() []string {
	return []string{
		"r00 r00 c70 r00 r00 r00 r00 r00 c00 r00 r00",
		"c80 a00 a00 a0b a00 w99 c10 c70 r00 r00 r00 r00 c60 a0f a00 cd0 c70 r00 r00 r00 r00",
	}
}

// probes look for all that a chip may have.
func probes() []string {
	return append(quickProbes(),
		"a00 a00 a00 a00 w55 c10 c70 r00 r00 r00 r00",
		"a05 a00 cd0 c70 r00 r00 r00 r00",
		"a00 a00 a05 a00 c30 c70 r00 r00 r00 r00 c00 r00 r00 r00",
		"ce0 r00 r00 r00",
		"c30 c70 r00 r00 r00 r00 c00 r00 r00 r00",
		"w00 w00 c10 c70 r00 r00 r00 r00",
		"c11 c70 r00 r00 r00 r00 c80 a00 a00 a09 a00 c10 c70 r00 r00 r00 r00",
		"c15 c70 r00 r00 r00 r00 r00 r00",
		"cd0 c70 r00 r00 r00 r00",
		"cd1 c70 r00 r00 r00 r00 c60 a09 a00 cd0 c70 r00 r00 r00 r00",
		"w01 w01 w01 w01 c70 r00 r00 r00 r00 c00 a00 a00 a05 a00 c30 c70 r00 r00 r00 r00 c00 r00 r00 r00",
		"c70 r00 r00 r00 r00 r00 r00 c60 a09 a00 cd0 c70 r00 r00 r00 r00",
		"cff c70 r00 r00 r00 r00 c00 r00 r00 r00",
	)
}

// telling are bytes that mean something in some state, or nearly do.
var telling = [...]byte{0x00, 0x01, 0x02, 0x03, 0x05, 0x06, 0x0f, 0x10, 0x11, 0x12, 0x15, 0x30, 0x31, 0x60, 0x70, 0x71, 0x80, 0x85, 0x89, 0x90, 0xd0, 0xd1, 0xd2, 0xe0, 0xe1, 0xec, 0xef, 0xfe, 0xff}

// TestP141EachCycleInEachState does each cycle there is in each state, and
// then looks for all that it may have done.
func TestP141EachCycleInEachState(t *testing.T) {
	parse := func(l []string) [][]api.Cycle {
		var all [][]api.Cycle
		for _, text := range l {
			all = append(all, cycles(t, text))
		}
		return all
	}
	quick, whole := parse(quickProbes()), parse(probes())
	for _, duration := range []int{0, 2} {
		for _, setup := range setups() {
			s := troubled(duration)
			before := cycles(t, settled(t, setup, s))
			t.Run("", func(t *testing.T) {
				t.Parallel()
				for kind := api.Command; kind <= api.Read; kind++ {
					for v := range 256 {
						probes := quick
						if slices.Contains(telling[:], byte(v)) {
							probes = whole
						}
						for _, probe := range probes {
							w := born(t, setup, example, s)
							w.do(before...)
							w.do(api.Cycle{Kind: kind, B: byte(v)})
							w.do(probe...)
							w.same()
						}
					}
				}
			})
		}
	}
}

// TestP141LossInEachState loses the power in each state, and looks for what is
// left of it.
func TestP141LossInEachState(t *testing.T) {
	for _, duration := range []int{0, 1, 2} {
		for _, setup := range setups() {
			s := troubled(duration)
			for _, probe := range probes() {
				w := born(t, setup, example, s)
				w.text(settled(t, setup, s))
				w.cut(0)
				w.text("r00")
				w.same()
				w.text("r00")
				w.power()
				w.text(probe)
				w.same()
			}
		}
	}
}

// chance is a source of numbers that look like random ones, but are always the
// same.
type chance uint32

// below is a number from 0 to n - 1.
func (x *chance) below(n int) int {
	*x = *x*1664525 + 1013904223
	return int(*x>>16) % n
}

// script is a script for g.
func (x *chance) script(g api.Geom) api.Script {
	s := api.Script{Cut: -1}
	for range 200 {
		s.Busy = append(s.Busy, x.below(4)*x.below(2))
	}
	for n := range 300 {
		if x.below(4) == 0 {
			s.Fails = append(s.Fails, n)
		}
	}
	for range 60 {
		s.Turns = append(s.Turns, api.Turn{Row: x.below(g.Blocks * g.Pages), Rung: x.below(g.Rungs), Bit: x.below(rawSize(g) * 8)})
	}
	for range x.below(4) {
		s.Torn = append(s.Torn, byte(x.below(256)))
	}
	for b := range g.Blocks {
		if x.below(5) == 0 {
			s.Marked = append(s.Marked, b)
		}
	}
	if x.below(3) == 0 {
		s.Cut = x.below(400)
	}
	return s
}

// address is the address of a row, or nearly so.
func (x *chance) address(g api.Geom) []byte {
	row := x.below(g.Blocks*g.Pages + 2)
	return []byte{byte(row), byte(row / 256)}
}

// column is the address of a column, or nearly so.
func (x *chance) column(g api.Geom) []byte {
	if x.below(2) == 0 {
		return []byte{0, 0}
	}
	at := x.below(rawSize(g) + 3)
	return []byte{byte(at), byte(at / 256)}
}

// list makes cycles of a kind.
func list(kind int, b ...byte) []api.Cycle {
	var l []api.Cycle
	for _, v := range b {
		l = append(l, api.Cycle{Kind: kind, B: v})
	}
	return l
}

// order is something that means something as a whole, most of the time.
func (x *chance) order(g api.Geom) []api.Cycle {
	command := func(b ...byte) []api.Cycle { return list(api.Command, b...) }
	polls := slices.Concat(command(0x70), list(api.Read, make([]byte, x.below(6))...))
	load := slices.Concat(command(0x80), list(api.Address, x.column(g)...), list(api.Address, x.address(g)...), list(api.Write, byte(x.below(256)), byte(x.below(256)))[:x.below(3)])
	erase := slices.Concat(command(0x60), list(api.Address, x.address(g)...))
	switch x.below(14) {
	case 0:
		return slices.Concat(command(0xff), polls)
	case 1:
		return slices.Concat(command(0x90), list(api.Address, 0), list(api.Read, make([]byte, x.below(8))...))
	case 2:
		return slices.Concat(command(0xec), list(api.Address, 0), polls)
	case 3:
		return slices.Concat(command(0xef), list(api.Address, 0x89), list(api.Write, byte(x.below(g.Rungs+2)), 0, 0, 0), polls)
	case 4:
		return slices.Concat(command(0x00), list(api.Address, x.column(g)...), list(api.Address, x.address(g)...), command(0x30), polls)
	case 5:
		return slices.Concat(command(0x00), list(api.Read, make([]byte, x.below(5))...))
	case 6:
		return slices.Concat(command(0x05), list(api.Address, x.column(g)...), command(0xe0), list(api.Read, make([]byte, x.below(4))...))
	case 7:
		return slices.Concat(load, command(0x10), polls)
	case 8:
		return slices.Concat(load, command(0x11), polls)
	case 9, 10:
		return slices.Concat(load, command(0x15), polls)
	case 11:
		return slices.Concat(erase, command(0xd0), polls)
	case 12:
		return slices.Concat(erase, command(0xd1), polls)
	}
	return polls
}

// some are cycles that may mean anything.
func (x *chance) some() []api.Cycle {
	var l []api.Cycle
	for range 1 + x.below(3) {
		l = append(l, api.Cycle{Kind: 1 + x.below(4), B: telling[x.below(len(telling))]})
	}
	return l
}

// TestP141LongRuns does many orders, some of them broken off, with losses of
// power.
func TestP141LongRuns(t *testing.T) {
	for number, g := range geometries() {
		runs := 150
		if g.Blocks == 256 {
			runs = 4
		}
		t.Run("", func(t *testing.T) {
			t.Parallel()
			for seed := range runs {
				x := chance(seed*10 + number)
				w := born(t, "long run", g, x.script(g))
				for range 250 {
					w.longStep(&x)
					w.sameCounts()
				}
				w.same()
			}
		})
	}
}

// longStep is one step of a long run.
func (w *twins) longStep(x *chance) {
	w.t.Helper()
	g := w.o.g
	if !w.o.on && x.below(2) == 0 {
		w.power()
	}
	l := x.order(g)
	switch x.below(12) {
	case 0:
		l = x.some()
	case 1:
		l = slices.Concat(l[:x.below(len(l))], x.some())
	case 2:
		l = l[:x.below(len(l))]
	case 3:
		w.cut(x.below(30) - 5)
	}
	w.do(l...)
	// The rows that may just have changed are seen at once, the others in the
	// end.
	if len(w.o.cells) <= 64 {
		w.same()
	}
}
