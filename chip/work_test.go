package chip_test

import (
	"bytes"
	"strings"
	"testing"

	"incunable/api"
)

// The tests of this file say in numbers what the chapter says in words, beside
// the oracle.

// same is the text of n cycles with the same letter and digits.
func same(letter, digits string, n int) string {
	return strings.Repeat(letter+digits+" ", n)
}

func TestP141Polls(t *testing.T) {
	for _, x := range []struct {
		durations []int
		fails     []int
		text      string
	}{
		{nil, nil, "cff c70 re0 re0"},
		{[]int{0}, nil, "cff c70 re0"},
		{[]int{1}, nil, "cff c70 r80 re0 re0"},
		{[]int{3}, nil, "cff c70 r80 r80 r80 re0 re0"},
		{[]int{3}, nil, "cff c70 r80 c70 r80 c70 c70 r80 re0"},
		{[]int{2, 0, 1}, nil, "cff c70 r80 r80 re0 cff c70 re0 cff c70 r80 re0 cff c70 re0"},
		{[]int{5, 1}, nil, "cff c70 r80 cff c70 r80 re0"},
		// A Read elsewhere than in status is no poll.
		{[]int{2}, nil, "cff rff rff rff c70 r80 r80 re0"},
		{[]int{2}, nil, "c80 a00 a00 a05 a00 c10 r80 r80 re0"},
		// The pending work is performed by the poll behind the busy ones.
		{[]int{2}, []int{0}, "c80 a00 a00 a05 a00 c10 c70 r80 r80 re1 re1 c70 re1"},
		{nil, []int{0}, "c80 a00 a00 a05 a00 c10 c70 re1 c80 c70 re1 c90 c70 re1"},
		{nil, []int{0}, "c80 a00 a00 a05 a00 c10 c70 re1 c80 a00 a00 a05 a00 c10 c70 re0"},
		{nil, []int{0}, "c60 a05 a00 cd0 c70 re1 c00 a00 a00 a05 a00 c30 c70 re0"},
		{nil, []int{0}, "c60 a05 a00 cd0 c70 re1 cff c70 re0"},
		// In the background: for the first duration, and busy for the second.
		{[]int{0, 0}, nil, "c80 a00 a00 a05 a00 c15 c70 re0"},
		{[]int{1, 0}, nil, "c80 a00 a00 a05 a00 c15 c70 rc0 re0 re0"},
		{[]int{2, 1}, nil, "c80 a00 a00 a05 a00 c15 c70 r80 rc0 rc0 re0"},
		{[]int{2, 1}, []int{0}, "c80 a00 a00 a05 a00 c15 c70 r80 rc0 rc0 re2 re2"},
		// The second one performs the first one, which failed or not.
		{[]int{9, 0, 2, 1}, []int{0}, "c80 a00 a00 a04 a00 c15 c70 rc0 c80 a00 a00 a05 a00 c15 c70 r80 rc2 rc2 re0"},
		{[]int{9, 0, 2, 1}, []int{0, 1}, "c80 a00 a00 a04 a00 c15 c70 rc0 c80 a00 a00 a05 a00 c15 c70 r80 rc2 rc2 re2"},
		{[]int{9, 0, 2, 1}, []int{1}, "c80 a00 a00 a04 a00 c15 c70 rc0 c80 a00 a00 a05 a00 c15 c70 r80 rc0 rc0 re2"},
		{[]int{9, 0, 2}, []int{0}, "c80 a00 a00 a04 a00 c15 c70 rc0 c80 a00 a00 a05 a00 c10 c70 r80 r80 re2"},
		{[]int{9, 0, 2}, []int{1}, "c80 a00 a00 a04 a00 c15 c70 rc0 c80 a00 a00 a05 a00 c10 c70 r80 r80 re1"},
		{[]int{9, 0, 2}, []int{0, 1}, "c80 a00 a00 a04 a00 c15 c70 rc0 c80 a00 a00 a05 a00 c10 c70 r80 r80 re3 re3"},
		// Previous fail stays till something starts without a background.
		{nil, []int{0}, "c80 a00 a00 a04 a00 c15 c70 re2 c80 c70 re2 c80 a00 a00 a05 a00 c15 c70 re0"},
		{[]int{0, 0, 1, 0}, []int{0}, "c80 a00 a00 a04 a00 c15 c70 re2 c80 a00 a00 a05 a00 c15 c70 rc0 re0"},
		{nil, []int{0}, "c80 a00 a00 a04 a00 c15 c70 re2 c80 a00 a00 a05 a00 c11 c70 re0"},
		{nil, []int{0}, "c80 a00 a00 a04 a00 c15 c70 re2 cff c70 re0"},
	} {
		on(t, api.Script{Busy: x.durations, Fails: x.fails, Cut: -1}).run(x.text)
	}
}

func TestP141EngagedAcceptsOnlyResetStatusAndPolls(t *testing.T) {
	// Busy without work, and with work that is pending, busy or not.
	for _, x := range []struct {
		before    string
		durations []int
		after     string
	}{
		{"cff", []int{1}, "c70 r80 re0"},
		{"c00 a00 a00 a05 a00 c30 c70", []int{0}, "re0"},
		{"c80 a00 a00 a05 a00 w0f c10 c70", []int{0}, "re0"},
		{"c80 a00 a00 a05 a00 w0f c10 c70", []int{1}, "r80 re0"},
		{"c80 a00 a00 a05 a00 w0f c11 c70", []int{1}, "r80 re0"},
		{"c60 a08 a00 cd0 c70", []int{0}, "re0"},
		{"c60 a08 a00 cd1 c70", []int{1}, "r80 re0"},
	} {
		b := on(t, busy(x.durations...))
		b.run(x.before)
		for v := range 256 {
			if v != 0xff && v != 0x70 {
				b.c.Do(api.Cycle{Kind: api.Command, B: byte(v)})
			}
			b.c.Do(api.Cycle{Kind: api.Address, B: byte(v)})
			b.c.Do(api.Cycle{Kind: api.Write, B: byte(v)})
		}
		b.untouched()
		b.run(x.after)
	}
}

func TestP141StatusKeepsWhatIsQueued(t *testing.T) {
	b := on(t, quiet())
	b.run("c80 a00 a00 a05 a00 w01 c11 c70 c70 re0 c80 c70 re0 c80 a00 a00 a09 a00 w02 c10 c70 re0")
	b.raw(5, 0x01)
	b.raw(9, 0x02)
	b.run("c60 a04 a00 cd1 c70 re0 c60 a08 a00 c70 re0 c60 a08 a00 cd0 c70 re0")
	b.erases(0, 1, 1, 0)
}

func TestP141Idle(t *testing.T) {
	// After none of these is anything listed, and a Read returns ff.
	for _, text := range []string{
		"", "a00", "w00", "rff", "c10", "c11", "c15", "c30", "cd0", "cd1", "ce0", "caa", "c01",
		"c90 a01", "c90 w00", "c90 rff", "c90 a00 a00", "c90 a00 w00", "c90 a00 c10",
		"cec a01", "cec w00", "cec rff",
		"cef a88", "cef a00", "cef w01", "cef rff", "cef a89 a89", "cef a89 rff", "cef a89 w01 a89", "cef a89 w01 w00 w00 rff",
		"c00 a00 rff", "c00 a00 a00 a05 a00 rff", "c00 a00 a00 a05 a00 a00", "c00 a00 a00 a05 c30", "c00 c30", "c00 w00", "c00 a00 a00 a05 a00 c10",
		"c05 rff", "c05 a00 ce0", "c05 ce0", "c05 a00 a00 a00", "c05 w00", "c05 a00 a00 c30", "c05 a00 a00 w00",
		"c80 rff", "c80 w00", "c80 a00 a00 a05 w00", "c80 a00 a00 a05 c10", "c80 a00 a00 a05 c11", "c80 a00 a00 a05 c15", "c80 c10", "c80 a00 a00 a05 a00 a00", "c80 a00 a00 a05 a00 rff", "c80 a00 a00 a05 a00 cd0", "c80 a00 a00 a05 a00 c30",
		"c60 rff", "c60 w00", "c60 a05 cd0", "c60 a05 cd1", "c60 cd0", "c60 a05 a00 a00", "c60 a05 a00 rff", "c60 a05 a00 c10", "c60 a05 a00 ce0",
		"c70 a00", "c70 w00", "c70 c10", "c70 cd0", "c70 c30", "c70 ce0",
		"c00 rff a00", "c00 rff w00", "c00 rff c30", "c00 rff ce0",
	} {
		b := on(t, quiet())
		b.run(text)
		b.run("rff rff c10 rff a00 rff")
		b.untouched()
		b.run("c70 re0")
	}
}

func TestP141WhatIsQueuedIsDiscarded(t *testing.T) {
	for _, x := range []struct{ text, rows, blocks string }{
		// The commands that open something: 80 keeps rows, and 60 blocks.
		{"c80", "kept", ""},
		{"c60", "", "kept"},
		{"c90", "", ""}, {"cec", "", ""}, {"cef", "", ""}, {"c00", "", ""}, {"c05", "", ""},
		// What is not in the table, ff, and what starts.
		{"caa", "", ""}, {"a00", "", ""}, {"w00", "", ""}, {"cff", "", ""}, {"c30", "", ""},
		{"c80 rff", "", ""}, {"c60 rff", "", ""},
		{"c80 a00 a00 a10 a00 c11", "", ""}, {"c60 a10 a00 cd1", "", ""},
		{"c80 a00 a00 a0e a00 c15 c70 re0", "", ""},
		{"c80 a00 a00 a0e a00 c10 c70 re0", "gone", ""},
		{"c60 a0c a00 cd0 c70 re0", "", "gone"},
		// What only looks.
		{"c70", "kept", "kept"}, {"c70 re0 re0", "kept", "kept"},
	} {
		b := on(t, quiet())
		b.run("c80 a00 a00 a05 a00 w01 c11")
		b.run(x.text)
		if x.rows == "gone" {
			b.raw(5, 0x01)
		}
		b.run("c80 a00 a00 a09 a00 w02 c10 c70 re0")
		if x.rows == "" {
			b.raw(5)
		} else {
			b.raw(5, 0x01)
		}
		if got := b.c.Array().Programs(5); got > 1 {
			t.Errorf("after %q the queued row was programmed %d times", x.text, got)
		}

		b = on(t, quiet())
		b.run("c60 a05 a00 cd1")
		b.run(x.text)
		b.run("c60 a09 a00 cd0 c70 re0")
		if x.blocks == "" {
			b.erases(0, 0, 1)
		} else {
			b.erases(0, 1, 1)
		}
	}
}

func TestP141ReadsOfRows(t *testing.T) {
	turns := []api.Turn{
		{Row: 5, Rung: 0, Bit: 0}, {Row: 5, Rung: 0, Bit: 11}, {Row: 5, Rung: 1, Bit: 9},
		{Row: 6, Rung: 0, Bit: 1}, {Row: 7, Rung: 2, Bit: 2}, {Row: 8, Rung: 1, Bit: 295},
		// A bit that is named twice is inverted twice.
		{Row: 9, Rung: 0, Bit: 3}, {Row: 9, Rung: 0, Bit: 3},
	}
	b := on(t, api.Script{Cut: -1, Turns: turns, Torn: []byte{0x5a, 0xa5}, Marked: []int{2}, Fails: []int{1}})
	b.run("c80 a00 a00 a05 a00 w0f w33 c10 c70 re0 c80 a00 a00 a06 a00 w0f c10 c70 re1")
	torn := strings.Repeat(" r5a ra5", 18)
	for _, x := range []struct {
		rung string
		rows map[string]string
	}{
		{"w00", map[string]string{
			"a05": "r0e r3b " + same("r", "ff", 37),
			"a06": "r58 ra5" + strings.TrimPrefix(torn, " r5a ra5") + " r5a rff",
			"a07": same("r", "ff", 39),
			"a08": same("r", "ff", 36) + "r00 rff rff",
			"a09": same("r", "ff", 39),
		}},
		{"w01", map[string]string{
			"a05": "r0f r31 " + same("r", "ff", 37),
			"a06": torn + " r5a rff",
			"a07": same("r", "ff", 39),
			"a08": same("r", "ff", 36) + "r80 rff rff",
			"a09": same("r", "ff", 39),
		}},
		{"w02", map[string]string{
			"a05": "r0f r33 " + same("r", "ff", 37),
			"a06": torn + " r5a rff",
			"a07": "rfb " + same("r", "ff", 38),
			"a08": same("r", "ff", 36) + "r00 rff rff",
			"a09": same("r", "ff", 39),
		}},
	} {
		b.run("cef a89 " + x.rung + " w00 w00 w00 c70 re0")
		for row, want := range x.rows {
			b.run("c00 a00 a00 " + row + " a00 c30 c70 re0 c00 " + want)
			b.run("c05 a00 a00 ce0 " + want)
		}
	}
	// What is read is not stored turned.
	b.raw(5, 0x0f, 0x33)
	b.rawTorn(6)
	b.torn(6)
	b.programs(map[int]int{5: 1, 6: 1})
	// An erased block is read erased; its mark is gone, but not what turns.
	b.run("c60 a04 a00 cd0 c70 re0 c60 a08 a00 cd0 c70 re0 cef a89 w00 w00 w00 w00 c70 re0")
	b.run("c00 a00 a00 a05 a00 c30 c70 re0 c00 rfe rf7 rff")
	b.run("c00 a00 a00 a08 a00 c30 c70 re0 c00 " + same("r", "ff", 38))
}

func TestP141Rungs(t *testing.T) {
	const look = " c00 a00 a00 a05 a00 c30 c70 re0 c00 "
	s := api.Script{Cut: -1, Turns: []api.Turn{{Row: 5, Rung: 1, Bit: 0}, {Row: 5, Rung: 2, Bit: 1}}}
	b := on(t, s)
	b.run(look + "rff")
	b.run("cef a89 w01 w02 w02 w02 c70 re0" + look + "rfe")
	b.run("cef a89 w02 w00 w01 w00 c70 re0" + look + "rfd")
	// Rungs that there are not change nothing, but it starts.
	b.run("cef a89 w03 w00 w00 w00 re0" + look + "rfd")
	b.run("cef a89 wff w01 w01 w01 re0" + look + "rfd")
	// Fewer than four Writes change nothing.
	b.run("cef a89 w01 w01 w01 caa" + look + "rfd")
	b.run("cef a89 w01 w01 w01 rff w01" + look + "rfd")
	b.run("cef a89 w01 w01 w01 cef a89 w00 c70" + look + "rfd")
	b.run("cef a88 w01 w01 w01 w01 rff" + look + "rfd")
	// The rung of a read is the one at which it is performed.
	b.run("cef a89 w00 w00 w00 w00 c70 re0" + look + "rff")
	b.run("cef a89 w01 w00 w00 w00 c70 re0" + look + "rfe")
	b.run("cff" + look + "rff")
}

func TestP141FeatureStarts(t *testing.T) {
	b := on(t, api.Script{Cut: -1, Busy: []int{0, 2, 0, 1}, Fails: []int{0}})
	b.run("c60 a04 a00 cd0 c70 re1 cef a89 w07 w00 w00 w00 r80 r80 re0")
	b.run("c60 a04 a00 cd0 c70 re0 cef a89 w01 w00 w00 w00 c70 r80 re0")
}

// loads is the text that loads a byte for a row.
func loads(row, v string) string {
	return "c80 a00 a00 a" + row + " a00 w" + v + " "
}

func TestP141Programs(t *testing.T) {
	for _, x := range []struct {
		name     string
		fails    []int
		text     string
		raw      map[int]byte
		torn     []int
		programs map[int]int
	}{
		{"one", nil, loads("05", "0f") + "c10 c70 re0",
			map[int]byte{5: 0x0f}, nil, map[int]int{5: 1}},
		{"one that fails", []int{0}, loads("05", "0f") + "c10 c70 re1",
			nil, []int{5}, map[int]int{5: 1}},
		{"as many as Planes", nil, loads("05", "01") + "c11 c70 re0 " + loads("09", "02") + "c10 c70 re0",
			map[int]byte{5: 0x01, 9: 0x02}, nil, map[int]int{5: 1, 9: 1}},
		{"the queued one fails", []int{0}, loads("05", "01") + "c11 c70 re0 " + loads("09", "02") + "c10 c70 re1",
			map[int]byte{9: 0x02}, []int{5}, map[int]int{5: 1, 9: 1}},
		{"the last one fails", []int{1}, loads("05", "01") + "c11 c70 re0 " + loads("09", "02") + "c10 c70 re1",
			map[int]byte{5: 0x01}, []int{9}, map[int]int{5: 1, 9: 1}},
		{"Planes are queued", nil, loads("05", "01") + "c11 " + loads("09", "02") + "c11 " + loads("0d", "04") + "c10 c70 re0",
			map[int]byte{5: 0x01, 9: 0x02, 13: 0x04}, nil, map[int]int{5: 1, 9: 1, 13: 1}},
		{"one more is queued", nil, loads("05", "01") + "c11 " + loads("09", "02") + "c11 " + loads("0d", "04") + "c11 c70 re0 " + loads("01", "08") + "c10 c70 re0",
			map[int]byte{5: 0x01, 9: 0x02, 1: 0x08}, nil, map[int]int{5: 1, 9: 1, 1: 1}},
		{"the middle one fails", []int{1}, loads("05", "01") + "c11 " + loads("09", "02") + "c11 " + loads("0d", "04") + "c10 c70 re1",
			map[int]byte{5: 0x01, 13: 0x04}, []int{9}, map[int]int{5: 1, 9: 1, 13: 1}},
		{"the same row twice", nil, loads("05", "f0") + "c11 c70 re0 " + loads("05", "3c") + "c10 c70 re0",
			map[int]byte{5: 0x30}, nil, map[int]int{5: 2}},
		{"the same row twice, and the second one fails", []int{1}, loads("05", "f0") + "c11 " + loads("05", "3c") + "c10 c70 re1",
			nil, []int{5}, map[int]int{5: 2}},
		{"the same row again", nil, loads("05", "f0") + "c10 c70 re0 " + loads("05", "3c") + "c10 c70 re0",
			map[int]byte{5: 0x30}, nil, map[int]int{5: 2}},
		{"only queued", nil, loads("05", "01") + "c11 c70 re0 re0",
			nil, nil, nil},
		{"in the background", nil, loads("05", "0f") + "c15 c70 re0",
			map[int]byte{5: 0x0f}, nil, map[int]int{5: 1}},
		{"in the background, and fails", []int{0}, loads("05", "0f") + "c15 c70 re2",
			nil, []int{5}, map[int]int{5: 1}},
		{"in the background, with a queued one", nil, loads("05", "01") + "c11 " + loads("06", "02") + "c15 c70 re0 " + loads("07", "04") + "c10 c70 re0",
			map[int]byte{6: 0x02, 7: 0x04}, nil, map[int]int{6: 1, 7: 1}},
		{"what was read is not programmed", nil, loads("05", "0f") + "c10 c70 re0 c00 a00 a00 a05 a00 c30 c70 re0 " + loads("06", "33") + "c10 c70 re0",
			map[int]byte{5: 0x0f, 6: 0x33}, nil, map[int]int{5: 1, 6: 1}},
	} {
		t.Run(x.name, func(t *testing.T) {
			b := on(t, failing(x.fails...))
			b.run(x.text)
			b.torn(x.torn...)
			b.rawTorn(x.torn...)
			b.programs(x.programs)
			for row := range 16 {
				if v, ok := x.raw[row]; ok {
					b.raw(row, v)
				} else if x.programs[row] == 0 {
					b.raw(row)
				}
			}
			b.erases(0, 0, 0, 0)
		})
	}
}

func TestP141TornBytesOfTheScript(t *testing.T) {
	for _, torn := range [][]byte{nil, {0xff}, {0x12}, {1, 2, 3}} {
		b := on(t, api.Script{Cut: -1, Fails: []int{0}, Torn: torn})
		b.run(loads("05", "0f") + "c10 c70 re1")
		want := make([]byte, exampleSize)
		for i := range want {
			if len(torn) > 0 {
				want[i] = torn[i%len(torn)]
			}
		}
		if got := b.c.Array().Raw(5); !bytes.Equal(got, want) {
			t.Errorf("with Torn % x the row is % x, not % x", torn, got, want)
		}
	}
}

func TestP141Erases(t *testing.T) {
	const fill = "c80 a00 a00 a05 a00 w01 c10 c70 re0 c80 a00 a00 a09 a00 w02 c10 c70 re0 c80 a00 a00 a0d a00 w04 c10 c70 re0 "
	for _, x := range []struct {
		name   string
		fails  []int
		text   string
		erases []int
		torn   []int
		left   map[int]byte
	}{
		{"one", nil, "c60 a04 a00 cd0 c70 re0", []int{0, 1, 0, 0}, nil, map[int]byte{9: 2, 13: 4}},
		{"one, by another row of it", nil, "c60 a07 a00 cd0 c70 re0", []int{0, 1, 0, 0}, nil, map[int]byte{9: 2, 13: 4}},
		{"one that fails", []int{3}, "c60 a06 a00 cd0 c70 re1", []int{0, 0, 0, 0}, []int{4, 5, 6, 7}, map[int]byte{9: 2, 13: 4}},
		{"as many as Planes", nil, "c60 a04 a00 cd1 c70 re0 c60 a08 a00 cd0 c70 re0", []int{0, 1, 1, 0}, nil, map[int]byte{13: 4}},
		{"the queued one fails", []int{3}, "c60 a04 a00 cd1 c70 re0 c60 a08 a00 cd0 c70 re1", []int{0, 0, 1, 0}, []int{4, 5, 6, 7}, map[int]byte{13: 4}},
		{"the last one fails", []int{4}, "c60 a04 a00 cd1 c70 re0 c60 a08 a00 cd0 c70 re1", []int{0, 1, 0, 0}, []int{8, 9, 10, 11}, map[int]byte{13: 4}},
		{"both fail", []int{3, 4}, "c60 a04 a00 cd1 c70 re0 c60 a08 a00 cd0 c70 re1", []int{0, 0, 0, 0}, []int{4, 5, 6, 7, 8, 9, 10, 11}, map[int]byte{13: 4}},
		{"Planes are queued", nil, "c60 a04 a00 cd1 c60 a08 a00 cd1 c60 a0c a00 cd0 c70 re0", []int{0, 1, 1, 1}, nil, nil},
		{"one more is queued", nil, "c60 a04 a00 cd1 c60 a08 a00 cd1 c60 a0c a00 cd1 c70 re0 c60 a00 a00 cd0 c70 re0", []int{1, 1, 1, 0}, nil, map[int]byte{13: 4}},
		{"the same block twice", nil, "c60 a04 a00 cd1 c60 a05 a00 cd0 c70 re0", []int{0, 2, 0, 0}, nil, map[int]byte{9: 2, 13: 4}},
		{"the same block twice, and the first time fails", []int{3}, "c60 a04 a00 cd1 c60 a05 a00 cd0 c70 re1", []int{0, 1, 0, 0}, nil, map[int]byte{9: 2, 13: 4}},
		{"only queued", nil, "c60 a04 a00 cd1 c70 re0 re0", []int{0, 0, 0, 0}, nil, map[int]byte{5: 1, 9: 2, 13: 4}},
	} {
		t.Run(x.name, func(t *testing.T) {
			b := on(t, failing(x.fails...))
			b.run(fill)
			b.run(x.text)
			b.erases(x.erases...)
			b.torn(x.torn...)
			b.rawTorn(x.torn...)
			for _, row := range []int{5, 9, 13} {
				if v, ok := x.left[row]; ok {
					b.raw(row, v)
				} else if !b.c.Array().Torn(row) {
					b.raw(row)
				}
			}
		})
	}
}

func TestP141BackgroundFollowedBySomething(t *testing.T) {
	const (
		behind = "c80 a00 a00 a05 a00 w0f c15 c70 "
		waits  = behind + "rc0 "
	)
	b := on(t, busy(9, 0))
	b.run(waits + "c00 a00 a00 a05 a00 c30")
	b.untouched()
	// The read performs it first, so that it reads what was programmed.
	b.run("re0 c00 r0f rff")
	b.raw(5, 0x0f)

	b = on(t, busy(9, 0))
	b.run(waits + "c80 a00 a00 a05 a00 wf3 c15")
	b.raw(5, 0x0f)
	b.run("re0")
	b.raw(5, 0x03)
	b.programs(map[int]int{5: 2})

	b = on(t, busy(9, 0))
	b.run(waits + "c60 a04 a00 cd0")
	b.untouched()
	b.run("re0")
	b.raw(5)
	b.programs(nil)
	b.erases(0, 1, 0, 0)
	b.counts(14, 2)

	b = on(t, busy(9, 0))
	b.run(waits + "c80 a00 a00 a05 a00 wf3 c10")
	b.untouched()
	b.run("re0")
	b.raw(5, 0x03)

	// What starts without work leaves it where it is, for its polls.
	b = on(t, busy(3, 0))
	b.run(waits + "c80 a00 a00 a06 a00 w33 c11 rc0 rc0 re0")
	b.raw(5, 0x0f)
	b.raw(6)
	b = on(t, busy(2, 0, 2))
	b.run(waits + "cec a00 c70 r80 r80 rc0")
	b.untouched()
	b.run("re0")
	b.raw(5, 0x0f)

	// The chip is not engaged by it, and it waits for polls alone.
	b = on(t, busy(1, 0))
	b.run(behind + "c90 a00 r49 r4e c05 a00 a00 ce0 r0f caa rff")
	b.untouched()
	b.run("c70 rc0")
	b.untouched()
	b.run("re0")
	b.raw(5, 0x0f)
}

func TestP141RowsThatThereAreNot(t *testing.T) {
	for _, row := range []string{"a10 a00", "a11 a00", "aff a00", "a05 a01", "a00 a01", "a00 aff", "aff aff"} {
		for _, end := range []string{"c30", "c10", "c15", "c11", "cd0", "cd1"} {
			text := "c80 a00 a00 " + row + " w0f "
			switch {
			case end == "c30":
				text = "c00 a00 a00 " + row + " "
			case end >= "cd":
				text = "c60 " + row + " "
			}
			b := on(t, busy(0, 0, 7))
			b.run(loads("05", "01") + "c11 c60 a09 a00 cd1 c70 re0")
			b.run(text + end)
			// It is idle at once, nothing is queued, and nothing was started.
			b.run("rff c70 re0")
			b.counts(17+len(strings.Fields(text)), 0)
			b.untouched()
		}
	}
	b := on(t, quiet())
	b.run(loads("05", "01") + "c11 c80 a00 a00 a10 a00 c11 " + loads("09", "02") + "c10 c70 re0")
	b.raw(5)
	b.raw(9, 0x02)
	b.run("c60 a05 a00 cd1 c60 a10 a00 cd1 c60 a09 a00 cd0 c70 re0")
	b.erases(0, 0, 1, 0)
	// The last row there is.
	b.run("c80 a00 a00 a0f a00 w04 c10 c70 re0 c00 a00 a00 a0f a00 c30 c70 re0 c00 r04")
	b.run("c60 a0f a00 cd0 c70 re0")
	b.erases(0, 0, 1, 1)
}

func TestP141EndOfTheRegister(t *testing.T) {
	b := on(t, quiet())
	b.run("c80 a23 a00 a05 a00 w01 w02 w03 w04 c10 c70 re0")
	want := erased(exampleSize)
	want[35], want[36] = 1, 2
	if got := b.c.Array().Raw(5); !bytes.Equal(got, want) {
		t.Errorf("row 5 is % x, not % x", got, want)
	}
	// The register stays what it was, and the column behind its end.
	b.run("c00 rff c05 a23 a00 ce0 r01 r02 rff rff c00 rff c05 a24 a00 ce0 r02 rff")
	// Columns at the end, and far behind it.
	for _, at := range []string{"a25 a00", "a26 a00", "a00 a01", "aff aff"} {
		b.run("c80 " + at + " a06 a00 w01 w02 c10 c70 re0")
		b.raw(6)
		b.run("c05 " + at + " ce0 rff rff")
		b.run("c00 " + at + " a05 a00 c30 c70 re0 c00 rff rff c05 a24 a00 ce0 r02")
	}
	// All of it, and more.
	b.run("c80 a00 a00 a07 a00 " + same("w", "3c", 50) + "c10 c70 re0")
	if got := b.c.Array().Raw(7); !bytes.Equal(got, bytes.Repeat([]byte{0x3c}, exampleSize)) {
		t.Errorf("row 7 is % x", got)
	}
	b.run("c00 a00 a00 a07 a00 c30 c70 re0 c00 " + same("r", "3c", 37) + same("r", "ff", 20))
}

func TestP141ColumnsAndTheRegister(t *testing.T) {
	b := on(t, quiet())
	b.run("c80 a00 a00 a05 a00 w10 w11 w12 w13 c10 c70 re0")
	// A read begins at its column; a fetch goes on where another one ended.
	b.run("c00 a02 a00 a05 a00 c30 c70 re0 c00 r12 r13 c00 rff c05 a01 a00 ce0 r11 r12 c70 re0 c00 r13")
	b.run("c05 a03 a00 ce0 c05 a00 a00 ce0 r10")
	// With something listed, or once it was read, a fetch is another state.
	b.run("c05 a00 a00 ce0 c00 a00 rff rff c00 r10 a00 a00 a05 a00 c30 rff c70 re0 c00 r11")
	// 80 makes the register erased, but leaves the column till all is listed.
	b.run("c05 a01 a00 ce0 c80 c00 rff c05 a00 a00 ce0 rff rff")
	b.run("c80 a00 a00 a05 a00 w20 w21 w22 c05 a01 a00 ce0 r21 c80 a02 a00 a05 c00 rff c05 a00 a00 ce0 rff")
	b.raw(5, 0x10, 0x11, 0x12, 0x13)
	// The column of 80 is where the Writes go.
	b.run("c80 a02 a00 a06 a00 w33 c10 c70 re0")
	b.raw(6, 0xff, 0xff, 0x33)
}

func TestP141Parameters(t *testing.T) {
	const rest = 37 - 14
	b := on(t, busy(2))
	b.run("cec a00 r80 r80 re0 c00 r02 r00 r04 r00 r04 r00 r01 r00 r04 r00 r03 r00 r05 r00 " + same("r", "ff", rest+9))
	b.run("c05 a0c a00 ce0 r05 r00 rff")
	b.run("c05 a05 a00 ce0 cec a00 c70 re0 c00 r02 r00")

	great := api.Geom{Planes: 4, Blocks: 256, Pages: 64, Chunks: 16, Chunk: 512, Rungs: 8, Partial: 8}
	b = bench{t, started(t, great, quiet())}
	b.run("cec a00 c70 re0 c00 r04 r00 r00 r01 r40 r00 r10 r00 r00 r02 r08 r00 r08 r00 rff rff")
	b.run("c05 a3e a20 ce0 rff rff")
}

func TestP141Identification(t *testing.T) {
	b := on(t, busy(7))
	b.run("c90 a00 r49 r4e r02 r03 r05 " + same("r", "ff", 300))
	b.run("c90 a00 r49 c90 a00 r49 r4e c70 re0 c90 a00 r49 r4e r02 r03 r05 rff")
	// It is not busy with that, and asks for no duration.
	b.run("cff c70 " + same("r", "80", 7) + "re0")
	great := api.Geom{Planes: 4, Blocks: 256, Pages: 64, Chunks: 16, Chunk: 512, Rungs: 8, Partial: 8}
	b = bench{t, started(t, great, quiet())}
	b.run("c90 a00 r49 r4e r04 r08 r08 rff")
}

func TestP141Interrupted(t *testing.T) {
	const poll = " c70 re0 "
	for _, x := range []struct {
		name     string
		text     string
		torn     []int
		programs map[int]int
	}{
		{"nothing", "", nil, nil},
		{"nothing, loaded", loads("05", "0f"), nil, nil},
		{"a read", "c00 a00 a00 a05 a00 c30", nil, nil},
		{"a program of a lower page", loads("04", "0f") + "c10", []int{4}, map[int]int{4: 1}},
		{"a program of an upper page", loads("05", "0f") + "c10", []int{4, 5}, map[int]int{4: 1, 5: 1}},
		{"a program of the last page", loads("0f", "0f") + "c10", []int{14, 15}, map[int]int{14: 1, 15: 1}},
		{"a program of the first page", loads("00", "0f") + "c10", []int{0}, map[int]int{0: 1}},
		{"programs", loads("05", "0f") + "c11" + poll + loads("0a", "0f") + "c10", []int{4, 5, 10}, map[int]int{4: 1, 5: 1, 10: 1}},
		{"programs of a pair", loads("04", "0f") + "c11" + poll + loads("05", "0f") + "c10", []int{4, 5}, map[int]int{4: 2, 5: 1}},
		{"the same program twice", loads("07", "0f") + "c11" + poll + loads("07", "0f") + "c10", []int{6, 7}, map[int]int{6: 2, 7: 2}},
		{"what is only queued", loads("05", "0f") + "c11" + poll, nil, nil},
		{"in the background", loads("05", "0f") + "c15 c70", []int{4, 5}, map[int]int{4: 1, 5: 1}},
		{"in the background, lower", loads("06", "0f") + "c15 c70", []int{6}, map[int]int{6: 1}},
		{"in the background, and a program", loads("06", "0f") + "c15 " + loads("07", "0f") + "c10", []int{6, 7}, map[int]int{6: 2, 7: 1}},
		{"in the background, and a read", loads("07", "0f") + "c15 c00 a00 a00 a05 a00 c30", []int{6, 7}, map[int]int{6: 1, 7: 1}},
		{"in the background, and an erase", loads("03", "0f") + "c15 c60 a08 a00 cd0", []int{2, 3, 8, 9, 10, 11}, map[int]int{2: 1, 3: 1, 8: 1, 9: 1, 10: 1, 11: 1}},
		{"in the background, and an erase of its block", loads("09", "0f") + "c15 c60 a08 a00 cd0", []int{8, 9, 10, 11}, map[int]int{8: 2, 9: 2, 10: 1, 11: 1}},
		{"an erase", "c60 a05 a00 cd0", []int{4, 5, 6, 7}, map[int]int{4: 1, 5: 1, 6: 1, 7: 1}},
		{"erases", "c60 a05 a00 cd1" + poll + "c60 a08 a00 cd0", []int{4, 5, 6, 7, 8, 9, 10, 11}, map[int]int{4: 1, 5: 1, 6: 1, 7: 1, 8: 1, 9: 1, 10: 1, 11: 1}},
		{"what is only queued to be erased", "c60 a05 a00 cd1" + poll, nil, nil},
		{"what has been done", loads("05", "ff") + "c10" + poll, nil, map[int]int{5: 1}},
	} {
		for _, by := range []string{"ff", "power"} {
			t.Run(x.name+" by "+by, func(t *testing.T) {
				// The durations are those of the background, by which it waits.
				b := on(t, api.Script{Cut: -1, Busy: durations(x.text), Torn: []byte{0x5a, 0xa5}})
				b.run(x.text)
				work := b.c.Work()
				if by == "ff" {
					b.run("cff")
				} else {
					b.lose()
					b.c.Power()
				}
				b.torn(x.torn...)
				b.rawTorn(x.torn...)
				b.programs(x.programs)
				b.erases(0, 0, 0, 0)
				if b.c.Work() != work {
					t.Error("the teller was asked")
				}
				// Nothing is left to be done.
				b.run("rff c70 re0 re0 " + loads("0d", "0f") + "c10 c70 re0")
				b.torn(x.torn...)
				b.raw(13, 0x0f)
				if b.c.Work() != work+1 {
					t.Error("something was left")
				}
			})
		}
	}
}

// durations are those by which the first program in the background of a text
// waits, and the chip is never busy.
func durations(text string) []int {
	if strings.Contains(text, "c15") {
		return []int{9}
	}
	return nil
}

func TestP141InterruptedWhileBusy(t *testing.T) {
	for _, polls := range []string{"", "c70", "c70 r80", "c70 r80 r80", "r80 r80"} {
		for _, by := range []string{"ff", "power"} {
			b := on(t, api.Script{Cut: -1, Busy: []int{2, 3}, Torn: []byte{0x5a, 0xa5}})
			b.run(loads("05", "0f") + "c10 " + polls)
			b.untouched()
			if by == "ff" {
				b.run("cff c70 r80 r80 r80 re0")
			} else {
				b.lose()
				b.torn(4, 5)
				b.c.Power()
				b.run("c70 re0")
			}
			b.torn(4, 5)
			b.rawTorn(4, 5)
		}
	}
}

func TestP141ResetKeepsTheRegister(t *testing.T) {
	b := on(t, quiet())
	b.run("c80 a00 a00 a05 a00 w10 w11 w12 cff c00 rff c05 a00 a00 ce0 r10 cff c00 r11 r12")
	b.run("c00 a00 a00 a05 a00 c30 cff c05 a00 a00 ce0 r10")
}
