package judge_test

import (
	"math"
	"strings"
	"testing"

	"incunable/api"
	"incunable/judge"
)

// TestP151Busy looks at Busy behind each cycle of a text, in which a ! stands
// behind those after which the chip is busy.
func TestP151Busy(t *testing.T) {
	const (
		reset = "cff! c70! re0 "
		done  = "c70! re0 "
		all   = reset + "c60 a00 a00 cd1! " + done + "c60 a04 a00 cd0! " + done
	)
	for _, line := range []string{
		"cff! c70! r80! r00! rbf! re0 r80 r00 c70 rc0 cff! cff! c70! c70! r40 c90 a00 r49 r4e",
		reset + "cec a00! c70! r80! re0 c00 r02 r00 c05 a01 a00 ce0 r00 c70 r80 c00 a00 a00 a05 a00 c30! c70! r80! re0 c00 r00",
		reset + "cef a89 w01 w00 w00 w00! c70! r80! rc0 c60 a04 a00 cd1! c70! re0 c60 a00 a00 cd0! c70! r81! re1 c80",
		all + "c80 a00 a00 a05 a00 w12 c15! c70! r80! rc0 r80 c80 a00 a00 a06 a00 w12 c15! c70! rc0 c80 a00 a00 a07 a00 w12 c10! c70! r80! rc0 re0",
		all + "c80 a00 a00 a05 a00 w12 c11! c70! r80! re0 c80 a00 a00 a01 a00 w12 c10! c70! r00! r60 c80 c70 c60 c70",
		all + "c80 a00 a00 a05 a00 w12 c11! cff! c70! re0 c60 a00 a00 cd1! cff! c70! re0",
	} {
		c := of(t, example)
		c.busy(false)
		for word := range strings.FieldsSeq(line) {
			x, busy := strings.CutSuffix(word, "!")
			c.takes(x)
			if c.j.Busy() != busy {
				t.Errorf("Busy is %t behind %s of %q", c.j.Busy(), word, line)
			}
		}
	}
}

// TestP151PollEachByte polls each byte while the chip is busy: with nothing
// else, with erases, and with a program in the background.
func TestP151PollEachByte(t *testing.T) {
	for b := range 256 {
		ready, free, fails := b&0x40 != 0, b&0x20 != 0, b&1 != 0
		poll := func(c court) {
			t.Helper()
			if !c.j.Step(api.Cycle{Kind: api.Read, B: byte(b)}) {
				t.Fatalf("the poll %02x is rejected", b)
			}
			c.busy(!ready)
		}

		c := behind(t, all+"cff c70")
		poll(c)
		c.can(from(0, 15)...)
		if ready {
			c.takes("c90")
		} else {
			c.refuses("c90")
		}

		c = behind(t, all+"c60 a04 a00 cd1 "+done+"c60 a08 a00 cd0 c70")
		poll(c)
		if ready && fails {
			c.can(0, 1, 2, 3, 12, 13, 14, 15)
		} else {
			c.can(from(0, 15)...)
		}
		// A failure that is told later is not one of these erases, if it was
		// ready before.
		c.takes("re1")
		if ready && !fails {
			c.can(from(0, 15)...)
		} else {
			c.can(0, 1, 2, 3, 12, 13, 14, 15)
		}

		c = behind(t, all+loads("05")+"c15 c70")
		poll(c)
		c.can(0, 1, 2, 3, 5, 6, 7, 8, 9, 10, 11, 12, 13, 14, 15)
		if !ready {
			c.refuses("c80")
			continue
		}
		c.takes("c70 c80 c70")
		if free {
			c.takes("c60")
		} else {
			c.refuses("c60")
		}
	}
}

// TestP151PollWhenNotBusy polls each byte while a program is in the
// background, and the chip not busy.
func TestP151PollWhenNotBusy(t *testing.T) {
	for b := range 256 {
		x := api.Cycle{Kind: api.Read, B: byte(b)}
		c := behind(t, all+"c60 a04 a00 cd0 "+done+loads("09")+"c15 c70 rc0")
		if !c.j.Step(x) {
			t.Fatalf("the poll %02x is rejected", b)
		}
		c.busy(false)
		c.can(0, 1, 2, 3, 4, 5, 6, 7, 9, 10, 11, 12, 13, 14, 15)
		if b&0x60 == 0x60 {
			c.takes("c60")
		} else {
			c.refuses("c60")
		}
	}
}

// TestP151NoPolls gives Reads that are no polls the byte that would end a busy
// time, or say that an erase failed.
func TestP151NoPolls(t *testing.T) {
	c := behind(t, all+"c60 a04 a00 cd0 "+done)
	c.takes("c90 a00 re1 re1 re1 re1 re1")
	c.takes("cec a00 " + done + "c00 re1 re1 c05 a00 a00 ce0 re1")
	c.can(from(0, 15)...)
	c.takes("c60 a04 a00 cd0")
	c.refuses("re0")
	c.busy(true)
	c.can(from(0, 15)...)

	// The last cycle other than a Read counts, not that before it.
	c = behind(t, reset+"c60 a04 a00 cd0 c70 r80 cff")
	c.refuses("re0")
	c.busy(true)
	c = behind(t, "cff c70 re0 c00")
	c.refuses("re0")
	c = behind(t, "cff c70 re0 c00 a00")
	c.refuses("re0")
	c = behind(t, all+loads("05"))
	c.refuses("re0")
	c = behind(t, "cff")
	c.refuses("re0")
	c.busy(true)
}

func TestP151CanAfterErases(t *testing.T) {
	for _, x := range []struct {
		text string
		can  []int
	}{
		{"", nil},
		{reset, nil},
		{reset + "c60 a04 a00", nil},
		{reset + "c60 a04 a00 cd1", nil},
		{reset + "c60 a04 a00 cd1 " + done, nil},
		// The blocks are erased as soon as that starts.
		{reset + "c60 a04 a00 cd0", from(4, 7)},
		{reset + "c60 a04 a00 cd0 c70", from(4, 7)},
		{reset + "c60 a04 a00 cd0 c70 r81", from(4, 7)},
		{reset + "c60 a04 a00 cd0 c70 re0", from(4, 7)},
		{reset + "c60 a04 a00 cd0 c70 rc0 re1", from(4, 7)},
		{reset + "c60 a04 a00 cd0 c70 rc1", nil},
		{reset + "c60 a04 a00 cd0 c70 re1", nil},
		{reset + "c60 a04 a00 cd0 cff", nil},
		{reset + "c60 a04 a00 cd0 c70 r80 cff", nil},
		{reset + "c60 a04 a00 cd0 c70 re0 cff", from(4, 7)},
		{reset + "c60 a00 a00 cd0", from(0, 3)},
		{reset + "c60 a0f a00 cd0", from(12, 15)},
		{reset + "c60 a04 a00 cd1 " + done + "c60 a08 a00 cd0", from(4, 11)},
		{reset + "c60 a04 a00 cd1 " + done + "c60 a08 a00 cd0 c70 re1", nil},
		{reset + "c60 a04 a00 cd1 " + done + "c60 a08 a00 cd0 cff", nil},
		{reset + "c60 a04 a00 cd1 " + done + "c60 a08 a00 cd1", nil},
		{reset + "c60 a04 a00 cd1 cff c70 re0 c60 a08 a00 cd0", from(8, 11)},
		// What was erased before stays so.
		{reset + erases("04") + "c60 a08 a00 cd0 c70 re1", from(4, 7)},
		{reset + erases("04") + "c60 a08 a00 cd0 cff", from(4, 7)},
		{all + "c60 a08 a00 cd0 c70 re1 " + erases("08"), from(0, 15)},
		{all + "c60 a08 a00 cd1 c70 re1 cff c70 re1", from(0, 15)},
		// A failed read, parameters or reset is no failed erase.
		{all + "cff c70 re1 c00 a00 a00 a05 a00 c30 c70 re1 cec a00 c70 re1", from(0, 15)},
		// An erase forgets the programs.
		{reset + erases("04") + programs("07") + programs("07"), nil},
		{reset + erases("04") + programs("07") + programs("07") + "c60 a04 a00 cd0", from(4, 7)},
		{reset + erases("04") + programs("05") + programs("05") + erases("06"), from(4, 7)},
		{reset + erases("04") + programs("05") + "c60 a04 a00 cd0 c70 re1 " + erases("05"), from(4, 7)},
	} {
		c := behind(t, x.text)
		c.can(x.can...)
	}
}

func TestP151CanAfterPrograms(t *testing.T) {
	one := reset + erases("04")
	for _, x := range []struct {
		text string
		can  []int
	}{
		// Nothing is programmed before 10, 11 or 15.
		{one + loads("05"), from(4, 7)},
		{one + loads("05") + "c70 re0", from(4, 7)},
		{one + loads("05") + "c10", from(5, 7)},
		{one + loads("05") + "c11", from(5, 7)},
		{one + loads("05") + "c15", from(5, 7)},
		{one + loads("05") + "c10 c70 re1", from(5, 7)},
		{one + loads("05") + "c15 c70 rc0 re3", from(5, 7)},
		{one + loads("05") + "c10 cff", from(5, 7)},
		{one + loads("05") + "c11 cff", from(5, 7)},
		{one + loads("05") + "c15 cff", from(5, 7)},
		{one + programs("04"), from(4, 7)},
		{one + programs("04") + programs("04"), from(5, 7)},
		{one + programs("04") + programs("07"), from(7, 7)},
		{one + programs("07") + programs("07"), nil},
		{one + programs("06") + loads("06") + "c15 c70 rc0 " + loads("07") + "c10", from(7, 7)},
		{one + loads("06") + "c15 c70 rc0 " + loads("06") + "c15", from(7, 7)},
		{all + loads("05") + "c11 " + done + loads("09") + "c10", []int{0, 1, 2, 3, 5, 6, 7, 9, 10, 11, 12, 13, 14, 15}},
		{all + loads("06") + "c11 " + done + loads("02") + "c11 cff", []int{2, 3, 6, 7, 8, 9, 10, 11, 12, 13, 14, 15}},
		{all + programs("05") + programs("05") + programs("0f") + programs("0f"), []int{0, 1, 2, 3, 6, 7, 8, 9, 10, 11}},
	} {
		c := behind(t, x.text)
		c.can(x.can...)
	}
}

// TestP151Partial programs a page as often as each Partial lets it be.
func TestP151Partial(t *testing.T) {
	for partial := 1; partial <= api.MaxPartial; partial++ {
		g := example
		g.Partial = partial
		c := of(t, g)
		c.takes(all)
		for range partial {
			if !c.j.Can(5) {
				t.Fatal("the row can't be programmed")
			}
			c.takes(programs("05"))
		}
		if c.j.Can(5) || !c.j.Can(6) {
			t.Fatal("with Partial", partial, "the row can be programmed once more")
		}
		c.takes(loads("05"))
		c.refuses("c10")
	}
}

// TestP151Power loses the power in many situations, and looks at what is left.
func TestP151Power(t *testing.T) {
	for _, x := range []struct {
		before string
		can    []int
	}{
		{"", nil},
		{"cff", nil},
		{all, from(0, 15)},
		{all + "c70 r80", from(0, 15)},
		{all + "cff", from(0, 15)},
		{all + "c90 a00 r00", from(0, 15)},
		{all + reads("00", "05") + "c00 r00", from(0, 15)},
		{all + loads("05"), from(0, 15)},
		{all + "c60 a04 a00", from(0, 15)},
		{all + "c60 a04 a00 cd1", from(0, 15)},
		{all + "c60 a04 a00 cd1 " + done, from(0, 15)},
		{all + "c60 a04 a00 cd0", []int{0, 1, 2, 3, 8, 9, 10, 11, 12, 13, 14, 15}},
		{all + "c60 a04 a00 cd0 c70 r80", []int{0, 1, 2, 3, 8, 9, 10, 11, 12, 13, 14, 15}},
		{all + "c60 a04 a00 cd1 " + done + "c60 a08 a00 cd0", []int{0, 1, 2, 3, 12, 13, 14, 15}},
		{all + "c60 a04 a00 cd0 c70 rc0", from(0, 15)},
		{all + loads("06") + "c10", []int{0, 1, 2, 3, 6, 7, 8, 9, 10, 11, 12, 13, 14, 15}},
		{all + loads("06") + "c11 " + done, []int{0, 1, 2, 3, 6, 7, 8, 9, 10, 11, 12, 13, 14, 15}},
		{all + loads("06") + "c15 c70 rc0", []int{0, 1, 2, 3, 6, 7, 8, 9, 10, 11, 12, 13, 14, 15}},
		{all + programs("06") + programs("06"), []int{0, 1, 2, 3, 7, 8, 9, 10, 11, 12, 13, 14, 15}},
	} {
		for _, rejected := range []bool{false, true} {
			c := behind(t, x.before)
			if rejected {
				c.refuses("a77 cff c70")
			}
			c.j.Power()
			c.busy(false)
			c.can(x.can...)
			// Nothing but ff, then as at the beginning.
			c.takes("cff")
			c.busy(true)
			c.can(x.can...)
			c.refuses("re0")
			c.j.Power()
			c.takes(reset)
			// Nothing is named, in the background, listed, or can be read.
			c.takes("c90 a00 r00 r00 r00 r00 r00 cec c70 c60 a04 a00 c70 c80 a24 a00 a00 a00 w00 c70")
			c.refuses("c05")
			c.j.Power()
			c.takes("cff c70 re0 re1 c00")
			c.refuses("r00")
			c.j.Power()
			c.can(x.can...)
			c.takes(reset + "c60 a04 a00 cd1 " + done + erases("08"))
			for row := 4; row < 12; row++ {
				if !c.j.Can(row) {
					t.Errorf("row %d can't be programmed", row)
				}
			}
		}
	}
}

// TestP151Greatest looks at the bounds of the greatest geometry: 8255 (203f)
// bytes, 16384 (4000) rows, 64 pages in each of 256 blocks, in 4 planes.
func TestP151Greatest(t *testing.T) {
	g := greatest
	for text, want := range map[string]bool{
		"c00 a3e a20 aff a3f": true,
		"c00 a3f a20 aff a3f": false,
		"c00 a3e a20 a00 a40": false,
		"c00 a00 a21 a00 a00": false,
		"c80 a3e a20 aff a3f": true,
		"c80 a3f a20 aff a3f": false,
		"c80 a00 a00 a00 a40": false,
		"c60 aff a3f":         true,
		"c60 a00 a40":         false,
		"c60 a00 aff":         false,
	} {
		c := of(t, g)
		c.takes(reset)
		l := cycles(t, text)
		for _, x := range l[:len(l)-1] {
			if !c.j.Step(x) {
				t.Fatalf("%v of %q is rejected", x, text)
			}
		}
		if got := c.j.Step(l[len(l)-1]); got != want {
			t.Errorf("the last cycle of %q is accepted: %t", text, got)
		}
	}
	for text, want := range map[string]bool{"c05 a3e a20 ce0 r00": true, "c05 a3e a20 ce0 r00 r00": false, "c05 a3f a20": false, "c05 a00 a21": false} {
		c := of(t, g)
		c.takes(reset + "cec a00 " + done)
		l := cycles(t, text)
		for _, x := range l[:len(l)-1] {
			if !c.j.Step(x) {
				t.Fatalf("%v of %q is rejected", x, text)
			}
		}
		if got := c.j.Step(l[len(l)-1]); got != want {
			t.Errorf("the last cycle of %q is accepted: %t", text, got)
		}
	}

	// The last block, whose last page is programmed as a whole.
	c := of(t, g)
	c.takes(reset + "c60 ac0 a3f cd0 " + done)
	rows := g.Blocks * g.Pages
	for row := -70; row < rows+70; row++ {
		if c.j.Can(row) != (row >= rows-64 && row < rows) {
			t.Fatalf("Can(%d) is %t", row, c.j.Can(row))
		}
	}
	c.takes("c80 a00 a00 aff a3f " + strings.Repeat("w00 ", 8255) + "c10 " + done)
	c.takes("c00 a00 a00 aff a3f c30 " + done + "c00 " + strings.Repeat("rff ", 8255))
	c.refuses("rff")
	c.j.Power()
	c.takes(reset + "c80 a00 a00 aff a3f " + strings.Repeat("w00 ", 8255))
	c.refuses("w00")
	for row := range rows {
		if c.j.Can(row) != (row == rows-1) {
			t.Fatalf("Can(%d) is %t", row, c.j.Can(row))
		}
	}
}

// TestP151FourPlanes names a row and a block of each plane, in any order.
func TestP151FourPlanes(t *testing.T) {
	g := api.Geom{Planes: 4, Blocks: 8, Pages: 4, Chunks: 1, Chunk: 4, Rungs: 2, Partial: 1}
	const erased = reset +
		"c60 a10 a00 cd1 " + done + "c60 a0c a00 cd1 " + done + "c60 a08 a00 cd1 " + done + "c60 a04 a00 cd0 " + done +
		"c60 a00 a00 cd1 " + done + "c60 a1c a00 cd1 " + done + "c60 a14 a00 cd1 " + done + "c60 a18 a00 cd0 " + done
	c := of(t, g)
	c.takes(erased)
	for row := -5; row < 40; row++ {
		if c.j.Can(row) != (row >= 0 && row < 32) {
			t.Errorf("Can(%d) is %t", row, c.j.Can(row))
		}
	}
	c.takes(loads("11") + "c11 " + done + loads("05") + "c11 " + done + loads("1d") + "c11 " + done + loads("09") + "c11 " + done)
	for _, row := range []string{"01", "05", "09", "0d", "11", "15", "19", "1d"} {
		c.takes(loads(row))
		d := of(t, g)
		d.takes(erased + loads("11") + "c11 " + done + loads("05") + "c11 " + done + loads("1d") + "c11 " + done + loads("09") + "c11 " + done + loads(row))
		d.refuses("c10")
		c.takes("c70")
	}
	c.takes(reset + loads("15") + "c11 " + done + loads("19") + "c11 " + done + loads("01") + "c11 " + done + loads("0d") + "c10 " + done + "c60")
}

func TestP151NoJudge(t *testing.T) {
	var none *judge.Judge
	for _, text := range []string{"cff", "c70", "cff c70 re0 c90 a00 r49", "c70 cff", "w00", "r00", "a00"} {
		for _, j := range []*judge.Judge{none, {}, new(judge.Judge)} {
			for _, x := range cycles(t, text) {
				if j.Step(x) || j.Busy() {
					t.Errorf("no judge accepts %v of %q, or is busy", x, text)
				}
			}
			j.Power()
			for _, x := range cycles(t, text) {
				if j.Step(x) || j.Busy() {
					t.Errorf("after Power no judge accepts %v of %q, or is busy", x, text)
				}
			}
			for _, row := range []int{-1, 0, 1, 15, math.MaxInt, math.MinInt} {
				if j.Can(row) {
					t.Errorf("no judge lets row %d be programmed", row)
				}
			}
		}
	}
	for _, kind := range kinds {
		for b := range 256 {
			x := api.Cycle{Kind: kind, B: byte(b)}
			if none.Step(x) || new(judge.Judge).Step(x) {
				t.Errorf("no judge accepts %v", x)
			}
		}
	}
}

func TestP152Examples(t *testing.T) {
	for text, want := range map[string]int{"c70": 0, "cff c60": 1} {
		if n, ok := judge.Run(example, cycles(t, text)); n != want || ok {
			t.Errorf("Run of %q is %d, %t, not %d, false", text, n, ok, want)
		}
	}
}

// ran fails unless Run of a text is as it should be.
func ran(t *testing.T, g api.Geom, l []api.Cycle, want int, ok bool) {
	t.Helper()
	if n, got := judge.Run(g, l); n != want || got != ok {
		t.Errorf("Run of %s is %d, %t, not %d, %t", text(l), n, got, want, ok)
	}
}

func TestP152Run(t *testing.T) {
	for _, g := range geometries() {
		ran(t, g, nil, 0, true)
		ran(t, g, []api.Cycle{}, 0, true)
		ran(t, g, cycles(t, "cff"), 1, true)
		ran(t, g, cycles(t, "cff c70 re0 c90 a00 r49"), 6, true)
		ran(t, g, cycles(t, "cff c70 re0 c90 a00 r49 w00"), 6, false)
		ran(t, g, cycles(t, "cff c70 re0 c91 a00 r49 w00"), 3, false)
		ran(t, g, cycles(t, "r00 cff c70 re0"), 0, false)
		// What follows a rejection does not matter.
		ran(t, g, cycles(t, "cff c70 re0 c91 cff c70 re0"), 3, false)
		ran(t, g, cycles(t, "c70 cff c70 re0"), 0, false)
	}
	ran(t, example, cycles(t, all), 3+6*4, true)
	for _, kind := range kinds[4:] {
		ran(t, example, []api.Cycle{{Kind: kind, B: 0xff}}, 0, false)
		ran(t, example, []api.Cycle{{Kind: api.Command, B: 0xff}, {Kind: kind, B: 0xff}}, 1, false)
	}
}

func TestP152RunOfEachSituation(t *testing.T) {
	for _, s := range situations() {
		l := cycles(t, s.before)
		ran(t, example, l, len(l), true)
		ran(t, example, append(l, api.Cycle{}), len(l), false)
		ran(t, example, append(l, api.Cycle{}, api.Cycle{Kind: api.Command, B: 0xff}), len(l), false)
		ran(t, example, l, len(l), true)
	}
}

func TestP152RunErrors(t *testing.T) {
	for _, g := range wrongGeometries() {
		for _, text := range []string{"", "cff", "c70", "cff c70 re0"} {
			var l []api.Cycle
			if text != "" {
				l = cycles(t, text)
			}
			ran(t, g, l, 0, false)
		}
	}
}

func TestP152RunChangesNoArguments(t *testing.T) {
	l := cycles(t, all+programs("05"))
	want := text(l)
	judge.Run(example, l)
	if text(l) != want {
		t.Error("Run changes its cycles")
	}
}
