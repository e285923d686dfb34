package command_test

import (
	"slices"
	"testing"

	"incunable/api"
)

// given is an order, with what it waits for, what its wait sends, and what it
// returns.
type given struct {
	bits   byte
	order  string
	wait   string
	status byte
	want   api.Errno
}

// loads is a text that loads a row with few bytes, so that it can be written
// out.
func loads(n, end string) string {
	return "c80 a00 a00 " + n + " a00 w0f w1e " + end + " "
}

// Each status that a chip has when it is not busy, with the failure that is
// told by the bit 1 alone.
func TestP191EachStatus(t *testing.T) {
	for _, x := range []struct {
		name   string
		script api.Script
		orders []given
	}{
		{"nothing", busy(), []given{{0x60, "", "c70 re0", 0xe0, api.OK}}},
		{"a reset", busy(1), []given{{0x60, "cff", "c70 r80 re0", 0xe0, api.OK}}},
		{"a rung", busy(), []given{{0x60, "cef a89 w01 w00 w00 w00", "c70 re0", 0xe0, api.OK}}},
		{"a read", busy(2), []given{{0x60, "c00 a00 a00 a04 a00 c30", "c70 r80 r80 re0", 0xe0, api.OK}}},
		{"a program", busy(), []given{{0x60, loads("a04", "c10"), "c70 re0", 0xe0, api.OK}}},
		{"a long program", busy(2), []given{{0x60, loads("a04", "c10"), "c70 r80 r80 re0", 0xe0, api.OK}}},
		{"an erase", busy(1), []given{{0x60, "c60 a04 a00 cd0", "c70 r80 re0", 0xe0, api.OK}}},
		{"a program that fails", failing([]int{0}), []given{
			{0x60, loads("a04", "c10"), "c70 re1", 0xe1, api.ErrFail},
			{0x60, "", "c70 re1", 0xe1, api.ErrFail},
			{0x60, loads("a05", "c10"), "c70 re0", 0xe0, api.OK},
		}},
		{"a long program that fails", failing([]int{0}, 2), []given{{0x60, loads("a04", "c10"), "c70 r80 r80 re1", 0xe1, api.ErrFail}}},
		{"an erase that fails", failing([]int{1}), []given{
			{0x60, "c60 a00 a00 cd0", "c70 re0", 0xe0, api.OK},
			{0x60, "c60 a04 a00 cd0", "c70 re1", 0xe1, api.ErrFail},
		}},
		{"a stripe of which a program fails", failing([]int{1}), []given{
			{0x60, loads("a00", "c11"), "c70 re0", 0xe0, api.OK},
			{0x60, loads("a04", "c10"), "c70 re1", 0xe1, api.ErrFail},
		}},
		{"in the background", busy(1), []given{
			{0x40, loads("a04", "c15"), "c70 rc0", 0xc0, api.OK},
			{0x40, "", "c70 re0", 0xe0, api.OK},
		}},
		{"in the background, to its end", busy(2), []given{{0x60, loads("a04", "c15"), "c70 rc0 rc0 re0", 0xe0, api.OK}}},
		{"busy, and in the background", busy(1, 2), []given{{0x40, loads("a04", "c15"), "c70 r80 r80 rc0", 0xc0, api.OK}}},
		{"a failure in the background", failing([]int{0}), []given{{0x40, loads("a04", "c15"), "c70 re2", 0xe2, api.OK}}},
		{"a later failure in the background", failing([]int{0}, 1), []given{
			{0x40, loads("a04", "c15"), "c70 rc0", 0xc0, api.OK},
			{0x20, "", "c70 re2", 0xe2, api.OK},
		}},
		{"the first one of two in the background fails", failing([]int{0}, 2, 0, 2, 0), []given{
			{0x40, loads("a04", "c15"), "c70 rc0", 0xc0, api.OK},
			{0x40, loads("a05", "c15"), "c70 rc2", 0xc2, api.OK},
		}},
		{"both fail", failing([]int{0, 1}, 1), []given{
			{0x40, loads("a04", "c15"), "c70 rc0", 0xc0, api.OK},
			{0x60, loads("a05", "c10"), "c70 re3", 0xe3, api.ErrFail},
		}},
		{"only the second one fails", failing([]int{1}, 1), []given{
			{0x40, loads("a04", "c15"), "c70 rc0", 0xc0, api.OK},
			{0x60, loads("a05", "c10"), "c70 re1", 0xe1, api.ErrFail},
		}},
		{"only the first one fails", failing([]int{0}, 1), []given{
			{0x40, loads("a04", "c15"), "c70 rc0", 0xc0, api.OK},
			{0x60, loads("a05", "c10"), "c70 re2", 0xe2, api.OK},
		}},
		{"a failure that is waited for", failing([]int{0}, 1), []given{{0x01, loads("a04", "c10"), "c70 r80 re1", 0xe1, api.ErrFail}}},
		{"no bits, while the chip is busy", failing([]int{0}, 1), []given{
			{0x00, loads("a04", "c10"), "c70 r80", 0x80, api.OK},
			{0x00, "", "c70 re1", 0xe1, api.ErrFail},
		}},
	} {
		t.Run(x.name, func(t *testing.T) {
			d := driver(t, example, x.script, 3)
			for _, o := range x.orders {
				expectOrder(t, d, o.bits, o.order, o.status, o.want)
				expectSent(t, d, o.order+" "+o.wait)
			}
		})
	}
}

// All bits on a chip whose status is e0: they come at once, or never; then the
// chip is reset, so that the driver is not stuck.
func TestP191AllBits(t *testing.T) {
	for bits := range 256 {
		for _, budget := range []int{1, 4} {
			d := driver(t, example, busy(), budget)
			if bits&0xe0 == bits {
				expectOrder(t, d, byte(bits), "c60 a04 a00 cd0", 0xe0, api.OK)
				expectSent(t, d, "c60 a04 a00 cd0 c70 re0")
				continue
			}
			expectOrder(t, d, byte(bits), "c60 a04 a00 cd0", 0, api.ErrBusy)
			expectSent(t, d, "c60 a04 a00 cd0 c70"+times(budget, "re0")+" cff c70 re0")
			expectOrder(t, d, 0x60, "c60 a04 a00 cd0", 0xe0, api.OK)
			expectSent(t, d, "c60 a04 a00 cd0 c70 re0")
		}
	}
}

// Bits that come later than others.
func TestP191BitsThatComeLater(t *testing.T) {
	for _, x := range []struct {
		bits       byte
		foreground int
		background int
		wait       string
		status     byte
	}{
		{0x80, 2, 3, "r80", 0x80},
		{0x40, 2, 3, "r80 r80 rc0", 0xc0},
		{0xc0, 2, 3, "r80 r80 rc0", 0xc0},
		{0x20, 2, 3, "r80 r80 rc0 rc0 rc0 re0", 0xe0},
		{0x60, 2, 3, "r80 r80 rc0 rc0 rc0 re0", 0xe0},
		{0xe0, 0, 1, "rc0 re0", 0xe0},
		{0x20, 2, 0, "r80 r80 re0", 0xe0},
		{0x40, 0, 0, "re0", 0xe0},
	} {
		d := driver(t, example, busy(x.background, x.foreground), 6)
		expectOrder(t, d, x.bits, loads("a04", "c15"), x.status, api.OK)
		expectSent(t, d, loads("a04", "c15")+"c70 "+x.wait)
	}
}

func TestP191DurationsAroundTheBudget(t *testing.T) {
	for budget := 1; budget <= 6; budget++ {
		for duration := range 9 {
			d := driver(t, example, busy(duration), budget)
			if duration < budget {
				expectOrder(t, d, 0x60, "c60 a04 a00 cd0", 0xe0, api.OK)
				expectSent(t, d, "c60 a04 a00 cd0 "+waits(duration, "re0"))
				continue
			}
			expectOrder(t, d, 0x60, "c60 a04 a00 cd0", 0, api.ErrBusy)
			expectSent(t, d, "c60 a04 a00 cd0 "+waits(budget, "")+"cff c70 re0")
		}
	}
}

func TestP191BudgetsAtTheLimits(t *testing.T) {
	for _, budget := range []int{1, 2, most - 1, most} {
		d := driver(t, example, busy(budget-1, budget, budget-1, 0), budget)
		expectOrder(t, d, 0x60, "c60 a04 a00 cd0", 0xe0, api.OK)
		expectOrder(t, d, 0x60, "c60 a04 a00 cd0", 0, api.ErrBusy)
		expectOrder(t, d, 0x60, "c60 a04 a00 cd0", 0xe0, api.OK)
	}
}

// The status may be c0 for as many polls as it wants: if that is not what is
// waited for, the program in the background is interrupted, and torn.
func TestP191ABackgroundThatIsTooLong(t *testing.T) {
	d := driver(t, example, busy(3, 0, 1), 3)
	expectOrder(t, d, 0x60, loads("a05", "c15"), 0, api.ErrBusy)
	expectSent(t, d, loads("a05", "c15")+"c70 rc0 rc0 rc0 cff c70 r80 re0")
	for n := range 16 {
		if torn := d.Wire().Chip().Array().Torn(n); torn != (n == 4 || n == 5) {
			t.Errorf("row %d is torn: %t", n, torn)
		}
	}
}

// Behind ErrBusy with a reset that is OK, nothing more is sent than the order.
func TestP191AResetThatIsOK(t *testing.T) {
	d := driver(t, example, busy(9, 2, 1), 3)
	expectOrder(t, d, 0x60, loads("a04", "c10"), 0, api.ErrBusy)
	expectSent(t, d, loads("a04", "c10")+"c70 r80 r80 r80 cff c70 r80 r80 re0")
	if a := d.Wire().Chip().Array(); !a.Torn(4) {
		t.Fatal("the program is not interrupted")
	}
	expectOrder(t, d, 0x60, "c60 a04 a00 cd0", 0xe0, api.OK)
	expectSent(t, d, "c60 a04 a00 cd0 c70 r80 re0")
}

// Behind a reset that is not OK, the driver is stuck, until a reset is.
func TestP191AResetThatIsNotOK(t *testing.T) {
	d := driver(t, example, busy(9, 9, 9, 3, 2, 1, 0), 3)
	const stuck = "c70 r80 r80 r80"
	expectOrder(t, d, 0x60, "c60 a04 a00 cd0", 0, api.ErrBusy)
	expectSent(t, d, "c60 a04 a00 cd0 "+stuck+" cff "+stuck)
	expectOrder(t, d, 0x60, "c60 a08 a00 cd0", 0, api.ErrBusy)
	expectSent(t, d, "cff "+stuck)
	expectOrder(t, d, 0x00, "", 0, api.ErrBusy)
	expectSent(t, d, "cff "+stuck)
	expectOrder(t, d, 0x60, "c60 a08 a00 cd0", 0xe0, api.OK)
	expectSent(t, d, "cff c70 r80 r80 re0 c60 a08 a00 cd0 c70 r80 re0")
	expectOrder(t, d, 0x60, "c60 a0c a00 cd0", 0xe0, api.OK)
	expectSent(t, d, "c60 a0c a00 cd0 c70 re0")
	if a := d.Wire().Chip().Array(); a.Erases(1) != 0 || a.Erases(2) != 1 || a.Erases(3) != 1 {
		t.Fatalf("the blocks were erased %d, %d, %d times", a.Erases(1), a.Erases(2), a.Erases(3))
	}
}

// A driver that is stuck, whose next order is refused, fails, or is one of no
// cycles.
func TestP191StuckAheadOfEachOrder(t *testing.T) {
	const stuck = "c60 a04 a00 cd0 c70 r80 r80 cff c70 r80 r80"
	for _, x := range []struct {
		order  string
		sent   string
		status byte
		want   api.Errno
	}{
		{"", "c70 re0", 0xe0, api.OK},
		{loads("a00", "c10"), loads("a00", "c10") + "c70 re1", 0xe1, api.ErrFail},
		{"cff", "cff c70 re0", 0xe0, api.OK},
	} {
		d := driver(t, example, failing([]int{0}, 9, 9, 1), 2)
		expectOrder(t, d, 0x60, "c60 a04 a00 cd0", 0, api.ErrBusy)
		expectSent(t, d, stuck)
		expectOrder(t, d, 0x60, x.order, x.status, x.want)
		expectSent(t, d, "cff c70 r80 re0 "+x.sent)
		expectOrder(t, d, 0x60, "cff", 0xe0, api.OK)
		expectSent(t, d, "cff c70 re0")
	}
}

// A reset that is OK, and an order that is not: the driver is stuck again if
// the next reset is not OK.
func TestP191StuckAgain(t *testing.T) {
	d := driver(t, example, busy(9, 9, 0, 9, 9, 1, 9, 0, 0), 2)
	const erase = "c60 a04 a00 cd0"
	expectOrder(t, d, 0x60, erase, 0, api.ErrBusy)
	expectSent(t, d, erase+" c70 r80 r80 cff c70 r80 r80")
	expectOrder(t, d, 0x60, erase, 0, api.ErrBusy)
	expectSent(t, d, "cff c70 re0 "+erase+" c70 r80 r80 cff c70 r80 r80")
	expectOrder(t, d, 0x60, erase, 0, api.ErrBusy)
	expectSent(t, d, "cff c70 r80 re0 "+erase+" c70 r80 r80 cff c70 re0")
	expectOrder(t, d, 0x60, erase, 0xe0, api.OK)
	expectSent(t, d, erase+" c70 re0")
}

// expectation is what three erases send by the words, and what they return.
type expectation struct {
	sent string
	want []api.Errno
}

// threeErases goes by the words of the chapter for three erases of a chip that
// is busy for these durations, one after the other.
func threeErases(durations []int, budget int) expectation {
	var x expectation
	wait := func() bool {
		d := durations[0]
		durations = durations[1:]
		if d >= budget {
			x.sent += waits(budget, "")
			return false
		}
		x.sent += waits(d, "re0")
		return true
	}
	stuck := false
	for range 3 {
		if stuck {
			x.sent += "cff "
			if !wait() {
				x.want = append(x.want, api.ErrBusy)
				continue
			}
		}
		x.sent += erases(8)
		if stuck = !wait(); !stuck {
			x.want = append(x.want, api.OK)
			continue
		}
		x.sent += "cff "
		stuck = !wait()
		x.want = append(x.want, api.ErrBusy)
	}
	return x
}

// All durations of three erases, and of the resets between them.
func TestP191AllDurations(t *testing.T) {
	const budget = 2
	kinds := []int{0, 1, 2, 3}
	for n := range 4 * 4 * 4 * 4 * 4 * 4 {
		var durations []int
		for left := n; len(durations) < 9; left /= len(kinds) {
			durations = append(durations, kinds[left%len(kinds)])
		}
		x := threeErases(durations, budget)
		d := driver(t, example, busy(durations...), budget)
		var got []api.Errno
		for range 3 {
			got = append(got, d.Erase(2))
		}
		if !slices.Equal(got, x.want) {
			t.Fatalf("with the durations %v, three erases return %d, not %d", durations, got, x.want)
		}
		expectSent(t, d, x.sent)
	}
}

// A cycle that is not valid is not sent, nor is what is behind it; the driver
// is not stuck by that.
func TestP191CyclesThatAreNotValid(t *testing.T) {
	for _, kind := range []int{0, -1, 5, 1 << 40} {
		d := driver(t, example, busy(9, 9, 1), 2)
		wrong := append(cycles(t, "c60 a04"), api.Cycle{Kind: kind}, api.Cycle{Kind: api.Address}, api.Cycle{Kind: api.Command, B: 0xd0})
		for range 2 {
			if b, e := d.Order(0x60, wrong...); b != 0 || e != api.ErrArg {
				t.Fatalf("Order with a cycle of the kind %d is %02x, %d", kind, b, e)
			}
			expectSent(t, d, "c60 a04")
		}
		// One that is stuck is reset first.
		expectOrder(t, d, 0x60, "c60 a04 a00 cd0", 0, api.ErrBusy)
		expectSent(t, d, "c60 a04 a00 cd0 c70 r80 r80 cff c70 r80 r80")
		for _, sent := range []string{"cff c70 r80 re0 c60 a04", "c60 a04"} {
			if b, e := d.Order(0x60, wrong...); b != 0 || e != api.ErrArg {
				t.Fatalf("Order with a cycle of the kind %d is %02x, %d", kind, b, e)
			}
			expectSent(t, d, sent)
		}
	}
}

// Reads of an order are sent, too, and their bytes are in the trace alone.
func TestP191AnOrderWithReads(t *testing.T) {
	d := driver(t, example, busy(), 2)
	expectOrder(t, d, 0x60, "c90 a00 r00 r00 r77", 0xe0, api.OK)
	expectSent(t, d, "c90 a00 r49 r4e r02 c70 re0")
	expectOrder(t, d, 0x60, "w00 a00 c30 r00", 0xe0, api.OK)
	expectSent(t, d, "w00 a00 c30 rff c70 re0")
}

// The cycles are not changed, and a changed list is another order.
func TestP191TheListIsTheCallers(t *testing.T) {
	d := driver(t, example, busy(), 2)
	l := cycles(t, "c60 a04 a00 cd0 r55")
	before := slices.Clone(l)
	d.Order(0x60, l[:4]...)
	d.Order(0x00, l...)
	if !slices.Equal(l, before) {
		t.Fatalf("the cycles are %s now", told(l))
	}
	expectSent(t, d, "c60 a04 a00 cd0 c70 re0 c60 a04 a00 cd0 re0 c70 re0")
	clear(l)
	if got, want := told(d.Wire().Trace()), exampleBegin+" c60 a04 a00 cd0 c70 re0 c60 a04 a00 cd0 re0 c70 re0"; got != want {
		t.Fatalf("Trace is %s, not %s", got, want)
	}
}

// exampleBegin is what New sends to a chip of the example that is not busy.
const exampleBegin = "cff c70 re0 c90 a00 " + exampleID + " cec a00 c70 re0 c00 " + exampleOut
