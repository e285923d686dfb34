package wire_test

import (
	"bytes"
	"math"
	"slices"
	"strings"
	"testing"

	"incunable/api"
	"incunable/chip"
	"incunable/cycle"
	"incunable/trace"
	"incunable/wire"
)

// most is how many cycles a wire stores at most, and how many Reads it sends
// at once, written out as the document has it.
const most = 16777216

// example is a geometry with 4 blocks in 2 planes, 16 rows, and raw pages of
// 37 bytes.
var example = api.Geom{Planes: 2, Blocks: 4, Pages: 4, Chunks: 1, Chunk: 4, Rungs: 3, Partial: 5}

// quiet is a script in which nothing happens.
func quiet() api.Script {
	return api.Script{Cut: -1}
}

// cut is a script in which nothing happens, but the power is lost after so many
// cycles.
func cut(n int) api.Script {
	return api.Script{Cut: n}
}

// eventful is a script in which the chip is busy, works fail, bits are turned,
// and a block is marked.
func eventful() api.Script {
	return api.Script{
		Busy:   []int{1, 2, 0, 1, 2, 1, 0, 1, 2, 3, 1, 2, 1, 1, 2},
		Fails:  []int{1, 4, 6},
		Turns:  []api.Turn{{Row: 5, Rung: 1, Bit: 3}, {Row: 4, Rung: 1, Bit: 9}},
		Torn:   []byte{0x5a, 0xa5},
		Marked: []int{3},
		Cut:    -1,
	}
}

// longRun are cycles of all kinds: the chip is reset, identified, set to
// another rung, and asked for its geometry; blocks are erased, rows are
// programmed at once, in the background and in both planes, and read; and at
// last another erase is pending.
const longRun = `
	cff c70 r00 r00 r00
	c90 a00 r01 r02 r03 r04 r05 r06
	cec a00 c70 r00 r00 r00 c00 r00 r00 r00 r00
	cef a89 w01 w00 w00 w00 c70 r00 r00
	c60 a04 a00 cd1 c70 r00 r00 c60 a08 a00 cd0 c70 r00 r00 r00 r00
	c80 a00 a00 a04 a00 w11 w22 c11 c70 r00 r00 c80 a02 a00 a08 a00 w33 c10 c70 r00 r00 r00
	c80 a00 a00 a05 a00 w44 w55 w66 c15 c70 r00 r00 c80 a01 a00 a06 a00 w77 c15 c70 r00 r00 r00 r00 r00
	c00 a00 a00 a05 a00 c30 c70 r00 r00 r00 r00 c00 r00 r00 r00 c05 a01 a00 ce0 r00 r00
	c00 a00 a00 a04 a00 c30 c70 r00 r00 r00 c00 r00 r00
	w99 a99 c99 r00
	c60 a0c a00 cd0 c70 r00`

// cycles are those of a text, between which any white space may stand.
func cycles(t *testing.T, text string) []api.Cycle {
	t.Helper()
	l, at, e := cycle.Parse(strings.Join(strings.Fields(text), " "))
	if e != api.OK {
		t.Fatalf("%q is no text of cycles at %d", text, at)
	}
	return l
}

// of is a cycle, valid or not.
func of(kind int, b byte) api.Cycle {
	return api.Cycle{Kind: kind, B: b}
}

// started is a new chip of the example.
func started(t *testing.T, s api.Script) *chip.Chip {
	t.Helper()
	c, e := chip.New(example, s)
	if e != api.OK {
		t.Fatalf("chip.New is %d", e)
	}
	return c
}

// wired is a new wire to a chip.
func wired(t *testing.T, c *chip.Chip) *wire.Wire {
	t.Helper()
	w, e := wire.New(c)
	if w == nil || e != api.OK {
		t.Fatalf("New is %v, %d, not a wire and OK", w, e)
	}
	return w
}

// on is a new wire to a new chip of the example.
func on(t *testing.T, s api.Script) *wire.Wire {
	t.Helper()
	return wired(t, started(t, s))
}

// do does cycles with a chip itself, without a wire. It returns those that a
// recorder would store, up to the first error.
func do(c *chip.Chip, l []api.Cycle) ([]api.Cycle, api.Errno) {
	var stored []api.Cycle
	for _, x := range l {
		b, e := c.Do(x)
		if e != api.OK {
			return stored, e
		}
		if x.Kind == api.Read {
			x.B = b
		}
		stored = append(stored, x)
	}
	return stored, api.OK
}

// text tells cycles, valid or not.
func text(l []api.Cycle) string {
	if len(l) > 400 {
		return "many cycles"
	}
	s, e := cycle.Text(l)
	if e != api.OK {
		return "cycles that are not valid"
	}
	return s
}

// expectError fails unless two errors are equal.
func expectError(t *testing.T, what string, got, want api.Errno) {
	t.Helper()
	if got != want {
		t.Fatalf("%s is %d, not %d", what, got, want)
	}
}

// expectRead fails unless Read of n returns these bytes, and this error.
func expectRead(t *testing.T, w *wire.Wire, n int, want []byte, wantError api.Errno) {
	t.Helper()
	if got, e := w.Read(n); !bytes.Equal(got, want) || e != wantError {
		t.Fatalf("Read(%d) is % x, %d, not % x, %d", n, got, e, want, wantError)
	}
}

// expectTrace fails unless w stores these cycles, and has sent just them.
func expectTrace(t *testing.T, w *wire.Wire, want []api.Cycle) {
	t.Helper()
	if got := w.Trace(); !slices.Equal(got, want) {
		t.Fatalf("Trace is %s, not %s", text(got), text(want))
	}
	if got := w.Sent(); got != len(want) {
		t.Fatalf("Sent is %d, not %d", got, len(want))
	}
}

// expectText fails unless w stores the cycles of a text, and has sent just
// them.
func expectText(t *testing.T, w *wire.Wire, want string) {
	t.Helper()
	expectTrace(t, w, cycles(t, want))
}

// expectPower fails unless the mark power has these cycles behind it.
func expectPower(t *testing.T, w *wire.Wire, want []api.Cycle) {
	t.Helper()
	if got, ok := w.Since("power"); !slices.Equal(got, want) || !ok {
		t.Fatalf("since the mark power are %s, %t, not %s", text(got), ok, text(want))
	}
}

// expectNoPower fails unless there is no mark power.
func expectNoPower(t *testing.T, w *wire.Wire) {
	t.Helper()
	if got, ok := w.Since("power"); len(got) != 0 || ok {
		t.Fatalf("since the mark power are %s, %t, but there is no such mark", text(got), ok)
	}
}

// expectSameArray fails unless the cells of two chips are the same.
func expectSameArray(t *testing.T, got, want *chip.Chip) {
	t.Helper()
	a, b := got.Array(), want.Array()
	for row := range example.Blocks * example.Pages {
		if !bytes.Equal(a.Raw(row), b.Raw(row)) || a.Torn(row) != b.Torn(row) || a.Programs(row) != b.Programs(row) {
			t.Fatalf("row %d is % x, %t, %d, not % x, %t, %d", row,
				a.Raw(row), a.Torn(row), a.Programs(row), b.Raw(row), b.Torn(row), b.Programs(row))
		}
	}
	for block := range example.Blocks {
		if a.Erases(block) != b.Erases(block) {
			t.Fatalf("block %d was erased %d times, not %d", block, a.Erases(block), b.Erases(block))
		}
	}
}

// expectSameSight fails unless two chips show the same without a cycle.
func expectSameSight(t *testing.T, got, want *chip.Chip) {
	t.Helper()
	if got.On() != want.On() || got.Cycles() != want.Cycles() || got.Work() != want.Work() {
		t.Fatalf("the chip shows %t, %d, %d, not %t, %d, %d",
			got.On(), got.Cycles(), got.Work(), want.On(), want.Cycles(), want.Work())
	}
	expectSameArray(t, got, want)
}

// expectSameChip fails unless two chips are the same, also in what they do
// next; both of them go on by that.
func expectSameChip(t *testing.T, got, want *chip.Chip) {
	t.Helper()
	expectSameSight(t, got, want)
	got.Power()
	want.Power()
	probe := cycles(t, "r00 r00 w00 r00 c70 r00 r00 r00 r00 r00 r00 c00 r00 r00 "+longRun)
	a, e := do(got, probe)
	b, f := do(want, probe)
	if e != f || !slices.Equal(a, b) {
		t.Fatalf("the chip goes on with %s, %d, not %s, %d", text(a), e, text(b), f)
	}
	expectSameSight(t, got, want)
}

func TestP161Examples(t *testing.T) {
	w := on(t, cut(3))
	expectError(t, "Command(ff, 70)", w.Command(0xff, 0x70), api.OK)
	expectRead(t, w, 2, nil, api.ErrPower)
	expectText(t, w, "cff c70 re0")

	w = on(t, quiet())
	expectError(t, "Command(90)", w.Command(0x90), api.OK)
	expectError(t, "Address(0)", w.Address(0), api.OK)
	expectRead(t, w, 2, []byte{0x49, 0x4e}, api.OK)
	expectText(t, w, "c90 a00 r49 r4e")
}

func TestP161NewOfAChip(t *testing.T) {
	c := started(t, eventful())
	w := wired(t, c)
	if w.Chip() != c {
		t.Error("Chip is another one")
	}
	expectTrace(t, w, nil)
	expectNoPower(t, w)
	// New sends nothing.
	expectSameChip(t, c, started(t, eventful()))
}

func TestP161NewOfNoChip(t *testing.T) {
	if w, e := wire.New(nil); w != nil || e != api.ErrNil {
		t.Errorf("New(nil) is %v, %d, not nil, ErrNil", w, e)
	}
	// Neither is a chip that chip.New did not return.
	if w, e := wire.New(&chip.Chip{}); w != nil || e != api.ErrNil {
		t.Errorf("New of a plain chip is %v, %d, not nil, ErrNil", w, e)
	}
}

func TestP161NewOfAChipThatIsOff(t *testing.T) {
	c := started(t, cut(0))
	c.Do(of(api.Command, 0x70))
	w := wired(t, c)
	expectError(t, "Command(ff)", w.Command(0xff), api.ErrPower)
	expectTrace(t, w, nil)
	expectNoPower(t, w)
	c.Power()
	expectError(t, "Command(ff)", w.Command(0xff), api.OK)
	expectText(t, w, "cff")
}

// A chip that did something before the wire was there goes on from there, and
// the wire stores only what it sends.
func TestP161NewOfAChipThatHasBeenUsed(t *testing.T) {
	c := started(t, quiet())
	do(c, cycles(t, "cff c70 re0 c90 a00 r49"))
	w := wired(t, c)
	expectRead(t, w, 2, []byte{0x4e, 0x02}, api.OK)
	expectText(t, w, "r4e r02")
	if c.Cycles() != 8 {
		t.Errorf("the chip executed %d cycles, not 8", c.Cycles())
	}
}

func TestP161NothingToSend(t *testing.T) {
	w := on(t, cut(0))
	for range 2 {
		expectError(t, "Command()", w.Command(), api.OK)
		expectError(t, "Command(nil)", w.Command(nil...), api.OK)
		expectError(t, "Command of an empty list", w.Command([]byte{}...), api.OK)
		expectError(t, "Address()", w.Address(), api.OK)
		expectError(t, "Write()", w.Write(), api.OK)
		expectError(t, "Send()", w.Send(), api.OK)
		expectError(t, "Send(nil)", w.Send(nil...), api.OK)
		expectError(t, "Send of an empty list", w.Send([]api.Cycle{}...), api.OK)
		expectRead(t, w, 0, nil, api.OK)
		expectTrace(t, w, nil)
		expectNoPower(t, w)
	}
	expectSameChip(t, w.Chip(), started(t, cut(0)))
}

// function is one of those that send bytes, or Send with cycles of a kind.
type function struct {
	name string
	kind int
	send func(w *wire.Wire, b ...byte) api.Errno
}

// functions are all that send bytes, and Send for each kind.
func functions() []function {
	l := []function{
		{"Command", api.Command, (*wire.Wire).Command},
		{"Address", api.Address, (*wire.Wire).Address},
		{"Write", api.Write, (*wire.Wire).Write},
		{"Read", api.Read, func(w *wire.Wire, b ...byte) api.Errno {
			_, e := w.Read(len(b))
			return e
		}},
	}
	for kind := api.Command; kind <= api.Read; kind++ {
		l = append(l, function{"Send", kind, func(w *wire.Wire, b ...byte) api.Errno {
			return w.Send(cycle.Of(kind, b...)...)
		}})
	}
	return l
}

// situations are cycles before those that are tested, so that each kind has an
// effect behind one of them.
var situations = []string{
	"", "cff", "cff c70", "c90", "c90 a00", "cec", "cef", "cef a89", "c00", "c00 a00 a00 a05 a00", "c05", "c05 a03",
	"c80", "c80 a00 a00 a05 a00", "c80 a00 a00 a05 a00 w12", "c60", "c60 a05 a00", "c60 a05 a00 cd0 c70",
}

func TestP161OneByteByEachFunction(t *testing.T) {
	for _, situation := range situations {
		first := cycles(t, situation)
		for _, f := range functions() {
			for b := range 256 {
				w, twin := on(t, quiet()), started(t, quiet())
				expectError(t, "Send", w.Send(first...), api.OK)
				want, _ := do(twin, append(slices.Clone(first), of(f.kind, byte(b))))
				expectError(t, f.name, f.send(w, byte(b)), api.OK)
				expectTrace(t, w, want)
				expectNoPower(t, w)
				if b%32 == 5 {
					expectSameChip(t, w.Chip(), twin)
				}
			}
		}
	}
}

func TestP161SeveralBytesByEachFunction(t *testing.T) {
	lists := [][]byte{{0xff, 0x70}, {0, 0}, {5, 0, 4, 0, 9}, {0x89, 1}, {1, 2, 3, 4, 5, 6, 7}, bytes.Repeat([]byte{0x3c}, 100)}
	for _, situation := range situations {
		first := cycles(t, situation)
		for _, f := range functions() {
			for _, b := range lists {
				w, twin := on(t, eventful()), started(t, eventful())
				expectError(t, "Send", w.Send(first...), api.OK)
				want, _ := do(twin, append(slices.Clone(first), cycle.Of(f.kind, b...)...))
				expectError(t, f.name, f.send(w, b...), api.OK)
				expectTrace(t, w, want)
				expectSameChip(t, w.Chip(), twin)
			}
		}
	}
}

// Each kind is what it says: what is sent comes into the trace in order.
func TestP161KindsInOrder(t *testing.T) {
	w := on(t, quiet())
	w.Command(1, 2)
	w.Address(3, 4)
	w.Write(5, 6)
	w.Send(of(api.Command, 7), of(api.Address, 8), of(api.Write, 9))
	expectText(t, w, "c01 c02 a03 a04 w05 w06 c07 a08 w09")
}

func TestP161AProgramIsSentAndReadBack(t *testing.T) {
	w := on(t, quiet())
	w.Command(0xff, 0x70)
	expectRead(t, w, 1, []byte{0xe0}, api.OK)
	w.Command(0x80)
	w.Address(0, 0, 5, 0)
	w.Write(0x12, 0x34, 0x56)
	w.Command(0x10, 0x70)
	expectRead(t, w, 1, []byte{0xe0}, api.OK)
	w.Command(0)
	w.Address(1, 0, 5, 0)
	w.Command(0x30, 0x70)
	expectRead(t, w, 1, []byte{0xe0}, api.OK)
	w.Command(0)
	expectRead(t, w, 3, []byte{0x34, 0x56, 0xff}, api.OK)
	expectText(t, w, `cff c70 re0 c80 a00 a00 a05 a00 w12 w34 w56 c10 c70 re0
		c00 a01 a00 a05 a00 c30 c70 re0 c00 r34 r56 rff`)
	if got := w.Chip().Array().Raw(5)[:4]; !bytes.Equal(got, []byte{0x12, 0x34, 0x56, 0xff}) {
		t.Errorf("row 5 is % x", got)
	}
}

// Whatever byte a Read is given, the byte that the chip returned is stored.
func TestP161SendOfReads(t *testing.T) {
	for b := range 256 {
		w := on(t, quiet())
		read := of(api.Read, byte(b))
		e := w.Send(of(api.Command, 0x90), of(api.Address, 0), read, read, read, read, read, read)
		expectError(t, "Send", e, api.OK)
		expectText(t, w, "c90 a00 r49 r4e r02 r03 r05 rff")
		expectError(t, "Send", w.Send(of(api.Command, 0x70), read), api.OK)
		expectText(t, w, "c90 a00 r49 r4e r02 r03 r05 rff c70 re0")
	}
}

func TestP161SendOfALongRun(t *testing.T) {
	l := cycles(t, longRun)
	w, twin := on(t, eventful()), started(t, eventful())
	want, e := do(twin, l)
	expectError(t, "the run", e, api.OK)
	expectError(t, "Send", w.Send(l...), api.OK)
	expectTrace(t, w, want)
	expectNoPower(t, w)
	expectSameChip(t, w.Chip(), twin)
}

// wrongKinds are those of cycles that are not valid.
var wrongKinds = []int{0, -1, -4, 5, 6, 256, 257, 260, 1 << 32, 1<<32 + 1, math.MinInt, math.MinInt + 1, math.MaxInt}

// A cycle that is not valid ends what is sent; what stands before it was sent.
func TestP161SendOfCyclesThatAreNotValid(t *testing.T) {
	l := cycles(t, "cff c70 r00 r00 c90 a00 r00 r00")
	for _, kind := range wrongKinds {
		for at := range len(l) + 1 {
			for _, b := range []byte{0, 0x70, 0xff} {
				w, twin := on(t, eventful()), started(t, eventful())
				want, _ := do(twin, l[:at])
				expectError(t, "Send", w.Send(slices.Insert(slices.Clone(l), at, of(kind, b))...), api.ErrArg)
				expectTrace(t, w, want)
				expectNoPower(t, w)
				// The rest can still be sent.
				rest, _ := do(twin, l[at:])
				expectError(t, "Send", w.Send(l[at:]...), api.OK)
				expectTrace(t, w, append(want, rest...))
				expectSameChip(t, w.Chip(), twin)
			}
		}
	}
}

// The power is not lost at a cycle that is not valid.
func TestP161NotValidWhereThePowerWouldBeLost(t *testing.T) {
	w := on(t, cut(2))
	bad := of(5, 0)
	expectError(t, "Send", w.Send(of(1, 0xff), of(1, 0x70), bad, of(1, 0x70)), api.ErrArg)
	expectError(t, "Send", w.Send(bad), api.ErrArg)
	expectText(t, w, "cff c70")
	expectNoPower(t, w)
	expectError(t, "Send", w.Send(of(1, 0x70), bad), api.ErrPower)
	expectText(t, w, "cff c70")
	expectPower(t, w, nil)
}

func TestP161ReadOfManyNumbers(t *testing.T) {
	for n := range 60 {
		w, twin := on(t, eventful()), started(t, eventful())
		first := cycles(t, "cff c70 r00 r00 c80 a00 a00 a05 a00 w12 w34 w56 cff c70 r00 r00 r00 c00")
		want, _ := do(twin, first)
		expectError(t, "Send", w.Send(first...), api.OK)
		read, _ := do(twin, cycle.Of(api.Read, make([]byte, n)...))
		var b []byte
		for _, x := range read {
			b = append(b, x.B)
		}
		expectRead(t, w, n, b, api.OK)
		expectTrace(t, w, append(want, read...))
		expectSameChip(t, w.Chip(), twin)
	}
	// They are the bytes of the register, and ff behind its end.
	w := on(t, quiet())
	w.Send(cycles(t, "c80 a00 a00 a05 a00 w12 w34 w56 cff c70 r00 c05 a01 a00 ce0")...)
	expectRead(t, w, 4, []byte{0x34, 0x56, 0xff, 0xff}, api.OK)
}

func TestP161ReadOfNumbersThatAreNotValid(t *testing.T) {
	w, twin := on(t, cut(3)), started(t, cut(3))
	w.Command(0xff)
	do(twin, cycles(t, "cff"))
	for _, n := range []int{-1, -2, -most, most + 1, most + 2, 2 * most, 1 << 31, 1 << 32, 1<<32 + 1, math.MinInt, math.MaxInt} {
		expectRead(t, w, n, nil, api.ErrArg)
		expectText(t, w, "cff")
		expectNoPower(t, w)
	}
	expectSameChip(t, w.Chip(), twin)
}

func TestP161ReadOfMaxCycles(t *testing.T) {
	if api.MaxCycles != most {
		t.Fatalf("MaxCycles is %d, not %d", api.MaxCycles, most)
	}
	w := on(t, quiet())
	w.Command(0x90)
	w.Address(0)
	b, e := w.Read(most)
	if len(b) != most || e != api.OK {
		t.Fatalf("Read(MaxCycles) is %d bytes, %d", len(b), e)
	}
	if !bytes.Equal(b[:6], []byte{0x49, 0x4e, 2, 3, 5, 0xff}) || bytes.Count(b[5:], []byte{0xff}) != most-5 {
		t.Error("Read(MaxCycles) has other bytes")
	}
	if w.Sent() != most+2 || w.Chip().Cycles() != most+2 {
		t.Errorf("%d cycles were sent, and %d executed", w.Sent(), w.Chip().Cycles())
	}
}

// What a call is given is not changed, nor what stands behind it, and it is
// not kept.
func TestArgumentsAreNotChangedNorShared(t *testing.T) {
	w := on(t, quiet())
	room := cycles(t, "c90 a00 r01 r02 r77 c78")
	kept := slices.Clone(room)
	expectError(t, "Send", w.Send(room[:4]...), api.OK)
	if !slices.Equal(room, kept) {
		t.Errorf("the cycles have become %s", text(room))
	}
	clear(room)
	expectText(t, w, "c90 a00 r49 r4e")
	for _, f := range functions() {
		w := on(t, quiet())
		b := []byte{1, 2, 3, 4}
		expectError(t, f.name, f.send(w, b[:2]...), api.OK)
		if !bytes.Equal(b, []byte{1, 2, 3, 4}) {
			t.Errorf("the bytes given to %s have become % x", f.name, b)
		}
		before := w.Trace()
		clear(b)
		expectTrace(t, w, before)
	}
}

// The bytes that Read returns are the caller's own.
func TestBytesThatAreReadAreNotShared(t *testing.T) {
	w := on(t, quiet())
	w.Send(cycles(t, "c80 a00 a00 a05 a00 w12 w34 w56 cff c70 r00 c05 a00 a00 ce0")...)
	before := w.Trace()
	first, _ := w.Read(3)
	second, _ := w.Read(3)
	for i := range first[:cap(first)] {
		first[:cap(first)][i] = 0x77
	}
	if !bytes.Equal(second, []byte{0xff, 0xff, 0xff}) {
		t.Errorf("other bytes have become % x", second)
	}
	w.Send(cycles(t, "c05 a00 a00 ce0")...)
	expectRead(t, w, 3, []byte{0x12, 0x34, 0x56}, api.OK)
	expectTrace(t, w, append(before, cycles(t, "r12 r34 r56 rff rff rff c05 a00 a00 ce0 r12 r34 r56")...))
}

// A wire embeds its recorder, whose other calls it has.
func TestARecorderIsEmbedded(t *testing.T) {
	w := on(t, quiet())
	w.Command(0xff, 0x70)
	w.Mark("here")
	w.Read(2)
	if got, ok := w.Since("here"); !slices.Equal(got, cycles(t, "re0 re0")) || !ok {
		t.Errorf("Since is %s, %t", text(got), ok)
	}
	if w.Count(of(api.Read, 0xe0)) != 2 || w.All() != 4 || !slices.Equal(w.List(), w.Trace()) {
		t.Error("Count, All and List differ from what was sent")
	}
	var r *trace.Recorder = w.Recorder
	if r.All() != 4 {
		t.Errorf("the recorder counts %d cycles, not 4", r.All())
	}
}
