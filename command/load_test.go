package command_test

import (
	"bytes"
	"math"
	"slices"
	"testing"

	"incunable/api"
	"incunable/command"
)

// expectLoad fails unless Load returns the cycles of a text.
func expectLoad(t *testing.T, n int, b []byte, end byte, want string) {
	t.Helper()
	if got := command.Load(n, b, end); !slices.Equal(got, cycles(t, want)) {
		t.Fatalf("Load(%d, % x, %02x) is %s, not %s", n, b, end, told(got), want)
	}
}

func TestP192LoadWrittenOut(t *testing.T) {
	expectLoad(t, 0, nil, 0x10, "c80 a00 a00 a00 a00 c10")
	expectLoad(t, 0, []byte{}, 0x15, "c80 a00 a00 a00 a00 c15")
	expectLoad(t, 13, []byte{0}, 0x11, "c80 a00 a00 a0d a00 w00 c11")
	expectLoad(t, 255, []byte{1, 2, 3}, 0x10, "c80 a00 a00 aff a00 w01 w02 w03 c10")
	expectLoad(t, 256, []byte{0xff, 0}, 0x10, "c80 a00 a00 a00 a01 wff w00 c10")
	expectLoad(t, 513, []byte{0x80}, 0x15, "c80 a00 a00 a01 a02 w80 c15")
	expectLoad(t, 16383, []byte{7}, 0x00, "c80 a00 a00 aff a3f w07 c00")
	expectLoad(t, 65535, []byte{7}, 0xff, "c80 a00 a00 aff aff w07 cff")
}

// The address of a row is that of chapter 4, also of one that no chip has:
// modulo 2^16.
func TestP192LoadOfRowsThatNoChipHas(t *testing.T) {
	for _, x := range []struct {
		n    int
		want string
	}{
		{1 << 16, "a00 a00"},
		{1<<16 + 0x1234, "a34 a12"},
		{1<<32 + 5, "a05 a00"},
		{-1, "aff aff"},
		{-256, "a00 aff"},
		{-65536 + 258, "a02 a01"},
		{math.MaxInt, "aff aff"},
		{math.MinInt, "a00 a00"},
		{math.MinInt + 1, "a01 a00"},
	} {
		expectLoad(t, x.n, []byte{0x5a}, 0x10, "c80 a00 a00 "+x.want+" w5a c10")
	}
}

// Rows with all pairs of bytes, ends of all kinds, and bytes of all values.
func TestP192LoadOfAllRowsAndEnds(t *testing.T) {
	for n := range 1 << 16 {
		got := command.Load(n, nil, byte(n))
		want := []api.Cycle{
			{Kind: api.Command, B: 0x80},
			{Kind: api.Address}, {Kind: api.Address},
			{Kind: api.Address, B: byte(n % 256)}, {Kind: api.Address, B: byte(n / 256)},
			{Kind: api.Command, B: byte(n % 256)},
		}
		if !slices.Equal(got, want) {
			t.Fatalf("Load(%d) is %s", n, told(got))
		}
	}
	var all []byte
	for n := range 256 {
		all = append(all, byte(n))
		expectLoad(t, 7, all, 0x10, "c80 a00 a00 a07 a00 "+text(api.Write, all...)+" c10")
	}
}

// Raw pages of all sizes, also greater ones than any chip has.
func TestP192LoadOfEachSize(t *testing.T) {
	for _, size := range []int{1, 2, 36, 37, 38, 255, 256, 8255, 8256, 65536, 1 << 20} {
		b := make([]byte, size)
		for i := range b {
			b[i] = byte(i*i + i/256)
		}
		got := command.Load(3, b, 0x15)
		if len(got) != size+6 || got[size+5] != (api.Cycle{Kind: api.Command, B: 0x15}) {
			t.Fatalf("Load of %d bytes is %s", size, told(got))
		}
		for i, x := range got[5 : size+5] {
			if x != (api.Cycle{Kind: api.Write, B: b[i]}) {
				t.Fatalf("byte %d of %d is sent as %v", i, size, x)
			}
		}
	}
}

// What Load returns is its own.
func TestP192LoadsMemory(t *testing.T) {
	b := []byte{1, 2, 3}
	first := command.Load(4, b, 0x10)
	second := command.Load(4, b, 0x10)
	clear(first)
	expectLoad(t, 4, b, 0x10, "c80 a00 a00 a04 a00 w01 w02 w03 c10")
	if told(second) != "c80 a00 a00 a04 a00 w01 w02 w03 c10" || !bytes.Equal(b, []byte{1, 2, 3}) {
		t.Fatalf("another Load is %s, of % x", told(second), b)
	}
	clear(b)
	if told(second) != "c80 a00 a00 a04 a00 w01 w02 w03 c10" {
		t.Fatalf("Load is %s now", told(second))
	}
}

// An order of Load's cycles is that of a Program.
func TestP192ProgramIsAnOrder(t *testing.T) {
	for _, s := range []api.Script{busy(), busy(2), busy(3), busy(3, 3), failing([]int{0}), failing([]int{0}, 1)} {
		d, other := driver(t, example, s, 3), driver(t, example, s, 3)
		b := pattern(example, 6)
		e := d.Program(6, b)
		_, want := other.Order(0x60, command.Load(6, b, 0x10)...)
		if e != want || !slices.Equal(d.Wire().Trace(), other.Wire().Trace()) {
			t.Fatalf("Program is %d and sends %s, not %d and %s", e, told(d.Wire().Trace()), want, told(other.Wire().Trace()))
		}
	}
}

// small are geometries of which each row and block is tried.
func small() []api.Geom {
	return []api.Geom{
		example, least, long,
		{Planes: 4, Blocks: 8, Pages: 6, Chunks: 2, Chunk: 5, Rungs: 2, Partial: 1},
		{Planes: 1, Blocks: 256, Pages: 4, Chunks: 1, Chunk: 4, Rungs: 8, Partial: 8},
	}
}

// Each row, once; what it had is in it then, and in no other one.
func TestP192ProgramOfEachRow(t *testing.T) {
	for _, g := range small() {
		d := driver(t, g, busy(), 1)
		for n := range g.Blocks * g.Pages {
			expectError(t, "Program", d.Program(n, pattern(g, n)), api.OK)
			expectSent(t, d, programs(n, pattern(g, n))+ready)
		}
		a := d.Wire().Chip().Array()
		for n := range g.Blocks * g.Pages {
			if !bytes.Equal(a.Raw(n), pattern(g, n)) || a.Programs(n) != 1 || a.Torn(n) {
				t.Fatalf("row %d is % x, %d, %t", n, a.Raw(n), a.Programs(n), a.Torn(n))
			}
		}
	}
}

// Some rows of the greatest geometry, with the greatest raw pages.
func TestP192ProgramOfTheGreatestChip(t *testing.T) {
	d := driver(t, greatest, busy(1, 2, 3, 4), 5)
	for i, n := range []int{0, 255, 256, 16383} {
		b := pattern(greatest, n)
		if len(b) != 8255 {
			t.Fatalf("a raw page has %d bytes", len(b))
		}
		expectError(t, "Program", d.Program(n, b), api.OK)
		expectSent(t, d, programs(n, b)+waits(i+1, "re0"))
		if !bytes.Equal(d.Wire().Chip().Array().Raw(n), b) {
			t.Fatalf("row %d has another page", n)
		}
	}
	expectError(t, "Erase", d.Erase(255), api.OK)
	expectSent(t, d, "c60 ac0 a3f cd0 "+ready)
	if d.Wire().Chip().Array().Programs(16383) != 0 || d.Wire().Chip().Array().Programs(256) != 1 {
		t.Fatal("another block was erased")
	}
}

// noRows and noBlocks are numbers that are no rows and no blocks of g.
func noRows(g api.Geom) []int {
	n := g.Blocks * g.Pages
	return []int{-1, n, n + 1, -n, 2 * n, 1 << 16, 1<<16 + 1, 1 << 32, 1<<32 + 1, math.MinInt, math.MinInt + 1, math.MaxInt}
}

func noBlocks(g api.Geom) []int {
	n := g.Blocks
	return []int{-1, n, n + 1, -n, 2 * n, n * g.Pages, 1 << 16, 1<<16 + 1, 1<<32 + 1, math.MinInt, math.MinInt + 1, math.MaxInt, math.MaxInt / 2}
}

// expectNothing fails unless a driver that is stuck refuses something with
// ErrArg without a reset, and whether the power is on or off.
func expectNothing(t *testing.T, g api.Geom, refuse func(d *command.Driver) api.Errno) {
	t.Helper()
	d := driver(t, g, busy(), 2)
	d.Wire().Chip().Cut(0)
	expectError(t, "what is refused", refuse(d), api.ErrArg)
	expectSent(t, d, "")
	if !d.Wire().Chip().On() {
		t.Fatal("what is refused is sent")
	}
	d.Order(0x60)
	expectError(t, "what is refused", refuse(d), api.ErrArg)

	d = driver(t, g, busy(9, 9, 0), 2)
	expectError(t, "Erase", d.Erase(0), api.ErrBusy)
	expectSent(t, d, erases(0)+"c70 r80 r80 cff c70 r80 r80")
	expectError(t, "what is refused", refuse(d), api.ErrArg)
	expectSent(t, d, "")
	expectError(t, "Erase", d.Erase(0), api.OK)
	expectSent(t, d, "cff "+ready+erases(0)+ready)
}

func TestP192ProgramOfRowsThatDoNotExist(t *testing.T) {
	for _, g := range small() {
		for _, n := range noRows(g) {
			for _, b := range [][]byte{pattern(g, 1), nil, pattern(g, 1)[1:]} {
				expectNothing(t, g, func(d *command.Driver) api.Errno { return d.Program(n, b) })
			}
		}
	}
}

func TestP192ProgramOfWrongSizes(t *testing.T) {
	for _, g := range small() {
		size := raw(g)
		for _, n := range []int{0, 1, g.Chunks * g.Chunk, size - 2, size - 1, size + 1, size + 2, 2 * size, 8255, 65536 + size} {
			b := make([]byte, n)
			for _, row := range []int{0, 3, g.Blocks*g.Pages - 1} {
				expectNothing(t, g, func(d *command.Driver) api.Errno { return d.Program(row, b) })
			}
		}
	}
}

// Each block: its rows are erased then, and no other ones.
func TestP192EraseOfEachBlock(t *testing.T) {
	for _, g := range small() {
		d := driver(t, g, busy(), 1)
		a := d.Wire().Chip().Array()
		for n := range g.Blocks * g.Pages {
			a.Program(n, pattern(g, n))
		}
		for block := range g.Blocks {
			expectError(t, "Erase", d.Erase(block), api.OK)
			expectSent(t, d, erases(block*g.Pages)+ready)
			for n := range g.Blocks * g.Pages {
				if erased := a.Programs(n) == 0; erased != (n < (block+1)*g.Pages) {
					t.Fatalf("behind the erase of block %d, row %d is erased: %t", block, n, erased)
				}
			}
		}
	}
}

func TestP192Example(t *testing.T) {
	d := driver(t, example, busy(2), 3)
	expectError(t, "Erase", d.Erase(1), api.OK)
	expectSent(t, d, "c60 a04 a00 cd0 c70 r80 r80 re0")
}

func TestP192EraseOfBlocksThatDoNotExist(t *testing.T) {
	for _, g := range small() {
		for _, n := range noBlocks(g) {
			expectNothing(t, g, func(d *command.Driver) api.Errno { return d.Erase(n) })
		}
	}
}

// Programs and erases that fail, at once and later: the row or the block is
// torn, and the next one can succeed.
func TestP192Failures(t *testing.T) {
	for duration := range 3 {
		d := driver(t, example, failing([]int{1, 3}, duration, duration, duration, duration, duration), 3)
		a := d.Wire().Chip().Array()
		good, bad := waits(duration, "re0"), waits(duration, "re1")
		b := pattern(example, 5)

		expectError(t, "Program", d.Program(5, b), api.OK)
		expectSent(t, d, programs(5, b)+good)
		expectError(t, "Program", d.Program(6, b), api.ErrFail)
		expectSent(t, d, programs(6, b)+bad)
		if !a.Torn(6) || a.Torn(5) || a.Torn(7) || !bytes.Equal(a.Raw(5), b) {
			t.Fatal("another row than the one that failed is torn")
		}
		expectError(t, "Erase", d.Erase(0), api.OK)
		expectSent(t, d, erases(0)+good)
		expectError(t, "Erase", d.Erase(1), api.ErrFail)
		expectSent(t, d, erases(4)+bad)
		if !a.Torn(4) || !a.Torn(7) || a.Torn(3) || a.Torn(8) {
			t.Fatal("another block than the one that failed is torn")
		}
		expectError(t, "Erase", d.Erase(1), api.OK)
		expectSent(t, d, erases(4)+good)
		if a.Torn(5) || a.Erases(1) != 1 {
			t.Fatal("the block is not erased")
		}
	}
}

// The bit 2 of the status, by which a program in the background failed, is no
// failure of a Program or an Erase.
func TestP192AFailureInTheBackground(t *testing.T) {
	d := driver(t, example, failing([]int{0}, 1), 3)
	expectOrder(t, d, 0x40, loads("a04", "c15"), 0xc0, api.OK)
	expectSent(t, d, loads("a04", "c15")+"c70 rc0")
	b := pattern(example, 5)
	expectError(t, "Program", d.Program(5, b), api.OK)
	expectSent(t, d, programs(5, b)+"c70 re2")
	expectError(t, "Erase", d.Erase(1), api.OK)
	expectSent(t, d, erases(4)+"c70 re0")
}

// A program and an erase that are busy for too long are interrupted.
func TestP192TooLong(t *testing.T) {
	d := driver(t, example, busy(3, 1, 4, 2), 3)
	a := d.Wire().Chip().Array()
	b := pattern(example, 5)
	expectError(t, "Program", d.Program(5, b), api.ErrBusy)
	expectSent(t, d, programs(5, b)+"c70 r80 r80 r80 cff c70 r80 re0")
	if !a.Torn(4) || !a.Torn(5) || a.Torn(6) {
		t.Fatal("the program is not interrupted")
	}
	expectError(t, "Erase", d.Erase(2), api.ErrBusy)
	expectSent(t, d, erases(8)+"c70 r80 r80 r80 cff c70 r80 r80 re0")
	if !a.Torn(8) || !a.Torn(11) || a.Torn(12) || a.Erases(2) != 0 {
		t.Fatal("the erase is not interrupted")
	}
}

// The raw page is not changed, and not kept.
func TestP192ProgramsMemory(t *testing.T) {
	d := driver(t, example, busy(), 3)
	b := pattern(example, 5)
	expectError(t, "Program", d.Program(5, b), api.OK)
	if !bytes.Equal(b, pattern(example, 5)) {
		t.Fatalf("the raw page is % x now", b)
	}
	clear(b)
	expectRead(t, d, 5, 0, pattern(example, 5), api.OK)
	expectSent(t, d, programs(5, pattern(example, 5))+ready+fetches(5)+ready+outs(pattern(example, 5)))
}
