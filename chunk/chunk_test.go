package chunk_test

import (
	"math"
	"slices"
	"testing"

	"incunable/api"
	"incunable/chunk"
)

// wordBits is how many bits of a word the code covers: 0 to 13.
const wordBits = 14

// pattern is n bytes that differ from each other without an order that one
// sees.
func pattern(n, start int) []byte {
	b := make([]byte, n)
	x := uint32(start)
	for i := range b {
		x = x*1664525 + 1013904223
		b[i] = byte(x >> 24)
	}
	return b
}

// samples are bytes of several lengths, from 1 to MaxChunk.
func samples() [][]byte {
	all := [][]byte{
		{0x00},
		{0x01},
		{0x80},
		{0xff},
		{0x01, 0x80, 0x55},
		{0x00, 0x00, 0x00, 0x00},
		[]byte("chunk"),
	}
	for _, n := range []int{2, 8, 27, 28, 29, 33, 256, 511, 512} {
		all = append(all, pattern(n, 1), make([]byte, n), slices.Repeat([]byte{0xff}, n))
	}
	return all
}

// turned is a copy of b with these bits inverted.
func turned(b []byte, at ...int) []byte {
	c := slices.Clone(b)
	for _, k := range at {
		c[k/8] ^= 1 << (k % 8)
	}
	return c
}

// plainWord goes by the words of the chapters: the exclusive or of the
// positions of all ones, a bit that makes the ones even, and two ones.
func plainWord(b []byte) uint16 {
	sum, ones, place := 0, 0, 2
	for k := range len(b) * 8 {
		for place++; place&(place-1) == 0; place++ {
		}
		if b[k/8]>>(k%8)&1 == 1 {
			sum ^= place
			ones++
		}
	}
	for i := range 13 {
		ones += sum >> i & 1
	}
	return uint16(sum | ones%2<<13 | 1<<14 | 1<<15)
}

// plainCodeword is the bytes with their plain word, its lower byte first.
func plainCodeword(b []byte) []byte {
	w := plainWord(b)
	return append(slices.Clone(b), byte(w&0xff), byte(w>>8))
}

// encoded fails unless b has a codeword, and returns it.
func encoded(t *testing.T, b []byte) []byte {
	t.Helper()
	x, e := chunk.Encode(b)
	if e != api.OK {
		t.Fatalf("Encode of %d bytes: error %d", len(b), e)
	}
	return x
}

// expect fails unless Decode answers these bytes and this number.
func expect(t *testing.T, raw, b []byte, fixed int) {
	t.Helper()
	got, n, e := chunk.Decode(raw)
	if !slices.Equal(got, b) || n != fixed || e != api.OK {
		t.Errorf("Decode(% x) = % x, %d, %d, not % x, %d, OK", raw, got, n, e, b, fixed)
	}
}

// refuse fails unless Decode answers this error, and nothing beside it.
func refuse(t *testing.T, raw []byte, want api.Errno) {
	t.Helper()
	b, n, e := chunk.Decode(raw)
	if len(b) != 0 || n != 0 || e != want {
		t.Errorf("Decode(% x) = % x, %d, %d, not nothing, 0, %d", raw, b, n, e, want)
	}
}

// expectAll fails unless All answers these bytes and this number.
func expectAll(t *testing.T, raw []byte, size int, b []byte, fixed int) {
	t.Helper()
	got, n, e := chunk.All(raw, size)
	if !slices.Equal(got, b) || n != fixed || e != api.OK {
		t.Errorf("All(% x, %d) = % x, %d, %d, not % x, %d, OK", raw, size, got, n, e, b, fixed)
	}
}

// refuseAll fails unless All answers this error, and nothing beside it.
func refuseAll(t *testing.T, raw []byte, size int, want api.Errno) {
	t.Helper()
	b, n, e := chunk.All(raw, size)
	if len(b) != 0 || n != 0 || e != want {
		t.Errorf("All(%d bytes, %d) = %d bytes, %d, %d, not nothing, 0, %d", len(raw), size, len(b), n, e, want)
	}
}

// refuseSplit fails unless Split answers ErrArg, and nothing beside it.
func refuseSplit(t *testing.T, raw []byte, size int) {
	t.Helper()
	if l, e := chunk.Split(raw, size); len(l) != 0 || e != api.ErrArg {
		t.Errorf("Split(%d bytes, %d) = %d pieces, %d, not nothing, ErrArg", len(raw), size, len(l), e)
	}
}

func TestP61Examples(t *testing.T) {
	cases := []struct{ b, x []byte }{
		{[]byte{0x00}, []byte{0x00, 0x00, 0xc0}},
		{[]byte{0x01}, []byte{0x01, 0x03, 0xe0}},
		{[]byte{0x80}, []byte{0x80, 0x0c, 0xe0}},
		{[]byte{0xff}, []byte{0xff, 0x03, 0xc0}},
		{[]byte{0x00, 0x08}, []byte{0x00, 0x08, 0x11, 0xe0}},
		{[]byte{0x01, 0x80, 0x55}, []byte{0x01, 0x80, 0x55, 0x1e, 0xc0}},
	}
	for _, c := range cases {
		if x := encoded(t, c.b); !slices.Equal(x, c.x) {
			t.Errorf("Encode(% x) = % x, not % x", c.b, x, c.x)
		}
		expect(t, c.x, c.b, 0)
	}
	refuse(t, turned(encoded(t, []byte("chunk")), 3, 17), api.ErrBits)
	expect(t, []byte{0x01, 0x88, 0x55, 0x1e, 0xc0}, []byte{0x01, 0x80, 0x55}, 1)
	refuse(t, []byte{0x03, 0x88, 0x55, 0x1e, 0xc0}, api.ErrBits)
}

func TestP61CodewordsAgainstThePlainOnes(t *testing.T) {
	for _, b := range samples() {
		x, want := encoded(t, b), plainCodeword(b)
		if !slices.Equal(x, want) {
			t.Errorf("Encode(% x) = % x, not % x", b, x, want)
		}
		expect(t, want, b, 0)
	}
}

func TestP61EachLengthOfBytes(t *testing.T) {
	for n := 1; n <= 512; n++ {
		b := pattern(n, n)
		if x := encoded(t, b); !slices.Equal(x, plainCodeword(b)) {
			t.Errorf("Encode of %d bytes = % x", n, x)
		}
	}
	for _, n := range []int{0, 513, 514, 515, 1024, 1 << 20} {
		for _, b := range [][]byte{make([]byte, n), pattern(n, 2), slices.Repeat([]byte{0xff}, n)} {
			if x, e := chunk.Encode(b); len(x) != 0 || e != api.ErrArg {
				t.Errorf("Encode of %d bytes = %d bytes, %d, not nothing, ErrArg", n, len(x), e)
			}
		}
	}
	if x, e := chunk.Encode(nil); len(x) != 0 || e != api.ErrArg {
		t.Errorf("Encode of nil = % x, %d, not nothing, ErrArg", x, e)
	}
}

func TestP61EachLengthOfRawBytes(t *testing.T) {
	refuse(t, nil, api.ErrArg)
	for _, n := range []int{0, 1, 2, 515, 516, 517, 1028, 1 << 20} {
		for _, raw := range [][]byte{make([]byte, n), pattern(n, 2), slices.Repeat([]byte{0xff}, n)} {
			refuse(t, raw, api.ErrArg)
		}
	}
	// One byte too many is refused even if it ends with its word.
	refuse(t, plainCodeword(pattern(513, 4)), api.ErrArg)
	refuse(t, plainCodeword(nil), api.ErrArg)
	for n := 1; n <= 512; n++ {
		b := pattern(n, n)
		expect(t, plainCodeword(b), b, 0)
	}
}

func TestP61EachStateThatAWordIndicates(t *testing.T) {
	// Behind a zero byte stands each word that can be read.
	for w := range 1 << 16 {
		raw := []byte{0x00, byte(w), byte(w >> 8)}
		ones := 0
		for i := range wordBits {
			ones += w >> i & 1
		}
		difference := w & 0x1fff
		bit := slices.Index([]int{3, 5, 6, 7, 9, 10, 11, 12}, difference)
		switch {
		case difference == 0 && ones == 0:
			expect(t, raw, []byte{0x00}, 0)
		case ones%2 == 1 && difference&(difference-1) == 0:
			expect(t, raw, []byte{0x00}, 1)
		case ones%2 == 1 && bit >= 0:
			expect(t, raw, []byte{1 << bit}, 1)
		default:
			refuse(t, raw, api.ErrBits)
		}
	}
}

func TestP61ArgumentsAreNotChangedNorShared(t *testing.T) {
	b := pattern(40, 8)
	before := slices.Clone(b)
	x := encoded(t, b)
	x[0]++
	if !slices.Equal(b, before) {
		t.Errorf("% x has become % x", before, b)
	}
	// There is room behind b that a codeword must not be put into.
	room := slices.Repeat([]byte{0x77}, 50)
	copy(room, b)
	encoded(t, room[:40])
	if !slices.Equal(room[:40], before) || !slices.Equal(room[40:], slices.Repeat([]byte{0x77}, 10)) {
		t.Errorf("what is behind the bytes has become % x", room[40:])
	}
	for _, at := range [][]int{nil, {5}, {325}, {334}, {3, 17}} {
		raw := turned(encoded(t, b), at...)
		kept := slices.Clone(raw)
		got, _, _ := chunk.Decode(raw)
		for i := range got {
			got[i] ^= 0xff
		}
		if !slices.Equal(raw, kept) {
			t.Errorf("with the bits %v, % x has become % x", at, kept, raw)
		}
	}
}

func TestP62Examples(t *testing.T) {
	first, second := encoded(t, []byte("chunk")), encoded(t, []byte("piece"))
	both := []byte("chunkpiece")
	expectAll(t, slices.Concat(turned(first, 1), turned(second, 41)), 5, both, 2)
	expectAll(t, slices.Concat(first, second), 5, both, 0)
	expectAll(t, slices.Concat(first, turned(second, 7)), 5, both, 1)
	expectAll(t, slices.Concat(turned(first, 39), second), 5, both, 1)
}

func TestP62PiecesOfEachSize(t *testing.T) {
	for size := 1; size <= 512; size++ {
		for _, count := range []int{0, 1, 2, 3, 7} {
			raw := pattern(count*(size+2), size+count)
			l, e := chunk.Split(raw, size)
			if e != api.OK || len(l) != count {
				t.Fatalf("Split(%d bytes, %d) = %d pieces, %d", len(raw), size, len(l), e)
			}
			for i, p := range l {
				if !slices.Equal(p, raw[i*(size+2):(i+1)*(size+2)]) {
					t.Fatalf("Split(%d bytes, %d): piece %d is % x", len(raw), size, i, p)
				}
			}
		}
	}
}

func TestP62PiecesWrittenOut(t *testing.T) {
	l, e := chunk.Split([]byte{1, 2, 3, 4, 5, 6, 7, 8, 9}, 1)
	if e != api.OK || len(l) != 3 || !slices.Equal(l[0], []byte{1, 2, 3}) ||
		!slices.Equal(l[1], []byte{4, 5, 6}) || !slices.Equal(l[2], []byte{7, 8, 9}) {
		t.Errorf("Split of 9 bytes, 1 = %v, %d", l, e)
	}
	l, e = chunk.Split([]byte{1, 2, 3, 4, 5, 6, 7, 8}, 2)
	if e != api.OK || len(l) != 2 || !slices.Equal(l[0], []byte{1, 2, 3, 4}) || !slices.Equal(l[1], []byte{5, 6, 7, 8}) {
		t.Errorf("Split of 8 bytes, 2 = %v, %d", l, e)
	}
	l, e = chunk.Split([]byte{1, 2, 3, 4, 5, 6, 7, 8}, 6)
	if e != api.OK || len(l) != 1 || !slices.Equal(l[0], []byte{1, 2, 3, 4, 5, 6, 7, 8}) {
		t.Errorf("Split of 8 bytes, 6 = %v, %d", l, e)
	}
}

func TestP62NoBytes(t *testing.T) {
	for _, raw := range [][]byte{nil, {}} {
		for _, size := range []int{1, 2, 5, 511, 512} {
			if l, e := chunk.Split(raw, size); len(l) != 0 || e != api.OK {
				t.Errorf("Split of no bytes, %d = %v, %d", size, l, e)
			}
			expectAll(t, raw, size, nil, 0)
		}
	}
}

// wrongSizes are those that no codeword has.
var wrongSizes = []int{0, -1, -2, -3, -512, -514, -1 << 31, math.MinInt, math.MinInt + 1, math.MinInt + 2,
	513, 514, 515, 1024, 1 << 31, 1<<32 + 1, 1 << 62, math.MaxInt - 2, math.MaxInt - 1, math.MaxInt}

func TestP62WrongSizes(t *testing.T) {
	for _, size := range wrongSizes {
		for _, n := range []int{0, 1, 2, 3, 4, 6, 514, 515, 516, 517, 1026, 1028, 2052} {
			refuseSplit(t, make([]byte, n), size)
			refuseAll(t, make([]byte, n), size, api.ErrArg)
		}
		refuseSplit(t, nil, size)
		refuseAll(t, nil, size, api.ErrArg)
	}
	// A size of one byte too many is refused even if the pieces fit.
	raw := slices.Concat(plainCodeword(pattern(513, 4)), plainCodeword(pattern(513, 5)))
	refuseSplit(t, raw, 513)
	refuseAll(t, raw, 513, api.ErrArg)
}

func TestP62WrongLengths(t *testing.T) {
	for _, size := range []int{1, 2, 5, 16, 511, 512} {
		for n := range 3*(size+2) + 2 {
			if n%(size+2) == 0 {
				continue
			}
			refuseSplit(t, pattern(n, 1), size)
			refuseAll(t, pattern(n, 1), size, api.ErrArg)
		}
	}
	// The first piece can't be corrected, but the length counts first.
	broken := turned(encoded(t, []byte("chunk")), 3, 17)
	refuseAll(t, append(broken, 0), 5, api.ErrArg)
}

func TestP62GreatestSize(t *testing.T) {
	first, second := pattern(512, 1), pattern(512, 2)
	raw := slices.Concat(encoded(t, first), encoded(t, second))
	if l, e := chunk.Split(raw, 512); e != api.OK || len(l) != 2 || !slices.Equal(l[1], raw[514:]) {
		t.Errorf("Split of two pieces of MaxChunk = %d pieces, %d", len(l), e)
	}
	expectAll(t, raw, 512, slices.Concat(first, second), 0)
	expectAll(t, turned(raw, 0, 514*8+4095), 512, slices.Concat(first, second), 2)
	// Of the other sizes, only those fit whose pieces divide the length.
	for size := 1; size <= 512; size++ {
		_, e := chunk.Split(raw, size)
		if fits := 1028%(size+2) == 0; fits != (e == api.OK) {
			t.Errorf("Split of 1028 bytes, %d: error %d", size, e)
		}
	}
}

func TestP62TotalOfTurnedBits(t *testing.T) {
	const size, count = 9, 5
	var raw, all []byte
	for i := range count {
		b := pattern(size, i+1)
		all = append(all, b...)
		raw = append(raw, encoded(t, b)...)
	}
	// Each set of pieces that have an inverted bit; in some it is in the word.
	for set := range 1 << count {
		c, fixed := raw, 0
		for i := range count {
			if set>>i&1 == 1 {
				c = turned(c, i*(size+2)*8+(i*37+11)%(size*8+wordBits))
				fixed++
			}
		}
		expectAll(t, c, size, all, fixed)
	}
	// The last two bits of a word indicate nothing, and don't count.
	for i := range count {
		last := (i+1)*(size+2)*8 - 1
		expectAll(t, turned(raw, last), size, all, 0)
		expectAll(t, turned(raw, last-1), size, all, 0)
		expectAll(t, turned(raw, last-2), size, all, 1)
		expectAll(t, turned(raw, last, last-1, last-2), size, all, 1)
	}
}

func TestP62EachPieceThatIsRefused(t *testing.T) {
	const size, count = 4, 5
	var raw []byte
	for i := range count {
		raw = append(raw, encoded(t, pattern(size, i+3))...)
	}
	const length = (size + 2) * 8
	for i := range count {
		broken := turned(raw, i*length+3, i*length+17)
		refuseAll(t, broken, size, api.ErrBits)
		// Also if others are corrected, or refused too.
		for j := range count {
			if j != i {
				refuseAll(t, turned(broken, j*length+5), size, api.ErrBits)
				refuseAll(t, turned(broken, j*length+5, j*length+6), size, api.ErrBits)
			}
		}
		// Its pieces are those of Split all the same.
		if l, e := chunk.Split(broken, size); e != api.OK || len(l) != count || !slices.Equal(slices.Concat(l...), broken) {
			t.Errorf("Split of broken pieces = %d pieces, %d", len(l), e)
		}
	}
}

func TestP62AllIsDecodeOfEachPiece(t *testing.T) {
	for n := range 200 {
		size := n%7 + 1
		raw := pattern((n%4+1)*(size+2), n)
		if n%3 > 0 {
			raw = nil
			for i := range n%4 + 1 {
				x := encoded(t, pattern(size, n+i))
				raw = append(raw, turned(x, (n*i)%(len(x)*8))...)
			}
		}
		pieces, e := chunk.Split(raw, size)
		if e != api.OK {
			t.Fatalf("Split(% x, %d): error %d", raw, size, e)
		}
		var b []byte
		fixed, want := 0, api.OK
		for _, p := range pieces {
			part, k, e := chunk.Decode(p)
			if e != api.OK {
				want = e
				break
			}
			b = append(b, part...)
			fixed += k
		}
		if want != api.OK {
			refuseAll(t, raw, size, want)
			continue
		}
		expectAll(t, raw, size, b, fixed)
	}
}

func TestP62ManyPieces(t *testing.T) {
	x := encoded(t, []byte{0x5a})
	raw := slices.Repeat(turned(x, 2), 100000)
	if l, e := chunk.Split(raw, 1); len(l) != 100000 || e != api.OK {
		t.Errorf("Split of many pieces = %d pieces, %d", len(l), e)
	}
	b, n, e := chunk.All(raw, 1)
	if !slices.Equal(b, slices.Repeat([]byte{0x5a}, 100000)) || n != 100000 || e != api.OK {
		t.Errorf("All of many pieces = %d bytes, %d, %d", len(b), n, e)
	}
}

func TestP62ArgumentsAreNotChangedNorShared(t *testing.T) {
	raw := slices.Concat(encoded(t, []byte("chunk")), turned(encoded(t, []byte("piece")), 9), encoded(t, []byte("bytes")))
	before := slices.Clone(raw)
	b, _, _ := chunk.All(raw, 5)
	for i := range b {
		b[i] ^= 0xff
	}
	chunk.All(turned(raw, 3, 17), 5)
	l, _ := chunk.Split(raw, 5)
	for i, p := range l {
		// Nothing that is put into or behind one piece reaches the others.
		_ = append(p, 1, 2, 3)
		for k := range p {
			p[k] ^= 0xff
		}
		for j := i + 1; j < len(l); j++ {
			if !slices.Equal(l[j], before[j*7:(j+1)*7]) {
				t.Errorf("piece %d has become % x with piece %d", j, l[j], i)
			}
		}
	}
	if !slices.Equal(raw, before) {
		t.Errorf("% x has become % x", before, raw)
	}
}

func TestP63ThereAndBack(t *testing.T) {
	for _, b := range samples() {
		expect(t, encoded(t, b), b, 0)
		expectAll(t, encoded(t, b), len(b), b, 0)
	}
	for v := range 256 {
		expect(t, encoded(t, []byte{byte(v)}), []byte{byte(v)}, 0)
	}
}

func TestP63EachSingleInvertedBit(t *testing.T) {
	for _, b := range samples() {
		x := encoded(t, b)
		for k := range len(x) * 8 {
			fixed := 1
			// The bits 14 and 15 of the word indicate nothing.
			if k >= len(b)*8+wordBits {
				fixed = 0
			}
			expect(t, turned(x, k), b, fixed)
		}
	}
}

func TestP63EachPairOfInvertedBits(t *testing.T) {
	for _, b := range [][]byte{{0x00}, {0xff}, {0x01, 0x80, 0x55}, []byte("chunk"), pattern(28, 6), pattern(40, 3)} {
		x := encoded(t, b)
		for i := range len(b)*8 + wordBits {
			for j := range i {
				refuse(t, turned(x, i, j), api.ErrBits)
			}
		}
	}
}

func TestP63PairsWithABitThatIndicatesNothing(t *testing.T) {
	for _, b := range [][]byte{{0x00}, []byte("chunk"), pattern(512, 7)} {
		x := encoded(t, b)
		for _, unused := range []int{len(x)*8 - 1, len(x)*8 - 2} {
			for k := range len(b)*8 + wordBits {
				expect(t, turned(x, k, unused), b, 1)
			}
		}
		expect(t, turned(x, len(x)*8-1, len(x)*8-2), b, 0)
	}
}

func TestP63PairsOfInvertedBitsInAGreatChunk(t *testing.T) {
	b := pattern(512, 11)
	x := encoded(t, b)
	for _, i := range []int{0, 1, 7, 8, 2036, 4094, 4095, 4096, 4108, 4109} {
		for j := range len(b)*8 + wordBits {
			if j != i {
				refuse(t, turned(x, i, j), api.ErrBits)
			}
		}
	}
}
