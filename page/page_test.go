package page_test

import (
	"bytes"
	"math"
	mathbits "math/bits"
	"slices"
	"testing"

	"incunable/api"
	"incunable/page"
)

// How many bytes the tag, the codeword of the tag, and a check word have.
const (
	tagBytes  = 24
	codeBytes = 30
	wordBytes = 2
)

// wordBits is how many bits of a check word the code covers: 0 to 13.
const wordBits = 14

// example is the geometry of the chapter's examples.
var example = api.Geom{Planes: 1, Blocks: 4, Pages: 4, Chunks: 2, Chunk: 8, Rungs: 1, Partial: 1}

// least and greatest have the least and the greatest pages.
var (
	least    = api.Geom{Planes: 1, Blocks: 2, Pages: 4, Chunks: 1, Chunk: 4, Rungs: 1, Partial: 1}
	greatest = api.Geom{Planes: 4, Blocks: 256, Pages: 64, Chunks: 16, Chunk: 512, Rungs: 8, Partial: 8}
)

// some is a valid tag whose numbers have different bytes.
var some = api.Tag{Kind: 2, Sector: 0x01020304, Seq: 0x1112131415161718, Erases: 0x21222324}

// geometries are valid ones, with pages of several forms.
func geometries() []api.Geom {
	all := []api.Geom{example, least}
	for _, form := range [][2]int{{1, 28}, {3, 5}, {16, 4}, {2, 30}, {1, 512}, {5, 33}} {
		g := example
		g.Chunks, g.Chunk = form[0], form[1]
		all = append(all, g)
	}
	return all
}

// wrongGeometries have the pages of example, as far as their numbers of
// chunks and bytes say, but are not valid.
func wrongGeometries() []api.Geom {
	all := []api.Geom{{}}
	change := func(f func(g *api.Geom)) {
		g := example
		f(&g)
		all = append(all, g)
	}
	for _, n := range []int{0, -1, math.MinInt, math.MaxInt} {
		change(func(g *api.Geom) { g.Planes = n })
		change(func(g *api.Geom) { g.Blocks = n })
		change(func(g *api.Geom) { g.Pages = n })
		change(func(g *api.Geom) { g.Chunks = n })
		change(func(g *api.Geom) { g.Chunk = n })
		change(func(g *api.Geom) { g.Rungs = n })
		change(func(g *api.Geom) { g.Partial = n })
	}
	change(func(g *api.Geom) { g.Planes = 5; g.Blocks = 10 })
	change(func(g *api.Geom) { g.Planes = 3 })
	change(func(g *api.Geom) { g.Blocks = 1 })
	change(func(g *api.Geom) { g.Blocks = 257 })
	change(func(g *api.Geom) { g.Pages = 2 })
	change(func(g *api.Geom) { g.Pages = 5 })
	change(func(g *api.Geom) { g.Pages = 66 })
	change(func(g *api.Geom) { g.Chunks = 17 })
	change(func(g *api.Geom) { g.Chunk = 3 })
	change(func(g *api.Geom) { g.Chunk = 513 })
	change(func(g *api.Geom) { g.Rungs = 9 })
	change(func(g *api.Geom) { g.Partial = 9 })
	return all
}

// validTags are tags of all kinds, with each number at its edges and between.
func validTags() []api.Tag {
	all := []api.Tag{some}
	for kind := 1; kind <= 4; kind++ {
		all = append(all,
			api.Tag{Kind: kind},
			api.Tag{Kind: kind, Sector: 7, Seq: 100, Erases: 2},
			api.Tag{Kind: kind, Sector: 1<<31 - 1, Seq: 1<<61 - 1, Erases: 1<<31 - 1},
			api.Tag{Kind: kind, Sector: 1 << 31, Seq: 1 << 61, Erases: 1 << 31})
	}
	return all
}

// wrongTags are tags with one number beyond its limits, the zero tag, and one
// with all of them beyond.
func wrongTags() []api.Tag {
	all := []api.Tag{{}, {Kind: -1, Sector: -1, Seq: -1, Erases: -1}}
	for _, n := range []int{-1, math.MinInt, math.MaxInt} {
		all = append(all,
			api.Tag{Kind: n}, api.Tag{Kind: 1, Sector: n}, api.Tag{Kind: 1, Seq: n}, api.Tag{Kind: 1, Erases: n})
	}
	return append(all,
		api.Tag{Kind: 0, Sector: 7}, api.Tag{Kind: 5}, api.Tag{Kind: 257},
		api.Tag{Kind: 1, Sector: 1<<31 + 1}, api.Tag{Kind: 1, Seq: 1<<61 + 1}, api.Tag{Kind: 1, Erases: 1<<31 + 1})
}

// pattern is n bytes that differ from each other without an order that one
// sees.
func pattern(n, start int) []byte {
	b := make([]byte, n)
	x := uint32(start)
	for i := range b {
		x = x*1664525 + 1013904223
		b[i] = byte(x >> 24)
	}
	return b
}

// contents are several data for a page of g.
func contents(g api.Geom) [][]byte {
	n := g.Chunks * g.Chunk
	return [][]byte{pattern(n, 1), pattern(n, 77), make([]byte, n), bytes.Repeat([]byte{0xff}, n)}
}

// turned is a copy of b with these bits inverted.
func turned(b []byte, at ...int) []byte {
	c := slices.Clone(b)
	for _, k := range at {
		c[k/8] ^= 1 << (k % 8)
	}
	return c
}

// changed is a copy of b with another byte at a place.
func changed(b []byte, at int, v byte) []byte {
	c := slices.Clone(b)
	c[at] = v
	return c
}

// zeroBits counts the bits of b that are 0.
func zeroBits(b []byte) int {
	n := 0
	for _, v := range b {
		n += 8 - mathbits.OnesCount8(v)
	}
	return n
}

// plainWord goes by the words of chapter 5: the exclusive or of the positions
// of all ones, a bit that makes the ones even, and two ones.
func plainWord(b []byte) []byte {
	sum, ones, place := 0, 0, 2
	for k := range len(b) * 8 {
		for place++; place&(place-1) == 0; place++ {
		}
		if b[k/8]>>(k%8)&1 == 1 {
			sum ^= place
			ones++
		}
	}
	for i := range 13 {
		ones += sum >> i & 1
	}
	w := sum | ones%2<<13 | 1<<14 | 1<<15
	return []byte{byte(w), byte(w >> 8)}
}

// plainSum goes by the words of chapter 2, bit by bit.
func plainSum(b []byte) []byte {
	register := uint32(math.MaxUint32)
	for k := range len(b) * 8 {
		differ := uint32(b[k/8]>>(k%8)&1) != register&1
		register >>= 1
		if differ {
			register ^= 0xedb88320
		}
	}
	register = ^register
	return []byte{byte(register), byte(register >> 8), byte(register >> 16), byte(register >> 24)}
}

// plainTag goes by the words of chapter 7, and takes tags that are not valid
// too.
func plainTag(t api.Tag) []byte {
	b := []byte{0, 0, byte(t.Kind)}
	for _, f := range [][2]int{{t.Sector, 4}, {t.Seq, 8}, {t.Erases, 4}} {
		for i := range f[1] {
			b = append(b, byte(f[0]>>(8*i)))
		}
	}
	return append(b, 0, 0, 0, 0, 0)
}

// plainPage goes by the words of the chapter: the codewords of the chunks,
// that of the tag's bytes with the bytes of a checksum behind them, and ff.
func plainPage(g api.Geom, data, label, sum []byte) []byte {
	var raw []byte
	for i := range g.Chunks {
		piece := data[i*g.Chunk : (i+1)*g.Chunk]
		raw = slices.Concat(raw, piece, plainWord(piece))
	}
	last := slices.Concat(label, sum)
	return slices.Concat(raw, last, plainWord(last), []byte{0xff})
}

// plainRaw is the raw page of data and a tag, with the right checksum.
func plainRaw(g api.Geom, data []byte, t api.Tag) []byte {
	return sealed(g, data, plainTag(t))
}

// sealed is a raw page with these bytes as those of its tag, and the right
// checksum.
func sealed(g api.Geom, data, label []byte) []byte {
	return plainPage(g, data, label, plainSum(slices.Concat(data, label)))
}

// codeAt is the place of the codeword of the tag, in bytes.
func codeAt(g api.Geom) int {
	return g.Chunks * (g.Chunk + wordBytes)
}

// codeword is a codeword of a raw page: where it begins, and how many bits its
// bytes have, before the word.
type codeword struct {
	at, bits int
}

// codewords are those of the chunks, in order, and that of the tag.
func codewords(g api.Geom) []codeword {
	var all []codeword
	for i := range g.Chunks {
		all = append(all, codeword{i * (g.Chunk + wordBytes) * 8, g.Chunk * 8})
	}
	return append(all, codeword{codeAt(g) * 8, (codeBytes - wordBytes) * 8})
}

// encoded fails unless data and a tag have a raw page, and returns it.
func encoded(t *testing.T, g api.Geom, data []byte, x api.Tag) []byte {
	t.Helper()
	raw, e := page.Encode(g, data, x)
	if e != api.OK {
		t.Fatalf("Encode(%+v, %d bytes, %+v): error %d", g, len(data), x, e)
	}
	return raw
}

// refuseEncode fails unless Encode answers ErrArg, and nothing beside it.
func refuseEncode(t *testing.T, g api.Geom, data []byte, x api.Tag) {
	t.Helper()
	if raw, e := page.Encode(g, data, x); len(raw) != 0 || e != api.ErrArg {
		t.Errorf("Encode(%+v, %d bytes, %+v) = %d bytes, %d, not nothing, ErrArg", g, len(data), x, len(raw), e)
	}
}

// expect fails unless Decode answers these data, this tag and this state.
func expect(t *testing.T, g api.Geom, raw, data []byte, x api.Tag, state int) {
	t.Helper()
	d, y, s, e := page.Decode(g, raw)
	if !bytes.Equal(d, data) || y != x || s != state || e != api.OK {
		t.Errorf("Decode(%+v, % x) = % x, %+v, %d, %d, not % x, %+v, %d, OK", g, raw, d, y, s, e, data, x, state)
	}
}

// expectEmpty fails unless Decode answers nothing and Empty.
func expectEmpty(t *testing.T, g api.Geom, raw []byte) {
	t.Helper()
	expect(t, g, raw, nil, api.Tag{}, api.Empty)
}

// refuse fails unless Decode answers this error, and nothing beside it.
func refuse(t *testing.T, g api.Geom, raw []byte, want api.Errno) {
	t.Helper()
	d, y, s, e := page.Decode(g, raw)
	if len(d) != 0 || y != (api.Tag{}) || s != 0 || e != want {
		t.Errorf("Decode(%+v, % x) = % x, %+v, %d, %d, not nothing, %d", g, raw, d, y, s, e, want)
	}
}

func TestP81Examples(t *testing.T) {
	raw := encoded(t, example, []byte("sixteen bytes ok"), some)
	if len(raw) != 51 || page.Marked(example, raw) {
		t.Errorf("a raw page of 2 chunks of 8 bytes has %d bytes, and is marked: %t", len(raw), page.Marked(example, raw))
	}
	if !page.Marked(example, changed(raw, 50, 0)) {
		t.Error("with 0 as its last byte it is not marked")
	}
	if raw := encoded(t, least, []byte("four"), some); len(raw) != 6+28+2+1 {
		t.Errorf("a raw page of 1 chunk of 4 bytes has %d bytes", len(raw))
	}
}

func TestP81RawPageWrittenOut(t *testing.T) {
	raw := encoded(t, example, make([]byte, 16), api.Tag{Kind: api.KindData})
	zero := []byte{0, 0, 0, 0, 0, 0, 0, 0, 0x00, 0xc0}
	// The checksum of 16 zero bytes and a tag whose third byte is 1.
	label := slices.Concat([]byte{0, 0, 1}, make([]byte, 21), plainSum(slices.Concat(make([]byte, 18), []byte{1}, make([]byte, 21))))
	want := slices.Concat(zero, zero, label, plainWord(label), []byte{0xff})
	if !bytes.Equal(raw, want) {
		t.Errorf("Encode of zeros = % x, not % x", raw, want)
	}
	raw = encoded(t, least, []byte{0x01, 0x80, 0x55, 0x00}, some)
	head := []byte{0x01, 0x80, 0x55, 0x00, 0x1e, 0xc0, 0, 0, 2, 4, 3, 2, 1, 0x18, 0x17, 0x16, 0x15, 0x14, 0x13, 0x12, 0x11, 0x24, 0x23, 0x22, 0x21, 0, 0, 0, 0, 0}
	if !bytes.HasPrefix(raw, head) || raw[36] != 0xff {
		t.Errorf("Encode of 01 80 55 00 = % x, not % x ..", raw, head)
	}
}

func TestP81RawPagesAgainstThePlainOnes(t *testing.T) {
	for _, g := range append(geometries(), greatest) {
		for _, data := range contents(g) {
			for _, x := range []api.Tag{some, {Kind: 1}, {Kind: 4, Sector: 1 << 31, Seq: 1 << 61, Erases: 1 << 31}} {
				if raw, want := encoded(t, g, data, x), plainRaw(g, data, x); !bytes.Equal(raw, want) {
					t.Errorf("Encode(%+v, % x, %+v) = % x, not % x", g, data, x, raw, want)
				}
			}
		}
	}
	for _, x := range validTags() {
		data := pattern(16, 3)
		if raw, want := encoded(t, example, data, x), plainRaw(example, data, x); !bytes.Equal(raw, want) {
			t.Errorf("Encode(% x, %+v) = % x, not % x", data, x, raw, want)
		}
	}
}

func TestP81OtherNumbersOfTheGeometryDoNotCount(t *testing.T) {
	data := pattern(16, 4)
	want := plainRaw(example, data, some)
	other := api.Geom{Planes: 4, Blocks: 256, Pages: 64, Chunks: 2, Chunk: 8, Rungs: 8, Partial: 8}
	if raw := encoded(t, other, data, some); !bytes.Equal(raw, want) {
		t.Errorf("Encode(%+v, ..) = % x, not % x", other, raw, want)
	}
	expect(t, other, want, data, some, api.Whole)
}

func TestP81WrongGeometries(t *testing.T) {
	for _, g := range wrongGeometries() {
		for _, n := range []int{0, 1, 16, 51} {
			b := pattern(n, n)
			refuseEncode(t, g, b, some)
			if page.Marked(g, b) || page.Marked(g, make([]byte, n)) {
				t.Errorf("Marked(%+v, %d bytes) = true", g, n)
			}
		}
		refuseEncode(t, g, nil, some)
		if page.Marked(g, nil) {
			t.Errorf("Marked(%+v, nil) = true", g)
		}
		if raw := page.Erased(g); len(raw) != 0 {
			t.Errorf("Erased(%+v) has %d bytes", g, len(raw))
		}
	}
}

func TestP81NumbersOfBytes(t *testing.T) {
	for _, g := range append(geometries(), greatest) {
		n := g.Chunks * g.Chunk
		refuseEncode(t, g, nil, some)
		for _, wrong := range []int{0, 1, n - 1, n + 1, n + g.Chunk, n - g.Chunk, 2 * n, codeAt(g) + codeBytes + 1, 1 << 16} {
			refuseEncode(t, g, pattern(wrong, 5), some)
		}
		encoded(t, g, pattern(n, 5), some)
	}
}

func TestP81WrongTags(t *testing.T) {
	for _, x := range wrongTags() {
		refuseEncode(t, example, pattern(16, 6), x)
		refuseEncode(t, greatest, pattern(16*512, 6), x)
		// All three are wrong at once.
		refuseEncode(t, api.Geom{}, nil, x)
	}
}

func TestP81Erased(t *testing.T) {
	for _, g := range append(geometries(), greatest) {
		want := bytes.Repeat([]byte{0xff}, g.Chunks*(g.Chunk+2)+28+2+1)
		if raw := page.Erased(g); !bytes.Equal(raw, want) {
			t.Errorf("Erased(%+v) = % x", g, raw)
		}
		if page.Marked(g, want) {
			t.Errorf("an erased page of %+v is marked", g)
		}
	}
}

func TestP81EachMark(t *testing.T) {
	for _, g := range append(geometries(), greatest) {
		n := codeAt(g) + codeBytes + 1
		written := plainRaw(g, pattern(g.Chunks*g.Chunk, 7), some)
		// What stands before the mark does not count, nor whether it is a page.
		for _, raw := range [][]byte{written, make([]byte, n), bytes.Repeat([]byte{0xff}, n), pattern(n, 8)} {
			for v := range 256 {
				ones := 0
				for i := range 8 {
					ones += v >> i & 1
				}
				if got := page.Marked(g, changed(raw, n-1, byte(v))); got != (ones < 4) {
					t.Errorf("Marked(%+v) with the mark %02x = %t", g, v, got)
				}
			}
		}
	}
}

func TestP81MarkedOfOtherLengths(t *testing.T) {
	for _, g := range append(geometries(), greatest) {
		n := codeAt(g) + codeBytes + 1
		if !page.Marked(g, make([]byte, n)) {
			t.Errorf("Marked(%+v, %d zero bytes) = false", g, n)
		}
		for _, wrong := range []int{0, 1, 2, n - 2, n - 1, n + 1, n + 2, 2 * n, g.Chunks * g.Chunk} {
			if page.Marked(g, make([]byte, wrong)) {
				t.Errorf("Marked(%+v, %d zero bytes) = true", g, wrong)
			}
		}
		if page.Marked(g, nil) {
			t.Errorf("Marked(%+v, nil) = true", g)
		}
	}
}

func TestP81ArgumentsAreNotChangedNorShared(t *testing.T) {
	for _, g := range append(geometries(), greatest) {
		n := g.Chunks * g.Chunk
		// There is room behind the data that a codeword must not be put into.
		room := append(pattern(n, 9), bytes.Repeat([]byte{0x77}, 200)...)
		before := slices.Clone(room)
		raw := encoded(t, g, room[:n], some)
		clear(raw)
		if !bytes.Equal(room, before) {
			t.Errorf("%+v: the data, or what stands behind it, has changed", g)
		}
		raw = changed(plainRaw(g, before[:n], some), codeAt(g)+codeBytes, 0)
		kept := slices.Clone(raw)
		page.Marked(g, raw)
		if !bytes.Equal(raw, kept) {
			t.Errorf("%+v: Marked has changed the raw page", g)
		}
		first, second := page.Erased(g), page.Erased(g)
		clear(first)
		if zeroBits(second) != 0 || zeroBits(page.Erased(g)) != 0 {
			t.Errorf("%+v: two erased pages are one", g)
		}
	}
}

func TestP82Examples(t *testing.T) {
	data := []byte("sixteen bytes ok")
	raw := encoded(t, example, data, some)
	expect(t, example, raw, data, some, api.Whole)
	expect(t, example, turned(raw, 5, 100, 200), data, some, api.Mended)
	refuse(t, example, turned(raw, 5, 6), api.ErrBits)
}

func TestP82WrongGeometries(t *testing.T) {
	raw := plainRaw(example, pattern(16, 1), some)
	for _, g := range wrongGeometries() {
		refuse(t, g, raw, api.ErrArg)
		refuse(t, g, bytes.Repeat([]byte{0xff}, 51), api.ErrArg)
		refuse(t, g, turned(raw, 5, 6), api.ErrArg)
		refuse(t, g, []byte{}, api.ErrArg)
		refuse(t, g, nil, api.ErrArg)
	}
}

func TestP82NumbersOfBytes(t *testing.T) {
	for _, g := range append(geometries(), greatest) {
		raw := plainRaw(g, pattern(g.Chunks*g.Chunk, 2), some)
		refuse(t, g, nil, api.ErrArg)
		refuse(t, g, raw[1:], api.ErrArg)
		refuse(t, g, append(slices.Clone(raw), 0xff), api.ErrArg)
		refuse(t, g, append([]byte{0xff}, raw...), api.ErrArg)
		for _, n := range []int{0, 1, 2, len(raw) - 2, len(raw) - 1, len(raw) + 1, len(raw) + 2, 2 * len(raw), 1 << 16} {
			// Bytes ff would be empty, and zeros rejected, with another length.
			refuse(t, g, make([]byte, n), api.ErrArg)
			refuse(t, g, bytes.Repeat([]byte{0xff}, n), api.ErrArg)
		}
	}
}

func TestP82RawPageOfAnotherForm(t *testing.T) {
	// These have raw pages of the same number of bytes, divided otherwise.
	one, two := example, example
	one.Chunks, one.Chunk = 1, 18
	raw := plainRaw(one, pattern(18, 3), some)
	expect(t, one, raw, pattern(18, 3), some, api.Whole)
	refuse(t, two, raw, api.ErrBits)
}

func TestP82EachMarkIsLeftOut(t *testing.T) {
	data := pattern(16, 4)
	raw := plainRaw(example, data, some)
	erased := bytes.Repeat([]byte{0xff}, 51)
	for v := range 256 {
		expect(t, example, changed(raw, 50, byte(v)), data, some, api.Whole)
		expect(t, example, changed(turned(raw, 3), 50, byte(v)), data, some, api.Mended)
		refuse(t, example, changed(turned(raw, 3, 4), 50, byte(v)), api.ErrBits)
		expectEmpty(t, example, changed(erased, 50, byte(v)))
	}
}

func TestP82EmptyUpToTwentyZeroBits(t *testing.T) {
	for _, g := range append(geometries(), greatest) {
		first := codeAt(g) * 8
		erased := bytes.Repeat([]byte{0xff}, codeAt(g)+codeBytes+1)
		for n := range 60 {
			var low, high, spread []int
			for i := range n {
				low = append(low, first+i)
				high = append(high, first+codeBytes*8-1-i)
				spread = append(spread, first+i*239%(codeBytes*8))
			}
			for _, at := range [][]int{low, high, spread} {
				raw := turned(erased, at...)
				if zeroBits(raw) != n {
					t.Fatalf("%d bits are 0, not %d", zeroBits(raw), n)
				}
				if n <= 20 {
					expectEmpty(t, g, raw)
				} else if _, _, s, _ := page.Decode(g, raw); s == api.Empty {
					t.Errorf("with %d bits at 0 from %d on, a page of %+v is Empty", n, at[0], g)
				}
			}
		}
	}
}

func TestP82EmptyBeforeTheTagIsLookedAt(t *testing.T) {
	// All codewords and the checksum are right, and the tag is not valid: how
	// many bits are 0 hangs on the checksum, and so on the data.
	seen := map[int]int{}
	for start := range 2000 {
		raw := sealed(least, pattern(4, start), bytes.Repeat([]byte{0xff}, tagBytes))
		// Right codewords have an even number of such bits; one inverted bit,
		// which is corrected, makes it odd.
		for _, raw := range [][]byte{raw, turned(raw, codeAt(least)*8+start%tagBytes)} {
			zeros := zeroBits(raw[codeAt(least) : codeAt(least)+codeBytes])
			seen[zeros]++
			if zeros <= 20 {
				expectEmpty(t, least, raw)
			} else {
				refuse(t, least, raw, api.ErrForm)
			}
		}
	}
	if seen[20] == 0 || seen[21] == 0 {
		t.Errorf("20 and 21 bits at 0 have not both occurred: %v", seen)
	}
}

func TestP82WhatTheChunksHaveDoesNotMakeAPageEmptyOrNot(t *testing.T) {
	for _, g := range geometries() {
		n := g.Chunks * g.Chunk
		code := codeAt(g)
		for _, chunks := range [][]byte{make([]byte, code), pattern(code, 5), plainRaw(g, pattern(n, 6), some)[:code]} {
			for _, mark := range []byte{0xff, 0} {
				last := append(bytes.Repeat([]byte{0xff}, codeBytes), mark)
				expectEmpty(t, g, slices.Concat(chunks, last))
			}
		}
		// Chunks of ones alone are no empty page.
		data := bytes.Repeat([]byte{0xff}, n)
		expect(t, g, plainRaw(g, data, some), data, some, api.Whole)
		// Erased chunks are no codewords, and are looked at if the tag was written.
		erased := bytes.Repeat([]byte{0xff}, code)
		got, y, s, e := page.Decode(g, slices.Concat(erased, plainRaw(g, data, some)[code:]))
		if e == api.OK || s != 0 || len(got) != 0 || y != (api.Tag{}) {
			t.Errorf("erased chunks of %+v with a written tag: % x, %+v, %d, %d", g, got, y, s, e)
		}
	}
}

func TestP82EachSingleBit(t *testing.T) {
	for _, g := range geometries() {
		data := pattern(g.Chunks*g.Chunk, 7)
		raw := plainRaw(g, data, some)
		for _, c := range codewords(g) {
			for k := range c.bits + wordBits {
				expect(t, g, turned(raw, c.at+k), data, some, api.Mended)
			}
			// The bits 14 and 15 of a word belong to no code: no turned bit is
			// found there.
			for k := wordBits; k < wordBytes*8; k++ {
				expect(t, g, turned(raw, c.at+c.bits+k), data, some, api.Whole)
			}
		}
		for k := range 8 {
			expect(t, g, turned(raw, len(raw)*8-8+k), data, some, api.Whole)
		}
	}
}

func TestP82ErrSum(t *testing.T) {
	for _, g := range geometries() {
		data := pattern(g.Chunks*g.Chunk, 8)
		label := plainTag(some)
		sum := plainSum(slices.Concat(data, label))
		for k := range 32 {
			refuse(t, g, plainPage(g, data, label, turned(sum, k)), api.ErrSum)
		}
		for k := range len(data) * 8 {
			refuse(t, g, plainPage(g, turned(data, k), label, sum), api.ErrSum)
		}
		for k := range len(label) * 8 {
			refuse(t, g, plainPage(g, data, turned(label, k), sum), api.ErrSum)
		}
		reversed := slices.Clone(sum)
		slices.Reverse(reversed)
		for _, wrong := range [][]byte{reversed, {0, 0, 0, 0}, {0xff, 0xff, 0xff, 0xff}, plainSum(data), plainSum(label), plainSum(slices.Concat(label, data))} {
			refuse(t, g, plainPage(g, data, label, wrong), api.ErrSum)
		}
		expect(t, g, plainPage(g, data, label, sum), data, some, api.Whole)
	}
}

func TestP82ErrSumOfMendedPages(t *testing.T) {
	data := pattern(16, 9)
	label := plainTag(some)
	raw := plainPage(example, data, label, []byte{1, 2, 3, 4})
	for k := range codeAt(example)*8 + codeBytes*8 {
		refuse(t, example, turned(raw, k), api.ErrSum)
	}
	// A codeword of another page is a right one, but not of this checksum.
	other := plainRaw(example, pattern(16, 10), some)
	mixed := slices.Concat(other[:10], plainRaw(example, data, some)[10:])
	refuse(t, example, mixed, api.ErrSum)
	// Exchanged chunks have right codewords too.
	mine := plainRaw(example, data, some)
	refuse(t, example, slices.Concat(mine[10:20], mine[:10], mine[20:]), api.ErrSum)
}

func TestP82TagsThatAreNotValid(t *testing.T) {
	for _, g := range geometries() {
		data := pattern(g.Chunks*g.Chunk, 11)
		for _, x := range []api.Tag{
			{},
			{Kind: 0, Sector: 1}, {Kind: 5}, {Kind: 255},
			{Kind: 1, Sector: 1<<31 + 1}, {Kind: 1, Sector: 1<<32 - 1},
			{Kind: 1, Seq: 1<<61 + 1}, {Kind: 1, Seq: 1 << 62}, {Kind: 1, Seq: 1<<62 + 1}, {Kind: 1, Seq: -1},
			{Kind: 1, Erases: 1<<31 + 1}, {Kind: 1, Erases: 1<<32 - 1},
		} {
			raw := plainRaw(g, data, x)
			refuse(t, g, raw, api.ErrForm)
			for _, c := range codewords(g) {
				refuse(t, g, turned(raw, c.at+3), api.ErrForm)
			}
		}
		for _, at := range []int{0, 1, 19, 20, 21, 22, 23} {
			for v := 1; v <= 255; v++ {
				refuse(t, g, sealed(g, data, changed(plainTag(some), at, byte(v))), api.ErrForm)
			}
		}
	}
}

func TestP82EachKindInItsByte(t *testing.T) {
	data := pattern(16, 12)
	for v := range 256 {
		raw := sealed(example, data, changed(plainTag(some), 2, byte(v)))
		if v < 1 || v > 4 {
			refuse(t, example, raw, api.ErrForm)
			continue
		}
		want := some
		want.Kind = v
		expect(t, example, raw, data, want, api.Whole)
	}
}

func TestP82WhichErrorIsNamedFirst(t *testing.T) {
	g := example
	data := pattern(16, 13)
	wrong := plainTag(api.Tag{Kind: 9})
	// The tag is not valid, and the checksum is another one.
	badSum := plainPage(g, data, wrong, []byte{1, 2, 3, 4})
	refuse(t, g, badSum, api.ErrSum)
	for _, c := range codewords(g) {
		refuse(t, g, turned(badSum, c.at), api.ErrSum)
		// And a codeword is rejected.
		refuse(t, g, turned(badSum, c.at, c.at+c.bits-1), api.ErrBits)
		refuse(t, g, turned(sealed(g, data, wrong), c.at, c.at+c.bits-1), api.ErrBits)
		// And its length is another one.
		refuse(t, g, turned(badSum, c.at, c.at+c.bits-1)[1:], api.ErrArg)
		refuse(t, g, append(turned(badSum, c.at, c.at+c.bits-1), 0xff), api.ErrArg)
	}
	// The page is empty, and the codewords of all chunks are rejected.
	raw := turned(badSum, 0, 1, 80, 81)
	expectEmpty(t, g, slices.Concat(raw[:20], bytes.Repeat([]byte{0xff}, codeBytes+1)))
	// It would be empty, but for its length, or for its geometry.
	refuse(t, g, bytes.Repeat([]byte{0xff}, 50), api.ErrArg)
	refuse(t, api.Geom{}, bytes.Repeat([]byte{0xff}, 51), api.ErrArg)
}

func TestP82ArgumentsAreNotChangedNorShared(t *testing.T) {
	for _, g := range append(geometries(), greatest) {
		data := pattern(g.Chunks*g.Chunk, 14)
		whole := plainRaw(g, data, some)
		first := codeAt(g) * 8
		for _, raw := range [][]byte{
			whole, turned(whole, 5), turned(whole, 5, first+7), turned(whole, 5, 6), turned(whole, first, first+1),
			bytes.Repeat([]byte{0xff}, len(whole)), make([]byte, len(whole)), whole[1:],
			plainPage(g, data, plainTag(some), []byte{1, 2, 3, 4}), plainRaw(g, data, api.Tag{}),
		} {
			// There is room behind the raw page that must stay as it is.
			room := append(slices.Clone(raw), bytes.Repeat([]byte{0x77}, 100)...)
			before := slices.Clone(room)
			d, _, _, _ := page.Decode(g, room[:len(raw)])
			for i := range d {
				d[i] ^= 0xff
			}
			_ = append(d, 1, 2, 3)
			if !bytes.Equal(room, before) {
				t.Errorf("%+v: the raw page, or what stands behind it, has changed", g)
			}
		}
	}
}

func TestP83ThereAndBack(t *testing.T) {
	for _, g := range append(geometries(), greatest) {
		for _, data := range contents(g) {
			for _, x := range []api.Tag{some, {Kind: 1}, {Kind: 3, Sector: 1<<31 - 1, Seq: 1<<61 - 1, Erases: 1<<31 - 1}} {
				expect(t, g, encoded(t, g, data, x), data, x, api.Whole)
			}
		}
	}
	for _, x := range validTags() {
		expect(t, example, encoded(t, example, pattern(16, 15), x), pattern(16, 15), x, api.Whole)
	}
}

func TestP83OneBitInEachCodeword(t *testing.T) {
	for _, g := range append(geometries(), greatest) {
		data := pattern(g.Chunks*g.Chunk, 16)
		raw := encoded(t, g, data, some)
		all := codewords(g)
		for round := range 60 {
			var at []int
			for i, c := range all {
				at = append(at, c.at+(round*37+i*101)%(c.bits+wordBits))
			}
			expect(t, g, turned(raw, at...), data, some, api.Mended)
			// In some of them only, and in all but one.
			expect(t, g, turned(raw, at[:1+round%len(at)]...), data, some, api.Mended)
			expect(t, g, turned(raw, at[round%len(at):]...), data, some, api.Mended)
		}
		// The first and the last bit that the code covers.
		var low, high []int
		for _, c := range all {
			low = append(low, c.at)
			high = append(high, c.at+c.bits+wordBits-1)
		}
		expect(t, g, turned(raw, low...), data, some, api.Mended)
		expect(t, g, turned(raw, high...), data, some, api.Mended)
	}
}

func TestP83EachTwoBitsInOneCodeword(t *testing.T) {
	for _, g := range []api.Geom{least, example} {
		raw := encoded(t, g, pattern(g.Chunks*g.Chunk, 17), some)
		for _, c := range codewords(g) {
			for i := range c.bits + wordBits {
				for j := range i {
					refuse(t, g, turned(raw, c.at+i, c.at+j), api.ErrBits)
				}
			}
		}
	}
}

func TestP83TwoBitsInEachCodewordOfGreatPages(t *testing.T) {
	for _, g := range append(geometries(), greatest) {
		raw := encoded(t, g, pattern(g.Chunks*g.Chunk, 18), some)
		all := codewords(g)
		for n, c := range all {
			for round := range 20 {
				i := (round*61 + n) % (c.bits + wordBits)
				j := (i + 1 + round*13) % (c.bits + wordBits)
				if i == j {
					continue
				}
				refuse(t, g, turned(raw, c.at+i, c.at+j), api.ErrBits)
				// One inverted bit in another codeword does not change that.
				other := all[(n+1)%len(all)]
				refuse(t, g, turned(raw, c.at+i, c.at+j, other.at+2), api.ErrBits)
			}
		}
	}
}

func TestP83TwoBitsOfWhichOneIsInNoCode(t *testing.T) {
	// Chapter 6 promises ErrBits for two bits that the code covers; the others
	// are left out by chapter 5, and the page is right all the same.
	data := pattern(16, 19)
	raw := encoded(t, example, data, some)
	for _, c := range codewords(example) {
		beyond := c.at + c.bits + wordBits
		expect(t, example, turned(raw, beyond, beyond+1), data, some, api.Whole)
		for k := range c.bits + wordBits {
			expect(t, example, turned(raw, c.at+k, beyond), data, some, api.Mended)
			expect(t, example, turned(raw, c.at+k, beyond, beyond+1), data, some, api.Mended)
		}
	}
}

func TestP83ErasedPagesAreEmpty(t *testing.T) {
	for _, g := range append(geometries(), greatest) {
		raw := page.Erased(g)
		expectEmpty(t, g, raw)
		step := 1 + len(raw)*8/500
		for k := 0; k < len(raw)*8; k += step {
			expectEmpty(t, g, turned(raw, k))
			expectEmpty(t, g, turned(raw, k, (k+1)%(len(raw)*8), (k+77)%(len(raw)*8)))
		}
		// Bits of the chunks may be inverted in any number.
		expectEmpty(t, g, slices.Concat(make([]byte, codeAt(g)), raw[codeAt(g):]))
	}
}

func TestP83EncodedPagesAreNotEmpty(t *testing.T) {
	for _, g := range geometries() {
		for _, data := range contents(g) {
			for _, x := range validTags() {
				raw := encoded(t, g, data, x)
				if _, _, s, e := page.Decode(g, raw); s == api.Empty || e != api.OK {
					t.Errorf("Encode(%+v, % x, %+v) is %d, %d", g, data, x, s, e)
				}
				if n := zeroBits(raw[codeAt(g) : codeAt(g)+codeBytes]); n <= 20 {
					t.Errorf("the codeword of %+v has %d zero bits", x, n)
				}
			}
		}
	}
}
