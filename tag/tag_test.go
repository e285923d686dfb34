package tag_test

import (
	"bytes"
	"math"
	mathbits "math/bits"
	"slices"
	"testing"

	"incunable/api"
	"incunable/tag"
)

// tagBytes is how many bytes a tag has.
const tagBytes = 24

// Where the fields of a tag begin.
const (
	kindAt   = 2
	sectorAt = 3
	seqAt    = 7
	erasesAt = 15
)

// zeroAt are the places of the bytes that must be 0.
var zeroAt = [7]int{0, 1, 19, 20, 21, 22, 23}

// The greatest numbers, written out as the document has them.
const (
	topSector = 2147483648
	topSeq    = 2305843009213693952
	topErases = 2147483648
)

// some is a valid tag whose numbers have different bytes.
var some = api.Tag{Kind: 2, Sector: 0x01020304, Seq: 0x1112131415161718, Erases: 0x21222324}

// someBytes are the bytes of some, written out.
var someBytes = [tagBytes]byte{
	0, 0,
	2,
	0x04, 0x03, 0x02, 0x01,
	0x18, 0x17, 0x16, 0x15, 0x14, 0x13, 0x12, 0x11,
	0x24, 0x23, 0x22, 0x21,
	0, 0, 0, 0, 0,
}

// set puts n into the bytes of b from place at on, the least significant one
// first.
func set(b []byte, at, size int, n uint64) {
	for i := range size {
		b[at+i] = byte(n >> (8 * i))
	}
}

// plainBytes goes by the words of the chapter.
func plainBytes(x api.Tag) []byte {
	b := make([]byte, tagBytes)
	set(b, kindAt, 1, uint64(x.Kind))
	set(b, sectorAt, 4, uint64(x.Sector))
	set(b, seqAt, 8, uint64(x.Seq))
	set(b, erasesAt, 4, uint64(x.Erases))
	return b
}

// validTags are tags of all kinds, with each number at its edges and between.
func validTags() []api.Tag {
	sectors := []int{0, 1, 255, 256, 70000, 1<<31 - 1, topSector}
	seqs := []int{0, 1, 255, 1 << 32, 1 << 40, 1<<61 - 1, topSeq}
	counts := []int{0, 1, 3, 65536, 1<<31 - 1, topErases}
	var all []api.Tag
	for kind := 1; kind <= 4; kind++ {
		for _, sector := range sectors {
			for _, seq := range seqs {
				for _, erases := range counts {
					all = append(all, api.Tag{Kind: kind, Sector: sector, Seq: seq, Erases: erases})
				}
			}
		}
	}
	return append(all, some)
}

// wrongTags are tags with at least one number beyond its limits.
func wrongTags() []api.Tag {
	far := []int{-1, -2, -topSector, -topSeq, math.MinInt, math.MinInt + 1, math.MaxInt, math.MaxInt - 1}
	all := []api.Tag{{}, {Kind: -1, Sector: -1, Seq: -1, Erases: -1}}
	for _, base := range []api.Tag{some, {Kind: 1}, {Kind: 4, Sector: topSector, Seq: topSeq, Erases: topErases}} {
		for _, n := range append([]int{0, 5, 6, 255, 256, 257, 258, 1<<32 + 1, 1<<62 + 1}, far...) {
			x := base
			x.Kind = n
			all = append(all, x)
		}
		for _, n := range append([]int{topSector + 1, 1<<32 - 1, 1 << 32, 1<<32 + 1, 1 << 62}, far...) {
			x := base
			x.Sector = n
			all = append(all, x)
		}
		for _, n := range append([]int{topSeq + 1, 1<<62 - 1, 1 << 62, 1<<62 + 1}, far...) {
			x := base
			x.Seq = n
			all = append(all, x)
		}
		for _, n := range append([]int{topErases + 1, 1<<32 - 1, 1 << 32, 1<<32 + 1, 1 << 62}, far...) {
			x := base
			x.Erases = n
			all = append(all, x)
		}
	}
	return all
}

// accept fails unless x is valid, has these bytes, and is taken from them.
func accept(t *testing.T, x api.Tag, want []byte) {
	t.Helper()
	if !tag.May(x) {
		t.Errorf("May(%+v) = false", x)
	}
	if b, e := tag.Put(x); e != api.OK || !bytes.Equal(b, want) {
		t.Errorf("Put(%+v) = % x, %d, not % x, OK", x, b, e, want)
	}
	if y, e := tag.Take(want); e != api.OK || y != x {
		t.Errorf("Take(% x) = %+v, %d, not %+v, OK", want, y, e, x)
	}
}

// refusePut fails unless x is not valid, and Put answers ErrArg, and nothing
// beside it.
func refusePut(t *testing.T, x api.Tag) {
	t.Helper()
	if tag.May(x) {
		t.Errorf("May(%+v) = true", x)
	}
	if b, e := tag.Put(x); e != api.ErrArg || len(b) != 0 {
		t.Errorf("Put(%+v) = % x, %d, not nothing, ErrArg", x, b, e)
	}
}

// refuseTake fails unless Take answers this error, and the zero tag beside it.
func refuseTake(t *testing.T, b []byte, want api.Errno) {
	t.Helper()
	if x, e := tag.Take(b); e != want || x != (api.Tag{}) {
		t.Errorf("Take(% x) = %+v, %d, not the zero tag, %d", b, x, e, want)
	}
}

// latest fails unless Latest answers this index.
func latest(t *testing.T, want int, seqs ...int) {
	t.Helper()
	l := make([]api.Tag, len(seqs))
	for i, n := range seqs {
		l[i].Seq = n
	}
	if i, ok := tag.Latest(l...); !ok || i != want {
		t.Errorf("Latest of the Seq %v = %d, %t, not %d, true", seqs, i, ok, want)
	}
}

func TestP71Examples(t *testing.T) {
	refusePut(t, api.Tag{})
	refuseTake(t, someBytes[:23], api.ErrEnd)
	b := slices.Clone(someBytes[:])
	b[20] = 1
	refuseTake(t, b, api.ErrForm)
	for kind := 1; kind <= 4; kind++ {
		if b, e := tag.Put(api.Tag{Kind: kind}); e != api.OK || len(b) != tagBytes || b[2] != byte(kind) {
			t.Errorf("Put of kind %d = % x, %d: its third byte is another one", kind, b, e)
		}
	}
}

func TestP71BytesWrittenOut(t *testing.T) {
	accept(t, some, someBytes[:])
	accept(t, api.Tag{Kind: api.KindData}, []byte{0, 0, 1, 23: 0})
	accept(t, api.Tag{Kind: api.KindTrim, Sector: 300}, []byte{0, 0, 2, 0x2c, 0x01, 23: 0})
	accept(t, api.Tag{Kind: api.KindFiller, Seq: 300}, []byte{0, 0, 3, 7: 0x2c, 8: 0x01, 23: 0})
	accept(t, api.Tag{Kind: api.KindTable, Erases: 300}, []byte{0, 0, 4, 15: 0x2c, 16: 0x01, 23: 0})
	accept(t, api.Tag{Kind: 1, Sector: topSector, Seq: topSeq, Erases: topErases},
		[]byte{0, 0, 1, 6: 0x80, 14: 0x20, 18: 0x80, 23: 0})
	accept(t, api.Tag{Kind: 4, Sector: topSector - 1, Seq: topSeq - 1, Erases: topErases - 1},
		[]byte{0, 0, 4, 0xff, 0xff, 0xff, 0x7f, 0xff, 0xff, 0xff, 0xff, 0xff, 0xff, 0xff, 0x1f, 0xff, 0xff, 0xff, 0x7f, 23: 0})
}

func TestP71ValidTags(t *testing.T) {
	for _, x := range validTags() {
		accept(t, x, plainBytes(x))
	}
}

func TestP71WrongTags(t *testing.T) {
	for _, x := range wrongTags() {
		refusePut(t, x)
	}
}

func TestP71EachKind(t *testing.T) {
	for kind := -300; kind <= 300; kind++ {
		x := some
		x.Kind = kind
		if kind >= 1 && kind <= 4 {
			accept(t, x, plainBytes(x))
		} else {
			refusePut(t, x)
		}
	}
}

func TestP71EachLength(t *testing.T) {
	refuseTake(t, nil, api.ErrEnd)
	for n := range 100 {
		// Neither of these would be a tag if it were of the right length.
		for _, b := range [][]byte{make([]byte, n), bytes.Repeat([]byte{0xff}, n)} {
			switch {
			case n < tagBytes:
				refuseTake(t, b, api.ErrEnd)
			case n > tagBytes:
				refuseTake(t, b, api.ErrExtra)
			default:
				refuseTake(t, b, api.ErrForm)
			}
		}
	}
	for n := range tagBytes {
		refuseTake(t, someBytes[:n], api.ErrEnd)
	}
	for _, n := range []int{1, 2, tagBytes, 1000} {
		refuseTake(t, append(slices.Clone(someBytes[:]), make([]byte, n)...), api.ErrExtra)
	}
	accept(t, some, someBytes[:])
}

func TestP71BytesThatMustBeZero(t *testing.T) {
	for _, x := range []api.Tag{some, {Kind: 1}, {Kind: 4, Sector: topSector, Seq: topSeq, Erases: topErases}} {
		for _, at := range zeroAt {
			for v := 1; v <= 255; v++ {
				b := plainBytes(x)
				b[at] = byte(v)
				refuseTake(t, b, api.ErrForm)
			}
		}
		b := plainBytes(x)
		for _, at := range zeroAt {
			b[at] = 0xff
		}
		refuseTake(t, b, api.ErrForm)
	}
}

func TestP71EachKindInItsByte(t *testing.T) {
	for v := range 256 {
		b := slices.Clone(someBytes[:])
		b[kindAt] = byte(v)
		if v < 1 || v > 4 {
			refuseTake(t, b, api.ErrForm)
			continue
		}
		want := some
		want.Kind = v
		if x, e := tag.Take(b); e != api.OK || x != want {
			t.Errorf("Take of kind %d = %+v, %d, not %+v, OK", v, x, e, want)
		}
	}
}

func TestP71NumbersBeyondTheirLimitsInTheirBytes(t *testing.T) {
	fields := []struct {
		at, size int
		wrong    []uint64
	}{
		{sectorAt, 4, []uint64{topSector + 1, topSector + 2, 0xc0000000, 0xfffffffe, 0xffffffff}},
		// From 2^62 + 1 on the field itself is wrong; up to there, the tag.
		{seqAt, 8, []uint64{topSeq + 1, topSeq + 256, 3 << 60, 1<<62 - 1, 1 << 62, 1<<62 + 1, 1<<63 - 1, 1 << 63, 1<<63 + 1, math.MaxUint64}},
		{erasesAt, 4, []uint64{topErases + 1, topErases + 2, 0xc0000000, 0xfffffffe, 0xffffffff}},
	}
	for _, x := range []api.Tag{some, {Kind: 1}, {Kind: 4, Sector: topSector, Seq: topSeq, Erases: topErases}} {
		for _, f := range fields {
			for _, n := range f.wrong {
				b := plainBytes(x)
				set(b, f.at, f.size, n)
				refuseTake(t, b, api.ErrForm)
				// Too few and too many bytes are named before it.
				refuseTake(t, b[:tagBytes-1], api.ErrEnd)
				refuseTake(t, append(b, 0), api.ErrExtra)
			}
		}
	}
}

func TestP71EachByteThatIsChanged(t *testing.T) {
	for at := range tagBytes {
		for v := range 256 {
			b := slices.Clone(someBytes[:])
			b[at] = byte(v)
			x, e := tag.Take(b)
			if e != api.OK {
				refuseTake(t, b, api.ErrForm)
				continue
			}
			if !tag.May(x) || !bytes.Equal(plainBytes(x), b) {
				t.Errorf("Take(% x) = %+v, OK", b, x)
			}
		}
	}
}

func TestP71BytesAreNotChangedNorShared(t *testing.T) {
	for _, at := range []int{-1, kindAt, 20, seqAt + 7} {
		b := slices.Clone(someBytes[:])
		if at >= 0 {
			b[at] = 0xff
		}
		before := slices.Clone(b)
		tag.Take(b)
		if !bytes.Equal(b, before) {
			t.Errorf("% x has become % x", before, b)
		}
	}
	// Two answers are two lists, and what was taken stays as it was.
	first, _ := tag.Put(some)
	second, _ := tag.Put(some)
	x, _ := tag.Take(first)
	clear(first)
	if !bytes.Equal(second, someBytes[:]) || x != some {
		t.Errorf("with other bytes, % x and %+v have changed", second, x)
	}
	if again, _ := tag.Put(some); !bytes.Equal(again, someBytes[:]) {
		t.Errorf("Put after its answer was changed = % x", again)
	}
}

func TestP72Examples(t *testing.T) {
	latest(t, 1, 4, 9, 9)
	latest(t, 0, 8, 3)
	if i, ok := tag.Latest(api.Tag{Seq: 4}, api.Tag{Seq: 9}, api.Tag{Seq: 9}); !ok || i != 1 {
		t.Errorf("Latest of three tags = %d, %t, not 1, true", i, ok)
	}
}

func TestP72NoTag(t *testing.T) {
	if i, ok := tag.Latest(); ok || i != 0 {
		t.Errorf("Latest() = %d, %t, not 0, false", i, ok)
	}
	for _, l := range [][]api.Tag{nil, {}} {
		if i, ok := tag.Latest(l...); ok || i != 0 {
			t.Errorf("Latest of no tag = %d, %t, not 0, false", i, ok)
		}
	}
}

func TestP72OneTag(t *testing.T) {
	for _, n := range []int{0, 1, -1, 9, topSeq, topSeq + 1, math.MaxInt, math.MinInt} {
		latest(t, 0, n)
	}
}

func TestP72WhereTheGreatestIs(t *testing.T) {
	latest(t, 0, 9, 1, 5, 3)
	latest(t, 1, 1, 9, 5, 3)
	latest(t, 2, 1, 5, 9, 3)
	latest(t, 3, 1, 5, 3, 9)
	latest(t, 4, 1, 2, 3, 4, 5)
	latest(t, 0, 5, 4, 3, 2, 1)
	for n := 2; n <= 20; n++ {
		for at := range n {
			seqs := make([]int, n)
			for i := range seqs {
				seqs[i] = i * i * 7 % 50
			}
			seqs[at] = 50
			latest(t, at, seqs...)
		}
	}
}

func TestP72TheFirstOfTheGreatest(t *testing.T) {
	latest(t, 0, 0, 0, 0)
	latest(t, 0, 9, 9)
	latest(t, 0, 9, 4, 9)
	latest(t, 2, 4, 4, 9, 9, 4)
	latest(t, 1, 4, 9, 4, 9, 9)
	latest(t, 3, 1, 2, 3, topSeq, topSeq, topSeq-1, topSeq)
}

func TestP72NumbersThatNoValidTagHas(t *testing.T) {
	latest(t, 1, -5, -2, -9)
	latest(t, 0, -1, -1, -2)
	latest(t, 2, -3, -2, -1)
	latest(t, 1, -1, 0)
	latest(t, 1, math.MinInt, math.MaxInt)
	latest(t, 0, math.MaxInt, math.MinInt)
	latest(t, 1, math.MinInt, math.MinInt+1, math.MinInt)
	latest(t, 2, math.MinInt, topSeq, math.MaxInt, math.MaxInt)
	latest(t, 0, math.MinInt, math.MinInt)
}

func TestP72OtherNumbersDoNotCount(t *testing.T) {
	l := []api.Tag{
		{Kind: 4, Sector: topSector, Seq: 7, Erases: topErases},
		{Kind: 1, Seq: 8},
		{Kind: 9, Sector: -1, Seq: 8, Erases: -1},
		{Kind: 4, Sector: math.MaxInt, Seq: 6, Erases: math.MaxInt},
		{Kind: 3, Sector: 5, Seq: 8, Erases: 9},
	}
	if i, ok := tag.Latest(l...); !ok || i != 1 {
		t.Errorf("Latest of %+v = %d, %t, not 1, true", l, i, ok)
	}
	if i, ok := tag.Latest(l[2:]...); !ok || i != 0 {
		t.Errorf("Latest of %+v = %d, %t, not 0, true", l[2:], i, ok)
	}
}

func TestP72TagsAreNotChanged(t *testing.T) {
	l := []api.Tag{{Seq: 4}, some, {Kind: 3, Seq: 9}, {Seq: -1}, some}
	before := slices.Clone(l)
	tag.Latest(l...)
	if !slices.Equal(l, before) {
		t.Errorf("%+v has become %+v", before, l)
	}
}

func TestP72ManyTags(t *testing.T) {
	seqs := make([]int, 100000)
	for i := range seqs {
		seqs[i] = i * 7919 % 99991
	}
	seqs[77777], seqs[88888] = 100000, 100000
	latest(t, 77777, seqs...)
}

func TestP73ThereAndBack(t *testing.T) {
	for _, x := range validTags() {
		b, e := tag.Put(x)
		if e != api.OK {
			t.Fatalf("Put(%+v): error %d", x, e)
		}
		if y, e := tag.Take(b); e != api.OK || y != x {
			t.Errorf("Take of the bytes of %+v = %+v, %d", x, y, e)
		}
	}
}

func TestP73ZeroBits(t *testing.T) {
	// These have as many ones as the limits allow.
	full := api.Tag{Kind: 3, Sector: topSector - 1, Seq: topSeq - 1, Erases: topErases - 1}
	for _, x := range append(validTags(), full) {
		b, e := tag.Put(x)
		if e != api.OK {
			t.Fatalf("Put(%+v): error %d", x, e)
		}
		zeros := 0
		for _, v := range b {
			zeros += 8 - mathbits.OnesCount8(v)
		}
		if zeros < 50 {
			t.Errorf("the bytes of %+v, % x, contain %d zero bits", x, b, zeros)
		}
	}
}
