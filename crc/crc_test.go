package crc_test

import (
	"bytes"
	"hash/crc32"
	"slices"
	"testing"

	"incunable/crc"
)

// samples are byte strings of several lengths: none, equal and different bytes.
func samples() [][]byte {
	all := [][]byte{nil, {}, {0x00}, {0xff}, {0x80}, []byte("a"), []byte("123456789"), make([]byte, 4), make([]byte, 33), bytes.Repeat([]byte{0xff}, 4), bytes.Repeat([]byte{0xff}, 33)}
	for n := 2; n <= 80; n += 13 {
		b := make([]byte, n)
		for i := range b {
			b[i] = byte(i*i*37 + n*91 + 5)
		}
		all = append(all, b)
	}
	return all
}

// checksumOf goes by the chapter's words, bit after bit, without joining a
// byte to the register as a whole.
func checksumOf(b []byte) uint32 {
	register := uint32(0xffffffff)
	for i := range 8 * len(b) {
		bit := uint32(b[i/8]) >> (i % 8) % 2
		differs := bit != register%2
		register /= 2
		if differs {
			register ^= 0xedb88320
		}
	}
	return 0xffffffff - register
}

// joined returns b with the bytes of sum behind it, as the chapter orders them.
func joined(b []byte, sum uint32) []byte {
	return append(slices.Clone(b), byte(sum), byte(sum>>8), byte(sum>>16), byte(sum>>24))
}

func TestSumExamples(t *testing.T) {
	cases := []struct {
		text string
		want uint32
	}{
		{"", 0},
		{"a", 0xe8b7be43},
		{"123456789", 0xcbf43926},
		{"\x00", 0xd202ef8d},
		{"\xff", 0xff000000},
		{"\x00\x00\x00\x00", 0x2144df1c},
		{"\xff\xff\xff\xff", 0xffffffff},
		{"The quick brown fox jumps over the lazy dog", 0x414fa339},
	}
	for _, c := range cases {
		if got := crc.Sum([]byte(c.text)); got != c.want {
			t.Errorf("Sum(%q) = %08x, not %08x", c.text, got, c.want)
		}
	}
}

func TestSumOfEveryByte(t *testing.T) {
	for v := range 256 {
		b := []byte{byte(v)}
		if got := crc.Sum(b); got != checksumOf(b) {
			t.Errorf("Sum(%02x) = %08x, not %08x", v, got, checksumOf(b))
		}
	}
}

func TestSumIsTheChaptersAndTheLibrarys(t *testing.T) {
	long := make([]byte, 70000)
	for i := range long {
		long[i] = byte(i*i*31 + i>>3)
	}
	for _, b := range append(samples(), long) {
		got := crc.Sum(b)
		if want := checksumOf(b); got != want {
			t.Errorf("Sum of %d bytes = %08x, by the chapter %08x", len(b), got, want)
		}
		if want := crc32.ChecksumIEEE(b); got != want {
			t.Errorf("Sum of %d bytes = %08x, by the library %08x", len(b), got, want)
		}
	}
}

func TestSumOfNoBytesIsZero(t *testing.T) {
	for _, parts := range [][][]byte{nil, {}, {nil}, {{}}, {nil, nil}, {nil, {}, nil, {}}} {
		if got := crc.Sum(parts...); got != 0 {
			t.Errorf("Sum(%v...) = %08x", parts, got)
		}
	}
	if got := crc.Sum(); got != 0 {
		t.Errorf("Sum() = %08x", got)
	}
}

func TestBytesAreLittleEndian(t *testing.T) {
	cases := []struct {
		sum  uint32
		want []byte
	}{
		{0, []byte{0, 0, 0, 0}},
		{1, []byte{1, 0, 0, 0}},
		{0x100, []byte{0, 1, 0, 0}},
		{0x10000, []byte{0, 0, 1, 0}},
		{0x1000000, []byte{0, 0, 0, 1}},
		{0x01020304, []byte{0x04, 0x03, 0x02, 0x01}},
		{0xfedcba98, []byte{0x98, 0xba, 0xdc, 0xfe}},
		{0xe8b7be43, []byte{0x43, 0xbe, 0xb7, 0xe8}},
		{0xcbf43926, []byte{0x26, 0x39, 0xf4, 0xcb}},
		{0x80000000, []byte{0, 0, 0, 0x80}},
		{0xffffffff, []byte{0xff, 0xff, 0xff, 0xff}},
	}
	for _, c := range cases {
		if got := crc.Bytes(c.sum); !bytes.Equal(got, c.want) {
			t.Errorf("Bytes(%08x) = % x, not % x", c.sum, got, c.want)
		}
	}
}

func TestBytesOfEachBit(t *testing.T) {
	for i := range 32 {
		want := make([]byte, 4)
		want[i/8] = 1 << (i % 8)
		if got := crc.Bytes(1 << i); !bytes.Equal(got, want) {
			t.Errorf("Bytes of bit %d = % x, not % x", i, got, want)
		}
	}
}

func TestBytesAreNewMemory(t *testing.T) {
	first := crc.Bytes(0x01020304)
	clear(first)
	if got := crc.Bytes(0x01020304); !bytes.Equal(got, []byte{4, 3, 2, 1}) {
		t.Errorf("Bytes after its answer was changed = % x", got)
	}
}

func TestCheckOfLengths(t *testing.T) {
	cases := []struct {
		b    []byte
		want bool
	}{
		{nil, false},
		{[]byte{}, false},
		{[]byte{0}, false},
		{[]byte{0, 0}, false},
		{[]byte{0, 0, 0}, false},
		{[]byte{0, 0, 0, 0}, true},
		{[]byte{0, 0, 0, 1}, false},
		{[]byte{1, 0, 0, 0}, false},
		{[]byte{0xff, 0xff, 0xff, 0xff}, false},
		{[]byte{0, 0, 0, 0, 0}, false},
		{[]byte{'a', 0x43, 0xbe, 0xb7, 0xe8}, true},
		{[]byte{'b', 0x43, 0xbe, 0xb7, 0xe8}, false},
		{[]byte{'a', 0xe8, 0xb7, 0xbe, 0x43}, false},
		{[]byte{0x43, 0xbe, 0xb7, 0xe8, 'a'}, false},
		{[]byte{0xff, 0x00, 0x00, 0x00, 0xff}, true},
	}
	for _, c := range cases {
		if got := crc.Check(c.b); got != c.want {
			t.Errorf("Check(% x) = %v", c.b, got)
		}
	}
}

func TestCheckAcceptsOnlyTheChecksum(t *testing.T) {
	for _, b := range samples() {
		sum := checksumOf(b)
		if !crc.Check(joined(b, sum)) {
			t.Errorf("Check rejects % x with its checksum", b)
		}
		if !crc.Check(append(slices.Clone(b), crc.Bytes(crc.Sum(b))...)) {
			t.Errorf("Check rejects % x with Bytes of its Sum", b)
		}
		for i := range 32 {
			if crc.Check(joined(b, sum^1<<i)) {
				t.Errorf("Check accepts % x with bit %d of its checksum inverted", b, i)
			}
		}
		for _, wrong := range []uint32{^sum, sum + 1, sum - 1} {
			if crc.Check(joined(b, wrong)) {
				t.Errorf("Check accepts % x with %08x instead of %08x", b, wrong, sum)
			}
		}
	}
}

func TestCheckRejectsBytesOnlyFromTheMiddle(t *testing.T) {
	b := joined([]byte("page"), checksumOf([]byte("page")))
	if !crc.Check(b) {
		t.Fatalf("Check rejects % x", b)
	}
	for n := range b {
		if crc.Check(b[:n]) {
			t.Errorf("Check accepts the first %d bytes of % x", n, b)
		}
	}
	for n := 1; n < len(b); n++ {
		if crc.Check(b[n:]) {
			t.Errorf("Check accepts % x without its first %d bytes", b, n)
		}
	}
	if crc.Check(append(slices.Clone(b), 0)) {
		t.Errorf("Check accepts % x with a byte behind it", b)
	}
}

func TestDivisionIntoTwoAndThreeParts(t *testing.T) {
	for _, b := range samples() {
		want := checksumOf(b)
		for i := range len(b) + 1 {
			if got := crc.Sum(b[:i], b[i:]); got != want {
				t.Errorf("Sum(% x divided at %d) = %08x, not %08x", b, i, got, want)
			}
			for j := i; j <= len(b); j++ {
				if got := crc.Sum(b[:i], b[i:j], b[j:]); got != want {
					t.Errorf("Sum(% x divided at %d and %d) = %08x, not %08x", b, i, j, got, want)
				}
			}
		}
	}
}

func TestDivisionIntoManyParts(t *testing.T) {
	for _, b := range samples() {
		want := checksumOf(b)
		for n := 1; n <= len(b)+1; n++ {
			parts := slices.Collect(slices.Chunk(b, n))
			if got := crc.Sum(parts...); got != want {
				t.Errorf("Sum(% x in parts of %d) = %08x, not %08x", b, n, got, want)
			}
			var between [][]byte
			for _, part := range parts {
				between = append(between, nil, part, []byte{})
			}
			if got := crc.Sum(between...); got != want {
				t.Errorf("Sum(% x in parts of %d, with empty ones) = %08x, not %08x", b, n, got, want)
			}
		}
	}
}

func TestOrderOfPartsMatters(t *testing.T) {
	if crc.Sum([]byte("12345"), []byte("6789")) != 0xcbf43926 || crc.Sum([]byte("6789"), []byte("12345")) == 0xcbf43926 {
		t.Error("parts are not joined in their order")
	}
}

func TestOneByteChangedChangesTheChecksum(t *testing.T) {
	for _, b := range samples() {
		sum := crc.Sum(b)
		sealed := joined(b, sum)
		changed := slices.Clone(sealed)
		for i := range changed {
			for v := 1; v < 256; v++ {
				changed[i] ^= byte(v)
				if i < len(b) && crc.Sum(changed[:len(b)]) == sum {
					t.Errorf("% x with byte %d changed by %02x has the same checksum", b, i, v)
				}
				if crc.Check(changed) {
					t.Errorf("Check accepts % x with byte %d changed by %02x", sealed, i, v)
				}
				changed[i] = sealed[i]
			}
		}
	}
}

func TestArgumentsAreNotModified(t *testing.T) {
	for _, a := range samples() {
		for _, b := range samples() {
			keptA, keptB := slices.Clone(a), slices.Clone(b)
			parts := [][]byte{a, b, nil, a}
			first := crc.Sum(parts...)
			crc.Check(a)
			if !bytes.Equal(a, keptA) || !bytes.Equal(b, keptB) || len(parts) != 4 || parts[2] != nil {
				t.Fatalf("arguments were modified: % x, % x", a, b)
			}
			// The answer hangs on the parts alone, not on a call before.
			if again := crc.Sum(parts...); again != first {
				t.Fatalf("Sum(% x, % x, , % x) = %08x, and then %08x", a, b, a, first, again)
			}
		}
	}
}
