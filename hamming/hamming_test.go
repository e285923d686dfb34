package hamming_test

import (
	"math"
	"slices"
	"testing"

	"incunable/api"
	"incunable/hamming"
)

// wordBits is how many bits of a word the code covers: 0 to 13.
const wordBits = 14

// plainPlaces lists the numbers from 3 to the given one that are not powers of
// two, by striking out the powers.
func plainPlaces(last int) []int {
	var places []int
	power := 4
	for n := 3; n <= last; n++ {
		if n == power {
			power *= 2
			continue
		}
		places = append(places, n)
	}
	return places
}

// samples are bytes of several lengths, from none to MaxChunk.
func samples() [][]byte {
	all := [][]byte{
		nil,
		{},
		{0x00},
		{0x01},
		{0x80},
		{0xff},
		{0x01, 0x80, 0x55},
		{0x03, 0x88, 0x55},
		{0x00, 0x00, 0x00, 0x00},
		{0xff, 0xff, 0xff, 0xff},
		[]byte("a disk on a raw flash chip"),
	}
	for _, n := range []int{5, 28, 31, 32, 33, 100, 511, 512} {
		all = append(all, pattern(n, 1), pattern(n, 7), slices.Repeat([]byte{0xff}, n))
	}
	return all
}

// pattern is n bytes that differ from each other without an order that one
// sees.
func pattern(n, start int) []byte {
	b := make([]byte, n)
	x := uint32(start)
	for i := range b {
		x = x*1664525 + 1013904223
		b[i] = byte(x >> 24)
	}
	return b
}

// one reports whether bit k of b is 1.
func one(b []byte, k int) bool {
	return b[k/8]>>(k%8)&1 == 1
}

// turned is a copy of b with bit k inverted.
func turned(b []byte, k int) []byte {
	c := slices.Clone(b)
	c[k/8] ^= 1 << (k % 8)
	return c
}

// plainWord goes by the chapter's words, over the plain list.
func plainWord(b []byte, places []int) uint16 {
	sum, ones := 0, 0
	for k := range len(b) * 8 {
		if one(b, k) {
			sum ^= places[k]
			ones++
		}
	}
	for i := range 13 {
		ones += sum >> i & 1
	}
	return uint16(sum | ones%2<<13 | 1<<14 | 1<<15)
}

// word fails unless b has a word, and returns it.
func word(t *testing.T, b []byte) uint16 {
	t.Helper()
	w, e := hamming.Word(b)
	if e != api.OK {
		t.Fatalf("Word of %d bytes: error %d", len(b), e)
	}
	return w
}

// expect fails unless Judge answers that.
func expect(t *testing.T, b []byte, w uint16, state, bit int) {
	t.Helper()
	s, k, e := hamming.Judge(b, w)
	if s != state || k != bit || e != api.OK {
		t.Errorf("Judge(%d bytes, %04x) = %d, %d, %d, not %d, %d, OK", len(b), w, s, k, e, state, bit)
	}
}

func TestP51Examples(t *testing.T) {
	for _, c := range [][2]int{{0, 3}, {1, 5}, {2, 6}, {3, 7}, {4, 9}, {11, 17}} {
		if p := hamming.Place(c[0]); p != c[1] {
			t.Errorf("Place(%d) = %d, not %d", c[0], p, c[1])
		}
		if k, ok := hamming.Bit(c[1]); !ok || k != c[0] {
			t.Errorf("Bit(%d) = %d, %v, not %d and true", c[1], k, ok, c[0])
		}
	}
	if k, ok := hamming.Bit(8); ok || k != 0 {
		t.Errorf("Bit(8) = %d, %v, not 0 and false", k, ok)
	}
}

func TestP51PlacesAgainstThePlainList(t *testing.T) {
	for k, place := range plainPlaces(1 << 21) {
		want := place
		if k > 1<<20 {
			want = 0
		}
		if p := hamming.Place(k); p != want {
			t.Fatalf("Place(%d) = %d, not %d", k, p, want)
		}
	}
}

func TestP51BitsAgainstThePlainList(t *testing.T) {
	places := plainPlaces(1 << 21)
	next := 0
	for n := -100; n <= 1<<21+100; n++ {
		want, there := 0, false
		if next < len(places) && places[next] == n {
			want, there = next, true
			next++
		}
		if k, ok := hamming.Bit(n); ok != there || k != want {
			t.Fatalf("Bit(%d) = %d, %v, not %d, %v", n, k, ok, want, there)
		}
	}
	if next != len(places) {
		t.Errorf("%d of %d positions were seen", next, len(places))
	}
}

func TestP51ThereAndBack(t *testing.T) {
	for k := range 1<<20 + 1 {
		if back, ok := hamming.Bit(hamming.Place(k)); !ok || back != k {
			t.Fatalf("Bit(Place(%d)) = %d, %v", k, back, ok)
		}
	}
}

func TestP51GreatestBitAndPlace(t *testing.T) {
	if p := hamming.Place(1 << 20); p != 1<<20+22 {
		t.Errorf("Place(2^20) = %d", p)
	}
	if p := hamming.Place(1<<20 - 1); p != 1<<20+21 {
		t.Errorf("Place(2^20 - 1) = %d", p)
	}
	if k, ok := hamming.Bit(1<<21 - 1); !ok || k != 1<<21-23 {
		t.Errorf("Bit(2^21 - 1) = %d, %v", k, ok)
	}
	// 4109 is the position of the last bit that MaxChunk bytes have.
	if p := hamming.Place(512*8 - 1); p != 4109 {
		t.Errorf("Place(4095) = %d", p)
	}
}

func TestP51BitsWithoutAPlace(t *testing.T) {
	for _, k := range []int{-1, -2, -8, -1 << 20, -1 << 31, -1 << 32, math.MinInt, math.MinInt + 1,
		1<<20 + 1, 1<<20 + 2, 1 << 21, 1 << 31, 1 << 32, 1 << 62, math.MaxInt - 3, math.MaxInt - 1, math.MaxInt} {
		if p := hamming.Place(k); p != 0 {
			t.Errorf("Place(%d) = %d, not 0", k, p)
		}
	}
}

func TestP51PlacesWithoutABit(t *testing.T) {
	wrong := []int{2, 1, 0, -1, -2, -3, -5, -8, -1 << 31, math.MinInt, math.MinInt + 1, math.MinInt + 3,
		1<<21 + 1, 1<<21 + 3, 1<<22 + 1, 1<<31 + 1, 1<<32 + 3, 1<<62 + 5, math.MaxInt - 1, math.MaxInt}
	for i := range 63 {
		wrong = append(wrong, 1<<i)
	}
	for _, p := range wrong {
		if k, ok := hamming.Bit(p); ok || k != 0 {
			t.Errorf("Bit(%d) = %d, %v, not 0 and false", p, k, ok)
		}
	}
}

func TestP52Examples(t *testing.T) {
	if w := word(t, nil); w != 0xc000 {
		t.Errorf("Word of no bytes = %04x", w)
	}
	if w := word(t, []byte{0x00}); w != 0xc000 {
		t.Errorf("Word of a zero byte = %04x", w)
	}
	b := []byte{0x01, 0x80, 0x55}
	w := word(t, b)
	if w != 0xc01e {
		t.Errorf("Word(% x) = %04x", b, w)
	}
	expect(t, b, w, api.Clean, 0)
	expect(t, []byte{0x01, 0x88, 0x55}, w, api.InData, 11)
	expect(t, []byte{0x03, 0x88, 0x55}, w, api.Broken, 0)
}

func TestP52WordsWrittenOut(t *testing.T) {
	cases := []struct {
		b []byte
		w uint16
	}{
		// 3 is 11: two ones and the bit itself are odd.
		{[]byte{0x01}, 0xe003},
		// 12 is 1100.
		{[]byte{0x80}, 0xe00c},
		// 3 xor 5 is 6.
		{[]byte{0x03}, 0xc006},
		// 7 is 111, with the bit itself four ones.
		{[]byte{0x08}, 0xc007},
		// 3 xor 5 xor 6 xor 7 xor 9 xor 10 xor 11 xor 12 is 3.
		{[]byte{0xff}, 0xc003},
		// 17 is 10001.
		{[]byte{0x00, 0x08}, 0xe011},
	}
	for _, c := range cases {
		if w := word(t, c.b); w != c.w {
			t.Errorf("Word(% x) = %04x, not %04x", c.b, w, c.w)
		}
	}
}

func TestP52WordsAgainstThePlainOnes(t *testing.T) {
	places := plainPlaces(5000)
	for _, b := range samples() {
		if w, want := word(t, b), plainWord(b, places); w != want {
			t.Errorf("Word(% x) = %04x, not %04x", b, w, want)
		}
	}
}

func TestP52WordOfEachSingleBit(t *testing.T) {
	places := plainPlaces(5000)
	for k := range 512 * 8 {
		b := turned(make([]byte, 512), k)
		if w, want := word(t, b), plainWord(b, places); w != want {
			t.Fatalf("Word of bit %d = %04x, not %04x", k, w, want)
		}
		if short, long := word(t, b[:k/8+1]), word(t, b); short != long {
			t.Fatalf("Word of bit %d = %04x with no bytes behind it, %04x with zero bytes", k, short, long)
		}
	}
}

func TestP52Limit(t *testing.T) {
	for _, n := range []int{512, 511, 1, 0} {
		b := pattern(n, 3)
		expect(t, b, word(t, b), api.Clean, 0)
	}
	for _, n := range []int{513, 514, 1024, 1 << 20} {
		for _, b := range [][]byte{make([]byte, n), slices.Repeat([]byte{0xff}, n), pattern(n, 3)} {
			if w, e := hamming.Word(b); w != 0 || e != api.ErrLimit {
				t.Errorf("Word of %d bytes = %04x, %d, not 0, ErrLimit", n, w, e)
			}
			for _, w := range []uint16{0, 0xffff, 0xc000, 0xe003} {
				if s, k, e := hamming.Judge(b, w); s != 0 || k != 0 || e != api.ErrLimit {
					t.Errorf("Judge(%d bytes, %04x) = %d, %d, %d, not 0, 0, ErrLimit", n, w, s, k, e)
				}
			}
		}
	}
}

// plainJudge goes by the chapter's words, for each difference and parity.
func plainJudge(bits, difference int, odd bool, places []int) (state, bit int) {
	if !odd && difference == 0 {
		return api.Clean, 0
	}
	if !odd {
		return api.Broken, 0
	}
	for i := range 13 {
		if difference == 1<<i {
			return api.InWord, 0
		}
	}
	if difference == 0 {
		return api.InWord, 0
	}
	if k := slices.Index(places[:bits], difference); k >= 0 {
		return api.InData, k
	}
	return api.Broken, 0
}

func TestP52EachDifferenceAndParity(t *testing.T) {
	places := plainPlaces(5000)
	for _, b := range [][]byte{nil, {0x00}, {0x01, 0x80, 0x55}, pattern(28, 5), pattern(33, 2), pattern(511, 4), pattern(512, 9)} {
		w := word(t, b)
		for d := range 1 << 13 {
			// Turning a bit of the difference turns the parity too.
			flipped := 0
			for i := range 13 {
				flipped += d >> i & 1
			}
			for parity := range 2 {
				read := w ^ uint16(d) ^ uint16(flipped&1^parity)<<13
				state, bit := plainJudge(len(b)*8, d, parity == 1, places)
				expect(t, b, read, state, bit)
			}
		}
	}
}

func TestP52DifferencesWrittenOut(t *testing.T) {
	b := []byte{0x00}
	// Each case: the bits of the word that are turned, and what that says.
	cases := []struct {
		turn       uint16
		state, bit int
	}{
		{0, api.Clean, 0},
		{1 << 13, api.InWord, 0},
		{1, api.InWord, 0},
		{1 << 12, api.InWord, 0},
		{1 | 1<<13, api.Broken, 0},
		{1<<12 | 1<<13, api.Broken, 0},
		// 3 is the position of bit 0, 12 that of bit 7, the last of a byte.
		{3, api.Broken, 0},
		{3 | 1<<13, api.InData, 0},
		{7, api.InData, 3},
		{7 | 1<<13, api.Broken, 0},
		{12 | 1<<13, api.InData, 7},
		// 13 is the position of bit 8, which one byte does not have.
		{13, api.Broken, 0},
		{13 | 1<<13, api.Broken, 0},
		// 8191 is the position of a bit that no chunk has.
		{8191, api.Broken, 0},
		{8191 | 1<<13, api.Broken, 0},
	}
	for _, c := range cases {
		expect(t, b, 0xc000^c.turn, c.state, c.bit)
	}
	expect(t, []byte{0x00, 0x00}, 0xc000^13, api.InData, 8)
}

func TestP52UnusedBitsSayNothing(t *testing.T) {
	for _, b := range samples() {
		w := word(t, b)
		if w>>14 != 3 {
			t.Errorf("Word of %d bytes = %04x, without the bits 14 and 15", len(b), w)
		}
		for _, turn := range []uint16{1 << 14, 1 << 15, 3 << 14} {
			expect(t, b, w^turn, api.Clean, 0)
			expect(t, b, w^turn^4, api.InWord, 0)
			expect(t, b, w^turn^5, api.Broken, 0)
			if len(b) > 0 {
				expect(t, turned(b, 6), w^turn, api.InData, 6)
			}
		}
	}
}

func TestP52ArgumentsAreNotChanged(t *testing.T) {
	b := pattern(40, 8)
	before := slices.Clone(b)
	w := word(t, b)
	hamming.Judge(b, w)
	hamming.Judge(b, w^0x2003)
	if !slices.Equal(b, before) {
		t.Errorf("% x has become % x", before, b)
	}
}

func TestP53SingleErrors(t *testing.T) {
	for _, b := range samples() {
		w := word(t, b)
		expect(t, b, w, api.Clean, 0)
		for k := range len(b) * 8 {
			expect(t, turned(b, k), w, api.InData, k)
		}
		for i := range wordBits {
			expect(t, b, w^1<<i, api.InWord, 0)
		}
	}
}

func TestP53PairsOfErrors(t *testing.T) {
	for _, b := range [][]byte{nil, {0x00}, {0xff}, {0x01, 0x80, 0x55}, pattern(28, 6), pattern(40, 3)} {
		w := word(t, b)
		all := len(b)*8 + wordBits
		for i := range all {
			for j := range i {
				c, v := inverted(b, w, i)
				c, v = inverted(c, v, j)
				expect(t, c, v, api.Broken, 0)
			}
		}
	}
}

// inverted is bytes and a word with one bit turned: bits behind those of the
// bytes are those of the word.
func inverted(b []byte, w uint16, i int) ([]byte, uint16) {
	if i < len(b)*8 {
		return turned(b, i), w
	}
	return b, w ^ 1<<(i-len(b)*8)
}

func TestP53PairsOfErrorsInAGreatChunk(t *testing.T) {
	b := pattern(512, 11)
	w := word(t, b)
	all := len(b)*8 + wordBits
	for _, i := range []int{0, 1, 7, 8, 2036, 4094, 4095, 4096, 4108, 4109} {
		first, v := inverted(b, w, i)
		for j := range all {
			if j == i {
				continue
			}
			c, v := inverted(first, v, j)
			expect(t, c, v, api.Broken, 0)
		}
	}
}
