package cycle_test

import (
	"fmt"
	"math"
	"slices"
	"strings"
	"testing"

	"incunable/api"
	"incunable/cycle"
)

// most is how many cycles a text has at most, written out as the document has
// it.
const most = 16777216

// kinds are the valid ones, and the letters that the chapter gives them.
var kinds = map[int]byte{1: 'c', 2: 'a', 3: 'w', 4: 'r'}

// wrongKinds are kinds that no valid cycle has.
var wrongKinds = []int{
	0, -1, -2, -3, -4, 5, 6, 7, 8, 'c', 'a', 'w', 'r', 255, 256, 257, 258, 259, 260,
	1 << 32, 1<<32 + 1, 1<<32 + 4, math.MinInt, math.MinInt + 1, math.MinInt + 4, math.MaxInt,
}

// some are cycles of all kinds, some of them equal.
var some = []api.Cycle{of(1, 0x80), of(2, 0x01), of(2, 0x02), of(3, 0xfe), of(3, 0xfe), of(4, 0x00), of(1, 0xff), of(4, 0xe0)}

// someText is the text of some, written out.
const someText = "c80 a01 a02 wfe wfe r00 cff re0"

// of is a cycle, valid or not.
func of(kind int, v byte) api.Cycle {
	return api.Cycle{Kind: kind, B: v}
}

// everyCycle are all valid cycles.
func everyCycle() []api.Cycle {
	var l []api.Cycle
	for kind := 1; kind <= 4; kind++ {
		for v := range 256 {
			l = append(l, of(kind, byte(v)))
		}
	}
	return l
}

// plainText goes by the words of the chapter.
func plainText(l []api.Cycle) string {
	var texts []string
	for _, c := range l {
		texts = append(texts, fmt.Sprintf("%c%02x", kinds[c.Kind], c.B))
	}
	return strings.Join(texts, " ")
}

// known are the valid cycles by their texts.
var known = func() map[string]api.Cycle {
	all := map[string]api.Cycle{}
	for _, c := range everyCycle() {
		all[plainText([]api.Cycle{c})] = c
	}
	return all
}()

// plainCycles are the cycles whose text is s; false if there are none.
func plainCycles(s string) ([]api.Cycle, bool) {
	if s == "" {
		return nil, true
	}
	var l []api.Cycle
	for _, word := range strings.Split(s, " ") {
		c, ok := known[word]
		if !ok {
			return nil, false
		}
		l = append(l, c)
	}
	return l, true
}

// begins reports whether a text of cycles begins with s.
func begins(s string) bool {
	for _, rest := range []string{"", "0", "00", "c00"} {
		if _, ok := plainCycles(s + rest); ok {
			return true
		}
	}
	return false
}

// plainFault is the position of the first byte of s that no text of cycles with
// the same beginning contains there; 0 if s is such a text.
func plainFault(s string) int {
	if _, ok := plainCycles(s); ok {
		return 0
	}
	for i := range len(s) {
		if !begins(s[:i+1]) {
			return i + 1
		}
	}
	return len(s) + 1
}

// expectText fails unless Text answers this text.
func expectText(t *testing.T, l []api.Cycle, want string) {
	t.Helper()
	if s, e := cycle.Text(l); s != want || e != api.OK {
		t.Errorf("Text(%v) = %q, %d, not %q, OK", l, s, e, want)
	}
}

// refuseText fails unless Text answers this error, and nothing beside it.
func refuseText(t *testing.T, l []api.Cycle, want api.Errno) {
	t.Helper()
	if s, e := cycle.Text(l); s != "" || e != want {
		t.Errorf("Text of %d cycles = %.40q, %d, not nothing, %d", len(l), s, e, want)
	}
}

// expectParse fails unless Parse answers these cycles.
func expectParse(t *testing.T, s string, want []api.Cycle) {
	t.Helper()
	l, at, e := cycle.Parse(s)
	if !slices.Equal(l, want) || at != 0 || e != api.OK {
		t.Errorf("Parse(%q) = %v, %d, %d, not %v, 0, OK", s, l, at, e, want)
	}
}

// refuseParse fails unless Parse answers this position and this error, and
// nothing beside them.
func refuseParse(t *testing.T, s string, at int, want api.Errno) {
	t.Helper()
	l, p, e := cycle.Parse(s)
	if len(l) != 0 || p != at || e != want {
		t.Errorf("Parse(%.40q, %d bytes) = %d cycles, %d, %d, not nothing, %d, %d", s, len(s), len(l), p, e, at, want)
	}
}

// expectPlain fails unless Parse answers what the chapter's words say of s,
// which is not long.
func expectPlain(t *testing.T, s string) {
	t.Helper()
	if at := plainFault(s); at > 0 {
		refuseParse(t, s, at, api.ErrForm)
		return
	}
	l, _ := plainCycles(s)
	expectParse(t, s, l)
}

func TestP101RightOfEachKindAndByte(t *testing.T) {
	for v := range 256 {
		for kind := range kinds {
			if !cycle.Right(of(kind, byte(v))) {
				t.Errorf("a cycle of kind %d with %02x is not right", kind, v)
			}
		}
		for _, kind := range wrongKinds {
			if cycle.Right(of(kind, byte(v))) {
				t.Errorf("a cycle of kind %d with %02x is right", kind, v)
			}
		}
	}
	if cycle.Right(api.Cycle{}) {
		t.Error("the zero cycle is right")
	}
}

func TestP101RightOfTheNamedKinds(t *testing.T) {
	for _, kind := range []int{api.Command, api.Address, api.Write, api.Read} {
		if !cycle.Right(api.Cycle{Kind: kind}) {
			t.Errorf("a cycle of kind %d is not right", kind)
		}
	}
	for _, kind := range []int{api.Command - 1, api.Read + 1} {
		if cycle.Right(api.Cycle{Kind: kind}) {
			t.Errorf("a cycle of kind %d is right", kind)
		}
	}
}

func TestP101OfNoByteOneAndMany(t *testing.T) {
	all := slices.Collect(allKinds())
	for _, kind := range all {
		for _, l := range [][]api.Cycle{cycle.Of(kind), cycle.Of(kind, nil...), cycle.Of(kind, []byte{}...)} {
			if len(l) != 0 {
				t.Errorf("Of(%d) = %v", kind, l)
			}
		}
		for v := range 256 {
			want := []api.Cycle{of(kind, byte(v))}
			if l := cycle.Of(kind, byte(v)); !slices.Equal(l, want) {
				t.Errorf("Of(%d, %02x) = %v", kind, v, l)
			}
		}
		for _, n := range []int{2, 3, 4, 5, 100, 1000} {
			var b []byte
			var want []api.Cycle
			for i := range n {
				b = append(b, byte(i*i*7+n))
				want = append(want, of(kind, b[i]))
			}
			if l := cycle.Of(kind, b...); !slices.Equal(l, want) {
				t.Errorf("Of(%d, % x) = %v", kind, b, l)
			}
		}
	}
}

// allKinds yields all kinds, valid or not.
func allKinds() func(yield func(int) bool) {
	return slices.Values(append([]int{1, 2, 3, 4}, wrongKinds...))
}

func TestP101OfIsInOrder(t *testing.T) {
	l := cycle.Of(api.Write, 3, 1, 2, 2, 0)
	if !slices.Equal(l, []api.Cycle{of(3, 3), of(3, 1), of(3, 2), of(3, 2), of(3, 0)}) {
		t.Errorf("Of(Write, 3, 1, 2, 2, 0) = %v", l)
	}
}

func TestP101OfDoesNotShareMemory(t *testing.T) {
	room := []byte{1, 2, 3, 0x77, 0x77}
	b := room[:3]
	l := cycle.Of(api.Address, b...)
	other := cycle.Of(api.Address, b...)
	for i := range l {
		l[i] = of(api.Read, 0x55)
	}
	_ = append(l, some...)
	if !slices.Equal(room, []byte{1, 2, 3, 0x77, 0x77}) {
		t.Errorf("the bytes that Of was given have become % x", room)
	}
	clear(room)
	if want := []api.Cycle{of(2, 1), of(2, 2), of(2, 3)}; !slices.Equal(other, want) {
		t.Errorf("another answer of Of has become %v", other)
	}
}

// expectSame fails unless Same answers this for a and b in both orders.
func expectSame(t *testing.T, a, b []api.Cycle, want bool) {
	t.Helper()
	if cycle.Same(a, b) != want || cycle.Same(b, a) != want {
		t.Errorf("Same(%v, %v) is %t, and with the lists exchanged %t", a, b, cycle.Same(a, b), cycle.Same(b, a))
	}
}

func TestP101SameOfEqualLists(t *testing.T) {
	expectSame(t, nil, nil, true)
	expectSame(t, nil, []api.Cycle{}, true)
	expectSame(t, []api.Cycle{}, []api.Cycle{}, true)
	for n := range len(some) + 1 {
		expectSame(t, some[:n], some[:n], true)
		expectSame(t, some[:n], append(make([]api.Cycle, 0, 100), some[:n]...), true)
	}
	for kind := range allKinds() {
		expectSame(t, cycle.Of(kind, 1, 2, 3), cycle.Of(kind, 1, 2, 3), true)
	}
}

func TestP101SameOfListsOfOtherLengths(t *testing.T) {
	for n := range len(some) + 1 {
		for m := range n {
			expectSame(t, some[:m], some[:n], false)
			expectSame(t, some[n-m:n], some[:n], false)
		}
	}
	expectSame(t, nil, []api.Cycle{{}}, false)
	expectSame(t, []api.Cycle{{}}, []api.Cycle{{}, {}}, false)
	expectSame(t, cycle.Of(1, 7, 7), cycle.Of(1, 7, 7, 7), false)
}

func TestP101SameOfListsThatDifferInOneCycle(t *testing.T) {
	for n := 1; n <= len(some); n++ {
		for at := range n {
			for bit := range 8 {
				l := slices.Clone(some[:n])
				l[at].B ^= 1 << bit
				expectSame(t, l, some[:n], false)
			}
			for kind := range allKinds() {
				l := slices.Clone(some[:n])
				l[at].Kind = kind
				expectSame(t, l, some[:n], kind == some[at].Kind)
			}
		}
	}
	// Two kinds that are not valid are different ones too.
	for _, kind := range wrongKinds[1:] {
		expectSame(t, cycle.Of(kind, 5), cycle.Of(wrongKinds[0], 5), false)
	}
}

func TestP101SameIsInOrder(t *testing.T) {
	expectSame(t, cycle.Of(1, 1, 2), cycle.Of(1, 2, 1), false)
	expectSame(t, []api.Cycle{of(1, 5), of(2, 5)}, []api.Cycle{of(2, 5), of(1, 5)}, false)
	expectSame(t, []api.Cycle{of(1, 5), of(2, 6)}, []api.Cycle{of(1, 6), of(2, 5)}, false)
}

func TestP102Examples(t *testing.T) {
	expectText(t, []api.Cycle{of(api.Command, 0x70), of(api.Read, 0xe0)}, "c70 re0")
	expectParse(t, "c70 re0", []api.Cycle{of(api.Command, 0x70), of(api.Read, 0xe0)})
	refuseParse(t, "c", 2, api.ErrForm)
	refuseParse(t, "c8g", 3, api.ErrForm)
	refuseParse(t, "c80a", 4, api.ErrForm)
	refuseParse(t, "x80", 1, api.ErrForm)
}

func TestP102TextOfEachKindAndByte(t *testing.T) {
	for kind, letter := range kinds {
		for v := range 256 {
			c := of(kind, byte(v))
			expectText(t, []api.Cycle{c}, fmt.Sprintf("%c%02x", letter, v))
			expectText(t, []api.Cycle{c, some[0], c}, fmt.Sprintf("%c%02x c80 %c%02x", letter, v, letter, v))
		}
	}
	for kind := range allKinds() {
		if kinds[kind] != 0 {
			continue
		}
		for v := range 256 {
			refuseText(t, []api.Cycle{of(kind, byte(v))}, api.ErrArg)
		}
	}
}

func TestP102TextOfNoneAndOfSeveral(t *testing.T) {
	expectText(t, nil, "")
	expectText(t, []api.Cycle{}, "")
	expectText(t, some, someText)
	for n := range some {
		// The text of n cycles has 4 n - 1 bytes.
		expectText(t, some[:n+1], someText[:4*n+3])
		expectText(t, some[n:], someText[4*n:])
	}
}

func TestP102TextOfACycleThatIsNotValidAtEachPlace(t *testing.T) {
	for n := 1; n <= len(some); n++ {
		for at := range n {
			for _, kind := range wrongKinds {
				l := slices.Clone(some[:n])
				l[at].Kind = kind
				refuseText(t, l, api.ErrArg)
			}
			l := slices.Clone(some[:n])
			l[at] = api.Cycle{}
			refuseText(t, l, api.ErrArg)
		}
	}
	refuseText(t, make([]api.Cycle, 5), api.ErrArg)
}

func TestP102ParseOfEachKindAndByte(t *testing.T) {
	for kind, letter := range kinds {
		for v := range 256 {
			c := of(kind, byte(v))
			expectParse(t, fmt.Sprintf("%c%02x", letter, v), []api.Cycle{c})
			expectParse(t, fmt.Sprintf("c80 %c%02x r00", letter, v), []api.Cycle{of(1, 0x80), c, of(4, 0)})
		}
	}
}

func TestP102ParseOfTextsThatEndAtEachPlace(t *testing.T) {
	expectParse(t, "", nil)
	expectParse(t, someText, some)
	for n := 1; n <= len(someText); n++ {
		if n%4 == 3 {
			expectParse(t, someText[:n], some[:n/4+1])
			continue
		}
		refuseParse(t, someText[:n], n+1, api.ErrForm)
	}
}

func TestP102ParseOfEachByteAtEachPlace(t *testing.T) {
	for i := range len(someText) {
		may := "cawr"
		if i%4 == 3 {
			may = " "
		} else if i%4 > 0 {
			may = "0123456789abcdef"
		}
		for v := range 256 {
			// The bytes behind it do not matter, be they wrong, or none.
			for _, behind := range []string{someText[i+1:], "", " ", "xyz", "\x00\xff", someText} {
				s := someText[:i] + string([]byte{byte(v)}) + behind
				if strings.IndexByte(may, byte(v)) < 0 {
					refuseParse(t, s, i+1, api.ErrForm)
				} else {
					expectPlain(t, s)
				}
			}
		}
	}
}

func TestP102ParseOfBytesThatAreTooManyOrMissing(t *testing.T) {
	for i := range len(someText) + 1 {
		for _, more := range []string{" ", "  ", "0", "00", "c", "c0", "c00", "c00 ", " c00", "\n", "\t", ",", "\x00", "é"} {
			expectPlain(t, someText[:i]+more+someText[i:])
		}
		for n := 1; n <= 5 && i+n <= len(someText); n++ {
			expectPlain(t, someText[:i]+someText[i+n:])
		}
	}
}

func TestP102ParseOfWrongTexts(t *testing.T) {
	for s, at := range map[string]int{
		" ": 1, "  ": 1, "\n": 1, "\x00": 1, "0": 1, "b": 1, "d": 1, "é": 1,
		" c80": 1, "C80": 1, "A80": 1, "W80": 1, "R80": 1, "80": 1, "1c80": 1, "180": 1,
		"c": 2, "a": 2, "w": 2, "r": 2, "c ": 2, "cr": 2, "cw": 2, "cA0": 2, "cF0": 2, "cg0": 2, "c/0": 2, "c:0": 2, "c`0": 2, "c@0": 2, "c-1": 2, "c 0": 2,
		"c8": 3, "cc": 3, "aa": 3, "c8 ": 3, "c8A": 3, "c8F": 3, "c8 a01": 3, "c8\n": 3, "c8/": 3, "c8:": 3, "c8`": 3, "caw": 3,
		"c80\n": 4, "c800": 4, "c80a01": 4, "c80,a01": 4, "c80\ta01": 4, "c80\x00": 4, "c80\xa0": 4,
		"c80 ": 5, "c80  ": 5, "c80  a01": 5, "c80 A01": 5, "c80 x": 5, "c80 80": 5,
		"c80 a": 6, "c80 a ": 6, "c80 a0": 7, "c80 a01 ": 9, "c80 a01\n": 8,
	} {
		refuseParse(t, s, at, api.ErrForm)
		if plainFault(s) != at {
			t.Errorf("the words say %d of %q, not %d", plainFault(s), s, at)
		}
	}
}

func TestP102ParseOfAllShortTexts(t *testing.T) {
	bytes := "cawr09f8 gACFx`:/\x00\n\xff"
	texts := []string{""}
	for range 5 {
		var longer []string
		for _, s := range texts {
			expectPlain(t, s)
			expectPlain(t, someText[:8]+s)
			for i := range len(bytes) {
				longer = append(longer, s+bytes[i:i+1])
			}
		}
		texts = longer
	}
}

// long is a text of most cycles and seven more, and the cycles.
func long(t *testing.T) (string, []api.Cycle) {
	t.Helper()
	if api.MaxCycles != most {
		t.Fatalf("MaxCycles is %d, not %d", api.MaxCycles, most)
	}
	l := slices.Repeat(some, most/len(some)+1)[:most+7]
	return strings.Repeat(someText+" ", most/len(some)+1)[:4*most+4*7-1], l
}

func TestP102AtTheLimitAndBeyondIt(t *testing.T) {
	s, l := long(t)
	if text, e := cycle.Text(l[:most]); text != s[:4*most-1] || e != api.OK {
		t.Errorf("Text of %d cycles is %d bytes, error %d", most, len(text), e)
	}
	if parsed, at, e := cycle.Parse(s[:4*most-1]); !slices.Equal(parsed, l[:most]) || at != 0 || e != api.OK {
		t.Errorf("Parse of %d bytes is %d cycles, %d, %d", 4*most-1, len(parsed), at, e)
	}
	for _, n := range []int{1, 7} {
		refuseText(t, l[:most+n], api.ErrLimit)
		refuseParse(t, s[:4*(most+n)-1], 0, api.ErrLimit)
	}
	// No text of cycles has these numbers of bytes, whatever the limit.
	for _, n := range []int{4 * most, 4*most + 1, 4*most + 2, 4*most + 4} {
		refuseParse(t, s[:n], n+1, api.ErrForm)
	}
}

func TestP102TextOfTooManyCyclesOfWhichOneIsNotValid(t *testing.T) {
	_, l := long(t)
	for _, n := range []int{most + 1, most + 7} {
		for _, at := range []int{0, 1, most / 2, most - 1, most, n - 1} {
			kept := l[at]
			for _, kind := range []int{0, 5} {
				l[at].Kind = kind
				refuseText(t, l[:n], api.ErrLimit)
			}
			l[at] = kept
		}
	}
	for _, at := range []int{0, 1, most / 2, most - 1} {
		kept := l[at]
		l[at].Kind = 5
		refuseText(t, l[:most], api.ErrArg)
		l[at] = kept
	}
}

// The chapter names ErrForm before ErrLimit, so that it comes first if both
// apply.
func TestP102ParseOfWrongBytesInATextThatIsTooLong(t *testing.T) {
	s, _ := long(t)
	b := []byte(s)
	for _, n := range []int{4 * most, 4*most + 1, 4*most + 3} {
		for _, at := range []int{0, 1, 3, 2 * most, 4*most - 1, n - 1} {
			kept := b[at]
			b[at] = 'X'
			refuseParse(t, string(b[:n]), at+1, api.ErrForm)
			b[at] = kept
		}
	}
}

func TestP103ThereAndBackForEachKindAndByte(t *testing.T) {
	for _, c := range everyCycle() {
		for _, l := range [][]api.Cycle{{c}, {c, c}, {some[1], c}, {c, some[3], c}} {
			s, e := cycle.Text(l)
			if e != api.OK || s != plainText(l) {
				t.Fatalf("Text(%v) = %q, %d", l, s, e)
			}
			expectParse(t, s, l)
		}
		s := plainText([]api.Cycle{c})
		for _, s := range []string{s, s + " " + s, "a01 " + s, s + " wfe " + s} {
			l, at, e := cycle.Parse(s)
			if at != 0 || e != api.OK {
				t.Fatalf("Parse(%q) = %v, %d, %d", s, l, at, e)
			}
			expectText(t, l, s)
		}
	}
}

func TestP103ThereAndBackForLists(t *testing.T) {
	all := everyCycle()
	for n := range 70 {
		var l []api.Cycle
		for i := range n {
			l = append(l, all[(i*397+n*131)%len(all)])
		}
		expectText(t, l, plainText(l))
		expectParse(t, plainText(l), l)
	}
	expectText(t, all, plainText(all))
	expectParse(t, plainText(all), all)
}

func TestListsAreNotChangedNorShared(t *testing.T) {
	// There is room behind the lists that must stay as it is.
	room := append(slices.Clone(some), of(9, 9), of(8, 8))
	kept := slices.Clone(room)
	l := room[:len(some)]
	wrong := room[:len(some)+1]
	cycle.Right(l[0])
	cycle.Same(l, wrong)
	expectText(t, l, someText)
	refuseText(t, wrong, api.ErrArg)
	if !slices.Equal(room, kept) {
		t.Errorf("a list, or what stands behind it, has become %v", room)
	}
	s, _ := cycle.Text(l)
	clear(room)
	if s != someText {
		t.Errorf("a text has become %q", s)
	}
}

func TestAnswersOfParseDoNotShareMemory(t *testing.T) {
	first, _, _ := cycle.Parse(someText)
	second, _, _ := cycle.Parse(someText)
	clear(first)
	_ = append(first, some...)
	if !slices.Equal(second, some) {
		t.Errorf("another answer of Parse has become %v", second)
	}
	expectParse(t, someText, some)
}
