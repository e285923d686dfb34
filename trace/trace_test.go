package trace_test

import (
	"fmt"
	"math"
	"slices"
	"testing"

	"incunable/api"
	"incunable/trace"
)

// most is how many cycles a recorder stores at most, written out as the
// document has it.
const most = 16777216

// kinds are those of cycles, valid or not.
var kinds = []int{
	1, 2, 3, 4, 0, -1, -4, 5, 6, 8, 255, 256, 257, 260, 1 << 32, 1<<32 + 1, math.MinInt, math.MinInt + 1, math.MaxInt,
}

// names are those of marks: an empty one, some that are alike, and some that
// are not text.
var names = []string{"", "a", "A", "a ", " a", "aa", "power", "Power", "\x00", "a\x00", "\xff\xfe", "é", "0", "\n"}

// some are cycles of all kinds, some of them equal.
var some = []api.Cycle{of(1, 0x80), of(2, 0x01), of(2, 0x02), of(3, 0xfe), of(3, 0xfe), of(4, 0x00), of(1, 0x80), of(4, 0xe0)}

// of is a cycle, valid or not.
func of(kind int, v byte) api.Cycle {
	return api.Cycle{Kind: kind, B: v}
}

// nth are cycles from the start-th one of an endless list on, of which each
// one differs from the thousand before it.
func nth(start, n int) []api.Cycle {
	l := make([]api.Cycle, n)
	for i := range l {
		m := (start + i) % 1009
		l[i] = of(1+m%4, byte(m/4))
	}
	return l
}

// recorded is a recorder of these cycles.
func recorded(l ...api.Cycle) *trace.Recorder {
	r := trace.New()
	r.Add(l...)
	return r
}

// brief tells cycles, if they are few, or how many they are.
func brief(l []api.Cycle) string {
	if len(l) > 20 {
		return fmt.Sprintf("%d cycles", len(l))
	}
	return fmt.Sprint(l)
}

// expectCycles fails unless r stores these cycles, and has counted so many.
func expectCycles(t *testing.T, r *trace.Recorder, want []api.Cycle, all int) {
	t.Helper()
	if l := r.List(); !slices.Equal(l, want) {
		t.Errorf("List is %s, not %s", brief(l), brief(want))
	}
	if n := r.All(); n != all {
		t.Errorf("All is %d, not %d", n, all)
	}
}

// expectCount fails unless r stores so many cycles that are c.
func expectCount(t *testing.T, r *trace.Recorder, c api.Cycle, want int) {
	t.Helper()
	if n := r.Count(c); n != want {
		t.Errorf("Count(%v) is %d, not %d", c, n, want)
	}
}

// expectSince fails unless the mark has these cycles behind it.
func expectSince(t *testing.T, r *trace.Recorder, name string, want []api.Cycle) {
	t.Helper()
	if l, ok := r.Since(name); !slices.Equal(l, want) || !ok {
		t.Errorf("Since(%q) is %s, %t, not %s, true", name, brief(l), ok, brief(want))
	}
}

// expectNoMark fails unless there is no mark of this name.
func expectNoMark(t *testing.T, r *trace.Recorder, name string) {
	t.Helper()
	if l, ok := r.Since(name); len(l) != 0 || ok {
		t.Errorf("Since(%q) is %s, %t, not nothing, false", name, brief(l), ok)
	}
}

func TestP111Example(t *testing.T) {
	ff := of(api.Command, 0xff)
	r := trace.New()
	r.Add(ff)
	r.Add(of(api.Read, 0xe0))
	r.Add(ff, ff)
	expectCycles(t, r, []api.Cycle{ff, of(4, 0xe0), ff, ff}, 4)
	expectCount(t, r, ff, 3)
	expectCount(t, r, of(4, 0xe0), 1)
}

func TestP111AnEmptyRecorder(t *testing.T) {
	r := trace.New()
	if r == nil {
		t.Fatal("New answers nil")
	}
	expectCycles(t, r, nil, 0)
	for _, kind := range kinds {
		for v := range 256 {
			expectCount(t, r, of(kind, byte(v)), 0)
		}
	}
	for _, name := range names {
		expectNoMark(t, r, name)
	}
}

func TestP111AddOfNoCycle(t *testing.T) {
	r := trace.New()
	for range 3 {
		r.Add()
		r.Add(nil...)
		r.Add([]api.Cycle{}...)
		r.Add(some[:0]...)
	}
	expectCycles(t, r, nil, 0)
	r.Add(some...)
	r.Add()
	r.Add(nil...)
	expectCycles(t, r, some, len(some))
}

func TestP111AddOfOneCycle(t *testing.T) {
	for _, kind := range kinds {
		r := trace.New()
		var want []api.Cycle
		for v := range 256 {
			c := of(kind, byte(v))
			expectCycles(t, recorded(c), []api.Cycle{c}, 1)
			expectCount(t, r, c, 0)
			r.Add(c)
			want = append(want, c)
			expectCount(t, r, c, 1)
			expectCycles(t, r, want, v+1)
		}
	}
}

func TestP111AddOfMany(t *testing.T) {
	for _, n := range []int{2, 3, 7, 8, 9, 100, 1000, 5000, 100000} {
		expectCycles(t, recorded(nth(n, n)...), nth(n, n), n)
	}
	r := trace.New()
	var want []api.Cycle
	for n := range 200 {
		r.Add(nth(n*n, n)...)
		want = append(want, nth(n*n, n)...)
		expectCycles(t, r, want, len(want))
	}
}

func TestP111RecordersAreApart(t *testing.T) {
	first, second := trace.New(), trace.New()
	first.Add(some...)
	first.Mark("a")
	expectCycles(t, second, nil, 0)
	expectCount(t, second, some[0], 0)
	expectNoMark(t, second, "a")
	second.Add(some[1], some[1])
	second.Mark("b")
	second.Add(some[0])
	expectCycles(t, first, some, len(some))
	expectCycles(t, second, []api.Cycle{some[1], some[1], some[0]}, 3)
	expectSince(t, first, "a", nil)
	expectNoMark(t, first, "b")
	expectSince(t, second, "b", some[:1])
	expectNoMark(t, second, "a")
}

func TestP111AskingChangesNothing(t *testing.T) {
	r := recorded(some[:3]...)
	r.Mark("a")
	r.Add(some[3:]...)
	for range 3 {
		expectCycles(t, r, some, len(some))
		expectSince(t, r, "a", some[3:])
		expectNoMark(t, r, "b")
		expectCount(t, r, some[0], 2)
		expectCount(t, r, of(9, 9), 0)
	}
}

func TestP111CountOfACycleNeverOnceAndOften(t *testing.T) {
	for _, kind := range kinds {
		for _, v := range []byte{0, 1, 0x7f, 0x80, 0xff} {
			c, other := of(kind, v), of(kind, v^0x55)
			for n := range 6 {
				l := slices.Repeat([]api.Cycle{c}, n)
				expectCount(t, recorded(l...), c, n)
				expectCount(t, recorded(l...), other, 0)
				// They stand before others, behind them, and among them.
				expectCount(t, recorded(append(l, other, other)...), c, n)
				expectCount(t, recorded(slices.Concat([]api.Cycle{other, other}, l)...), c, n)
				expectCount(t, recorded(slices.Repeat([]api.Cycle{c, other}, n)...), c, n)
				expectCount(t, recorded(slices.Repeat([]api.Cycle{other, c, other}, n)...), other, 2*n)
			}
		}
	}
	expectCount(t, recorded(nth(0, 5000)...), nth(7, 1)[0], 5)
	expectCount(t, recorded(nth(0, 5000)...), nth(1008, 1)[0], 4)
	expectCount(t, recorded(make([]api.Cycle, 70)...), api.Cycle{}, 70)
}

func TestP111CountOfACycleThatDiffersInItsKindOrItsByteAlone(t *testing.T) {
	for _, kind := range kinds {
		for _, v := range []byte{0, 1, 3, 0x70, 0xff} {
			r := recorded(of(kind, v), of(kind, v))
			for _, other := range kinds {
				if other != kind {
					expectCount(t, r, of(other, v), 0)
				}
			}
			for w := range 256 {
				if byte(w) != v {
					expectCount(t, r, of(kind, byte(w)), 0)
				}
			}
			expectCount(t, r, of(kind, v), 2)
		}
	}
}

// Cycles whose kind and byte have the same sum are still different ones.
func TestP111CountOfCyclesWithKindAndByteExchanged(t *testing.T) {
	r := recorded(of(1, 2), of(2, 1), of(2, 1), of(0, 3), of(3, 0), of(256, 0), of(0, 0))
	expectCount(t, r, of(1, 2), 1)
	expectCount(t, r, of(2, 1), 2)
	expectCount(t, r, of(0, 3), 1)
	expectCount(t, r, of(3, 0), 1)
	expectCount(t, r, of(1, 0), 0)
	expectCount(t, r, of(0, 0), 1)
}

// Each row is how many cycles are added in turn.
var rowsAtTheLimit = [][]int{
	{most - 1},
	{most},
	{most + 1},
	{most + 20},
	{most - 1, 1, 1, 1},
	{most - 1, 2, 3},
	{most - 5, 4, 0, 17},
	{most, 0, 1, 7},
	{1, most, 1},
	{7, most - 7, 7},
	{most / 2, most / 2, 1},
}

func TestP111AtTheLimitAndBeyondIt(t *testing.T) {
	if api.MaxCycles != most {
		t.Fatalf("MaxCycles is %d, not %d", api.MaxCycles, most)
	}
	all := nth(0, most+20)
	for _, row := range rowsAtTheLimit {
		r := trace.New()
		n := 0
		for _, more := range row {
			r.Add(all[n : n+more]...)
			n += more
			if r.All() != n {
				t.Errorf("of %v: All is %d, not %d", row, r.All(), n)
			}
		}
		if l := r.List(); !slices.Equal(l, all[:min(n, most)]) {
			t.Errorf("of %v: List has %d cycles, not the first %d", row, len(l), min(n, most))
		}
	}
}

func TestP111CountBesideCyclesThatAreNotStored(t *testing.T) {
	in, across, out := of(9, 1), of(9, 2), of(9, 3)
	r := recorded(nth(0, most-4)...)
	before := r.Count(some[0])
	r.Add(in, in)
	expectCount(t, r, in, 2)
	r.Add(in, across, across, in, out)
	for _, l := range [][]api.Cycle{{in, across}, {out, out, out}, {some[0]}, nil, nth(0, 2000)} {
		r.Add(l...)
		expectCount(t, r, in, 3)
		expectCount(t, r, across, 1)
		expectCount(t, r, out, 0)
		expectCount(t, r, some[0], before)
	}
	if want := most + 3 + 2 + 3 + 1 + 2000; r.All() != want {
		t.Errorf("All is %d, not %d", r.All(), want)
	}
}

func TestP112Examples(t *testing.T) {
	r := recorded(some[:5]...)
	r.Mark("here")
	r.Add(some[5], some[6])
	expectSince(t, r, "here", some[5:7])
	r.Mark("here")
	expectSince(t, r, "here", nil)

	r = recorded(some[0], some[1])
	r.Mark("mark")
	r.Add(some[2])
	expectSince(t, r, "mark", some[2:3])
}

func TestP112AMarkAtEachPosition(t *testing.T) {
	for n := range len(some) + 1 {
		for _, name := range names {
			r := recorded(some[:n]...)
			expectNoMark(t, r, name)
			r.Mark(name)
			expectSince(t, r, name, nil)
			r.Add(some[n:]...)
			expectSince(t, r, name, some[n:])
			for _, other := range names {
				if other != name {
					expectNoMark(t, r, other)
				}
			}
			// A mark is not a cycle.
			expectCycles(t, r, some, len(some))
		}
	}
}

func TestP112TheSameNameAgain(t *testing.T) {
	for _, name := range names {
		for n := range len(some) + 1 {
			for m := range n + 1 {
				r := recorded(some[:m]...)
				r.Mark(name)
				r.Add(some[m:n]...)
				expectSince(t, r, name, some[m:n])
				r.Mark(name)
				expectSince(t, r, name, nil)
				r.Add(some[n:]...)
				expectSince(t, r, name, some[n:])
				r.Mark(name)
				r.Mark(name)
				expectSince(t, r, name, nil)
			}
		}
	}
}

func TestP112SeveralNames(t *testing.T) {
	r := trace.New()
	for i, name := range names {
		r.Mark(name)
		r.Add(nth(i, 1)...)
	}
	for i, name := range names {
		expectSince(t, r, name, nth(i, len(names)-i))
	}
	expectNoMark(t, r, "b")
	// Each other one is set again, all at the same position.
	for i, name := range names {
		if i%2 == 0 {
			r.Mark(name)
		}
	}
	r.Add(some...)
	for i, name := range names {
		want := slices.Concat(nth(i, len(names)-i), some)
		if i%2 == 0 {
			want = some
		}
		expectSince(t, r, name, want)
	}
}

func TestP112ManyNames(t *testing.T) {
	r := trace.New()
	for i := range 2000 {
		r.Mark(fmt.Sprint("mark ", i))
		r.Add(nth(i, 1)...)
	}
	for i := range 2000 {
		expectSince(t, r, fmt.Sprint("mark ", i), nth(i, 2000-i))
	}
	expectNoMark(t, r, "mark 2000")
	expectNoMark(t, r, "mark")
	expectNoMark(t, r, "mark 01")
}

func TestP112MarksAtTheLimitAndBeyondIt(t *testing.T) {
	r := trace.New()
	r.Mark("first")
	r.Add(nth(0, most-2)...)
	r.Mark("last but one")
	r.Mark("again")
	r.Add(some[0])
	r.Mark("last")
	r.Add(some[1], some[2], some[3])
	r.Mark("full")
	r.Mark("again")
	r.Add(some...)
	r.Mark("beyond")
	r.Mark("never behind it")
	r.Add(some[0])
	expectSince(t, r, "last but one", some[:2])
	expectSince(t, r, "last", some[1:2])
	for _, name := range []string{"full", "again", "beyond", "never behind it"} {
		expectSince(t, r, name, nil)
	}
	expectSince(t, r, "first", slices.Concat(nth(0, most-2), some[:2]))
	expectNoMark(t, r, "second")
	r.Mark("last but one")
	expectSince(t, r, "last but one", nil)
	if want := most - 2 + 1 + 3 + len(some) + 1; r.All() != want {
		t.Errorf("All is %d, not %d", r.All(), want)
	}
}

// notMade are recorders that New did not return.
func notMade() []*trace.Recorder {
	var plain trace.Recorder
	return []*trace.Recorder{nil, {}, &plain, new(trace.Recorder)}
}

func TestP112RecordersThatNewDidNotReturn(t *testing.T) {
	for i, r := range notMade() {
		for round := range 3 {
			if l := r.List(); len(l) != 0 || r.All() != 0 {
				t.Errorf("recorder %d, round %d: List is %v, All is %d", i, round, l, r.All())
			}
			for _, c := range append(slices.Clone(some), api.Cycle{}) {
				expectCount(t, r, c, 0)
			}
			for _, name := range names {
				expectNoMark(t, r, name)
			}
			r.Mark("")
			r.Add()
			r.Add(some...)
			r.Mark("a")
			r.Add(api.Cycle{})
		}
	}
}

func TestP112ANilRecorderHasNoPartInOthers(t *testing.T) {
	var none *trace.Recorder
	r := recorded(some...)
	r.Mark("a")
	none.Add(some[0])
	none.Mark("a")
	none.Mark("b")
	expectCycles(t, r, some, len(some))
	expectSince(t, r, "a", nil)
	expectNoMark(t, r, "b")
}

func TestP113CyclesAreStoredInOrder(t *testing.T) {
	l := []api.Cycle{of(4, 9), of(1, 3), of(2, 7), of(1, 3), of(3, 0), of(4, 1), of(1, 2), of(4, 9)}
	for n := range len(l) + 1 {
		for m := range n + 1 {
			r := recorded(l[:m]...)
			r.Add(l[m:n]...)
			r.Mark("a")
			for _, c := range l[n:] {
				r.Add(c)
			}
			expectCycles(t, r, l, len(l))
			expectSince(t, r, "a", l[n:])
		}
	}
}

func TestP113AMarkKeepsItsPositionWhenCyclesAreAdded(t *testing.T) {
	for _, at := range []int{0, 1, 2, 7, 500} {
		r := recorded(nth(0, at)...)
		r.Mark("a")
		n := at
		for more := range 120 {
			r.Add(nth(n, more)...)
			n += more
			expectSince(t, r, "a", nth(at, n-at))
		}
	}
}

func TestP113AMarkKeepsItsPositionWhenOthersAreSet(t *testing.T) {
	r := recorded(some[:3]...)
	r.Mark("kept")
	r.Mark("there too")
	for i, name := range append(slices.Clone(names), "there too", "there too", "a", "", "there too") {
		r.Add(nth(i, 1)...)
		r.Mark(name)
		expectSince(t, r, name, nil)
		expectSince(t, r, "kept", nth(0, i+1))
	}
	r.Add(some...)
	expectSince(t, r, "there too", some)
	expectSince(t, r, "kept", slices.Concat(nth(0, len(names)+5), some))
}

// plain goes by the words of the chapter: a mark is set as a line beside the
// cycles that it stands before.
type plain struct {
	cycles []api.Cycle
	lines  [][]string
}

func (p *plain) mark(name string) {
	for i, l := range p.lines {
		p.lines[i] = slices.DeleteFunc(l, func(s string) bool { return s == name })
	}
	for len(p.lines) <= len(p.cycles) {
		p.lines = append(p.lines, nil)
	}
	p.lines[len(p.cycles)] = append(p.lines[len(p.cycles)], name)
}

// expectPlain fails unless r answers what p does.
func expectPlain(t *testing.T, r *trace.Recorder, p *plain) {
	t.Helper()
	expectCycles(t, r, p.cycles, len(p.cycles))
	unset := slices.Clone(names)
	for i, l := range p.lines {
		for _, name := range l {
			expectSince(t, r, name, p.cycles[i:])
			unset = slices.DeleteFunc(unset, func(s string) bool { return s == name })
		}
	}
	for _, name := range unset {
		expectNoMark(t, r, name)
	}
}

func TestP113CyclesAndMarksInManyOrders(t *testing.T) {
	next := uint32(1)
	below := func(n int) int {
		next = next*1664525 + 1013904223
		return int(next>>8) % n
	}
	for range 300 {
		r, p := trace.New(), &plain{}
		for range 1 + below(40) {
			if below(2) == 0 {
				name := names[below(len(names))]
				r.Mark(name)
				p.mark(name)
			} else {
				l := nth(below(1009), below(5))
				r.Add(l...)
				p.cycles = append(p.cycles, l...)
			}
			expectPlain(t, r, p)
		}
	}
}

func TestAddedCyclesAreNotChangedNorShared(t *testing.T) {
	for n := range len(some) + 1 {
		// There is room behind the list that must stay as it is.
		room := append(slices.Clone(some), of(9, 9), of(8, 8))
		kept := slices.Clone(room)
		l := room[:n]
		r := trace.New()
		r.Add(l...)
		r.Mark("a")
		r.Add(l...)
		r.Add(of(7, 7))
		if !slices.Equal(room, kept) {
			t.Errorf("the %d cycles that Add was given, or what stands behind them, have become %v", n, room)
		}
		clear(room)
		want := slices.Concat(some[:n], some[:n], []api.Cycle{of(7, 7)})
		expectCycles(t, r, want, 2*n+1)
		expectSince(t, r, "a", want[n:])
	}
}

func TestOneListGivenToTwoRecorders(t *testing.T) {
	l := append(make([]api.Cycle, 0, 100), some...)
	first, second := recorded(l...), recorded(l...)
	first.Add(of(7, 7))
	second.Add(of(8, 8), of(8, 8))
	expectCycles(t, first, append(slices.Clone(some), of(7, 7)), len(some)+1)
	expectCycles(t, second, append(slices.Clone(some), of(8, 8), of(8, 8)), len(some)+2)
}

// spoil changes all that may be reached by a list: its cycles, and the room
// behind them.
func spoil(l []api.Cycle) {
	l = l[:cap(l)]
	for i := range l {
		l[i] = of(77, 77)
	}
}

func TestListsThatAreAnsweredAreNotShared(t *testing.T) {
	for n := range 40 {
		for _, at := range []int{0, n / 2, n} {
			r := recorded(nth(0, at)...)
			r.Mark("a")
			r.Add(nth(at, n-at)...)
			list := r.List()
			since, _ := r.Since("a")
			other := r.List()
			spoil(list)
			if !slices.Equal(other, nth(0, n)) || !slices.Equal(since, nth(at, n-at)) {
				t.Errorf("other answers have become %v, %v", other, since)
			}
			spoil(since)
			if !slices.Equal(other, nth(0, n)) {
				t.Errorf("another answer has become %v", other)
			}
			expectCycles(t, r, nth(0, n), n)
			expectSince(t, r, "a", nth(at, n-at))
			r.Add(some...)
			want := slices.Concat(nth(0, n), some)
			expectCycles(t, r, want, len(want))
			expectSince(t, r, "a", want[at:])
		}
	}
}

func TestListsThatWereAnsweredDoNotChange(t *testing.T) {
	r := trace.New()
	var lists, sinces [][]api.Cycle
	for n := range 100 {
		if n == 3 {
			r.Mark("a")
		}
		lists = append(lists, r.List())
		l, _ := r.Since("a")
		sinces = append(sinces, l)
		r.Add(nth(n, 1)...)
	}
	r.Mark("a")
	for n := range 100 {
		if !slices.Equal(lists[n], nth(0, n)) {
			t.Errorf("the list of %d cycles has become %v", n, lists[n])
		}
		if !slices.Equal(sinces[n], nth(3, max(n-3, 0))) {
			t.Errorf("the list since the mark at %d cycles has become %v", n, sinces[n])
		}
	}
	// Cycles that are appended to an answer are not stored.
	_ = append(lists[99], of(7, 7), of(7, 7))
	_ = append(r.List(), of(7, 7))
	expectCycles(t, r, nth(0, 100), 100)
	r.Add(some[0])
	expectCycles(t, r, append(nth(0, 100), some[0]), 101)
}

// A list that a recorder answered may be added to it.
func TestAnAnswerThatIsAdded(t *testing.T) {
	r := recorded(some...)
	r.Mark("a")
	r.Add(r.List()...)
	expectCycles(t, r, slices.Concat(some, some), 2*len(some))
	l, _ := r.Since("a")
	r.Add(l...)
	expectCycles(t, r, slices.Concat(some, some, some), 3*len(some))
	expectSince(t, r, "a", slices.Concat(some, some))
}
