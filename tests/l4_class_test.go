package tests

import (
	"math"
	"slices"
	"testing"

	"loop.example/g00692/impl"
)

const mostSpans = impl.MaxSpans
const lastRune = impl.MaxRune

// hasNumber: whether a number is in one of the spans, by their words.
func hasNumber(s []int, n int) bool {
	for i := 0; i+1 < len(s); i += 2 {
		if s[i] <= n && n <= s[i+1] {
			return true
		}
	}
	return false
}

// isGoodAsSaid: each sentence about a set by itself.
func isGoodAsSaid(s []int) bool {
	if len(s)%2 == 1 || len(s)/2 > mostSpans {
		return false
	}
	for i, n := range s {
		switch {
		case n < 0 || n > lastRune:
			return false
		case i%2 == 1 && n < s[i-1]:
			return false
		case i%2 == 0 && i > 0 && n-s[i-1] < 2:
			return false
		}
	}
	return true
}

func foldAsSaid(n int) int {
	if 65 <= n && n <= 90 {
		return n + 32
	}
	return n
}

// turnsOf: the numbers at which some set, or the letters in it, may begin or
// end: between two of them all numbers are alike.
func turnsOf(sets ...[]int) []int {
	turns := []int{0, 65, 91, 97, 123}
	for _, s := range sets {
		for i, n := range s {
			n += i % 2
			turns = append(turns, n, n+32, n-32)
		}
	}
	slices.Sort(turns)
	turns = slices.Compact(turns)
	return slices.DeleteFunc(turns, func(n int) bool { return n < 0 || n > lastRune })
}

// setWhere: the spans of all numbers that a question says yes to, where it
// changes its answer at some of the turns alone; however many spans these are.
func setWhere(turns []int, in func(int) bool) []int {
	var s []int
	was := false
	for _, n := range turns {
		is := in(n)
		if is && !was {
			s = append(s, n)
		}
		if !is && was {
			s = append(s, n-1)
		}
		was = is
	}
	if was {
		s = append(s, lastRune)
	}
	return s
}

// setOfBits: for each bit that is set the number that stands there.
func setOfBits(bits int, numbers []int) []int {
	var s []int
	for i, n := range numbers {
		switch {
		case bits>>i&1 == 0:
		case len(s) > 0 && s[len(s)-1] == n-1:
			s[len(s)-1] = n
		default:
			s = append(s, n, n)
		}
	}
	return s
}

func numbersFrom(first int, count int) []int {
	l := make([]int, count)
	for i := range l {
		l[i] = first + i
	}
	return l
}

// spansOf: as many spans as are wanted, each of some numbers, with gaps.
func spansOf(first int, count int, long int, gap int) []int {
	var s []int
	for range count {
		s = append(s, first, first+long-1)
		first += long + gap
	}
	return s
}

// manySets: good sets of all numbers of spans, here and there, by a rule that
// always tells the same ones.
func manySets(count int) [][]int {
	state := uint32(7)
	next := func(n int) int {
		state = state*1664525 + 1013904223
		return int(state>>8) % n
	}
	var sets [][]int
	for len(sets) < count {
		var s []int
		at := []int{0, 0, 60, 90, 55290, lastRune - 40}[next(6)]
		step := []int{3, 9, 40, 3000, 90000}[next(5)]
		for range next(mostSpans + 1) {
			first := at + next(step)
			last := first + next(step)
			if last > lastRune {
				break
			}
			s = append(s, first, last)
			at = last + 2
		}
		sets = append(sets, s)
	}
	return sets
}

// edgeSets: sets at the ends, at the letters, and at what is no rune.
var edgeSets = [][]int{
	nil,
	{0, lastRune},
	{0, 0},
	{lastRune, lastRune},
	{0, 0, lastRune, lastRune},
	{1, lastRune - 1},
	{0, 0, 2, lastRune},
	{0, lastRune - 2, lastRune, lastRune},
	{55295, 55295},
	{57344, 57344},
	{55296, 57343},
	{55295, 57344},
	{55295, 55296, 57343, 57344},
	{0, 55295, 57344, lastRune},
	{56000, 56000, 56002, 57000},
	{65, 90},
	{97, 122},
	{65, 90, 97, 122},
	{64, 91, 96, 123},
	{65, 65, 90, 90, 97, 97, 122, 122},
	{0, 64, 91, 96, 123, lastRune},
	spansOf(0, mostSpans, 1, 1),
	spansOf(0, mostSpans, 5, 1),
	spansOf(1, mostSpans, 1, 1),
	spansOf(65, mostSpans, 1, 1),
	spansOf(97, mostSpans, 1, 1),
	spansOf(55290, mostSpans, 100, 100),
	spansOf(lastRune-22, mostSpans, 1, 1),
}

// noSets: lists that are no sets, each by one fault or by more.
var noSets = [][]int{
	{97},
	{0},
	{-1},
	{97, 98, 100},
	{97, 98, 100, 101, 103},
	// the last below the first
	{98, 97},
	{1, 0},
	{0, -1},
	{97, 98, 101, 100},
	{lastRune, 0},
	{math.MaxInt, math.MinInt},
	// touching, and sharing numbers
	{97, 98, 99, 100},
	{0, 0, 1, 1},
	{97, 98, 98, 100},
	{97, 98, 97, 98},
	{97, 100, 98, 99},
	{97, 100, 98, 120},
	{lastRune - 1, lastRune - 1, lastRune, lastRune},
	{0, 55295, 55296, lastRune},
	{55296, 57343, 57344, 57344},
	{10, 20, 30, 40, 41, 50},
	// out of order
	{100, 100, 97, 97},
	{2, 2, 0, 0},
	{97, 98, 110, 111, 104, 105},
	{0, 0, 0, 0},
	{5, 5, 0, 0},
	// out of reach
	{-1, -1},
	{-1, 0},
	{-1, 97},
	{-5, -3, 0, 1},
	{lastRune + 1, lastRune + 1},
	{0, lastRune + 1},
	{97, 97, lastRune, lastRune + 1},
	{0, 1, lastRune + 2, lastRune + 3},
	{math.MinInt, 97},
	{math.MinInt, math.MinInt},
	{math.MinInt, math.MaxInt},
	{0, math.MaxInt},
	{math.MaxInt, math.MaxInt},
	{97, 98, math.MinInt, math.MinInt},
	{97, math.MaxInt, math.MinInt, 5},
	// too many spans
	spansOf(0, mostSpans+1, 1, 1),
	spansOf(5, mostSpans+1, 3, 7),
	spansOf(0, 2*mostSpans, 1, 1),
	spansOf(0, 5000, 1, 1),
	append(spansOf(0, mostSpans, 1, 1), 500),
	append(spansOf(0, mostSpans, 1, 1), 500, 501, 503),
	append(spansOf(0, mostSpans, 1, 1), 0, 0),
}

// A setFn is one of those that make a set of one or two sets.
type setFn struct {
	name string
	fn   func(a, b []int) ([]int, bool)
	in   func(a, b []int, n int) bool
}

var uniting = setFn{"UnionSet", impl.UnionSet, func(a, b []int, n int) bool { return hasNumber(a, n) || hasNumber(b, n) }}
var meeting = setFn{"MeetSet", impl.MeetSet, func(a, b []int, n int) bool { return hasNumber(a, n) && hasNumber(b, n) }}
var turningOver = setFn{"NotSet", func(a, _ []int) ([]int, bool) { return impl.NotSet(a) }, func(a, _ []int, n int) bool { return !hasNumber(a, n) }}
var folding = setFn{"FoldSet", func(a, _ []int) ([]int, bool) { return impl.FoldSet(a) }, hasFolded}

var setFns = []setFn{uniting, meeting, turningOver, folding}

// hasFolded asks all numbers that could count as one with this one.
func hasFolded(s, _ []int, n int) bool {
	for _, m := range []int{n - 32, n, n + 32} {
		if foldAsSaid(m) == foldAsSaid(n) && hasNumber(s, m) {
			return true
		}
	}
	return false
}

func checkGoodSet(t *testing.T, s []int, want bool) {
	t.Helper()
	if good := impl.GoodSet(s); good != want {
		t.Fatalf("GoodSet(%v) = %v", s, good)
	}
}

func checkSet(t *testing.T, f setFn, a, b []int, want []int) {
	t.Helper()
	if got, ok := f.fn(a, b); !ok || !slices.Equal(got, want) {
		t.Fatalf("%s(%v, %v) = %v, %v; not %v, true", f.name, a, b, got, ok, want)
	}
}

func checkNoSet(t *testing.T, f setFn, a, b []int) {
	t.Helper()
	if got, ok := f.fn(a, b); len(got) != 0 || ok {
		t.Fatalf("%s(%v, %v) = %v, %v", f.name, a, b, got, ok)
	}
}

// checkMade: what is made has just the numbers that it is said to have, or is
// none, where these are in too many spans.
func checkMade(t *testing.T, f setFn, a, b []int) {
	t.Helper()
	want := setWhere(turnsOf(a, b), func(n int) bool { return f.in(a, b, n) })
	if len(want) > 2*mostSpans {
		checkNoSet(t, f, a, b)
		return
	}
	checkSet(t, f, a, b, want)
	checkGoodSet(t, want, true)
}

func checkIn(t *testing.T, s []int, r int, want bool) {
	t.Helper()
	if in, ok := impl.InSet(s, r); in != want || !ok {
		t.Fatalf("InSet(%v, %d) = %v, %v; not %v, true", s, r, in, ok, want)
	}
}

func checkNotAsked(t *testing.T, s []int, r int) {
	t.Helper()
	if in, ok := impl.InSet(s, r); in || ok {
		t.Fatalf("InSet(%v, %d) = %v, %v", s, r, in, ok)
	}
}

func checkCount(t *testing.T, s []int, want int) {
	t.Helper()
	if n, ok := impl.CountSet(s); n != want || !ok {
		t.Fatalf("CountSet(%v) = %d, %v; not %d, true", s, n, ok, want)
	}
}

func checkSetOf(t *testing.T, l []int, want []int) {
	t.Helper()
	if s, ok := impl.SetOf(l); !ok || !slices.Equal(s, want) {
		t.Fatalf("SetOf(%v) = %v, %v; not %v, true", l, s, ok, want)
	}
}

func checkNoSetOf(t *testing.T, l []int) {
	t.Helper()
	if s, ok := impl.SetOf(l); len(s) != 0 || ok {
		t.Fatalf("SetOf of %d numbers = %v, %v", len(l), s, ok)
	}
}

// boundsOf: each bound of the spans, and one beyond each, that is a rune.
func boundsOf(sets ...[]int) []int {
	l := []int{0, lastRune, 55295, 57344}
	for _, s := range sets {
		for _, n := range s {
			l = append(l, n-1, n, n+1)
		}
	}
	slices.Sort(l)
	return slices.DeleteFunc(slices.Compact(l), func(n int) bool { return !impl.GoodRune(n) })
}

// inOf asks InSet, which has to tell true.
func inOf(t *testing.T, s []int, r int) bool {
	t.Helper()
	in, ok := impl.InSet(s, r)
	if !ok {
		t.Fatalf("InSet(%v, %d) tells false", s, r)
	}
	return in
}

// checkPromise: at each bound the rune is in what is made just where it is in
// one of the sets, in both, in none.
func checkPromise(t *testing.T, a, b []int) {
	t.Helper()
	bounds := boundsOf(a, b)
	union, united := impl.UnionSet(a, b)
	meet, met := impl.MeetSet(a, b)
	for _, r := range bounds {
		inA, inB := inOf(t, a, r), inOf(t, b, r)
		if united && inOf(t, union, r) != (inA || inB) {
			t.Fatalf("%d and UnionSet(%v, %v) = %v", r, a, b, union)
		}
		if met && inOf(t, meet, r) != (inA && inB) {
			t.Fatalf("%d and MeetSet(%v, %v) = %v", r, a, b, meet)
		}
	}
	notA, okA := impl.NotSet(a)
	notB, okB := impl.NotSet(b)
	if !okA || !okB {
		return
	}
	for _, r := range bounds {
		if inOf(t, notA, r) == inOf(t, a, r) {
			t.Fatalf("%d and NotSet(%v) = %v", r, a, notA)
		}
	}
	checkSet(t, turningOver, notA, nil, a)
	// De Morgan: both ways round, where the sets on the way are told
	if notUnion, ok := impl.NotSet(union); united && ok {
		checkSet(t, meeting, notA, notB, notUnion)
	}
	if notMeet, ok := impl.NotSet(meet); met && ok {
		checkSet(t, uniting, notA, notB, notMeet)
	}
}

func TestSetsOfManySpansMeetAndUnite(t *testing.T) {
	sets := slices.Concat(edgeSets, manySets(150))
	for _, a := range sets {
		checkGoodSet(t, a, true)
		for _, b := range sets {
			checkPromise(t, a, b)
			checkMade(t, uniting, a, b)
			checkMade(t, meeting, a, b)
		}
	}
}

func TestContraryAndFoldOfManySets(t *testing.T) {
	for _, s := range slices.Concat(edgeSets, manySets(5000)) {
		checkMade(t, turningOver, s, nil)
		checkMade(t, folding, s, nil)
		checkPromise(t, s, nil)
		checkPromise(t, s, s)
	}
}

// All sets of seven numbers, at each place where something changes.
func TestAllSetsOfFewNumbers(t *testing.T) {
	for _, first := range []int{0, 1, 62, 88, 94, 119, 55292, 57340, lastRune - 6} {
		numbers := numbersFrom(first, 7)
		for i := range 1 << 7 {
			a := setOfBits(i, numbers)
			checkMade(t, turningOver, a, nil)
			checkMade(t, folding, a, nil)
			for k := range 1 << 7 {
				b := setOfBits(k, numbers)
				checkSet(t, uniting, a, b, setOfBits(i|k, numbers))
				checkSet(t, meeting, a, b, setOfBits(i&k, numbers))
			}
		}
	}
}

// All lists of few numbers: good just where each sentence is met.
func TestGoodSetOfShortLists(t *testing.T) {
	eachShortList(4, []int{-1, 0, 1, 2, 3, 4, 5, lastRune - 2, lastRune - 1, lastRune, lastRune + 1}, func(s []int) {
		checkGoodSet(t, s, isGoodAsSaid(s))
	})
	eachShortList(6, []int{0, 1, 2, 3, 4, 6}, func(s []int) { checkGoodSet(t, s, isGoodAsSaid(s)) })
}

func TestGoodSet(t *testing.T) {
	for _, s := range [][]int{
		{}, {97, 97}, {97, 98}, {0, 0}, {lastRune, lastRune}, {0, lastRune},
		// one number between
		{97, 98, 100, 101}, {0, 0, 2, 2}, {0, lastRune - 2, lastRune, lastRune}, {0, 55295, 55297, lastRune},
		// numbers that stand for nothing
		{55296, 55296}, {57343, 57343}, {55296, 57343}, {55000, 58000}, {55296, 55296, 55298, 57343},
		spansOf(0, mostSpans-1, 1, 1), spansOf(0, mostSpans, 1, 1), spansOf(1000, mostSpans, 1000, 1000),
	} {
		checkGoodSet(t, s, true)
	}
	for _, s := range edgeSets {
		checkGoodSet(t, s, true)
	}
	for _, s := range noSets {
		checkGoodSet(t, s, false)
	}
	if mostSpans != 12 {
		t.Errorf("MaxSpans is %d", mostSpans)
	}
}

func TestSetOf(t *testing.T) {
	for _, c := range []struct{ l, want []int }{
		{nil, nil},
		{[]int{}, nil},
		{[]int{97}, []int{97, 97}},
		{[]int{97, 97, 97, 97}, []int{97, 97}},
		// next to each other, in any order
		{[]int{97, 98}, []int{97, 98}}, {[]int{98, 97}, []int{97, 98}},
		{[]int{97, 98, 100}, []int{97, 98, 100, 100}}, {[]int{100, 98, 97}, []int{97, 98, 100, 100}},
		{[]int{98, 100, 97, 98}, []int{97, 98, 100, 100}},
		// joining two spans to one
		{[]int{97, 99, 98}, []int{97, 99}}, {[]int{97, 99, 101, 100, 98}, []int{97, 101}},
		{[]int{97, 99, 101, 100}, []int{97, 97, 99, 101}}, {[]int{5, 3, 1, 4, 2, 0}, []int{0, 5}},
		// at the ends
		{[]int{0}, []int{0, 0}}, {[]int{lastRune}, []int{lastRune, lastRune}},
		{[]int{lastRune, 0}, []int{0, 0, lastRune, lastRune}},
		{[]int{lastRune, 1, lastRune - 1, 0}, []int{0, 1, lastRune - 1, lastRune}},
		// what is between them stands for nothing, and is not in the list
		{[]int{57344, 55295}, []int{55295, 55295, 57344, 57344}},
		{[]int{55294, 57345, 55295, 57344}, []int{55294, 55295, 57344, 57345}},
		// letters stay as they are
		{[]int{65, 97}, []int{65, 65, 97, 97}},
	} {
		checkSetOf(t, c.l, c.want)
	}
}

func TestSetOfAllShortListsHasJustTheirRunes(t *testing.T) {
	for _, runes := range [][]int{numbersFrom(0, 6), {55293, 55294, 55295, 57344, 57345, 57346}, numbersFrom(lastRune-5, 6)} {
		eachShortList(6, runes, func(l []int) {
			bits := 0
			for _, r := range l {
				bits |= 1 << slices.Index(runes, r)
			}
			checkSetOf(t, l, setOfBits(bits, runes))
		})
	}
}

// everyOther: as many runes as are wanted, no two of which touch.
func everyOther(first int, count int) []int {
	var l []int
	for i := range count {
		l = append(l, first+2*i)
	}
	return l
}

func TestSetOfAtMaxSpans(t *testing.T) {
	for _, first := range []int{0, 65, 97, lastRune - 2*mostSpans} {
		l := everyOther(first, mostSpans)
		checkSetOf(t, l, spansOf(first, mostSpans, 1, 1))
		slices.Reverse(l)
		checkSetOf(t, l, spansOf(first, mostSpans, 1, 1))
		checkSetOf(t, slices.Repeat(l, 83), spansOf(first, mostSpans, 1, 1))
		more := append(l, first+2*mostSpans)
		checkNoSetOf(t, more)
		// one between two of them makes one of three
		checkSetOf(t, append(more, first+1), append([]int{first, first + 2}, spansOf(first+4, mostSpans-1, 1, 1)...))
	}
	// far more spans than are taken, until the last runes come
	odd, even := everyOther(1, 500), everyOther(0, 500)
	checkNoSetOf(t, odd)
	checkNoSetOf(t, even)
	checkSetOf(t, slices.Concat(odd, even), []int{0, 999})
	checkSetOf(t, slices.Concat(even, odd[:498], odd[499:]), []int{0, 996, 998, 999})
}

func TestSetOfAtMaxText(t *testing.T) {
	full := numbersFrom(5000, impl.MaxText)
	checkSetOf(t, full, []int{5000, 5000 + impl.MaxText - 1})
	checkSetOf(t, slices.Repeat([]int{7}, impl.MaxText), []int{7, 7})
	checkSetOf(t, slices.Repeat([]int{7, 9}, impl.MaxText/2), []int{7, 7, 9, 9})
	slices.Reverse(full)
	checkSetOf(t, full, []int{5000, 5000 + impl.MaxText - 1})
	for _, l := range [][]int{
		append(full, 5000), numbersFrom(0, impl.MaxText+1),
		slices.Repeat([]int{7}, impl.MaxText+1), slices.Repeat([]int{7}, 20000),
	} {
		checkNoSetOf(t, l)
	}
}

func TestSetOfListsWithWhatIsNoRune(t *testing.T) {
	for _, r := range noRunes {
		for _, l := range [][]int{{r}, {r, 97}, {97, r}, {97, r, 98}, {55295, r, 57344}, append(slices.Repeat([]int{97}, impl.MaxText-1), r)} {
			checkNoSetOf(t, l)
		}
	}
	checkNoSetOf(t, []int{55295, 55296})
	checkNoSetOf(t, []int{57343, 57344})
	checkNoSetOf(t, []int{lastRune, lastRune + 1})
	checkNoSetOf(t, []int{-1, 0})
}

func TestInSetByHand(t *testing.T) {
	s := []int{97, 98, 100, 100, 55290, 57350, lastRune - 1, lastRune}
	for _, r := range []int{97, 98, 100, 55290, 55295, 57344, 57350, lastRune - 1, lastRune} {
		checkIn(t, s, r, true)
	}
	for _, r := range []int{0, 96, 99, 101, 55289, 57351, lastRune - 2} {
		checkIn(t, s, r, false)
	}
	for _, r := range []int{0, 97, 55295, 57344, lastRune} {
		checkIn(t, nil, r, false)
		checkIn(t, []int{}, r, false)
		checkIn(t, []int{0, lastRune}, r, true)
		// a span of what is no rune has none
		checkIn(t, []int{55296, 57343}, r, false)
	}
	checkIn(t, []int{0, 0}, 0, true)
	checkIn(t, []int{0, 0}, 1, false)
	checkIn(t, []int{1, 1}, 0, false)
}

func TestInSetAndCountSetAtEachBound(t *testing.T) {
	for _, s := range slices.Concat(edgeSets, manySets(2000)) {
		count := 0
		for i := 0; i < len(s); i += 2 {
			count += s[i+1] - s[i] + 1
		}
		checkCount(t, s, count)
		for _, r := range boundsOf(s) {
			checkIn(t, s, r, hasNumber(s, r))
		}
	}
}

func TestCountSet(t *testing.T) {
	for _, c := range []struct {
		s     []int
		count int
	}{
		{nil, 0}, {[]int{}, 0}, {[]int{0, 0}, 1}, {[]int{97, 97}, 1}, {[]int{97, 98}, 2}, {[]int{97, 98, 100, 100}, 3},
		{[]int{0, lastRune}, lastRune + 1}, {[]int{0, lastRune}, 1114112}, {[]int{lastRune, lastRune}, 1},
		// what stands for nothing is counted too
		{[]int{55296, 57343}, 2048}, {[]int{55295, 57344}, 2050}, {[]int{56000, 56000}, 1},
		{spansOf(0, mostSpans, 1, 1), mostSpans}, {spansOf(9, mostSpans, 7, 5), 7 * mostSpans},
	} {
		checkCount(t, c.s, c.count)
	}
}

func TestWhatIsNoRuneIsNotAsked(t *testing.T) {
	for _, r := range noRunes {
		for _, s := range slices.Concat(edgeSets, noSets) {
			checkNotAsked(t, s, r)
		}
	}
}

func TestUnionSetAndMeetSetByHand(t *testing.T) {
	none := []int{}
	for _, c := range []struct{ a, b, union, meet []int }{
		{nil, nil, none, none},
		{nil, []int{97, 98}, []int{97, 98}, none},
		{[]int{0, lastRune}, nil, []int{0, lastRune}, none},
		{[]int{0, lastRune}, []int{97, 98, 100, 100}, []int{0, lastRune}, []int{97, 98, 100, 100}},
		{[]int{0, lastRune}, []int{0, lastRune}, []int{0, lastRune}, []int{0, lastRune}},
		{[]int{97, 98, 100, 100}, []int{97, 98, 100, 100}, []int{97, 98, 100, 100}, []int{97, 98, 100, 100}},
		// touching, and one number between
		{[]int{97, 98}, []int{99, 100}, []int{97, 100}, none},
		{[]int{97, 98}, []int{100, 101}, []int{97, 98, 100, 101}, none},
		{[]int{97, 97, 99, 99}, []int{98, 98}, []int{97, 99}, none},
		{[]int{0, 0}, []int{1, lastRune}, []int{0, lastRune}, none},
		{[]int{0, 55295}, []int{57344, lastRune}, []int{0, 55295, 57344, lastRune}, none},
		{[]int{0, 55295, 57344, lastRune}, []int{55296, 57343}, []int{0, lastRune}, none},
		// overlapping by one, by more
		{[]int{97, 99}, []int{99, 110}, []int{97, 110}, []int{99, 99}},
		{[]int{97, 100}, []int{99, 110}, []int{97, 110}, []int{99, 100}},
		// one within the other
		{[]int{97, 110}, []int{100, 105}, []int{97, 110}, []int{100, 105}},
		{[]int{97, 110}, []int{98, 98, 100, 105, 109, 109}, []int{97, 110}, []int{98, 98, 100, 105, 109, 109}},
		// sharing an end
		{[]int{97, 110}, []int{97, 105}, []int{97, 110}, []int{97, 105}},
		{[]int{97, 110}, []int{105, 110}, []int{97, 110}, []int{105, 110}},
		{[]int{97, 110}, []int{110, 110}, []int{97, 110}, []int{110, 110}},
		{[]int{97, 110}, []int{97, 97}, []int{97, 110}, []int{97, 97}},
		// one that reaches over several
		{[]int{10, 20, 30, 40, 50, 60}, []int{15, 55}, []int{10, 60}, []int{15, 20, 30, 40, 50, 55}},
		{[]int{10, 20, 30, 40, 50, 60}, []int{21, 29, 41, 49}, []int{10, 60}, none},
		{[]int{10, 20, 30, 40, 50, 60}, []int{22, 28, 42, 48}, []int{10, 20, 22, 28, 30, 40, 42, 48, 50, 60}, none},
		{[]int{55300, 55310}, []int{55305, 60000}, []int{55300, 60000}, []int{55305, 55310}},
	} {
		checkSet(t, uniting, c.a, c.b, c.union)
		checkSet(t, uniting, c.b, c.a, c.union)
		checkSet(t, meeting, c.a, c.b, c.meet)
		checkSet(t, meeting, c.b, c.a, c.meet)
	}
}

func TestNotSetByHand(t *testing.T) {
	for _, c := range []changed{
		{nil, []int{0, lastRune}},
		{[]int{97, 98}, []int{0, 96, 99, lastRune}},
		{[]int{0, 96}, []int{97, lastRune}},
		{[]int{0, 0}, []int{1, lastRune}},
		{[]int{lastRune, lastRune}, []int{0, lastRune - 1}},
		{[]int{1, lastRune - 1}, []int{0, 0, lastRune, lastRune}},
		{[]int{0, 0, 2, 2}, []int{1, 1, 3, lastRune}},
		{[]int{97, 98, 100, 100}, []int{0, 96, 99, 99, 101, lastRune}},
		{[]int{0, 55295, 57344, lastRune}, []int{55296, 57343}},
	} {
		checkSet(t, turningOver, c.l, nil, c.want)
		checkSet(t, turningOver, c.want, nil, c.l)
	}
}

func TestUnionSetAtMaxSpans(t *testing.T) {
	for _, n := range []int{0, 1, 5, 6, 7, 11, 12} {
		a, b := spansOf(0, n, 2, 8), spansOf(5, mostSpans-n, 2, 8)
		checkMade(t, uniting, a, b)
		if union, ok := impl.UnionSet(a, b); !ok || len(union) != 2*mostSpans {
			t.Errorf("UnionSet(%v, %v) = %v, %v", a, b, union, ok)
		}
		checkNoSet(t, uniting, a, append(b, 500, 501))
		checkNoSet(t, uniting, append(b, 500, 501), a)
		// the same one in both is one
		if n < mostSpans {
			shared := slices.Concat(a, b[:2])
			slices.Sort(shared)
			checkMade(t, uniting, shared, b)
		}
	}
	full := spansOf(0, mostSpans, 1, 1)
	checkNoSet(t, uniting, full, []int{500, 500})
	checkNoSet(t, uniting, full, spansOf(500, mostSpans, 1, 1))
	checkSet(t, uniting, full, full, full)
	// all of them are one in the end
	checkSet(t, uniting, full, spansOf(1, mostSpans, 1, 1), []int{0, 2*mostSpans - 1})
	checkSet(t, uniting, full, []int{0, lastRune}, []int{0, lastRune})
	// the gap between the last two is filled, and one is put far behind
	checkSet(t, uniting, full, []int{2*mostSpans - 3, 2*mostSpans - 3, 500, 500},
		slices.Concat(spansOf(0, mostSpans-2, 1, 1), []int{2*mostSpans - 4, 2*mostSpans - 2, 500, 500}))
}

func TestMeetSetAtMaxSpans(t *testing.T) {
	// each span of b ends one of a and begins the next one
	over := func(n int) []int { return spansOf(8, n, 4, 6) }
	a := spansOf(0, 7, 9, 1)
	if meet, ok := impl.MeetSet(a, over(6)); !ok || len(meet) != 2*mostSpans {
		t.Errorf("MeetSet(%v, %v) = %v, %v", a, over(6), meet, ok)
	}
	checkMade(t, meeting, a, over(6))
	checkNoSet(t, meeting, a, append(over(6), 68, 69))
	checkNoSet(t, meeting, append(over(6), 68, 69), a)
	full := spansOf(3, mostSpans, 5, 5)
	checkSet(t, meeting, full, []int{0, lastRune}, full)
	checkSet(t, meeting, full, full, full)
	checkSet(t, meeting, full, []int{0, 4, 6, lastRune}[:2], []int{3, 4})
	checkNoSet(t, meeting, full, []int{0, 4, 6, lastRune})
	checkNoSet(t, meeting, spansOf(0, mostSpans, 9, 1), spansOf(5, mostSpans, 9, 1))
}

func TestNotSetAtMaxSpans(t *testing.T) {
	free := spansOf(1, mostSpans, 1, 1)
	checkNoSet(t, turningOver, free, nil)
	checkNoSet(t, turningOver, spansOf(lastRune-23, mostSpans, 1, 1), nil)
	checkNoSet(t, turningOver, spansOf(500, mostSpans, 100, 100), nil)
	checkSet(t, turningOver, free[:2*mostSpans-2], nil, append(spansOf(0, mostSpans-1, 1, 1), 2*mostSpans-2, lastRune))
	checkSet(t, turningOver, spansOf(0, mostSpans, 1, 1), nil, append(spansOf(1, mostSpans-1, 1, 1), 2*mostSpans-1, lastRune))
	last := spansOf(lastRune-22, mostSpans, 1, 1)
	checkSet(t, turningOver, last, nil, append([]int{0, lastRune - 23}, spansOf(lastRune-21, mostSpans-1, 1, 1)...))
	both := append(spansOf(0, mostSpans-1, 1, 1), lastRune, lastRune)
	checkSet(t, turningOver, both, nil, append(spansOf(1, mostSpans-2, 1, 1), 2*mostSpans-3, lastRune-1))
}

func TestFoldRune(t *testing.T) {
	for _, c := range []struct{ r, want int }{
		{0, 0}, {32, 32}, {33, 33}, {58, 58}, {64, 64}, {65, 97}, {66, 98}, {89, 121}, {90, 122}, {91, 91}, {96, 96}, {97, 97}, {122, 122},
		{123, 123}, {128, 128}, {154, 154}, {192, 192}, {55295, 55295}, {57344, 57344}, {bad, bad}, {lastRune, lastRune},
	} {
		if r, ok := impl.FoldRune(c.r); r != c.want || !ok {
			t.Errorf("FoldRune(%d) = %d, %v; not %d, true", c.r, r, ok, c.want)
		}
	}
	for r := range lastRune + 1 {
		if folded, ok := impl.FoldRune(r); impl.GoodRune(r) && (folded != foldAsSaid(r) || !ok) {
			t.Fatalf("FoldRune(%d) = %d, %v", r, folded, ok)
		}
	}
	for _, r := range noRunes {
		if folded, ok := impl.FoldRune(r); folded != 0 || ok {
			t.Errorf("FoldRune(%d) = %d, %v", r, folded, ok)
		}
	}
}

func TestFoldSetByHand(t *testing.T) {
	for _, c := range []changed{
		{nil, nil},
		{[]int{0, lastRune}, []int{0, lastRune}},
		// upper letters alone, lower ones alone, and both
		{[]int{65, 66}, []int{65, 66, 97, 98}},
		{[]int{97, 98}, []int{65, 66, 97, 98}},
		{[]int{65, 90}, []int{65, 90, 97, 122}},
		{[]int{97, 122}, []int{65, 90, 97, 122}},
		{[]int{65, 90, 97, 122}, []int{65, 90, 97, 122}},
		{[]int{90, 90}, []int{90, 90, 122, 122}}, {[]int{122, 122}, []int{90, 90, 122, 122}},
		// parts of both
		{[]int{65, 66, 99, 100}, []int{65, 68, 97, 100}},
		{[]int{65, 65, 99, 99}, []int{65, 65, 67, 67, 97, 97, 99, 99}},
		{[]int{65, 70, 100, 110}, []int{65, 78, 97, 110}},
		// across the bounds of the letters
		{[]int{64, 65}, []int{64, 65, 97, 97}}, {[]int{90, 91}, []int{90, 91, 122, 122}},
		{[]int{96, 97}, []int{65, 65, 96, 97}}, {[]int{122, 123}, []int{90, 90, 122, 123}},
		{[]int{0, 65}, []int{0, 65, 97, 97}}, {[]int{122, lastRune}, []int{90, 90, 122, lastRune}},
		{[]int{90, 97}, []int{65, 65, 90, 97, 122, 122}}, {[]int{60, 130}, []int{60, 130}},
		{[]int{85, 100}, []int{65, 68, 85, 100, 117, 122}},
		// beside the letters, and as far from them as case is from case
		{[]int{64, 64, 91, 96, 123, 123}, []int{64, 64, 91, 96, 123, 123}},
		{[]int{33, 58}, []int{33, 58}}, {[]int{129, 154}, []int{129, 154}}, {[]int{32, 32, 64, 64, 128, 128}, []int{32, 32, 64, 64, 128, 128}},
		{[]int{55296, 57343}, []int{55296, 57343}}, {[]int{192, 222}, []int{192, 222}},
		// what comes in touches what is there
		{[]int{64, 64, 97, 97}, []int{64, 65, 97, 97}}, {[]int{91, 91, 122, 122}, []int{90, 91, 122, 122}},
		{[]int{65, 65, 96, 96}, []int{65, 65, 96, 97}}, {[]int{90, 90, 123, 123}, []int{90, 90, 122, 123}},
	} {
		checkSet(t, folding, c.l, nil, c.want)
		checkSet(t, folding, c.want, nil, c.want)
	}
}

// All sets of the numbers at the bounds of the letters, asked number by number.
func TestFoldSetHasALetterJustWhereTheOtherCaseIsIn(t *testing.T) {
	numbers := []int{64, 65, 66, 67, 89, 90, 91, 96, 97, 98, 99, 121, 122, 123}
	for bits := range 1 << len(numbers) {
		s := setOfBits(bits, numbers)
		checkMade(t, folding, s, nil)
		folded, ok := impl.FoldSet(s)
		if !ok {
			continue
		}
		for n := range 160 {
			in := false
			for _, m := range numbers {
				in = in || hasNumber(s, m) && foldAsSaid(m) == foldAsSaid(n)
			}
			if hasNumber(folded, n) != in {
				t.Fatalf("FoldSet(%v) = %v at %d", s, folded, n)
			}
		}
	}
}

func TestFoldSetAtMaxSpans(t *testing.T) {
	for _, first := range []int{65, 97} {
		both := slices.Concat(spansOf(65, 6, 1, 1), spansOf(97, 6, 1, 1))
		checkSet(t, folding, spansOf(first, 6, 1, 1), nil, both)
		checkNoSet(t, folding, spansOf(first, 7, 1, 1), nil)
		checkNoSet(t, folding, spansOf(first, mostSpans, 1, 1), nil)
	}
	// no letters, as many spans as there may be; and one letter more
	far := spansOf(500, mostSpans, 3, 3)
	checkSet(t, folding, far, nil, far)
	checkSet(t, folding, append([]int{65, 65}, far[:2*mostSpans-4]...), nil, append([]int{65, 65, 97, 97}, far[:2*mostSpans-4]...))
	checkNoSet(t, folding, append([]int{65, 65}, far[:2*mostSpans-2]...), nil)
	checkNoSet(t, folding, append([]int{122, 122}, far[:2*mostSpans-2]...), nil)
	checkSet(t, folding, append([]int{65, 65, 97, 97}, far[:2*mostSpans-4]...), nil, append([]int{65, 65, 97, 97}, far[:2*mostSpans-4]...))
	// each case fills the gaps of the other one
	teeth := slices.Concat(spansOf(65, 6, 1, 1), spansOf(98, 6, 1, 1))
	checkSet(t, folding, teeth, nil, []int{65, 76, 97, 108})
}

func TestWhatIsNoSetGetsTheZeroAnswer(t *testing.T) {
	goods := [][]int{nil, {0, lastRune}, {97, 98}, spansOf(0, mostSpans, 1, 1)}
	for _, s := range noSets {
		if isGoodAsSaid(s) {
			t.Fatalf("%v is a set", s)
		}
		checkNoSet(t, turningOver, s, nil)
		checkNoSet(t, folding, s, nil)
		for _, other := range slices.Concat(goods, noSets) {
			checkNoSet(t, uniting, s, other)
			checkNoSet(t, uniting, other, s)
			checkNoSet(t, meeting, s, other)
			checkNoSet(t, meeting, other, s)
		}
		for _, r := range []int{0, 97, 98, 99, 500, lastRune} {
			checkNotAsked(t, s, r)
		}
		if n, ok := impl.CountSet(s); n != 0 || ok {
			t.Errorf("CountSet(%v) = %d, %v", s, n, ok)
		}
	}
}

func TestSetsWriteIntoNoListAndReadNoFurther(t *testing.T) {
	other := withMore([]int{97, 98, 100, 120}, 121, 122)
	for _, plain := range slices.Concat(edgeSets, noSets, manySets(200)) {
		s := withMore(plain, lastRune, lastRune, -7)
		before := slices.Clone(s[:len(s)+3])
		if impl.GoodSet(s) != isGoodAsSaid(plain) {
			t.Errorf("GoodSet(%v) hangs on what lies behind the list", plain)
		}
		impl.InSet(s, 97)
		impl.CountSet(s)
		for _, f := range setFns {
			for _, p := range [][2][]int{{s, other}, {other, s}, {s, s}} {
				got, ok := f.fn(p[0], p[1])
				want, wantOk := f.fn(slices.Clip(slices.Clone(p[0])), slices.Clip(slices.Clone(p[1])))
				if ok != wantOk || !slices.Equal(got, want) {
					t.Errorf("%s(%v, %v) hangs on what lies behind the lists", f.name, p[0], p[1])
				}
				overwrite(got)
			}
		}
		made, _ := impl.SetOf(s)
		overwrite(made)
		if !slices.Equal(s[:len(s)+3], before) || !slices.Equal(other[:6], []int{97, 98, 100, 120, 121, 122}) {
			t.Fatalf("%v was written into, or an answer shares its memory", plain)
		}
	}
	l := withMore([]int{100, 98, 97, 100}, 99)
	checkSetOf(t, l, []int{97, 98, 100, 100})
	if !slices.Equal(l[:5], []int{100, 98, 97, 100, 99}) {
		t.Errorf("SetOf wrote %v", l[:5])
	}
}

func TestSetsAreNewMemory(t *testing.T) {
	for _, s := range slices.Concat(edgeSets, manySets(200)) {
		for _, f := range setFns {
			first, _ := f.fn(s, []int{97, 98})
			second, _ := f.fn(s, []int{97, 98})
			kept := slices.Clone(second)
			overwrite(first)
			if !slices.Equal(second, kept) {
				t.Errorf("two answers of %s(%v) share memory", f.name, s)
			}
			if third, _ := f.fn(s, []int{97, 98}); !slices.Equal(third, kept) {
				t.Errorf("%s(%v) is another one then", f.name, s)
			}
		}
	}
	l := []int{97, 98, 100}
	first, _ := impl.SetOf(l)
	second, _ := impl.SetOf(l)
	overwrite(first)
	if !slices.Equal(second, []int{97, 98, 100, 100}) {
		t.Error("two answers of SetOf share memory")
	}
	checkSetOf(t, l, []int{97, 98, 100, 100})
}
