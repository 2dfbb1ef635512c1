package tests

import (
	"math"
	"slices"
	"testing"

	"loop.example/g00692/impl"
)

const mostStream = impl.MaxStream
const mostPatterns = impl.MaxPatterns

// pieces are those of a list that a pattern matches, each asked by itself.
type pieces struct {
	many    int
	matched []bool
}

func piecesOf(p []impl.Re, l []int) pieces {
	s := pieces{many: len(l)}
	m := matching{l, map[[3]int]bool{}}
	for from := range len(l) + 1 {
		for to := range len(l) + 1 {
			s.matched = append(s.matched, from <= to && m.matches(p, len(p), from, to))
		}
	}
	return s
}

func (s pieces) has(from, to int) bool { return s.matched[from*(s.many+1)+to] }

// longest and find are of the first runes alone, of which there are so many.
func (s pieces) longest(from, many int) (int, bool) {
	for to := many; to >= from; to-- {
		if s.has(from, to) {
			return to, true
		}
	}
	return 0, false
}

func (s pieces) find(first, many int) (impl.Hit, bool) {
	for from := first; from <= many; from++ {
		if to, ok := s.longest(from, many); ok {
			return impl.Hit{From: from, To: to}, true
		}
	}
	return impl.Hit{}, false
}

func (s pieces) fires() (int, bool) {
	for many := range s.many + 1 {
		if _, ok := s.find(0, many); ok {
			return many, true
		}
	}
	return 0, false
}

func (s pieces) all() []impl.Hit {
	var hits []impl.Hit
	first := 0
	for {
		hit, ok := s.find(first, s.many)
		if !ok {
			return hits
		}
		hit.No = len(hits)
		hits = append(hits, hit)
		first = hit.To
		if hit.From == hit.To {
			first++
		}
	}
}

// firstAsSaid takes away all but the least From, then all but the least No.
func firstAsSaid(ps [][]impl.Re, l []int) (impl.Hit, bool) {
	var hits []impl.Hit
	for no, p := range ps {
		if hit, ok := piecesOf(p, l).find(0, len(l)); ok {
			hits = append(hits, impl.Hit{No: no, From: hit.From, To: hit.To})
		}
	}
	if hits == nil {
		return impl.Hit{}, false
	}
	slices.SortFunc(hits, func(a, b impl.Hit) int {
		if a.From != b.From {
			return a.From - b.From
		}
		return a.No - b.No
	})
	return hits[0], true
}

func checkLongest(t *testing.T, p []impl.Re, l []int, from int, to int, found bool) {
	t.Helper()
	if got, ok := impl.LongestAt(p, l, from); got != to || ok != found {
		t.Fatalf("LongestAt(%v, %v, %d) = %d, %v; not %d, %v", p, l, from, got, ok, to, found)
	}
}

func checkFind(t *testing.T, p []impl.Re, l []int, from int, to int, found bool) {
	t.Helper()
	if gotFrom, gotTo, ok := impl.FindIn(p, l); gotFrom != from || gotTo != to || ok != found {
		t.Fatalf("FindIn(%v, %v) = %d, %d, %v; not %d, %d, %v", p, l, gotFrom, gotTo, ok, from, to, found)
	}
}

func checkFires(t *testing.T, p []impl.Re, l []int, many int, found bool) {
	t.Helper()
	if got, ok := impl.FiresAt(p, l); got != many || ok != found {
		t.Fatalf("FiresAt(%v, %v) = %d, %v; not %d, %v", p, l, got, ok, many, found)
	}
}

func checkFindAll(t *testing.T, p []impl.Re, l []int, want []impl.Hit, good bool) {
	t.Helper()
	if got, ok := impl.FindAll(p, l); !slices.Equal(got, want) || ok != good {
		t.Fatalf("FindAll(%v, %v) = %v, %v; not %v, %v", p, l, got, ok, want, good)
	}
}

func checkFirst(t *testing.T, ps [][]impl.Re, l []int, want impl.Hit, found bool) {
	t.Helper()
	if got, ok := impl.FirstOf(ps, l); got != want || ok != found {
		t.Fatalf("FirstOf(%v, %v) = %v, %v; not %v, %v", ps, l, got, ok, want, found)
	}
}

// checkSearch: all functions of one pattern and one list, at all its places
// and one to each side.
func checkSearch(t *testing.T, p []impl.Re, l []int) {
	t.Helper()
	s := piecesOf(p, l)
	for from := range len(l) + 1 {
		to, ok := s.longest(from, len(l))
		checkLongest(t, p, l, from, to, ok)
	}
	checkLongest(t, p, l, -1, 0, false)
	checkLongest(t, p, l, len(l)+1, 0, false)
	hit, found := s.find(0, len(l))
	checkFind(t, p, l, hit.From, hit.To, found)
	checkFirst(t, [][]impl.Re{p}, l, hit, found)
	many, fires := s.fires()
	checkFires(t, p, l, many, fires)
	checkFindAll(t, p, l, s.all(), true)
}

// checkNotSearched: what is not as said gets the zero answer everywhere.
func checkNotSearched(t *testing.T, p []impl.Re, l []int) {
	t.Helper()
	for _, from := range []int{0, 1, len(l) - 1, len(l), len(l) + 1, -1, math.MaxInt, math.MinInt} {
		checkLongest(t, p, l, from, 0, false)
	}
	checkFind(t, p, l, 0, 0, false)
	checkFires(t, p, l, 0, false)
	checkFindAll(t, p, l, nil, false)
	checkFirst(t, [][]impl.Re{p}, l, impl.Hit{}, false)
}

// checkFoundMatches is promise 7 by MatchesRe alone: what is found is matched,
// and neither is what is longer there nor anything ahead of it.
func checkFoundMatches(t *testing.T, p []impl.Re, l []int) {
	t.Helper()
	from, to, found := impl.FindIn(p, l)
	if found {
		checkMatch(t, p, l[from:to], true)
		for longer := to + 1; longer <= len(l); longer++ {
			checkMatch(t, p, l[from:longer], false)
		}
	} else {
		from = len(l) + 1
	}
	for ahead := range from {
		for end := ahead; end <= len(l); end++ {
			checkMatch(t, p, l[ahead:end], false)
		}
	}
}

func TestFoundInAllShortLists(t *testing.T) {
	lists := shortLists(4, wordRunes)
	for _, p := range patternsUpTo(4, fewLeaves...) {
		for _, l := range lists {
			checkSearch(t, p, l)
			checkFoundMatches(t, p, l)
		}
	}
	lists = shortLists(3, wordRunes[:2])
	for _, p := range patternsUpTo(5, fewLeaves...) {
		for _, l := range lists {
			checkSearch(t, p, l)
			checkFoundMatches(t, p, l)
		}
	}
}

// listOfChance: so many runes, most of them a and b.
func (c *chances) listOfChance(many int) []int {
	runes := []int{97, 98, 97, 98, 97, 98, 99, 0, 45, 122, 12354, 55295, 57344, lastRune}
	var l []int
	for range many {
		l = append(l, runes[c.next(len(runes))])
	}
	return l
}

func TestFoundOfManyPatterns(t *testing.T) {
	c := chances(17)
	for _, p := range manyPatterns(3000, 12, manyLeaves...) {
		for _, many := range []int{0, 1, 3, 7, 11} {
			l := c.listOfChance(many)
			checkSearch(t, p, l)
			checkFoundMatches(t, p, l)
		}
	}
}

func TestFoundOfGreatPatterns(t *testing.T) {
	c := chances(23)
	for _, p := range manyPatterns(300, mostNodes, manyLeaves...) {
		checkSearch(t, p, c.listOfChance(5+c.next(20)))
	}
	for range 12 {
		p := c.pattern(mostNodes, manyLeaves)
		checkSearch(t, p, c.listOfChance(mostStream))
		checkSearch(t, p, c.listOfChance(60+c.next(10)))
	}
}

// Places beyond 63 and 64 of lists that are as long as can be.
func TestFoundFarBehind(t *testing.T) {
	for _, s := range []string{
		"b", "b*", "(ab)", "(a*b)", "(ba*)", "(b.*)", "(.*b)", "(~.)", "(~(.*(b.*)))", "(a*&(~()))", "(b|(bb))", "((b(a*b))|b)", "(..)*", "(.(..))*", "((~(.*b))b)", "(a|(ab))*", "(()|b)",
	} {
		p := re(t, s)
		for _, places := range [][]int{{}, {62}, {63}, {64}, {119}, {63, 64}, {0, 63, 64, 119}} {
			l := slices.Repeat([]int{97}, mostStream)
			for _, place := range places {
				l[place] = 98
			}
			checkSearch(t, p, l)
			checkSearch(t, p, l[:64])
			checkSearch(t, p, l[1:66])
		}
	}
}

func TestLongestAtByHand(t *testing.T) {
	for _, c := range []struct {
		pattern string
		text    string
		from    int
		to      int
		found   bool
	}{
		// the empty list alone
		{"()", "", 0, 0, true}, {"()", "abc", 0, 0, true}, {"()", "abc", 2, 2, true}, {"()", "abc", 3, 3, true}, {"()*", "abc", 1, 1, true}, {"[]*", "abc", 1, 1, true}, {"((~())&())", "abc", 1, 0, false},
		// nothing
		{"[]", "", 0, 0, false}, {"[]", "abc", 0, 0, false}, {"[]", "abc", 3, 0, false}, {"(~.*)", "abc", 1, 0, false}, {"(a&b)", "ab", 0, 0, false}, {"([]a*)", "aa", 0, 0, false},
		// the whole rest alone
		{"(a(bc))", "abc", 0, 3, true}, {"(bc)", "abc", 1, 3, true}, {"c", "abc", 2, 3, true}, {"c", "abc", 3, 0, false}, {"(a(bc))", "abcd", 0, 3, true}, {"(a(bc))", "ab", 0, 0, false}, {"(.(.(..)))", "abcd", 0, 4, true}, {"(.(.(..)))", "abcd", 1, 0, false},
		// a short and a long piece, none between
		{"(a|(a(a(aa))))", "aaaa", 0, 4, true}, {"(a|(a(a(aa))))", "aaaa", 1, 2, true}, {"(a|(a(a(aa))))", "aaa", 0, 1, true}, {"(()|(a(aa)))", "aaa", 0, 3, true}, {"(()|(a(aa)))", "aaa", 1, 1, true}, {"(()|(a(aa)))", "aab", 0, 0, true},
		{"(ab)*", "ababa", 0, 4, true}, {"(ab)*", "ababa", 1, 1, true}, {"(ab)*", "ababa", 2, 4, true}, {"(ab)*", "ababa", 4, 4, true}, {"(ab)*", "ababa", 5, 5, true},
		// longer by another way
		{"((a|(ab))(c|(b(cd))))", "abcd", 0, 4, true}, {"((a|(ab))(c|(b(cd))))", "abce", 0, 3, true}, {"(a*a)", "aaa", 0, 3, true}, {"(a*a)", "aaa", 3, 0, false},
		// contraries and meetings
		{"(~a)", "a", 0, 0, true}, {"(~a)", "aa", 0, 2, true}, {"(~a)", "aa", 1, 1, true}, {"(~(~a))", "aa", 1, 2, true}, {"(a*&(..)*)", "aaaaa", 0, 4, true}, {"((a*&(..)*)&(~()))", "aaaaa", 4, 0, false},
		{"(~(.*(b.*)))", "aab", 0, 2, true}, {"(~(.*(b.*)))", "aab", 2, 2, true}, {"((~(.*(b.*)))b)", "aab", 1, 3, true},
	} {
		p, l := re(t, c.pattern), rangedOver(c.text)
		checkLongest(t, p, l, c.from, c.to, c.found)
		for _, from := range []int{-1, len(l) + 1, len(l) + 2, 64, 120, 121, 128, math.MaxInt, math.MinInt, -64, math.MaxInt - 63} {
			checkLongest(t, p, l, from, 0, false)
		}
	}
}

func TestFindInByHand(t *testing.T) {
	for _, c := range []struct {
		pattern string
		text    string
		from    int
		to      int
		found   bool
	}{
		// the empty list is matched: at 0, as long as it can be there
		{"()", "", 0, 0, true}, {"()", "abc", 0, 0, true}, {"a*", "", 0, 0, true}, {"a*", "baa", 0, 0, true}, {"a*", "aab", 0, 2, true}, {"(()|(ba))", "baa", 0, 2, true}, {"(~a)", "a", 0, 0, true}, {"(~b)", "ab", 0, 2, true}, {".*", "abc", 0, 3, true},
		// at the last rune alone
		{"b", "aab", 2, 3, true}, {"(~(a*|(.(..*))))", "aab", 2, 3, true}, {"[b-z]", "aaz", 2, 3, true},
		// at the end of the runes alone
		{"(~(..*))", "", 0, 0, true}, {"(()&a*)", "", 0, 0, true},
		// several places: the first one, of these the longest
		{"(ab*)", "cabba", 1, 4, true}, {"(b|(bb))", "abbb", 1, 3, true}, {"((bb)|b)", "abbb", 1, 3, true}, {"(a|(b(cd)))", "bca", 2, 3, true}, {"(a|(b(cd)))", "bcda", 0, 3, true}, {"(b(.*b))", "abcabcab", 1, 8, true}, {"(a|(a(b(cd))))", "abcabcd", 0, 1, true},
		{"((aa)|b)", "abaa", 1, 2, true}, {"(c(.|()))", "abc", 2, 3, true},
		// the meeting, or what is not, is what is found
		{"((a.*)&(.*b))", "caabc", 1, 4, true}, {"((..*)&(~(.*(a.*))))", "aabba", 2, 4, true}, {"((~())&(~(a.*)))", "aab", 2, 3, true},
		// nowhere
		{"[]", "", 0, 0, false}, {"[]", "abc", 0, 0, false}, {"a", "", 0, 0, false}, {"c", "abab", 0, 0, false}, {"(ab)", "ba", 0, 0, false}, {"(a&b)", "abab", 0, 0, false}, {"(~.*)", "abc", 0, 0, false}, {"(a(b(ab)))", "aba", 0, 0, false},
	} {
		checkFind(t, re(t, c.pattern), rangedOver(c.text), c.from, c.to, c.found)
	}
}

func TestFiresAtByHand(t *testing.T) {
	for _, c := range []struct {
		pattern string
		text    string
		many    int
		found   bool
	}{
		// the empty list is found at once
		{"()", "", 0, true}, {"()", "abc", 0, true}, {"a*", "aab", 0, true}, {"(~a)", "aaa", 0, true}, {".*", "abc", 0, true},
		// as soon as the shortest is there, though a longer one is found in the end
		{"(ab*)", "cabba", 2, true}, {"(a|(a(bc)))", "abc", 1, true}, {"(b(.*b))", "abcbcb", 4, true}, {"(.(..*))", "abc", 2, true},
		// ends earlier though it begins later
		{"((a(b(cd)))|(bc))", "abcd", 3, true}, {"((a.*)&(.*d))", "abcd", 4, true}, {"(((a(.*d))|b)|c)", "abcd", 2, true}, {"((a(b(cd)))|c)", "abcd", 3, true},
		// seen only when all have come
		{"c", "abc", 3, true}, {"(a(b(cd)))", "abcd", 4, true}, {"((a.*)&(.(.(..))))", "abcd", 4, true}, {"(~((()|.)|(..)))", "abc", 3, true},
		// never
		{"[]", "", 0, false}, {"[]", "abc", 0, false}, {"a", "", 0, false}, {"d", "abc", 0, false}, {"(ba)", "ab", 0, false}, {"(~.*)", "abc", 0, false},
	} {
		checkFires(t, re(t, c.pattern), rangedOver(c.text), c.many, c.found)
	}
}

// hitsOf numbers pairs of places.
func hitsOf(places ...int) []impl.Hit {
	var hits []impl.Hit
	for i := 0; i < len(places); i += 2 {
		hits = append(hits, impl.Hit{No: i / 2, From: places[i], To: places[i+1]})
	}
	return hits
}

func TestFindAllByHand(t *testing.T) {
	for _, c := range []struct {
		pattern string
		text    string
		hits    []impl.Hit
	}{
		// none
		{"[]", "", nil}, {"[]", "abc", nil}, {"a", "", nil}, {"d", "abc", nil}, {"(~.*)", "ab", nil},
		// one
		{"a", "a", hitsOf(0, 1)}, {"b", "abc", hitsOf(1, 2)}, {"c", "abc", hitsOf(2, 3)}, {"(..*)", "abc", hitsOf(0, 3)}, {"()", "", hitsOf(0, 0)}, {"a*", "", hitsOf(0, 0)},
		// with others between
		{"(ab*)", "cabba", hitsOf(1, 4, 4, 5)}, {"b", "abab", hitsOf(1, 2, 3, 4)}, {"(aa)", "aaaaa", hitsOf(0, 2, 2, 4)}, {"(a(ba))", "ababa", hitsOf(0, 3)}, {"(a(ba))", "ababababa", hitsOf(0, 3, 4, 7)},
		// right behind each other
		{".", "abc", hitsOf(0, 1, 1, 2, 2, 3)}, {"(..)", "abcd", hitsOf(0, 2, 2, 4)}, {"((aa)|a)", "aaa", hitsOf(0, 2, 2, 3)}, {"(a|(bb))", "abba", hitsOf(0, 1, 1, 3, 3, 4)},
		// of no runes at every place, the end too
		{"()", "abc", hitsOf(0, 0, 1, 1, 2, 2, 3, 3)}, {"d*", "ab", hitsOf(0, 0, 1, 1, 2, 2)}, {"(()&a*)", "aa", hitsOf(0, 0, 1, 1, 2, 2)},
		// of no runes between others, and right behind one
		{"a*", "baac", hitsOf(0, 0, 1, 3, 3, 3, 4, 4)}, {"a*", "aa", hitsOf(0, 2, 2, 2)}, {"a*", "aba", hitsOf(0, 1, 1, 1, 2, 3, 3, 3)}, {".*", "abc", hitsOf(0, 3, 3, 3)}, {"(()|(ab))", "abab", hitsOf(0, 2, 2, 4, 4, 4)}, {"(~b)", "ab", hitsOf(0, 2, 2, 2)}, {"(~a)", "a", hitsOf(0, 0, 1, 1)},
		{"(~(..*))", "ab", hitsOf(0, 0, 1, 1, 2, 2)},
	} {
		checkFindAll(t, re(t, c.pattern), rangedOver(c.text), c.hits, true)
	}
}

func TestFirstOfByHand(t *testing.T) {
	for _, c := range []struct {
		patterns []string
		text     string
		want     impl.Hit
		found    bool
	}{
		{nil, "", impl.Hit{}, false}, {nil, "abc", impl.Hit{}, false},
		{[]string{"b"}, "abc", impl.Hit{No: 0, From: 1, To: 2}, true}, {[]string{"b", "(ab*)"}, "cabba", impl.Hit{No: 1, From: 1, To: 4}, true},
		// the least From, wherever it stands
		{[]string{"c", "b", "a"}, "abc", impl.Hit{No: 2, From: 0, To: 1}, true}, {[]string{"c", "a", "b"}, "abc", impl.Hit{No: 1, From: 0, To: 1}, true}, {[]string{"a", "b", "c"}, "cba", impl.Hit{No: 2, From: 0, To: 1}, true}, {[]string{"d", "c", "e"}, "abc", impl.Hit{No: 1, From: 2, To: 3}, true},
		// where several have it the least No, though another one is longer, or shorter
		{[]string{"b", "(bc)"}, "abc", impl.Hit{No: 0, From: 1, To: 2}, true}, {[]string{"(bc)", "b"}, "abc", impl.Hit{No: 0, From: 1, To: 3}, true}, {[]string{"c", "b", "(bc)", "b*"}, "bbc", impl.Hit{No: 1, From: 0, To: 1}, true}, {[]string{"b", "b"}, "ab", impl.Hit{No: 0, From: 1, To: 2}, true},
		{[]string{"b", "a", "(ab)", "(a(bc))"}, "abc", impl.Hit{No: 1, From: 0, To: 1}, true},
		// a hit that ends earlier is not ahead of one that begins earlier
		{[]string{"b", "(a(bc))"}, "abc", impl.Hit{No: 1, From: 0, To: 3}, true},
		// hits of no runes
		{[]string{"()", "a"}, "a", impl.Hit{No: 0, From: 0, To: 0}, true}, {[]string{"a", "()"}, "a", impl.Hit{No: 0, From: 0, To: 1}, true}, {[]string{"a", "()"}, "ba", impl.Hit{No: 1, From: 0, To: 0}, true}, {[]string{"a", "b*"}, "", impl.Hit{No: 1, From: 0, To: 0}, true},
		// none is found
		{[]string{"a"}, "", impl.Hit{}, false}, {[]string{"d", "e", "[]"}, "abc", impl.Hit{}, false}, {[]string{"(ca)", "(~.*)"}, "abc", impl.Hit{}, false},
		{[]string{"d", "e", "f", "g", "h", "i", "j", "c"}, "abc", impl.Hit{No: 7, From: 2, To: 3}, true},
	} {
		var ps [][]impl.Re
		for _, s := range c.patterns {
			ps = append(ps, re(t, s))
		}
		checkFirst(t, ps, rangedOver(c.text), c.want, c.found)
	}
}

// All triples of a few patterns, and all short lists.
func TestFirstOfAFew(t *testing.T) {
	few := [][]impl.Re{re(t, "a"), re(t, "(ab)"), re(t, "b*"), re(t, "(bb)"), re(t, "[]"), re(t, "((~a)&(~()))"), re(t, "c")}
	lists := shortLists(4, wordRunes)
	for _, a := range few {
		for _, b := range few {
			for _, c := range few {
				for _, l := range lists {
					ps := [][]impl.Re{a, b, c}
					want, found := firstAsSaid(ps, l)
					checkFirst(t, ps, l, want, found)
				}
			}
		}
	}
}

func TestFirstOfManyPatterns(t *testing.T) {
	c := chances(29)
	for range 1500 {
		var ps [][]impl.Re
		for range c.next(mostPatterns + 1) {
			ps = append(ps, opRe(impl.ReCat, manyLeaves[2+c.next(len(manyLeaves)-2)], c.pattern(1+c.next(7), manyLeaves)))
		}
		l := c.listOfChance(c.next(12))
		want, found := firstAsSaid(ps, l)
		checkFirst(t, ps, l, want, found)
	}
}

func TestFirstOfAtMaxPatterns(t *testing.T) {
	a, b := re(t, "a"), re(t, "b")
	l := []int{98, 97}
	for many := range mostPatterns {
		checkFirst(t, append(slices.Repeat([][]impl.Re{a}, many), b), l, impl.Hit{No: many, From: 0, To: 1}, true)
	}
	for _, many := range []int{mostPatterns + 1, mostPatterns + 2, 64, 1000} {
		checkFirst(t, slices.Repeat([][]impl.Re{b}, many), l, impl.Hit{}, false)
	}
	checkFirst(t, append(slices.Repeat([][]impl.Re{a}, mostPatterns), b), l, impl.Hit{}, false)
	checkFirst(t, slices.Repeat([][]impl.Re{a}, mostPatterns), l, impl.Hit{No: 0, From: 1, To: 2}, true)
}

// One that is not good, ahead of, between or behind those that are found.
func TestFirstOfWithOneThatIsNotGood(t *testing.T) {
	a, b := re(t, "a"), re(t, "()")
	for _, p := range badPatterns() {
		for _, ps := range [][][]impl.Re{{p}, {p, a}, {a, p}, {a, p, b}, {b, p}, {b, a, b, a, b, a, b, p}} {
			for _, l := range [][]int{nil, {97}, {98}, {-1}} {
				checkFirst(t, ps, l, impl.Hit{}, false)
			}
		}
	}
}

func TestWhatIsNoPatternIsNotSearched(t *testing.T) {
	for _, p := range badPatterns() {
		for _, l := range [][]int{nil, {97}, {97, 97}, {-1}, slices.Repeat([]int{97}, mostStream)} {
			checkNotSearched(t, p, l)
		}
	}
}

func TestListsOfMaxStream(t *testing.T) {
	for _, s := range []string{"()", "a", "a*", "(.*b)", "b", "(~b)", "[]", "(..)*"} {
		p := re(t, s)
		l := slices.Repeat([]int{97}, mostStream+1)
		l[mostStream-1] = 98
		checkSearch(t, p, l[:mostStream])
		checkSearch(t, p, l[:mostStream-1])
		checkNotSearched(t, p, l)
		checkNotSearched(t, p, slices.Repeat([]int{97}, 10000))
		checkFirst(t, [][]impl.Re{p, re(t, "a")}, l, impl.Hit{}, false)
	}
	p := re(t, "(ab)")
	l := slices.Repeat([]int{97}, mostStream)
	l[mostStream-1] = 98
	checkFind(t, p, l, mostStream-2, mostStream, true)
	checkFires(t, p, l, mostStream, true)
	checkFindAll(t, p, l, []impl.Hit{{No: 0, From: mostStream - 2, To: mostStream}}, true)
	hits, ok := impl.FindAll(emptyRe(), l)
	if !ok || len(hits) != mostStream+1 || hits[mostStream] != (impl.Hit{No: mostStream, From: mostStream, To: mostStream}) {
		t.Errorf("FindAll of the empty list tells %d hits, %v", len(hits), ok)
	}
}

// Wherever it stands: ahead of what would be found, in it, or behind.
func TestListsWithWhatIsNoRuneAreNotSearched(t *testing.T) {
	for _, r := range noRunes {
		for _, l := range [][]int{{r}, {r, 97}, {97, r}, {97, 98, r, 99}, {97, 98, 99, 99, 99, r}, append(slices.Repeat([]int{97}, mostStream-1), r)} {
			for _, s := range []string{"a", "()", "(~a)", ".", ".*", "[]", "(~.*)", "(ab)"} {
				checkNotSearched(t, re(t, s), l)
			}
			checkFirst(t, [][]impl.Re{re(t, "()"), re(t, "a")}, l, impl.Hit{}, false)
		}
	}
}

// As many nodes as can be, deep or one behind the other.
func TestSearchAtMaxRe(t *testing.T) {
	a := runeRe(97)
	l := append(slices.Repeat([]int{97}, 25), 98, 97, 97)
	for _, p := range [][]impl.Re{
		timesRe(impl.ReStar, mostNodes-1, a), timesRe(impl.ReNot, mostNodes-1, a), timesRe(impl.ReNot, mostNodes-2, opRe(impl.ReStar, a)),
		opRe(impl.ReStar, chainRe(impl.ReCat, 20, a)), opRe(impl.ReNot, chainRe(impl.ReCat, 20, a)), chainRe(impl.ReCat, 20, a), opRe(impl.ReNot, chainRe(impl.ReOr, 20, a)), opRe(impl.ReStar, chainRe(impl.ReAnd, 20, a)),
		opRe(impl.ReNot, chainRe(impl.ReCat, 13, opRe(impl.ReStar, a))), chainRe(impl.ReCat, 13, opRe(impl.ReStar, a)),
	} {
		if !isGoodReAsSaid(p) {
			t.Fatalf("%d nodes are not good", len(p))
		}
		checkSearch(t, p, l)
		checkSearch(t, p, slices.Repeat([]int{97}, mostStream))
	}
	checkFind(t, chainRe(impl.ReCat, 20, a), l, 0, 20, true)
	checkFindAll(t, chainRe(impl.ReCat, 20, a), slices.Repeat([]int{97}, mostStream), hitsOf(0, 20, 20, 40, 40, 60, 60, 80, 80, 100, 100, 120), true)
	for _, p := range [][]impl.Re{timesRe(impl.ReStar, mostNodes, a), chainRe(impl.ReCat, 21, a)} {
		checkNotSearched(t, p, l)
	}
}

func TestSearchWritesIntoNothingAndReadsNoFurther(t *testing.T) {
	patterns := slices.Concat(badPatterns()[:40], patternsUpTo(4, fewLeaves...), manyPatterns(200, mostNodes, manyLeaves...))
	for i, plain := range patterns {
		p, numbers := spreadRe(plain)
		before := cloneRe(p[:len(p)+2])
		kept := make([][]int, len(numbers))
		for k := range numbers {
			kept[k] = slices.Clone(numbers[k])
		}
		l := withMore([]int{98, 97, 98, 97}, 98, -1)
		other := patterns[(i+1)%len(patterns)]
		ps := slices.Concat([][]impl.Re{p, other}, [][]impl.Re{nil, runeRe(98)})[:2]
		if isGoodReAsSaid(plain) {
			checkSearch(t, p, l)
		} else {
			checkNotSearched(t, p, l)
		}
		want, found := impl.FirstOf([][]impl.Re{cloneRe(plain), cloneRe(other)}, slices.Clone(l))
		checkFirst(t, ps, l, want, found)
		hits, _ := impl.FindAll(p, l)
		clear(hits[:cap(hits)])
		if !isSameRe(p[:len(p)+2], before) || !slices.EqualFunc(numbers, kept, slices.Equal) || !slices.Equal(l[:6], []int{98, 97, 98, 97, 98, -1}) {
			t.Fatalf("%v was written into, or an answer shares its memory", plain)
		}
		all := ps[:4]
		if !isSameRe(all[0], plain) || !isSameRe(all[1], other) || all[2] != nil || !isSameRe(all[3], runeRe(98)) {
			t.Fatalf("the list of %v was written into", plain)
		}
	}
}

func TestHitsAreNewMemory(t *testing.T) {
	for _, s := range []string{"a", "a*", "()", ".", "(~a)"} {
		p, l := re(t, s), []int{97, 98, 97, 97}
		first, _ := impl.FindAll(p, l)
		second, _ := impl.FindAll(p, l)
		kept := slices.Clone(second)
		for i := range first[:cap(first)] {
			first[:cap(first)][i] = impl.Hit{No: -7, From: -7, To: -7}
		}
		if !slices.Equal(second, kept) {
			t.Errorf("two answers for %s share memory", s)
		}
		checkFindAll(t, p, l, kept, true)
	}
}
