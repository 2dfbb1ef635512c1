package tests

import (
	"fmt"
	"math"
	"slices"
	"strings"
	"testing"

	"loop.example/g00692/impl"
)

const mostWords = impl.MaxWords
const mostWordStates = 100

func endsWith(l, end []int) bool {
	return len(end) <= len(l) && slices.Equal(l[len(l)-len(end):], end)
}

// bordersAsSaid tries all lists that are shorter, the longest first.
func bordersAsSaid(l []int) []int {
	var borders []int
	for many := 1; many <= len(l); many++ {
		border := many - 1
		for !endsWith(l[:many], l[:border]) {
			border--
		}
		borders = append(borders, border)
	}
	return borders
}

// periodBySight: the least number of runes after which each comes again.
func periodBySight(l []int) int {
	period := 1
	for !slices.Equal(l[period:], l[:len(l)-period]) {
		period++
	}
	return period
}

func placesAsSaid(l, w []int) []int {
	var places []int
	for place := range l {
		if place+len(w) <= len(l) && slices.Equal(l[place:place+len(w)], w) {
			places = append(places, place)
		}
	}
	return places
}

func placeOfList(lists [][]int, l []int) int {
	return slices.IndexFunc(lists, func(other []int) bool { return slices.Equal(other, l) })
}

// beginningsOf takes them word by word; those as long stay in that order.
func beginningsOf(words [][]int) [][]int {
	all := [][]int{nil}
	for _, w := range words {
		for many := range len(w) {
			if placeOfList(all, w[:many+1]) < 0 {
				all = append(all, w[:many+1])
			}
		}
	}
	slices.SortStableFunc(all, func(a, b []int) int { return len(a) - len(b) })
	return all
}

func ahoAsSaid(words [][]int) impl.Aho {
	a := impl.Aho{Parent: []int{-1}, By: []int{-1}, Fail: []int{0}, Ends: [][]int{nil}}
	all := beginningsOf(words)
	for _, l := range all[1:] {
		a.Parent = append(a.Parent, placeOfList(all, l[:len(l)-1]))
		a.By = append(a.By, l[len(l)-1])
		fail, ends := 0, []int(nil)
		for state, other := range all {
			if len(other) < len(l) && endsWith(l, other) && len(other) > len(all[fail]) {
				fail = state
			}
		}
		for no, w := range words {
			if endsWith(l, w) {
				ends = append(ends, no)
			}
		}
		a.Fail = append(a.Fail, fail)
		a.Ends = append(a.Ends, ends)
	}
	return a
}

func isGoodAhoAsSaid(a impl.Aho) bool {
	many := len(a.Parent)
	if many == 0 || many > mostWordStates || len(a.By) != many || len(a.Fail) != many || len(a.Ends) != many {
		return false
	}
	if a.Parent[0] != -1 || a.By[0] != -1 || a.Fail[0] != 0 {
		return false
	}
	for state := range many {
		if !isRising(a.Ends[state], 0, mostWords-1) {
			return false
		}
		if state == 0 {
			continue
		}
		if a.Parent[state] < 0 || a.Parent[state] >= state || a.Fail[state] < 0 || a.Fail[state] >= state || slices.Contains(noRunes, a.By[state]) {
			return false
		}
		for other := 1; other < state; other++ {
			if a.Parent[other] == a.Parent[state] && a.By[other] == a.By[state] {
				return false
			}
		}
	}
	return true
}

func listOfState(a impl.Aho, state int) []int {
	if state == 0 {
		return nil
	}
	return append(listOfState(a, a.Parent[state]), a.By[state])
}

func stepAsSaid(a impl.Aho, state int, r int) int {
	for other := 1; other < len(a.Parent); other++ {
		if a.Parent[other] == state && a.By[other] == r {
			return other
		}
	}
	if state == 0 {
		return 0
	}
	return stepAsSaid(a, a.Fail[state], r)
}

// runAsSaid looks for the shortest list of each word anew at each hit.
func runAsSaid(a impl.Aho, l []int) []impl.Hit {
	var hits []impl.Hit
	state := 0
	for i, r := range l {
		state = stepAsSaid(a, state, r)
		for _, no := range a.Ends[state] {
			long := math.MaxInt
			for other, ends := range a.Ends {
				if slices.Contains(ends, no) {
					long = min(long, len(listOfState(a, other)))
				}
			}
			hits = append(hits, impl.Hit{No: no, From: i + 1 - long, To: i + 1})
		}
	}
	return hits
}

func isSameAho(a, b impl.Aho) bool {
	return slices.Equal(a.Parent, b.Parent) && slices.Equal(a.By, b.By) && slices.Equal(a.Fail, b.Fail) && slices.EqualFunc(a.Ends, b.Ends, slices.Equal)
}

func isNoAho(a impl.Aho) bool {
	return a.Parent == nil && a.By == nil && a.Fail == nil && a.Ends == nil
}

func checkBorders(t *testing.T, l []int, want []int) {
	t.Helper()
	if got, ok := impl.BordersOf(l); !slices.Equal(got, want) || !ok {
		t.Fatalf("BordersOf(%v) = %v, %v; not %v", l, got, ok, want)
	}
}

func checkPeriod(t *testing.T, l []int, want int) {
	t.Helper()
	if got, ok := impl.LeastPeriod(l); got != want || !ok {
		t.Fatalf("LeastPeriod(%v) = %d, %v; not %d", l, got, ok, want)
	}
}

func checkNoBorders(t *testing.T, l []int) {
	t.Helper()
	if got, ok := impl.BordersOf(l); got != nil || ok {
		t.Fatalf("BordersOf(%v) = %v, %v; not the zero answer", l, got, ok)
	}
	if got, ok := impl.LeastPeriod(l); got != 0 || ok {
		t.Fatalf("LeastPeriod(%v) = %d, %v; not the zero answer", l, got, ok)
	}
}

// checkBordersOf: both functions against the readings.
func checkBordersOf(t *testing.T, l []int) {
	t.Helper()
	checkBorders(t, l, bordersAsSaid(l))
	if len(l) > 0 {
		checkPeriod(t, l, periodBySight(l))
	}
}

func checkPlaces(t *testing.T, l, w []int, want []int) {
	t.Helper()
	if got, ok := impl.PlacesOf(l, w); !slices.Equal(got, want) || !ok {
		t.Fatalf("PlacesOf(%v, %v) = %v, %v; not %v", l, w, got, ok, want)
	}
}

func checkNoPlaces(t *testing.T, l, w []int) {
	t.Helper()
	if got, ok := impl.PlacesOf(l, w); got != nil || ok {
		t.Fatalf("PlacesOf(%v, %v) = %v, %v; not the zero answer", l, w, got, ok)
	}
}

func checkAhoOf(t *testing.T, words [][]int, want impl.Aho) {
	t.Helper()
	if got, ok := impl.AhoOf(words); !isSameAho(got, want) || !ok {
		t.Fatalf("AhoOf(%v) = %v, %v; not %v", words, got, ok, want)
	}
	checkGoodAho(t, want, true)
}

func checkNoAhoOf(t *testing.T, words [][]int) {
	t.Helper()
	if got, ok := impl.AhoOf(words); !isNoAho(got) || ok {
		t.Fatalf("AhoOf(%v) = %v, %v; not the zero answer", words, got, ok)
	}
}

func checkGoodAho(t *testing.T, a impl.Aho, want bool) {
	t.Helper()
	if got := impl.GoodAho(a); got != want {
		t.Fatalf("GoodAho(%v) = %v", a, got)
	}
}

func checkStep(t *testing.T, a impl.Aho, state, r int, want int) {
	t.Helper()
	if got, ok := impl.StepAho(a, state, r); got != want || !ok {
		t.Fatalf("StepAho(%v, %d, %d) = %d, %v; not %d", a, state, r, got, ok, want)
	}
}

func checkNoStep(t *testing.T, a impl.Aho, state, r int) {
	t.Helper()
	if got, ok := impl.StepAho(a, state, r); got != 0 || ok {
		t.Fatalf("StepAho(%v, %d, %d) = %d, %v; not the zero answer", a, state, r, got, ok)
	}
}

func checkRunAho(t *testing.T, a impl.Aho, l []int, want []impl.Hit) {
	t.Helper()
	if got, ok := impl.RunAho(a, l); !slices.Equal(got, want) || !ok {
		t.Fatalf("RunAho(%v, %v) = %v, %v; not %v", a, l, got, ok, want)
	}
}

func checkNoRunAho(t *testing.T, a impl.Aho, l []int) {
	t.Helper()
	if got, ok := impl.RunAho(a, l); got != nil || ok {
		t.Fatalf("RunAho(%v, %v) = %v, %v; not the zero answer", a, l, got, ok)
	}
}

// checkNotGood: what is no machine gets the zero answer everywhere.
func checkNotGood(t *testing.T, a impl.Aho) {
	t.Helper()
	checkGoodAho(t, a, false)
	for _, state := range []int{0, 1, -1, len(a.Parent), math.MaxInt, math.MinInt} {
		checkNoStep(t, a, state, 97)
	}
	for _, l := range [][]int{nil, {97}, {97, 98, 97}} {
		checkNoRunAho(t, a, l)
	}
}

// wordsOf reads words with blanks between; a small letter is itself.
func wordsOf(s string) [][]int {
	var words [][]int
	for _, word := range strings.Fields(s) {
		words = append(words, rangedOver(word))
	}
	return words
}

// checkPromise8: RunAho of AhoOf against PlacesOf of each word alone.
func checkPromise8(t *testing.T, words [][]int, lists [][]int) {
	t.Helper()
	checkAhoOf(t, words, ahoAsSaid(words))
	a, _ := impl.AhoOf(words)
	for _, l := range lists {
		var want []impl.Hit
		for no, w := range words {
			places, ok := impl.PlacesOf(l, w)
			if !slices.Equal(places, placesAsSaid(l, w)) || !ok {
				t.Fatalf("PlacesOf(%v, %v) = %v, %v", l, w, places, ok)
			}
			for _, place := range places {
				want = append(want, impl.Hit{No: no, From: place, To: place + len(w)})
			}
		}
		slices.SortStableFunc(want, func(a, b impl.Hit) int { return a.To - b.To })
		checkRunAho(t, a, l, want)
	}
}

func TestAllShortWordsInAllShortLists(t *testing.T) {
	lists := shortLists(5, wordRunes[:2])
	words := shortLists(3, wordRunes[:2])[1:]
	for _, a := range words {
		for _, b := range words {
			for _, c := range words {
				checkPromise8(t, [][]int{a, b, c}, lists)
			}
		}
	}
	lists = shortLists(5, wordRunes)
	words = shortLists(2, wordRunes)[1:]
	for _, a := range words {
		checkPromise8(t, [][]int{a}, lists)
		for _, b := range words {
			checkPromise8(t, [][]int{a, b}, lists)
		}
	}
}

func TestManyWordsAtOnce(t *testing.T) {
	lists := slices.Concat(shortLists(7, wordRunes[:2]), shortLists(4, wordRunes))
	for _, s := range []string{
		// within words
		"ababab baba aba b", "b aba baba ababab", "abcabc bca c", "aabaa aba b a aa", "cabc abc bc c", "c bc abc cabc",
		// ends of others, each ended by all that are shorter
		"a aa aaa aaaa aaaaa aaaaaa", "aaaaaa aaaaa aaaa aaa aa a", "ba aba baba ababa", "b ab bab abab babab ababab",
		// the same word twice, and again
		"ab ab", "ab b ab b ab", "a a a a a a a a", "aa a aa a aa a aa a", "abab ab abab b ab",
		// words of one rune alone
		"a", "b a", "a b c", "c b a c b a", "a b a b a b a b",
		// beginnings of others
		"a ab aba abab", "abab aba ab a", "ab abc abca", "aab aaab aaaab b",
		// broken off and begun again
		"aab", "abac abab", "aabaab aabaaa", "abcabd abcabc", "abaab baaba aabab", "bbab babb abba",
	} {
		checkPromise8(t, wordsOf(s), lists)
	}
}

// word: at least one rune, of the first of wordRunes.
func (c *chances) word(most int, runes int) []int {
	var w []int
	for range 1 + c.next(most) {
		w = append(w, wordRunes[c.next(runes)])
	}
	return w
}

func (c *chances) longList(many int, runes int) []int {
	var l []int
	for range many {
		l = append(l, wordRunes[c.next(runes)])
	}
	return l
}

func TestWordsOfChance(t *testing.T) {
	c := chances(31)
	for range 1500 {
		runes := 1 + c.next(3)
		var words [][]int
		for range c.next(mostWords + 1) {
			words = append(words, c.word(1+c.next(7), runes))
		}
		checkPromise8(t, words, [][]int{c.longList(mostStream, runes), c.longList(mostStream, 3), c.longList(c.next(20), runes)})
	}
}

// Words that are pieces of the list itself, long ones too.
func TestWordsOutOfTheList(t *testing.T) {
	c := chances(37)
	for range 600 {
		l := c.longList(mostStream, 1+c.next(3))
		var words [][]int
		for range 1 + c.next(mostWords) {
			from, long := c.next(40), 1+c.next(12)
			if len(words) == 0 {
				long = 1 + c.next(mostWord)
			}
			words = append(words, l[from:from+long])
		}
		if len(beginningsOf(words)) <= mostWordStates {
			checkPromise8(t, words, [][]int{l, l[40:], slices.Concat(l[60:], l[:60])})
		} else {
			checkNoAhoOf(t, words)
		}
	}
}

func TestWordsOfEdgeRunes(t *testing.T) {
	edges := []int{0, 55295, 57344, lastRune}
	lists := shortLists(4, edges)
	checkPromise8(t, [][]int{{0}, {lastRune}, {0, lastRune}, {lastRune, 0}, {55295, 57344}, {57344}, {0, 0, 0}}, lists)
	checkPromise8(t, [][]int{{0, 55295, 0}, {55295, 0}}, lists)
}

func TestBordersOfShortLists(t *testing.T) {
	eachShortList(10, wordRunes[:2], func(l []int) { checkBordersOf(t, l) })
	eachShortList(7, wordRunes, func(l []int) { checkBordersOf(t, l) })
	eachShortList(3, []int{0, 55295, 57344, lastRune}, func(l []int) { checkBordersOf(t, l) })
}

func TestBordersByHand(t *testing.T) {
	for _, c := range []struct {
		text    string
		borders []int
		period  int
	}{
		// one rune, once and again and again
		{"a", []int{0}, 1}, {"aa", []int{0, 1}, 1}, {"aaaaa", []int{0, 1, 2, 3, 4}, 1},
		// no border
		{"ab", []int{0, 0}, 2}, {"abc", []int{0, 0, 0}, 3}, {"abcd", []int{0, 0, 0, 0}, 4}, {"aab", []int{0, 1, 0}, 3}, {"aaab", []int{0, 1, 2, 0}, 4}, {"abbb", []int{0, 0, 0, 0}, 4}, {"ababb", []int{0, 0, 1, 2, 0}, 5},
		// one rune at both ends alone
		{"aba", []int{0, 0, 1}, 2}, {"abca", []int{0, 0, 0, 1}, 3}, {"aaba", []int{0, 1, 0, 1}, 3}, {"abba", []int{0, 0, 0, 1}, 3},
		// borders that overlap themselves
		{"ababa", []int{0, 0, 1, 2, 3}, 2}, {"abababab", []int{0, 0, 1, 2, 3, 4, 5, 6}, 2}, {"aabaabaa", []int{0, 1, 0, 1, 2, 3, 4, 5}, 3}, {"abaabaaba", []int{0, 0, 1, 1, 2, 3, 4, 5, 6}, 3},
		// broken off, and begun again with a shorter one, or with none
		{"aabaaa", []int{0, 1, 0, 1, 2, 2}, 4}, {"aabaaab", []int{0, 1, 0, 1, 2, 2, 3}, 4}, {"abacabab", []int{0, 0, 1, 0, 1, 2, 3, 2}, 6}, {"ababac", []int{0, 0, 1, 2, 3, 0}, 6}, {"ababaca", []int{0, 0, 1, 2, 3, 0, 1}, 6},
		{"abaababaab", []int{0, 0, 1, 1, 2, 3, 2, 3, 4, 5}, 5}, {"aabaabaaa", []int{0, 1, 0, 1, 2, 3, 4, 5, 2}, 7}, {"abcabdabcabc", []int{0, 0, 0, 1, 2, 0, 1, 2, 3, 4, 5, 3}, 9}, {"aaabaaaaab", []int{0, 1, 2, 0, 1, 2, 3, 3, 3, 4}, 6},
		// the period divides the length, or does not
		{"abab", []int{0, 0, 1, 2}, 2}, {"abcabc", []int{0, 0, 0, 1, 2, 3}, 3}, {"abcabca", []int{0, 0, 0, 1, 2, 3, 4}, 3}, {"abcabcab", []int{0, 0, 0, 1, 2, 3, 4, 5}, 3}, {"abcdabc", []int{0, 0, 0, 0, 1, 2, 3}, 4},
	} {
		l := rangedOver(c.text)
		checkBorders(t, l, c.borders)
		checkPeriod(t, l, c.period)
	}
	checkBorders(t, nil, nil)
	checkBorders(t, []int{}, nil)
	for _, l := range [][]int{nil, {}, withMore(nil, 97)} {
		if got, ok := impl.LeastPeriod(l); got != 0 || ok {
			t.Errorf("LeastPeriod of the empty list = %d, %v", got, ok)
		}
	}
}

// fibonacci: each list is the one ahead and the one ahead of that, whose
// borders are broken off again and again.
func fibonacci(many int) []int {
	before, l := []int{98}, []int{97}
	for len(l) < many {
		before, l = l, slices.Concat(l, before)
	}
	return l[:many]
}

func TestBordersOfLongLists(t *testing.T) {
	c := chances(41)
	for _, many := range []int{mostStream, mostStream - 1, 41, 40, 64, 65} {
		checkBordersOf(t, fibonacci(many))
		checkBordersOf(t, slices.Repeat([]int{97}, many))
		checkBordersOf(t, append(slices.Repeat([]int{97}, many-1), 98))
		checkBordersOf(t, append([]int{98}, slices.Repeat([]int{97}, many-1)...))
		checkBordersOf(t, numbersFrom(97, many))
		half := slices.Repeat([]int{97}, many/2-1)
		checkBordersOf(t, slices.Concat(half, []int{98}, half, []int{97}))
		checkBordersOf(t, slices.Concat(half, []int{98}, half, []int{98}))
		for range 60 {
			checkBordersOf(t, c.longList(many, 2))
			w := c.word(20, 2)
			checkBordersOf(t, slices.Repeat(w, 1+mostStream/len(w))[:many])
		}
	}
	for _, many := range []int{mostStream + 1, mostStream + 2, 10000} {
		checkNoBorders(t, slices.Repeat([]int{97}, many))
		checkNoBorders(t, numbersFrom(97, many))
	}
}

func TestBordersOfWhatIsNoRune(t *testing.T) {
	for _, r := range noRunes {
		for _, l := range [][]int{{r}, {r, r}, {97, r}, {r, 97}, {97, 98, r, 97}, append(slices.Repeat([]int{97}, mostStream-1), r)} {
			checkNoBorders(t, l)
		}
	}
}

func TestPlacesByHand(t *testing.T) {
	for _, c := range []struct {
		list   string
		word   string
		places []int
	}{
		// overlapping
		{"ababa", "ab", []int{0, 2}}, {"ababa", "aba", []int{0, 2}}, {"aaaa", "aa", []int{0, 1, 2}}, {"aaaa", "aaa", []int{0, 1}}, {"abaababaab", "abaab", []int{0, 5}}, {"aabaabaa", "aabaa", []int{0, 3}}, {"abababab", "abab", []int{0, 2, 4}},
		// side by side, and with others between
		{"abab", "ab", []int{0, 2}}, {"abcab", "ab", []int{0, 3}}, {"aaa", "a", []int{0, 1, 2}}, {"cacac", "a", []int{1, 3}},
		// as long as the list, or longer
		{"a", "a", []int{0}}, {"abc", "abc", []int{0}}, {"abc", "abd", nil}, {"a", "aa", nil}, {"ab", "abc", nil}, {"", "a", nil}, {"", "ab", nil}, {"aaa", "aaaa", nil},
		// at the end alone, at the beginning alone
		{"bba", "a", []int{2}}, {"aaab", "ab", []int{2}}, {"aabaaab", "aaab", []int{3}}, {"abb", "a", []int{0}}, {"abcb", "abc", []int{0}},
		// broken off, begun again within what has been seen
		{"aaab", "aab", []int{1}}, {"ababac", "abac", []int{2}}, {"aabaabaaa", "aabaaa", []int{3}}, {"abcabcabd", "abcabd", []int{3}}, {"abababc", "ababc", []int{2}}, {"aaaaab", "aaab", []int{2}},
		// not there, though begun
		{"ababab", "abb", nil}, {"abcab", "abcac", nil}, {"bbbb", "a", nil}, {"aaaab", "aba", nil}, {"ba", "ab", nil},
	} {
		checkPlaces(t, rangedOver(c.list), rangedOver(c.word), c.places)
	}
}

func TestPlacesOfAllShortWords(t *testing.T) {
	words := shortLists(5, wordRunes[:2])[1:]
	eachShortList(8, wordRunes[:2], func(l []int) {
		for _, w := range words {
			checkPlaces(t, l, w, placesAsSaid(l, w))
		}
	})
}

func TestPlacesAtTheLimits(t *testing.T) {
	l := slices.Repeat([]int{97}, mostStream)
	for _, long := range []int{1, 2, mostWord - 1, mostWord} {
		checkPlaces(t, l, l[:long], numbersFrom(0, mostStream-long+1))
		word := append(slices.Repeat([]int{97}, long-1), 98)
		checkPlaces(t, l, word, nil)
		checkPlaces(t, append(slices.Repeat([]int{97}, mostStream-1), 98), word, []int{mostStream - long})
		checkPlaces(t, fibonacci(mostStream), fibonacci(long), placesAsSaid(fibonacci(mostStream), fibonacci(long)))
		checkNoPlaces(t, slices.Repeat([]int{97}, mostStream+1), word)
		checkNoPlaces(t, slices.Repeat([]int{97}, 10000), l[:long])
	}
	for _, list := range [][]int{nil, {97}, l, l[:mostWord], l[:mostWord+1]} {
		for _, long := range []int{0, mostWord + 1, mostWord + 2, mostStream} {
			checkNoPlaces(t, list, l[:long])
		}
		checkNoPlaces(t, list, nil)
	}
}

func TestPlacesOfWhatIsNoRune(t *testing.T) {
	for _, r := range noRunes {
		for _, l := range [][]int{{r}, {97, r}, {r, 97}, {97, 97, 97, r}, {97, r, 97}} {
			for _, w := range [][]int{{97}, {98}, {97, 97}} {
				checkNoPlaces(t, l, w)
				checkNoPlaces(t, w, l)
			}
			checkNoPlaces(t, l, l)
			checkNoPlaces(t, l, []int{r})
			checkNoPlaces(t, nil, l)
		}
	}
}

func TestAhoOfByHand(t *testing.T) {
	for _, c := range []struct {
		words string
		want  impl.Aho
	}{
		// no words: state 0 alone
		{"", impl.Aho{Parent: []int{-1}, By: []int{-1}, Fail: []int{0}, Ends: [][]int{nil}}},
		{"a", impl.Aho{Parent: []int{-1, 0}, By: []int{-1, 97}, Fail: []int{0, 0}, Ends: [][]int{nil, {0}}}},
		{"a a", impl.Aho{Parent: []int{-1, 0}, By: []int{-1, 97}, Fail: []int{0, 0}, Ends: [][]int{nil, {0, 1}}}},
		{"aaa", impl.Aho{Parent: []int{-1, 0, 1, 2}, By: []int{-1, 97, 97, 97}, Fail: []int{0, 0, 1, 2}, Ends: [][]int{nil, nil, nil, {0}}}},
		// by length, those as long by their first word: not by rune
		{"ca b", impl.Aho{Parent: []int{-1, 0, 0, 1}, By: []int{-1, 99, 98, 97}, Fail: []int{0, 0, 0, 0}, Ends: [][]int{nil, nil, {1}, {0}}}},
		{"b ca", impl.Aho{Parent: []int{-1, 0, 0, 2}, By: []int{-1, 98, 99, 97}, Fail: []int{0, 0, 0, 0}, Ends: [][]int{nil, {0}, nil, {1}}}},
		// ca, by the word 0, is ahead of bb, by 1, and of cc, by 2, which has the parent that is ahead
		{"ca bb cc", impl.Aho{Parent: []int{-1, 0, 0, 1, 2, 1}, By: []int{-1, 99, 98, 97, 98, 99}, Fail: []int{0, 0, 0, 0, 2, 1}, Ends: [][]int{nil, nil, nil, {0}, {1}, {2}}}},
		{"a b bc ac", impl.Aho{Parent: []int{-1, 0, 0, 2, 1}, By: []int{-1, 97, 98, 99, 99}, Fail: []int{0, 0, 0, 0, 0}, Ends: [][]int{nil, {0}, {1}, {2}, {3}}}},
		// Fail: the next shorter one, a much shorter one, and one of another word
		{"ab b", impl.Aho{Parent: []int{-1, 0, 0, 1}, By: []int{-1, 97, 98, 98}, Fail: []int{0, 0, 0, 2}, Ends: [][]int{nil, nil, {1}, {0, 1}}}},
		{"abcd d", impl.Aho{Parent: []int{-1, 0, 0, 1, 3, 4}, By: []int{-1, 97, 100, 98, 99, 100}, Fail: []int{0, 0, 0, 0, 0, 2}, Ends: [][]int{nil, nil, {1}, nil, nil, {0, 1}}}},
		{"abcd bce cd", impl.Aho{Parent: []int{-1, 0, 0, 0, 1, 2, 3, 4, 5, 7}, By: []int{-1, 97, 98, 99, 98, 99, 100, 99, 101, 100}, Fail: []int{0, 0, 0, 0, 2, 3, 0, 5, 0, 6}, Ends: [][]int{nil, nil, nil, nil, nil, nil, {2}, nil, {1}, {0, 2}}}},
		// the list of Parent's Fail does not go on, that one's Fail does
		{"aabb ab", impl.Aho{Parent: []int{-1, 0, 1, 1, 2, 4}, By: []int{-1, 97, 97, 98, 98, 98}, Fail: []int{0, 0, 1, 0, 3, 0}, Ends: [][]int{nil, nil, nil, {1}, {1}, {0}}}},
		{"ababb abb", impl.Aho{Parent: []int{-1, 0, 1, 2, 2, 3, 5}, By: []int{-1, 97, 98, 97, 98, 98, 98}, Fail: []int{0, 0, 0, 1, 0, 2, 4}, Ends: [][]int{nil, nil, nil, nil, {1}, nil, {0, 1}}}},
		// Ends: all that end a list, rising, whichever of them is longer
		{"a ba aba", impl.Aho{Parent: []int{-1, 0, 0, 2, 1, 4}, By: []int{-1, 97, 98, 97, 98, 97}, Fail: []int{0, 0, 0, 1, 2, 3}, Ends: [][]int{nil, {0}, nil, {0, 1}, nil, {0, 1, 2}}}},
		{"aba ba a", impl.Aho{Parent: []int{-1, 0, 0, 1, 2, 3}, By: []int{-1, 97, 98, 98, 97, 97}, Fail: []int{0, 0, 0, 2, 1, 4}, Ends: [][]int{nil, {2}, nil, nil, {1, 2}, {0, 1, 2}}}},
		{"a aa a", impl.Aho{Parent: []int{-1, 0, 1}, By: []int{-1, 97, 97}, Fail: []int{0, 0, 1}, Ends: [][]int{nil, {0, 2}, {0, 1, 2}}}},
		// a word within another one, not at its end
		{"abc b", impl.Aho{Parent: []int{-1, 0, 0, 1, 3}, By: []int{-1, 97, 98, 98, 99}, Fail: []int{0, 0, 0, 2, 0}, Ends: [][]int{nil, nil, {1}, {1}, {0}}}},
	} {
		checkAhoOf(t, wordsOf(c.words), c.want)
		if !isSameAho(ahoAsSaid(wordsOf(c.words)), c.want) {
			t.Errorf("%q is read otherwise: %v", c.words, ahoAsSaid(wordsOf(c.words)))
		}
	}
}

func TestAhoOfAtMaxWords(t *testing.T) {
	for many := range mostWords + 1 {
		checkPromise8(t, slices.Repeat([][]int{{97}}, many), [][]int{nil, {97}, {97, 98, 97}})
		words := [][]int{}
		for no := range many {
			words = append(words, []int{97 + no, 98})
		}
		checkPromise8(t, words, [][]int{nil, {98, 98, 98}, {97, 98, 104, 98}, numbersFrom(97, 10)})
	}
	for _, many := range []int{mostWords + 1, mostWords + 2, 64, 1000} {
		checkNoAhoOf(t, slices.Repeat([][]int{{97}}, many))
	}
}

func TestAhoOfWordsThatAreNone(t *testing.T) {
	long := slices.Repeat([]int{97}, mostWord+1)
	checkPromise8(t, [][]int{long[:mostWord]}, [][]int{nil, long, slices.Repeat([]int{97}, mostStream)})
	checkPromise8(t, [][]int{{98}, long[:mostWord], long[:mostWord-1]}, [][]int{nil, long, slices.Repeat([]int{97}, mostStream)})
	bad := [][]int{nil, {}, long, slices.Repeat([]int{97}, 1000), withMore(nil, 97)}
	for _, r := range noRunes {
		bad = append(bad, []int{r}, []int{97, r}, []int{r, 97}, append(slices.Repeat([]int{97}, mostWord-1), r))
	}
	a, b := []int{97}, []int{98, 97}
	for _, w := range bad {
		for _, words := range [][][]int{{w}, {w, a}, {a, w}, {a, w, b}, {a, b, a, b, a, b, a, w}, {w, w}} {
			checkNoAhoOf(t, words)
		}
	}
}

// Machines of just so many states; each word has a first rune of its own.
func TestAhoOfAt100States(t *testing.T) {
	for _, longs := range [][]int{{40, 40, 19}, {19, 40, 40}, {33, 33, 33}, {13, 13, 13, 12, 12, 12, 12, 12}, {40, 40, 1, 1, 1, 1, 1, 14}} {
		var words [][]int
		for no, long := range longs {
			words = append(words, append([]int{1000 + no}, slices.Repeat([]int{97}, long-1)...))
		}
		lists := [][]int{nil, slices.Concat(words[0], words[1], words[2])}
		checkPromise8(t, words, lists)
		a, _ := impl.AhoOf(words)
		if len(a.Parent) != mostWordStates {
			t.Fatalf("%v makes %d states", longs, len(a.Parent))
		}
		last := len(words) - 1
		checkNoAhoOf(t, append(slices.Clone(words[:last]), append(slices.Clone(words[last]), 98)))
		less := append(slices.Clone(words[:last]), words[last][:max(1, longs[last]-1)])
		checkPromise8(t, less, lists)
		if len(words) < mostWords {
			checkNoAhoOf(t, append(slices.Clone(words), []int{98}))
			checkNoAhoOf(t, slices.Concat([][]int{{98}}, words))
			// no state more
			checkPromise8(t, append(slices.Clone(words), words[1], words[0][:1]), lists)
		}
	}
	checkPromise8(t, slices.Repeat([][]int{fibonacci(mostWord)}, mostWords), [][]int{fibonacci(mostStream)})
	// more runes than states, as the words begin alike
	long := fibonacci(mostWord)
	words := [][]int{long, append(slices.Clone(long[:30]), 1, 2, 3, 4, 5, 6, 7, 8, 9, 10), append(slices.Clone(long[:10]), numbersFrom(200, 30)...), append([]int{97}, numbersFrom(300, 19)...)}
	checkPromise8(t, words, [][]int{fibonacci(mostStream), slices.Concat(words[2], words[1], words[3])})
	if a, _ := impl.AhoOf(words); len(a.Parent) != mostWordStates {
		t.Fatalf("%d states", len(a.Parent))
	}
	checkNoAhoOf(t, append(words, []int{97, 97, 97}))
	var most [][]int
	for no := range mostWords {
		most = append(most, numbersFrom(1000*no, mostWord))
	}
	checkNoAhoOf(t, most)
}

// threeStates: ab, and b, which is its Fail.
func threeStates() impl.Aho {
	return impl.Aho{Parent: []int{-1, 0, 0, 1}, By: []int{-1, 97, 98, 98}, Fail: []int{0, 0, 0, 2}, Ends: [][]int{nil, nil, {1}, {0, 1}}}
}

func rootAho() impl.Aho {
	return impl.Aho{Parent: []int{-1}, By: []int{-1}, Fail: []int{0}, Ends: [][]int{nil}}
}

// chainAho: one list alone, of as many states, each with the one ahead as Fail.
func chainAho(states int) impl.Aho {
	a := rootAho()
	for state := 1; state < states; state++ {
		a.Parent = append(a.Parent, state-1)
		a.By = append(a.By, 97)
		a.Fail = append(a.Fail, state-1)
		a.Ends = append(a.Ends, nil)
	}
	return a
}

// checkAsGood: whether it is good as said, and the zero answer where it is not.
func checkAsGood(t *testing.T, a impl.Aho, want bool) {
	t.Helper()
	if isGoodAhoAsSaid(a) != want {
		t.Fatalf("%v is read as %v", a, !want)
	}
	if want {
		checkGoodAho(t, a, true)
	} else {
		checkNotGood(t, a)
	}
}

func TestGoodAhoByItsStates(t *testing.T) {
	checkAsGood(t, impl.Aho{}, false)
	checkAsGood(t, impl.Aho{Parent: []int{}, By: []int{}, Fail: []int{}, Ends: [][]int{}}, false)
	for _, states := range []int{1, 2, 99, 100} {
		checkAsGood(t, chainAho(states), true)
	}
	for _, states := range []int{101, 102, 1000} {
		checkAsGood(t, chainAho(states), false)
	}
	for _, base := range []impl.Aho{rootAho(), threeStates(), chainAho(99), chainAho(100)} {
		for _, more := range []int{-1, 1} {
			for field := range 4 {
				a := cloneAho(base)
				many := len(a.Parent) + more
				switch field {
				case 0:
					a.Parent = append(a.Parent, 0)[:many]
				case 1:
					a.By = append(a.By, 1000)[:many]
				case 2:
					a.Fail = append(a.Fail, 0)[:many]
				case 3:
					a.Ends = append(a.Ends, nil)[:many]
				}
				checkAsGood(t, a, false)
			}
		}
	}
	for field := range 4 {
		a := threeStates()
		switch field {
		case 0:
			a.Parent = nil
		case 1:
			a.By = nil
		case 2:
			a.Fail = nil
		case 3:
			a.Ends = nil
		}
		checkAsGood(t, a, false)
	}
}

func TestGoodAhoByItsRoot(t *testing.T) {
	for _, base := range []impl.Aho{rootAho(), threeStates()} {
		for _, n := range []int{-2, 0, 1, 97, 3, math.MaxInt, math.MinInt} {
			parent, by, fail := cloneAho(base), cloneAho(base), cloneAho(base)
			parent.Parent[0], by.By[0] = n, n
			checkAsGood(t, parent, false)
			checkAsGood(t, by, false)
			fail.Fail[0] = n
			checkAsGood(t, fail, n == 0)
		}
		fail := cloneAho(base)
		fail.Fail[0] = -1
		checkAsGood(t, fail, false)
	}
}

func TestGoodAhoByItsNumbers(t *testing.T) {
	for state := 1; state < 4; state++ {
		for _, n := range []int{math.MinInt, -2, -1, 0, 1, 2, 3, 4, 5, math.MaxInt} {
			parent, fail := threeStates(), threeStates()
			parent.By = []int{-1, 97, 98, 99}
			parent.Parent[state], fail.Fail[state] = n, n
			checkAsGood(t, parent, 0 <= n && n < state)
			checkAsGood(t, fail, 0 <= n && n < state)
		}
		for _, r := range noRunes {
			a := threeStates()
			a.By[state] = r
			checkAsGood(t, a, false)
		}
		for _, r := range []int{0, 1, 55295, 57344, lastRune} {
			a := threeStates()
			a.By[state] = r
			checkAsGood(t, a, true)
		}
	}
}

func TestGoodAhoByItsEdges(t *testing.T) {
	a := threeStates()
	a.By[2] = 97
	checkAsGood(t, a, false)
	a = threeStates()
	a.Parent[3] = 0
	checkAsGood(t, a, false)
	a = chainAho(100)
	a.Parent[99] = 0
	checkAsGood(t, a, false)
	a.By[99] = 98
	checkAsGood(t, a, true)
	a.Parent[99] = 97
	checkAsGood(t, a, true)
	a.By[99] = 97
	checkAsGood(t, a, false)
	// all runes unlike, all of state 0
	a = chainAho(100)
	for state := 1; state < 100; state++ {
		a.Parent[state], a.By[state], a.Fail[state] = 0, 200-state, state-1
	}
	checkAsGood(t, a, true)
	a.By[1] = a.By[99]
	checkAsGood(t, a, false)
}

func TestGoodAhoByItsEnds(t *testing.T) {
	for state := range 4 {
		eachShortList(3, []int{-1, 0, 1, 6, 7, 8}, func(l []int) {
			a := threeStates()
			a.Ends[state] = l
			checkAsGood(t, a, isRising(l, 0, 7))
		})
		for _, l := range [][]int{{0, 1, 2, 3, 4, 5, 6, 7}, {7}} {
			a := threeStates()
			a.Ends[state] = l
			checkAsGood(t, a, true)
		}
		for _, l := range [][]int{{0, 1, 2, 3, 4, 5, 6, 7, 8}, {0, 1, 2, 3, 4, 5, 6, 7, 7}, {0, 0}, {1, 0}, {math.MinInt}, {math.MaxInt}, {64}, {-64, 0}} {
			a := threeStates()
			a.Ends[state] = l
			checkAsGood(t, a, false)
		}
	}
}

// All machines of two states, and of three, of a few numbers.
func TestGoodAhoOfSmallMachines(t *testing.T) {
	few := []int{-1, 0, 1}
	fields := func(use func(parent, by, fail int)) {
		for _, parent := range few {
			for _, by := range few {
				for _, fail := range few {
					use(parent, by, fail)
				}
			}
		}
	}
	fields(func(parent0, by0, fail0 int) {
		fields(func(parent1, by1, fail1 int) {
			a := impl.Aho{Parent: []int{parent0, parent1}, By: []int{by0, by1}, Fail: []int{fail0, fail1}, Ends: [][]int{nil, {0}}}
			checkGoodAho(t, a, isGoodAhoAsSaid(a))
			three := impl.Aho{Parent: []int{-1, parent0, parent1}, By: []int{-1, by0, by1}, Fail: []int{0, fail0, fail1}, Ends: [][]int{nil, {0}, nil}}
			checkGoodAho(t, three, isGoodAhoAsSaid(three))
		})
	})
}

// aho: a good machine with any Fails, and Ends in any state, state 0 too.
func (c *chances) aho(states int, runes []int) impl.Aho {
	a := rootAho()
	a.Ends[0] = c.ends()
	for len(a.Parent) < states {
		state := len(a.Parent)
		parent, by := c.next(state), runes[c.next(len(runes))]
		taken := false
		for other := 1; other < state; other++ {
			taken = taken || a.Parent[other] == parent && a.By[other] == by
		}
		if taken {
			continue
		}
		a.Parent = append(a.Parent, parent)
		a.By = append(a.By, by)
		a.Fail = append(a.Fail, c.next(state))
		a.Ends = append(a.Ends, c.ends())
	}
	return a
}

func (c *chances) ends() []int {
	var ends []int
	for no := range mostWords {
		if c.next(7) == 0 {
			ends = append(ends, no)
		}
	}
	return ends
}

func TestMachinesThatAreNotOfWords(t *testing.T) {
	c := chances(43)
	for i := range 900 {
		runes := [][]int{wordRunes[:1], wordRunes[:2], wordRunes, {0, 55295, 57344, lastRune}}[i%4]
		states := 1 + c.next(9)
		if i%10 == 0 {
			states = mostWordStates - c.next(10)
		}
		a := c.aho(states, runes)
		checkAsGood(t, a, true)
		for state := range states {
			for _, r := range append(slices.Clone(runes), 120) {
				checkStep(t, a, state, r, stepAsSaid(a, state, r))
			}
		}
		for range 6 {
			var l []int
			for range c.next(30) {
				l = append(l, runes[c.next(len(runes))])
			}
			checkRunAho(t, a, l, runAsSaid(a, l))
		}
	}
}

func TestStepAhoByHand(t *testing.T) {
	a := ahoAsSaid(wordsOf("ababb abb ba"))
	// 0: empty, 1: a, 2: b, 3: ab, 4: ba, 5: aba, 6: abb, 7: abab, 8: ababb
	for _, c := range []struct{ state, r, want int }{
		{0, 97, 1}, {0, 98, 2}, {0, 99, 0}, {1, 98, 3}, {1, 97, 1}, {1, 99, 0}, {2, 97, 4}, {2, 98, 2}, {3, 97, 5}, {3, 98, 6}, {3, 99, 0},
		// back once, twice, and to state 0
		{4, 98, 3}, {4, 97, 1}, {5, 98, 7}, {5, 97, 1}, {5, 99, 0}, {6, 97, 4}, {6, 98, 2}, {6, 99, 0},
		{7, 98, 8}, {7, 97, 5}, {7, 99, 0}, {8, 97, 4}, {8, 98, 2}, {8, 99, 0},
	} {
		checkStep(t, a, c.state, c.r, c.want)
	}
	// an edge is gone by, though the Fail has one too
	checkStep(t, threeStates(), 1, 98, 3)
	checkStep(t, threeStates(), 3, 98, 2)
	checkStep(t, threeStates(), 3, 97, 1)
	// the last state of a chain goes back through all of them
	chain := chainAho(100)
	checkStep(t, chain, 99, 97, 99)
	checkStep(t, chain, 98, 97, 99)
	checkStep(t, chain, 99, 98, 0)
	chain.By[1] = 98
	checkStep(t, chain, 99, 98, 1)
	// what leads to state 0 is no rune
	checkStep(t, rootAho(), 0, 97, 0)
	checkNoStep(t, rootAho(), 0, -1)
	// a Fail that is longer than the state's own list, and one aside
	odd := impl.Aho{Parent: []int{-1, 0, 1, 0, 2}, By: []int{-1, 97, 98, 99, 100}, Fail: []int{0, 0, 1, 2, 3}, Ends: make([][]int, 5)}
	checkStep(t, odd, 3, 100, 4)
	checkStep(t, odd, 3, 98, 2)
	checkStep(t, odd, 4, 99, 3)
	checkStep(t, odd, 4, 98, 2)
}

func TestStepAhoOfWhatIsNoStateOrRune(t *testing.T) {
	for _, a := range []impl.Aho{rootAho(), threeStates(), chainAho(100), ahoAsSaid(wordsOf("ababb abb ba"))} {
		many := len(a.Parent)
		for _, state := range []int{-1, many, many + 1, -2, 1000, math.MaxInt, math.MinInt} {
			for _, r := range []int{97, 98, 0, -1} {
				checkNoStep(t, a, state, r)
			}
		}
		for _, r := range noRunes {
			for _, state := range []int{0, many - 1, -1, many} {
				checkNoStep(t, a, state, r)
			}
		}
		checkStep(t, a, many-1, lastRune, 0)
		checkStep(t, a, 0, 0, 0)
	}
}

func TestRunAhoByHand(t *testing.T) {
	hit := func(no, from, to int) impl.Hit { return impl.Hit{No: no, From: from, To: to} }
	for _, c := range []struct {
		words string
		list  string
		hits  []impl.Hit
	}{
		{"", "", nil}, {"", "abc", nil}, {"a", "", nil}, {"a", "bcb", nil},
		{"a", "aba", []impl.Hit{hit(0, 0, 1), hit(0, 2, 3)}},
		{"ab b", "ab", []impl.Hit{hit(0, 0, 2), hit(1, 1, 2)}}, {"b ab", "ab", []impl.Hit{hit(0, 1, 2), hit(1, 0, 2)}},
		{"he she his hers", "ushers", []impl.Hit{hit(0, 2, 4), hit(1, 1, 4), hit(3, 2, 6)}},
		{"ab ab", "cabab", []impl.Hit{hit(0, 1, 3), hit(1, 1, 3), hit(0, 3, 5), hit(1, 3, 5)}},
		{"aa", "aaaa", []impl.Hit{hit(0, 0, 2), hit(0, 1, 3), hit(0, 2, 4)}},
		{"abcd bc", "abcabcd", []impl.Hit{hit(1, 1, 3), hit(1, 4, 6), hit(0, 3, 7)}},
		{"abcd bc c", "abce", []impl.Hit{hit(1, 1, 3), hit(2, 2, 3)}},
		{"a aa aaa", "aaa", []impl.Hit{hit(0, 0, 1), hit(0, 1, 2), hit(1, 0, 2), hit(0, 2, 3), hit(1, 1, 3), hit(2, 0, 3)}},
	} {
		a, ok := impl.AhoOf(wordsOf(c.words))
		if !ok {
			t.Fatalf("no machine of %q", c.words)
		}
		checkRunAho(t, a, rangedOver(c.list), c.hits)
	}
	// one number in several states: the shortest list, wherever it is, counts
	a := chainAho(4)
	a.Ends = [][]int{nil, nil, {0, 3}, {0}}
	checkRunAho(t, a, []int{97, 97, 97}, []impl.Hit{hit(0, 0, 2), hit(3, 0, 2), hit(0, 1, 3)})
	a.Ends = [][]int{nil, {5}, nil, {5, 7}}
	checkRunAho(t, a, []int{97, 97, 97}, []impl.Hit{hit(5, 0, 1), hit(5, 2, 3), hit(7, 0, 3)})
	a = impl.Aho{Parent: []int{-1, 0, 1, 0}, By: []int{-1, 97, 98, 99}, Fail: []int{0, 0, 0, 0}, Ends: [][]int{nil, nil, {2}, {2}}}
	checkRunAho(t, a, []int{97, 98}, []impl.Hit{hit(2, 1, 2)})
	// state 0 too: a word of no runes, told behind each rune, not ahead of the first
	a = rootAho()
	a.Ends[0] = []int{1, 4}
	checkRunAho(t, a, nil, nil)
	checkRunAho(t, a, []int{97, 98}, []impl.Hit{hit(1, 1, 1), hit(4, 1, 1), hit(1, 2, 2), hit(4, 2, 2)})
	a = chainAho(3)
	a.Ends = [][]int{{6}, nil, {6}}
	checkRunAho(t, a, []int{97, 97, 98}, []impl.Hit{hit(6, 2, 2), hit(6, 3, 3)})
	// a list that is longer than words are
	a = chainAho(100)
	a.Ends[99] = []int{0}
	l := slices.Repeat([]int{97}, 101)
	checkRunAho(t, a, l, []impl.Hit{hit(0, 0, 99), hit(0, 1, 100), hit(0, 2, 101)})
	checkRunAho(t, a, l[:98], nil)
	// a Fail that is longer than what has come: From is ahead of the beginning
	a = impl.Aho{Parent: []int{-1, 0, 1, 0, 2}, By: []int{-1, 97, 98, 99, 100}, Fail: []int{0, 0, 0, 2, 0}, Ends: [][]int{nil, nil, nil, nil, {0}}}
	checkRunAho(t, a, []int{99, 100}, []impl.Hit{hit(0, -1, 2)})
}

func TestRunAhoAtMaxStream(t *testing.T) {
	l := slices.Repeat([]int{97}, mostStream+1)
	for _, words := range [][][]int{nil, {{97}}, {{97, 97}, {98}}, {l[:mostWord]}, slices.Repeat([][]int{{97}}, mostWords)} {
		a := ahoAsSaid(words)
		checkRunAho(t, a, l[:mostStream], runAsSaid(a, l[:mostStream]))
		checkRunAho(t, a, l[:mostStream-1], runAsSaid(a, l[:mostStream-1]))
		checkRunAho(t, a, nil, nil)
		checkRunAho(t, a, []int{}, nil)
		checkNoRunAho(t, a, l)
		checkNoRunAho(t, a, slices.Repeat([]int{98}, 10000))
	}
	a := ahoAsSaid(slices.Repeat([][]int{{97}}, mostWords))
	if hits, ok := impl.RunAho(a, l[:mostStream]); !ok || len(hits) != mostWords*mostStream || hits[len(hits)-1] != (impl.Hit{No: 7, From: 119, To: 120}) {
		t.Errorf("%d hits, %v", len(hits), ok)
	}
}

func TestRunAhoOfWhatIsNoRune(t *testing.T) {
	for _, a := range []impl.Aho{rootAho(), threeStates(), chainAho(100)} {
		for _, r := range noRunes {
			for _, l := range [][]int{{r}, {97, r}, {r, 97}, {97, 98, r, 98}, append(slices.Repeat([]int{97}, mostStream-1), r)} {
				checkNoRunAho(t, a, l)
			}
		}
	}
}

func cloneAho(a impl.Aho) impl.Aho {
	return impl.Aho{Parent: slices.Clone(a.Parent), By: slices.Clone(a.By), Fail: slices.Clone(a.Fail), Ends: cloneLists(a.Ends)}
}

func spreadAho(a impl.Aho) impl.Aho {
	return impl.Aho{Parent: withMore(a.Parent, 0, 0, -7), By: withMore(a.By, 97, 120, -7), Fail: withMore(a.Fail, 0, 0, -7), Ends: spreadLists(a.Ends)}
}

func wholeOfAho(a impl.Aho) string {
	return fmt.Sprint(wholeOf(a.Parent, a.By, a.Fail), wholeOfLists(a.Ends))
}

func listsOfAho(a impl.Aho) [][]int {
	return slices.Concat([][]int{a.Parent, a.By, a.Fail}, a.Ends)
}

func overwriteAho(a impl.Aho) {
	for _, l := range listsOfAho(a) {
		overwrite(l)
	}
	clear(a.Ends[:cap(a.Ends)])
}

func badAhos() []impl.Aho {
	few, twice, fail, ends := threeStates(), threeStates(), threeStates(), threeStates()
	few.Ends = few.Ends[:3]
	twice.By[2] = 97
	fail.Fail[3] = 3
	ends.Ends[1] = []int{8}
	return []impl.Aho{{}, few, twice, fail, ends, chainAho(101)}
}

func TestMachinesOfWordsAreNotWrittenIntoNorReadFurther(t *testing.T) {
	c := chances(47)
	all := slices.Concat(badAhos(), []impl.Aho{rootAho(), threeStates(), chainAho(100), chainAho(99)})
	for range 300 {
		all = append(all, c.aho(1+c.next(12), wordRunes))
	}
	for _, plain := range all {
		a := spreadAho(plain)
		before := wholeOfAho(a)
		l := withMore([]int{97, 98, 97, 97}, 98, -7)
		good := isGoodAhoAsSaid(plain)
		checkGoodAho(t, a, good)
		for state := range plain.Parent {
			if good {
				checkStep(t, a, state, 97, stepAsSaid(plain, state, 97))
			} else {
				checkNoStep(t, a, state, 97)
			}
		}
		checkNoStep(t, a, len(plain.Parent), 97)
		hits, ok := impl.RunAho(a, l)
		if ok != good || ok && !slices.Equal(hits, runAsSaid(plain, []int{97, 98, 97, 97})) {
			t.Fatalf("RunAho(%v) hangs on what lies behind the lists", plain)
		}
		clear(hits[:cap(hits)])
		if wholeOfAho(a) != before || !slices.Equal(l[:6], []int{97, 98, 97, 97, 98, -7}) {
			t.Fatalf("%v was written into, or an answer shares its memory", plain)
		}
	}
}

func TestWordsAreNotWrittenIntoNorReadFurther(t *testing.T) {
	c := chances(53)
	all := [][][]int{nil, {nil}, {{97}, nil}, {{97}, {-1}}, {slices.Repeat([]int{97}, mostWord)}, {slices.Repeat([]int{97}, mostWord+1)}, slices.Repeat([][]int{{97}}, mostWords), slices.Repeat([][]int{{97}}, mostWords+1)}
	for range 300 {
		var words [][]int
		for range 1 + c.next(mostWords) {
			words = append(words, c.word(6, 2))
		}
		all = append(all, words)
	}
	for _, plain := range all {
		words := spreadLists(plain)
		before := wholeOfLists(words)
		a, ok := impl.AhoOf(words)
		if want, wantOk := impl.AhoOf(cloneLists(plain)); ok != wantOk || !isSameAho(a, want) {
			t.Fatalf("AhoOf(%v) hangs on what lies behind the lists", plain)
		}
		overwriteAho(a)
		for i, w := range words {
			borders, _ := impl.BordersOf(w)
			if isWordAsSaid(w) && !slices.Equal(borders, bordersAsSaid(slices.Clone(w))) {
				t.Fatalf("BordersOf(%v) hangs on what lies behind the list", w)
			}
			overwrite(borders)
			impl.LeastPeriod(w)
			other := words[(i+1)%len(words)]
			places, _ := impl.PlacesOf(w, other)
			if isWordAsSaid(w) && isWordAsSaid(other) && !slices.Equal(places, placesAsSaid(slices.Clone(w), slices.Clone(other))) {
				t.Fatalf("PlacesOf(%v, %v) hangs on what lies behind the lists", w, other)
			}
			overwrite(places)
		}
		if wholeOfLists(words) != before {
			t.Fatalf("%v was written into, or an answer shares its memory", plain)
		}
	}
}

func isWordAsSaid(w []int) bool {
	return len(w) >= 1 && len(w) <= mostWord && !slices.ContainsFunc(w, func(r int) bool { return slices.Contains(noRunes, r) })
}

func TestMachinesOfWordsAreNewMemory(t *testing.T) {
	c := chances(59)
	all := [][][]int{nil, {{97}}, {{97}, {97}}, wordsOf("a aa aaa aaaa"), wordsOf("aaaa aaa aa a"), wordsOf("ab b ab b"), slices.Repeat([][]int{{97, 98}}, mostWords)}
	for range 200 {
		var words [][]int
		for range 1 + c.next(mostWords) {
			words = append(words, c.word(6, 2))
		}
		all = append(all, words)
	}
	for _, words := range all {
		first, _ := impl.AhoOf(words)
		second, _ := impl.AhoOf(words)
		kept := cloneAho(second)
		overwriteAho(first)
		if third, _ := impl.AhoOf(words); !isSameAho(second, kept) || !isSameAho(third, kept) {
			t.Fatalf("two answers of AhoOf(%v) share memory", words)
		}
		checkListsApart(t, "AhoOf", listsOfAho(second))
	}
}

func TestBordersPlacesAndHitsAreNewMemory(t *testing.T) {
	l, w := []int{97, 97, 98, 97, 97}, []int{97}
	for name, make := range map[string]func() []int{
		"BordersOf": func() []int { b, _ := impl.BordersOf(l); return b },
		"PlacesOf":  func() []int { p, _ := impl.PlacesOf(l, w); return p },
	} {
		first, second := make(), make()
		kept := slices.Clone(second)
		overwrite(first)
		if !slices.Equal(second, kept) || !slices.Equal(make(), kept) || len(kept) == 0 {
			t.Errorf("two answers of %s share memory", name)
		}
	}
	a := threeStates()
	first, _ := impl.RunAho(a, []int{97, 98})
	second, _ := impl.RunAho(a, []int{97, 98})
	clear(first[:cap(first)])
	if !slices.Equal(second, []impl.Hit{{No: 0, From: 0, To: 2}, {No: 1, From: 1, To: 2}}) {
		t.Error("two answers of RunAho share memory")
	}
}
