package tests

import (
	"regexp"
	"slices"
	"strings"
	"testing"
	"unicode/utf8"

	"loop.example/g00692/impl"
)

const mostOfGlob = 60
const mostToGlob = 20

// Within brackets "!" may begin only behind another "!".
const globWithin = `(?:[^\]\\-]|\\.)`
const globBegin = `(?:[^\]\\!-]|\\.)`
const globRest = `(?:-` + globWithin + `)?(?:` + globWithin + `(?:-` + globWithin + `)?)*\]`

var globItemIn = regexp.MustCompile(`(?s)^(?:\*|\?|\[!` + globWithin + globRest + `|\[` + globBegin + globRest + `|\\.|[^*?\[\\])`)

// globItems: the pieces of the text that are an item each.
func globItems(s string) ([]string, bool) {
	var items []string
	for s != "" {
		item := globItemIn.FindString(s)
		if item == "" || !hasSpansUpward(item) {
			return nil, false
		}
		items = append(items, item)
		s = s[len(item):]
	}
	return items, true
}

func isGroup(item string) bool { return len(item) > 1 && item[0] == '[' }

// globSpans: the spans as they stand in brackets, and whether "!" is ahead.
func globSpans(item string) (spans []int, isNot bool) {
	within := item[1 : len(item)-1]
	if within[0] == '!' {
		within, isNot = within[1:], true
	}
	for _, f := range spansIn.FindAllStringSubmatch(within, -1) {
		first := rangedOver(f[1] + f[2])[0]
		last := first
		if f[3] != "" {
			last = rangedOver(f[4] + f[5])[0]
		}
		spans = append(spans, first, last)
	}
	return spans, isNot
}

func hasSpansUpward(item string) bool {
	if !isGroup(item) {
		return true
	}
	spans, _ := globSpans(item)
	for i := 0; i < len(spans); i += 2 {
		if spans[i+1] < spans[i] {
			return false
		}
	}
	return true
}

// canGoOn: whether some text with this beginning is right.
func canGoOn(s string) bool {
	for _, rest := range []string{"", "]", "\U0010ffff", "\U0010ffff]"} {
		if _, ok := globItems(s + rest); ok {
			return true
		}
	}
	return false
}

// globFaultOf tries all beginnings, the shortest first; -1, where the text is
// right.
func globFaultOf(s string) int {
	if _, ok := globItems(s); ok {
		return -1
	}
	place := 0
	for from, r := range s {
		if !canGoOn(s[:from] + string(r)) {
			// Only a second rune that is less can't stand behind a mark.
			marks := from - len(strings.TrimRight(s[:from], `\`))
			return place - marks%2
		}
		place++
	}
	return place
}

// setOfItem may be no good set.
func setOfItem(item string) []int {
	if item == "*" || item == "?" {
		return []int{0, lastRune}
	}
	if !isGroup(item) {
		l := rangedOver(item)
		return []int{l[len(l)-1], l[len(l)-1]}
	}
	spans, isNot := globSpans(item)
	set := setWhere(turnsOf(spans), func(n int) bool { return hasNumber(spans, n) })
	if isNot && isGoodAsSaid(set) {
		return setWhere(turnsOf(spans), func(n int) bool { return !hasNumber(spans, n) })
	}
	return set
}

// catRe: one behind the other; each has its nodes, ReCat those of none.
func catRe(parts ...[]impl.Re) []impl.Re {
	if len(parts) == 0 {
		return emptyRe()
	}
	p := parts[0]
	for _, part := range parts[1:] {
		p = opRe(impl.ReCat, p, part)
	}
	return p
}

func anyRe() []impl.Re { return setRe(0, lastRune) }

func starRe() []impl.Re { return opRe(impl.ReStar, anyRe()) }

// globAsSaid: nil and a place, where the text stands for no pattern.
func globAsSaid(s string) ([]impl.Re, int) {
	if !utf8.ValidString(s) || utf8.RuneCountInString(s) > mostOfGlob {
		return nil, 0
	}
	if fault := globFaultOf(s); fault >= 0 {
		return nil, fault
	}
	items, _ := globItems(s)
	var parts [][]impl.Re
	for _, item := range items {
		part := setRe(setOfItem(item)...)
		if item == "*" {
			part = opRe(impl.ReStar, part)
		}
		parts = append(parts, part)
	}
	p := catRe(parts...)
	if !isGoodReAsSaid(p) {
		return nil, 0
	}
	return p, -1
}

func takesRune(item string, r int) bool {
	switch {
	case item == "?":
		return true
	case isGroup(item):
		spans, isNot := globSpans(item)
		return hasNumber(spans, r) != isNot
	}
	return strings.HasSuffix(item, string(rune(r)))
}

// standsFor goes by the items alone: from all places at which one may begin to
// all at which it may end.
func standsFor(items []string, l []int) bool {
	begins := make([]bool, len(l)+1)
	begins[0] = true
	for _, item := range items {
		ends := make([]bool, len(l)+1)
		for from := range begins {
			switch {
			case !begins[from]:
			case item == "*":
				for to := from; to <= len(l); to++ {
					ends[to] = true
				}
			case from < len(l) && takesRune(item, l[from]):
				ends[from+1] = true
			}
		}
		begins = ends
	}
	return begins[len(l)]
}

func checkGlobRe(t *testing.T, s string, want []impl.Re) {
	t.Helper()
	if p, at, ok := impl.GlobRe(s); !ok || at != -1 || !isSameRe(p, want) {
		t.Fatalf("GlobRe(%q) = %v, %d, %v; not %v, -1, true", s, p, at, ok, want)
	}
}

func checkGlobFault(t *testing.T, s string, place int) {
	t.Helper()
	if p, at, ok := impl.GlobRe(s); p != nil || at != place || ok {
		t.Fatalf("GlobRe(%q) = %v, %d, %v; not none, %d, false", s, p, at, ok, place)
	}
	for _, l := range [][]int{nil, {97}, {91, 97}, {-1}} {
		checkNoGlob(t, s, l)
	}
}

func checkNoGlob(t *testing.T, s string, l []int) {
	t.Helper()
	if is, ok := impl.MatchesGlob(s, l); is || ok {
		t.Fatalf("MatchesGlob(%q, %v) = %v, %v; not false, false", s, l, is, ok)
	}
}

func checkGlob(t *testing.T, s string, l []int, want bool) {
	t.Helper()
	if is, ok := impl.MatchesGlob(s, l); is != want || !ok {
		t.Fatalf("MatchesGlob(%q, %v) = %v, %v; not %v, true", s, l, is, ok, want)
	}
}

func checkGlobOf(t *testing.T, l []int, want string) {
	t.Helper()
	if s, ok := impl.GlobOf(l); s != want || !ok {
		t.Fatalf("GlobOf(%v) = %q, %v; not %q, true", l, s, ok, want)
	}
}

func checkNoGlobOf(t *testing.T, l []int) {
	t.Helper()
	if s, ok := impl.GlobOf(l); s != "" || ok {
		t.Fatalf("GlobOf(%v) = %q, %v; not the zero answer", l, s, ok)
	}
}

// checkGlobAsSaid: the pattern, or the place, by the reading of its own.
func checkGlobAsSaid(t *testing.T, s string) {
	t.Helper()
	want, place := globAsSaid(s)
	if want == nil {
		checkGlobFault(t, s, place)
		return
	}
	checkGlobRe(t, s, want)
}

// checkPromise9: a short pattern stands for what GlobRe of it matches, and for
// what its items say.
func checkPromise9(t *testing.T, s string, lists [][]int) {
	t.Helper()
	p, _, ok := impl.GlobRe(s)
	if !ok {
		return
	}
	items, _ := globItems(s)
	for _, l := range lists {
		want := standsFor(items, l)
		checkGlob(t, s, l, want)
		checkMatch(t, p, l, want)
	}
}

// eachTextOf hands over all texts of at most n of the runes of another one.
func eachTextOf(n int, runes string, use func(string)) {
	eachShortList(n, rangedOver(runes), func(l []int) {
		var b strings.Builder
		for _, r := range l {
			b.WriteRune(rune(r))
		}
		use(b.String())
	})
}

func TestGlobReOfItems(t *testing.T) {
	a, b := runeRe(97), runeRe(98)
	for s, want := range map[string][]impl.Re{
		"":                       emptyRe(),
		"a":                      a,
		"*":                      starRe(),
		"?":                      anyRe(),
		"ab":                     catRe(a, b),
		"aba":                    {a[0], b[0], {Op: impl.ReCat}, a[0], {Op: impl.ReCat}},
		"**":                     {anyRe()[0], {Op: impl.ReStar}, anyRe()[0], {Op: impl.ReStar}, {Op: impl.ReCat}},
		"*a?":                    catRe(starRe(), a, anyRe()),
		"a*[!b]?":                catRe(a, starRe(), setRe(0, 97, 99, lastRune), anyRe()),
		"[a]":                    a,
		"[ab]":                   setRe(97, 98),
		"[ca]":                   setRe(97, 97, 99, 99),
		"[aaa]":                  a,
		"[a-a]":                  a,
		"[a-c]":                  setRe(97, 99),
		"[a-bc]":                 setRe(97, 99),
		"[c-da-b]":               setRe(97, 100),
		"[b-ea-c]":               setRe(97, 101),
		"[b-da-ec]":              setRe(97, 101),
		"[x-za-c0]":              setRe(48, 48, 97, 99, 120, 122),
		"[!a]":                   setRe(0, 96, 98, lastRune),
		"[!ca-b]":                setRe(0, 96, 100, lastRune),
		"[!!]":                   setRe(0, 32, 34, lastRune),
		"[!!!]":                  setRe(0, 32, 34, lastRune),
		"[!a!]":                  setRe(0, 32, 34, 96, 98, lastRune),
		"[!!-a]":                 setRe(0, 32, 98, lastRune),
		`[!\!-a]`:                setRe(0, 32, 98, lastRune),
		`[\!a]`:                  setRe(33, 33, 97, 97),
		`[\!-a]`:                 setRe(33, 97),
		"[a!]":                   setRe(33, 33, 97, 97),
		"[a!-a]":                 setRe(33, 97),
		"[ -!]":                  setRe(32, 33),
		"[[]":                    runeRe('['),
		"[*]":                    runeRe('*'),
		"[?]":                    runeRe('?'),
		"[*?[]":                  setRe('*', '*', '?', '?', '[', '['),
		"[*-[]":                  setRe('*', '['),
		"[a[]b]":                 catRe(setRe('[', '[', 97, 97), b, runeRe(']')),
		`[\]]`:                   runeRe(']'),
		`[\-]`:                   runeRe('-'),
		`[\\]`:                   runeRe('\\'),
		`[\a]`:                   a,
		`[\[\*]`:                 setRe('*', '*', '[', '['),
		`[+-\-]`:                 setRe('+', '-'),
		`[\--a]`:                 setRe('-', 97),
		`[\--\-]`:                runeRe('-'),
		`[\]-\a]`:                setRe(']', 97),
		`[\\-\]]`:                setRe('\\', ']'),
		`[!\]]`:                  setRe(0, '\\', '^', lastRune),
		`\*`:                     runeRe('*'),
		`\?`:                     runeRe('?'),
		`\[`:                     runeRe('['),
		`\]`:                     runeRe(']'),
		`\\`:                     runeRe('\\'),
		`\a\b`:                   catRe(a, b),
		`\-`:                     runeRe('-'),
		`\!`:                     runeRe('!'),
		`\[a]`:                   catRe(runeRe('['), a, runeRe(']')),
		`\\[a]`:                  catRe(runeRe('\\'), a),
		`\\*`:                    catRe(runeRe('\\'), starRe()),
		"]":                      runeRe(']'),
		"-":                      runeRe('-'),
		"!":                      runeRe('!'),
		"!a-b]":                  catRe(runeRe('!'), a, runeRe('-'), b, runeRe(']')),
		"[a]]":                   catRe(a, runeRe(']')),
		"[a]-[b]":                catRe(a, runeRe('-'), b),
		"()|&~.^$+{}":            catRe(runeRe('('), runeRe(')'), runeRe('|'), runeRe('&'), runeRe('~'), runeRe('.'), runeRe('^'), runeRe('$'), runeRe('+'), runeRe('{'), runeRe('}')),
		"äあ😀":                    catRe(runeRe(228), runeRe(12354), runeRe(128512)),
		`\ä\あ\😀`:                 catRe(runeRe(228), runeRe(12354), runeRe(128512)),
		"[あ-んä😀]":                setRe(228, 228, 12354, 12435, 128512, 128512),
		`[!\あ-\ん]`:               setRe(0, 12353, 12436, lastRune),
		"\ufffd":                 runeRe(65533),
		"\x00\x7f\n":             catRe(runeRe(0), runeRe(127), runeRe(10)),
		"[\x00-\n]":              setRe(0, 10),
		"[!\x00-\n]":             setRe(11, lastRune),
		"[!a-\U0010ffff]":        setRe(0, 96),
		"[\x00-\U0010ffff]":      anyRe(),
		"[!\x00-\U0010ffff]":     setRe(),
		"*[!\x00-\U0010ffff]":    catRe(starRe(), setRe()),
		"[\ud7ff\ue000]":         setRe(55295, 55295, 57344, 57344),
		"[\ud7ff-\ue000]":        setRe(55295, 57344),
		"[!\ud7ff-\ue000]":       setRe(0, 55294, 57345, lastRune),
		"[!a-\ud7fe\ue001]":      setRe(0, 96, 55295, 57344, 57346, lastRune),
		"[\U0010ffff]\U0010ffff": catRe(runeRe(lastRune), runeRe(lastRune)),
	} {
		checkGlobRe(t, s, want)
		checkGlobAsSaid(t, s)
	}
}

func TestGlobFaults(t *testing.T) {
	for s, place := range map[string]int{
		// what can't go on
		"[]": 1, "[]]": 1, "[]a]": 1, "[!]": 2, "[!]]": 2, "[-": 1, "[-]": 1, "[-a]": 1, "[!-": 2, "[!-a]": 2, "[a-]": 3, "[a-]]": 3, "[!a-]": 4,
		"[a--]": 3, "[a--b]": 3, "[a-b-]": 4, "[a-b-c]": 4, "[a-bc-]": 6, "[ab-]": 4, `[\a-]`: 4, `[\]-]`: 4, `[a-\]-]`: 3, `[ -\--]`: 5,
		// a second one that is less
		"[c-a]": 3, `[c-\a]`: 3, `[\c-a]`: 4, `[\c-\a]`: 4, "[c-a": 3, `[c-\a`: 3, "[c-a-": 3, "[xc-a]": 4, "[a-bc-a]": 6, "[!c-a]": 4, `[!c-\a]`: 4,
		"[a-!]": 3, `[a-\-]`: 3, `[a-\]]`: 3, `[a-\\]`: 3, `[\\-\!]`: 4, `[\]-\\]`: 4, "[b-a]": 3, "[\U0010ffff-\ufffd]": 3, "[😀-あ]": 3, `[😀-\あ]`: 3,
		// too early an end
		"[": 1, "[!": 2, "[a": 2, "[!a": 3, "[a-": 3, "[!a-": 4, "[a-b": 4, "[a-bc": 5, `[\`: 2, `[!\`: 3, `[a-\`: 4, `[a\`: 3, `[\]`: 3, `[\a`: 3, `[c-\`: 4, `[a-\b`: 5,
		`\`: 1, `a\`: 2, `\\\`: 3, `*\`: 2, "a[": 2, "*[": 2, "[a][": 4, "[[": 2, "[!!": 3, `[a]\`: 4, `\[[`: 3,
		// behind runes of two to four bytes
		"ä[]": 2, "あ[]": 2, "😀[]": 2, "äあ😀[!]": 5, "äあ😀[-": 4, "äあ😀[a-]": 6, "äあ😀[c-a]": 6, `äあ😀[c-\a]`: 6, "äあ😀[": 4, `äあ😀\`: 4,
		"[ä-]": 3, "[あ-ä]": 3, "[😀-あ": 3, "[äあ😀": 4, "[äあ😀-": 5, `[äあ😀\`: 5, `\ä\あ[]`: 5, `[\ä-\a]`: 4, `[\😀-\あ]`: 4, "[ä]あ[]": 5,
		// the first one of more
		"[][!]": 1, "[c-a][]": 3, "[a-[": 3, "a[]b[": 2,
	} {
		checkGlobFault(t, s, place)
		checkGlobAsSaid(t, s)
	}
}

// Each text is read as said, and stands for what it says.
func TestGlobOfAllShortTexts(t *testing.T) {
	lists := shortLists(3, wordRunes)
	eachTextOf(4, `*?[]!-\ac`, func(s string) {
		checkGlobAsSaid(t, s)
		checkPromise9(t, s, lists)
	})
	lists = shortLists(2, []int{33, 92, 97})
	eachTextOf(5, `[]!-\a`, func(s string) {
		checkGlobAsSaid(t, s)
		checkPromise9(t, s, lists)
	})
}

func TestGlobWithinBracketsOfAllShortTexts(t *testing.T) {
	eachTextOf(5, `]-\!ac`, func(s string) {
		checkGlobAsSaid(t, "["+s)
		checkGlobAsSaid(t, "あ[!"+s+"]")
	})
	eachTextOf(4, "]-\\äあ😀", func(s string) {
		checkGlobAsSaid(t, "[a"+s)
		checkGlobAsSaid(t, "[あ-"+s+"]")
	})
}

func TestGlobsOfItemsStandForWhatTheySay(t *testing.T) {
	items := []string{"*", "?", "a", `\b`, "[ac]", "[!a]", "[a-b]", "[!b-c]", `[!\c]`}
	lists := shortLists(4, wordRunes)
	eachShortList(3, numbersFrom(0, len(items)), func(l []int) {
		s := ""
		for _, i := range l {
			s += items[i]
		}
		checkGlobAsSaid(t, s)
		checkPromise9(t, s, lists)
	})
	long := shortLists(8, wordRunes[:2])
	for _, s := range []string{"*", "**", "a*b", "*a*", "*ab*", "*a*b*a*", "a*?b", "?*?", "***?", "*[!a]*[!b]*", "*aab*b", "a?b?a?b?", "*a???", "[a]*[!a]"} {
		checkPromise9(t, s, long)
	}
}

var globPieces = []string{
	"*", "*", "?", "a", "b", "c", `\a`, `\*`, `\?`, `\[`, `\\`, `\]`, "]", "-", "!", "ä", "あ", "😀", `\😀`, "[ab]", "[!ab]", "[a-c]", "[!b-😀]", `[\]-c]`, `[!\--a😀]`,
	"[あ-ん]", "[ca]", "[[*?]", "[0-9a-zA-Z_]", "[!!]", "[b!]", "[\x00-\U0010ffff]",
}

// globBits are more, most of them no items.
var globBits = []string{"[", "]", "-", "!", `\`, "[!", "[a-", "c-a", `-\a`, "[]", "😀-", "ä", "a", "[^a]", "[c-a]", "[\ud7ff", "\xff", "\xe3\x81"}

func (c *chances) glob(most int) string {
	s := ""
	for range c.next(most + 1) {
		s += globPieces[c.next(len(globPieces))]
	}
	return s
}

func (c *chances) globList(most int) []int {
	runes := []int{97, 98, 99, 97, 98, 33, 42, 45, 63, 91, 92, 93, 228, 12354, 12435, 128512, 0, lastRune}
	l := make([]int, c.next(most+1))
	for i := range l {
		l[i] = runes[c.next(len(runes))]
	}
	return l
}

func TestGlobsOfChance(t *testing.T) {
	c := chances(41)
	right := 0
	for range 6000 {
		s := c.glob(1 + c.next(22))
		checkGlobAsSaid(t, s)
		lists := [][]int{nil}
		for _, most := range []int{1, 2, 4, 9, mostWord} {
			lists = append(lists, c.globList(most))
		}
		checkPromise9(t, s, lists)
		if want, _ := globAsSaid(s); want != nil {
			right++
		}
	}
	if right < 2000 {
		t.Errorf("only %d stand for a pattern", right)
	}
}

// A list that a text is made for: each item by a rune that it takes, and each
// star by some.
func TestGlobsStandForListsMadeForThem(t *testing.T) {
	c := chances(43)
	many := 0
	for range 20000 {
		s := c.glob(8)
		items, _ := globItems(s)
		if want, _ := globAsSaid(s); want == nil {
			continue
		}
		var l []int
		for _, item := range items {
			if item == "*" {
				l = append(l, c.globList(3)...)
			}
			for _, r := range c.globList(12) {
				if item != "*" && takesRune(item, r) {
					l = append(l, r)
					break
				}
			}
		}
		if len(l) <= mostWord && standsFor(items, l) {
			checkPromise9(t, s, [][]int{l, l[:len(l)/2], append(slices.Clip(l), 98)[min(1, len(l)):]})
			many++
		}
	}
	if many < 3000 {
		t.Errorf("only %d lists were made", many)
	}
}

func TestGlobsThatAreNearlyRight(t *testing.T) {
	c := chances(47)
	for range 12000 {
		ahead, bit, behind := c.glob(4), globBits[c.next(len(globBits))], c.glob(4)
		checkGlobAsSaid(t, ahead+bit+behind)
		s := ahead + behind
		cut := c.next(len(s) + 1)
		checkGlobAsSaid(t, s[:cut])
		checkGlobAsSaid(t, s[cut:])
	}
}

func TestGlobOfSixtyRunes(t *testing.T) {
	for _, r := range []string{"a", "ä", "あ", "😀"} {
		group := "[" + strings.Repeat(r, mostOfGlob-2) + "]"
		checkGlobRe(t, group, runeRe(rangedOver(r)[0]))
		checkGlob(t, group, rangedOver(r), true)
		checkGlobFault(t, group+r, 0)
		checkGlobFault(t, r+group, 0)
		// the fault is told up to there, and no further
		checkGlobFault(t, strings.Repeat(r, mostOfGlob-2)+"[]", mostOfGlob-1)
		checkGlobFault(t, strings.Repeat(r, mostOfGlob-1)+"[", mostOfGlob)
		checkGlobFault(t, strings.Repeat(r, mostOfGlob-1)+`\`, mostOfGlob)
		checkGlobFault(t, "["+strings.Repeat(r, mostOfGlob-1), mostOfGlob)
		checkGlobFault(t, "[]"+strings.Repeat(r, mostOfGlob-2), 1)
		checkGlobFault(t, "[]"+strings.Repeat(r, mostOfGlob-1), 0)
		checkGlobFault(t, strings.Repeat(r, mostOfGlob)+`\`, 0)
		checkGlobFault(t, strings.Repeat(r, mostOfGlob)+"[", 0)
		checkGlobFault(t, "["+strings.Repeat(r, mostOfGlob), 0)
		for _, many := range []int{mostOfGlob, mostOfGlob + 1, 249, 250, 251, 999, 1000, 1001, 5000} {
			checkGlobFault(t, strings.Repeat(r, many), 0)
			checkGlobFault(t, "[]"+strings.Repeat(r, max(many, mostOfGlob+1)), 0)
		}
	}
	// marks are counted, too
	checkGlobRe(t, `[`+strings.Repeat(`\]`, 29)+`]`, runeRe(']'))
	checkGlobFault(t, `[a`+strings.Repeat(`\]`, 29)+`]`, 0)
	checkGlobRe(t, `[!`+strings.Repeat(`\--\-`, 11)+`a]`, setRe(0, 44, 46, 96, 98, lastRune))
	checkGlobRe(t, strings.Repeat("[a]", 20), chainRe(impl.ReCat, 20, runeRe(97)))
	checkGlobFault(t, strings.Repeat("[a]", 20)+"a", 0)
	checkGlobRe(t, "["+strings.Repeat("a-c", 19)+"b]", setRe(97, 99))
	for many := 55; many <= 65; many++ {
		for _, s := range []string{strings.Repeat("*", many), "[" + strings.Repeat("a", many-2) + "]", strings.Repeat("[a]", many/3)} {
			checkGlobAsSaid(t, s)
		}
	}
}

// A rune has one node, and a star two; each but the first one more.
func TestGlobOfMaxRe(t *testing.T) {
	for stars := range 16 {
		for others := range 24 {
			s := strings.Repeat("*", stars) + strings.Repeat("?", others)
			nodes := 3*stars + 2*others - 1
			if nodes > mostNodes {
				checkGlobFault(t, s, 0)
				continue
			}
			want := slices.Concat(slices.Repeat([][]impl.Re{starRe()}, stars), slices.Repeat([][]impl.Re{anyRe()}, others))
			checkGlobRe(t, s, catRe(want...))
			checkGlobAsSaid(t, strings.Repeat(`\a[!b]`, others/2)+strings.Repeat("*", stars))
		}
	}
	checkGlob(t, strings.Repeat("*", 13)+"a", append(slices.Repeat([]int{98}, mostWord-1), 97), true)
	checkGlob(t, strings.Repeat("*", 13)+"a", slices.Repeat([]int{98}, mostWord), false)
	checkGlob(t, strings.Repeat("a", mostToGlob), slices.Repeat([]int{97}, mostToGlob), true)
	// a fault is told however many nodes are ahead of it, or behind
	checkGlobFault(t, strings.Repeat("*", 30)+"[]", 31)
	checkGlobFault(t, strings.Repeat("a", 40)+`\`, 41)
	checkGlobFault(t, "[c-a]"+strings.Repeat("*", 40), 3)
}

// apart: so many runes, each by itself.
func apart(first, many int) string {
	s := ""
	for i := range many {
		s += string(rune(first + 2*i))
	}
	return s
}

func TestGlobOfMaxSpans(t *testing.T) {
	checkGlobRe(t, "["+apart(200, mostSpans)+"]", setRe(spansOf(200, mostSpans, 1, 1)...))
	checkGlobFault(t, "["+apart(200, mostSpans+1)+"]", 0)
	checkGlobFault(t, "["+apart(200, 50)+"]", 0)
	checkGlobFault(t, "a["+apart(200, mostSpans+1)+"]b", 0)
	// NotSet has one more, one less, or as many
	checkGlobRe(t, "[!"+apart(200, mostSpans-1)+"]", setRe(slices.Concat([]int{0, 199}, spansOf(201, mostSpans-2, 1, 1), []int{221, lastRune})...))
	checkGlobFault(t, "[!"+apart(200, mostSpans)+"]", 0)
	checkGlobRe(t, "[!"+apart(0, mostSpans)+"]", setRe(append(spansOf(1, mostSpans-1, 1, 1), 23, lastRune)...))
	checkGlobRe(t, "[!"+apart(200, mostSpans-1)+"\U0010ffff]", setRe(append([]int{0, 199}, append(spansOf(201, mostSpans-2, 1, 1), 221, lastRune-1)...)...))
	checkGlobRe(t, "[!"+apart(0, mostSpans-1)+"\U0010ffff]", setRe(append(spansOf(1, mostSpans-2, 1, 1), 21, lastRune-1)...))
	// what is no set has no contrary, however many spans that would have
	checkGlobFault(t, "[!"+apart(0, mostSpans)+"\U0010ffff]", 0)
	// more on the way, but not when all are joined
	checkGlobRe(t, "["+apart(200, 29)+apart(201, 28)+"]", setRe(200, 256))
	checkGlobRe(t, "["+apart(200, 50)+"a-\U0010ffff]", setRe(97, lastRune))
	checkGlobRe(t, "[!"+apart(200, 50)+"a-\U0010ffff]", setRe(0, 96))
	// a fault is told whatever sets are ahead of it
	checkGlobFault(t, "["+apart(200, 20)+"][]", 23)
	checkGlobFault(t, "[!"+apart(200, 12)+`]\`, 16)
	for many := 9; many <= 15; many++ {
		for first := range 3 {
			for _, end := range []string{"]", "\U0010ffff]", "\U0010fffe]", "a-z]"} {
				checkGlobAsSaid(t, "["+apart(first, many)+end)
				checkGlobAsSaid(t, "[!"+apart(first, many)+end)
			}
		}
	}
}

// Where a contrary would begin or end with what is no rune no pattern is good.
func TestGlobAtWhatIsNoRune(t *testing.T) {
	for s, want := range map[string][]impl.Re{
		"[!\ud7ff]": nil, "[!\ue000]": nil, "[!a-\ud7ff]": nil, "[!\ue000-\uffff]": nil, "[!\ud7ff\ue000]": nil, "a[!\ud7ff]": nil,
		"[!\ud7fe]": setRe(0, 55293, 55295, lastRune), "[!\ue001]": setRe(0, 57344, 57346, lastRune), "[\ud7ff]": runeRe(55295), "[\ue000]": runeRe(57344),
		"[!\ud7fe-\ue001]": setRe(0, 55293, 57346, lastRune), "\ud7ff\ue000": catRe(runeRe(55295), runeRe(57344)),
	} {
		if want == nil {
			checkGlobFault(t, s, 0)
		} else {
			checkGlobRe(t, s, want)
		}
		checkGlobAsSaid(t, s)
		checkPromise9(t, s, [][]int{nil, {55294}, {55295}, {57344}, {57345}, {97}})
	}
}

func TestGlobOfWhatIsNotWhole(t *testing.T) {
	for _, s := range []string{
		"\xff", "\x80", "\xc3", "\xe3\x81", "\xf0\x9f\x98", "\xed\xa0\x80", "\xed\xbf\xbf", "\xc0\x80", "\xe0\x80\x80", "\xf4\x90\x80\x80", "\xf8\x88\x80\x80\x80",
	} {
		for _, with := range []string{s, "a" + s, s + "a", "[" + s + "]", "[" + s, "[]" + s, s + "[]", `\` + s, "[c-a]" + s, "[a-" + s + "]", "*" + s + "*"} {
			checkGlobFault(t, with, 0)
			checkGlobAsSaid(t, with)
		}
	}
	eachShortText(2, edgeBytes, func(s string) {
		checkGlobAsSaid(t, s)
		checkGlobAsSaid(t, "["+s+"]")
	})
}

func TestMatchesGlobByHand(t *testing.T) {
	for _, c := range []struct {
		s, l string
		want bool
	}{
		{"", "", true}, {"", "a", false}, {"a", "a", true}, {"a", "", false}, {"a", "A", false}, {"a", "aa", false},
		{"*", "", true}, {"*", "a", true}, {"*", "äあ😀\n", true}, {"?", "", false}, {"?", "😀", true}, {"?", "\n", true}, {"?", "ab", false},
		{"a*", "a", true}, {"a*", "ab", true}, {"a*", "ba", false}, {"*.go", "l9.go", true}, {"*.go", "go", false}, {"*.go", "l9xgo", false},
		{"[ab]", "b", true}, {"[ab]", "c", false}, {"[!ab]", "c", true}, {"[!ab]", "a", false}, {"[!ab]", "", false}, {"[a!]", "!", true}, {"[a-c]x", "bx", true}, {"[a-c]x", "-x", false},
		{`\*`, "*", true}, {`\*`, "a", false}, {`\*`, `\*`, false}, {`[\]]`, "]", true}, {`[\]]`, `\`, false}, {"a]", "a]", true}, {"[あ-ん]*", "いろは", true}, {"[!あ-ん]*", "いろは", false},
	} {
		checkGlob(t, c.s, rangedOver(c.l), c.want)
		checkPromise9(t, c.s, [][]int{rangedOver(c.l)})
	}
}

func TestMatchesGlobUpToMaxWord(t *testing.T) {
	for _, s := range []string{"*", "a*", "*a", "*a*", "[!b]*", "a*?*a", "*[a]a"} {
		for _, r := range []int{97, lastRune} {
			for many := mostWord - 2; many <= mostWord; many++ {
				l := append([]int{97}, slices.Repeat([]int{r}, many-2)...)
				checkGlob(t, s, append(slices.Clip(l), 97), !strings.HasSuffix(s, "[a]a") || r == 97)
				checkPromise9(t, s, [][]int{append(slices.Clip(l), 98)})
			}
			checkNoGlob(t, s, slices.Repeat([]int{r}, mostWord+1))
			checkNoGlob(t, s, slices.Repeat([]int{r}, 5000))
		}
	}
	for _, s := range []string{"", "*", "?", "a"} {
		checkNoGlob(t, s, slices.Repeat([]int{97}, mostWord+1))
	}
}

func TestMatchesGlobOfWhatIsNoRune(t *testing.T) {
	for _, r := range noRunes {
		for _, s := range []string{"", "*", "?", "a", "a*", "[!a]", "[\x00-\U0010ffff]", "[\ud7ff-\ue000]", "*a*"} {
			for _, l := range [][]int{{r}, {97, r}, {r, 97}, {97, r, 97}, append(slices.Repeat([]int{97}, mostWord-1), r)} {
				checkNoGlob(t, s, l)
			}
		}
		checkNoGlobOf(t, []int{r})
		checkNoGlobOf(t, []int{97, r})
		checkNoGlobOf(t, []int{r, 42})
		checkNoGlobOf(t, append(slices.Repeat([]int{42}, mostToGlob-1), r))
		checkNoGlobOf(t, slices.Repeat([]int{r}, mostToGlob+1))
	}
}

func TestGlobOfByHand(t *testing.T) {
	for l, want := range map[string]string{
		"": "", "a": "a", "*": `\*`, "?": `\?`, "[": `\[`, `\`: `\\`, "]": "]", "-": "-", "!": "!", "*a": `\*a`, "a*b": `a\*b`, "[!a]": `\[!a]`, `\*`: `\\\*`,
		"*?[\\": `\*\?\[\\`, "****": `\*\*\*\*`, "äあ😀": "äあ😀", "あ*😀": `あ\*😀`, "\x00\n\x7f": "\x00\n\x7f", "\ufffd\U0010ffff": "\ufffd\U0010ffff", "()|&~.": "()|&~.", "^{}": "^{}",
	} {
		checkGlobOf(t, rangedOver(l), want)
	}
}

func globOfAsSaid(l []int) string {
	s := ""
	for _, r := range l {
		if r == '*' || r == '?' || r == '[' || r == '\\' {
			s += `\`
		}
		s += string(rune(r))
	}
	return s
}

// GlobOf of a list stands for that list alone.
func TestGlobOfAllShortLists(t *testing.T) {
	runes := rangedOver(`*?[]!-\a`)
	lists := shortLists(3, runes)
	for _, l := range shortLists(2, runes) {
		s := globOfAsSaid(l)
		checkGlobOf(t, l, s)
		for _, other := range lists {
			checkGlob(t, s, other, slices.Equal(l, other))
		}
	}
	for _, l := range lists {
		s := globOfAsSaid(l)
		checkGlobOf(t, l, s)
		checkGlob(t, s, l, true)
		lit, _ := impl.LitRe(l)
		checkGlobRe(t, s, lit)
	}
	for r := range lastRune + 1 {
		if r%257 == 0 && impl.GoodRune(r) || r < 300 {
			checkGlobOf(t, []int{r}, globOfAsSaid([]int{r}))
			checkGlob(t, globOfAsSaid([]int{r}), []int{r}, true)
		}
	}
}

func TestGlobOfTwentyRunes(t *testing.T) {
	for _, r := range []int{97, '*', '\\', '[', '?', ']', 228, 12354, lastRune} {
		for many := mostToGlob - 2; many <= mostToGlob; many++ {
			l := slices.Repeat([]int{r}, many)
			s := globOfAsSaid(l)
			checkGlobOf(t, l, s)
			lit, _ := impl.LitRe(l)
			checkGlobRe(t, s, lit)
			checkGlob(t, s, l, true)
			checkGlob(t, s, l[1:], false)
			checkGlob(t, s, append(slices.Clip(l), r), false)
		}
		for _, many := range []int{mostToGlob + 1, mostToGlob + 2, 30, 60, 1000, 1001} {
			checkNoGlobOf(t, slices.Repeat([]int{r}, many))
		}
	}
	c := chances(53)
	for range 3000 {
		l := c.globList(mostToGlob + 3)
		if len(l) > mostToGlob {
			checkNoGlobOf(t, l)
			continue
		}
		s := globOfAsSaid(l)
		checkGlobOf(t, l, s)
		other := c.globList(mostToGlob)
		checkPromise9(t, s, [][]int{l, other, l[:len(l)/2]})
		checkGlob(t, s, other, slices.Equal(l, other))
	}
}

func TestGlobListsAreNotWrittenIntoNorReadFurther(t *testing.T) {
	c := chances(59)
	for range 2000 {
		plain := c.globList(mostToGlob + 2)
		if c.next(4) == 0 {
			plain = append(plain, noRunes[c.next(len(noRunes))])
		}
		l := withMore(plain, -1, 42, 97)
		kept := slices.Clone(l[:len(l)+3])
		s, ok := impl.GlobOf(l)
		if want, wantOk := impl.GlobOf(slices.Clip(plain)); s != want || ok != wantOk {
			t.Fatalf("GlobOf(%v) hangs on what lies behind the list", plain)
		}
		for _, text := range []string{c.glob(5), s} {
			is, ok := impl.MatchesGlob(text, l)
			if want, wantOk := impl.MatchesGlob(text, slices.Clip(plain)); is != want || ok != wantOk {
				t.Fatalf("MatchesGlob(%q, %v) hangs on what lies behind the list", text, plain)
			}
		}
		if !slices.Equal(l[:len(l)+3], kept) {
			t.Fatalf("%v was written into", kept)
		}
	}
}

func TestGlobPatternsAreNewMemory(t *testing.T) {
	texts := []string{"", "*", "**", "??", "*?*?", "aa", "[ab][ab]", "[!a][!a]", "*[a-c]*[a-c]", "[!\x00-\U0010ffff]?", strings.Repeat("*", 13)}
	c := chances(61)
	for range 500 {
		texts = append(texts, c.glob(12))
	}
	for _, s := range texts {
		checkApart(t, "GlobRe", func() []impl.Re { p, _, _ := impl.GlobRe(s); return p })
	}
}

// A fault in one call leaves nothing behind for the next one.
func TestGlobAfterFaults(t *testing.T) {
	for _, bad := range []string{"[", "[c-a]", `\`, strings.Repeat("*", 14), "\xff", strings.Repeat("a", 61)} {
		_, before := globAsSaid(bad)
		checkGlobFault(t, bad, before)
		checkGlobRe(t, "[ab]", setRe(97, 98))
		checkGlobFault(t, bad, before)
		checkGlobOf(t, []int{97, 42}, `a\*`)
	}
}
