package tests

import (
	"math"
	"regexp"
	"slices"
	"strings"
	"testing"
	"unicode/utf8"

	"loop.example/g00692/impl"
)

const mostNodes = impl.MaxRe
const mostWord = impl.MaxWord

// patternMarks have a \ ahead where they stand for a rune.
const patternMarks = `()[]|&~*.-\`

// everyMark is each of them, by its number.
var everyMark = []int{40, 41, 91, 93, 124, 38, 126, 42, 46, 45, 92}

func setRe(s ...int) []impl.Re { return []impl.Re{{Op: impl.ReSet, Set: s}} }

func runeRe(r int) []impl.Re { return setRe(r, r) }

func emptyRe() []impl.Re { return []impl.Re{{Op: impl.ReNil}} }

func opRe(op int, parts ...[]impl.Re) []impl.Re {
	return append(slices.Concat(parts...), impl.Re{Op: op})
}

func timesRe(op int, times int, p []impl.Re) []impl.Re {
	for range times {
		p = opRe(op, p)
	}
	return p
}

// partsNeeded: how many parts belong to an op; -1 for what is none.
func partsNeeded(op int) int {
	switch op {
	case impl.ReNil, impl.ReSet:
		return 0
	case impl.ReStar, impl.ReNot:
		return 1
	case impl.ReCat, impl.ReOr, impl.ReAnd:
		return 2
	}
	return -1
}

// isGoodReAsSaid counts how many are on the pile, without one.
func isGoodReAsSaid(p []impl.Re) bool {
	if len(p) < 1 || len(p) > mostNodes {
		return false
	}
	high := 0
	for _, n := range p {
		need := partsNeeded(n.Op)
		if need < 0 || high < need || n.Op != impl.ReSet && len(n.Set) > 0 || !isGoodAsSaid(n.Set) {
			return false
		}
		for _, r := range n.Set {
			if r >= 55296 && r <= 57343 {
				return false
			}
		}
		high += 1 - need
	}
	return high == 1
}

// beginOfLast: where the nodes begin that belong to the last one.
func beginOfLast(p []impl.Re) int {
	at, lack := len(p), 1
	for lack > 0 {
		at--
		lack += partsNeeded(p[at].Op) - 1
	}
	return at
}

// partsOfRe: the parts of the last node, as pieces of the list.
func partsOfRe(p []impl.Re) (op int, first []impl.Re, second []impl.Re) {
	rest := p[:len(p)-1]
	op = p[len(p)-1].Op
	switch partsNeeded(op) {
	case 1:
		first = rest
	case 2:
		at := beginOfLast(rest)
		first, second = rest[:at], rest[at:]
	}
	return op, first, second
}

func isSameRe(a, b []impl.Re) bool {
	return slices.EqualFunc(a, b, func(x, y impl.Re) bool { return x.Op == y.Op && slices.Equal(x.Set, y.Set) })
}

func isNothing(p []impl.Re) bool { return isSameRe(p, setRe()) }

// A matching remembers which nodes match which part of the list.
type matching struct {
	l    []int
	done map[[3]int]bool
}

func matchAsSaid(p []impl.Re, l []int) bool {
	m := matching{l, map[[3]int]bool{}}
	return m.matches(p, len(p), 0, len(l))
}

// matches asks the nodes that end ahead of a place, from and to places of the
// list.
func (m matching) matches(p []impl.Re, end, from, to int) bool {
	key := [3]int{end, from, to}
	is, ok := m.done[key]
	if !ok {
		is = m.find(p, end, from, to)
		m.done[key] = is
	}
	return is
}

func (m matching) find(p []impl.Re, end, from, to int) bool {
	op, first, _ := partsOfRe(p[beginOfLast(p[:end]):end])
	upper := end - 1
	lower := upper
	if partsNeeded(op) == 2 {
		lower = beginOfLast(p[:end]) + len(first)
	}
	switch op {
	case impl.ReNil:
		return from == to
	case impl.ReSet:
		return to == from+1 && hasNumber(p[end-1].Set, m.l[from])
	case impl.ReOr:
		return m.matches(p, lower, from, to) || m.matches(p, upper, from, to)
	case impl.ReAnd:
		return m.matches(p, lower, from, to) && m.matches(p, upper, from, to)
	case impl.ReNot:
		return !m.matches(p, upper, from, to)
	case impl.ReCat:
		for mid := from; mid <= to; mid++ {
			if m.matches(p, lower, from, mid) && m.matches(p, upper, mid, to) {
				return true
			}
		}
		return false
	}
	for mid := from + 1; mid <= to; mid++ {
		if m.matches(p, upper, from, mid) && m.matches(p, end, mid, to) {
			return true
		}
	}
	return from == to
}

// tidyAsSaid writes each rule by itself, on lists.
func tidyAsSaid(p []impl.Re) []impl.Re {
	op, first, second := partsOfRe(p)
	if first != nil {
		first = tidyAsSaid(first)
	}
	if second != nil {
		second = tidyAsSaid(second)
	}
	isNil := func(q []impl.Re) bool { return isSameRe(q, emptyRe()) }
	switch {
	case op == impl.ReNil || op == impl.ReSet:
		return slices.Clone(p)
	case op == impl.ReCat && (isNothing(first) || isNothing(second)):
		return setRe()
	case op == impl.ReCat && isNil(first):
		return second
	case op == impl.ReCat && isNil(second):
		return first
	case op == impl.ReOr && isNothing(first):
		return second
	case op == impl.ReOr && (isNothing(second) || isSameRe(first, second)):
		return first
	case op == impl.ReAnd && (isNothing(first) || isNothing(second)):
		return setRe()
	case op == impl.ReAnd && isSameRe(first, second):
		return first
	case op == impl.ReStar && (isNil(first) || isNothing(first)):
		return emptyRe()
	case op == impl.ReStar && first[len(first)-1].Op == impl.ReStar:
		return first
	case op == impl.ReNot && first[len(first)-1].Op == impl.ReNot:
		return first[:len(first)-1]
	}
	return opRe(op, first, second)
}

// derivAsSaid is not tidy, and as long as it comes.
func derivAsSaid(p []impl.Re, r int) []impl.Re {
	op, first, second := partsOfRe(p)
	switch op {
	case impl.ReNil:
		return setRe()
	case impl.ReSet:
		if hasNumber(p[0].Set, r) {
			return emptyRe()
		}
		return setRe()
	case impl.ReOr, impl.ReAnd:
		return opRe(op, derivAsSaid(first, r), derivAsSaid(second, r))
	case impl.ReNot:
		return opRe(op, derivAsSaid(first, r))
	case impl.ReStar:
		return opRe(impl.ReCat, derivAsSaid(first, r), p)
	}
	cat := opRe(impl.ReCat, derivAsSaid(first, r), second)
	if matchAsSaid(first, nil) {
		return opRe(impl.ReOr, cat, derivAsSaid(second, r))
	}
	return cat
}

func revAsSaid(p []impl.Re) []impl.Re {
	op, first, second := partsOfRe(p)
	switch {
	case first == nil:
		return p
	case second == nil:
		return opRe(op, revAsSaid(first))
	case op == impl.ReCat:
		return opRe(op, revAsSaid(second), revAsSaid(first))
	}
	return opRe(op, revAsSaid(first), revAsSaid(second))
}

func runeText(r int) string {
	s := string(rune(r))
	if strings.Contains(patternMarks, s) {
		return `\` + s
	}
	return s
}

func textAsSaid(p []impl.Re) string {
	op, first, second := partsOfRe(p)
	switch op {
	case impl.ReNil:
		return "()"
	case impl.ReCat:
		return "(" + textAsSaid(first) + textAsSaid(second) + ")"
	case impl.ReOr:
		return "(" + textAsSaid(first) + "|" + textAsSaid(second) + ")"
	case impl.ReAnd:
		return "(" + textAsSaid(first) + "&" + textAsSaid(second) + ")"
	case impl.ReStar:
		return textAsSaid(first) + "*"
	case impl.ReNot:
		return "(~" + textAsSaid(first) + ")"
	}
	s := p[0].Set
	if slices.Equal(s, []int{0, lastRune}) {
		return "."
	}
	if len(s) == 2 && s[0] == s[1] {
		return runeText(s[0])
	}
	text := "["
	for i := 0; i < len(s); i += 2 {
		text += runeText(s[i])
		if s[i] != s[i+1] {
			text += "-" + runeText(s[i+1])
		}
	}
	return text + "]"
}

// stepText goes on by one rune: the stack says what must still come, its last
// letter first: P a pattern, S any number of stars, G what is behind a "(", M
// what is behind the first part there, C a ")", B a span or "]", D what is
// behind a span's first rune, E its last one, X a mark behind "\".
func stepText(stack string, r rune) (string, bool) {
	if stack == "" {
		return "", false
	}
	rest, top := stack[:len(stack)-1], stack[len(stack)-1]
	isPlain := !strings.ContainsRune(patternMarks, r)
	switch {
	case top == 'S' && r == '*':
		return stack, true
	case top == 'S':
		return stepText(rest, r)
	case top == 'P' && r == '(':
		return rest + "SG", true
	case top == 'P' && r == '[':
		return rest + "SB", true
	case top == 'P' && r == '\\':
		return rest + "SX", true
	case top == 'P' && (r == '.' || isPlain):
		return rest + "S", true
	case top == 'G' && r == ')', top == 'C' && r == ')', top == 'B' && r == ']', top == 'X' && !isPlain, top == 'E' && isPlain:
		return rest, true
	case top == 'G' && r == '~':
		return rest + "CP", true
	case top == 'G':
		return stepText(rest+"CMP", r)
	case top == 'M' && (r == '|' || r == '&'):
		return rest + "P", true
	case top == 'M':
		return stepText(rest+"P", r)
	case top == 'B' && r == '\\':
		return rest + "DX", true
	case top == 'B' && isPlain:
		return rest + "D", true
	case top == 'D' && r == '-':
		return rest + "BE", true
	case top == 'D':
		return stepText(rest+"B", r)
	case top == 'E' && r == '\\':
		return rest + "X", true
	}
	return "", false
}

// faultOf: the first rune that can't go on; how many there are and whether it
// is whole, where all can.
func faultOf(s string) (int, bool) {
	stack, at := "P", 0
	for _, r := range s {
		next, ok := stepText(stack, r)
		if !ok {
			return at, false
		}
		stack = next
		at++
	}
	return at, strings.Trim(stack, "S") == ""
}

var bracketsIn = regexp.MustCompile(`(?s)\\.|\[((?:\\.|[^\\\]])*)\]`)
var spansIn = regexp.MustCompile(`(?s)(?:\\(.)|([^\\]))(-(?:\\(.)|([^\\])))?`)

// hasSpansAsWritten: whether each pair of brackets of a text that is right has
// spans that ReText writes so.
func hasSpansAsWritten(s string) bool {
	for _, found := range bracketsIn.FindAllStringSubmatch(s, -1) {
		if strings.HasPrefix(found[0], "[") && !isWrittenSet(found[1]) {
			return false
		}
	}
	return true
}

func isWrittenSet(within string) bool {
	var set []int
	for _, f := range spansIn.FindAllStringSubmatch(within, -1) {
		first, _ := utf8.DecodeRuneInString(f[1] + f[2])
		last := first
		if f[3] != "" {
			last, _ = utf8.DecodeRuneInString(f[4] + f[5])
			if last == first {
				return false
			}
		}
		set = append(set, int(first), int(last))
	}
	alone := len(set) == 2 && (set[0] == set[1] || set[0] == 0 && set[1] == lastRune)
	return isGoodAsSaid(set) && !alone
}

// patternsUpTo: all patterns of these leaves with at most so many nodes.
func patternsUpTo(nodes int, leaves ...[]impl.Re) [][]impl.Re {
	by := make([][][]impl.Re, nodes+1)
	by[1] = leaves
	for n := 2; n <= nodes; n++ {
		for _, part := range by[n-1] {
			by[n] = append(by[n], opRe(impl.ReStar, part), opRe(impl.ReNot, part))
		}
		for i := 1; i < n-1; i++ {
			for _, first := range by[i] {
				for _, second := range by[n-1-i] {
					for _, op := range []int{impl.ReCat, impl.ReOr, impl.ReAnd} {
						by[n] = append(by[n], opRe(op, first, second))
					}
				}
			}
		}
	}
	return slices.Concat(by...)
}

var fewLeaves = [][]impl.Re{emptyRe(), setRe(), runeRe(97), setRe(97, 98)}

// chances: a rule that always tells the same numbers.
type chances uint32

func (c *chances) next(n int) int {
	*c = *c*1664525 + 1013904223
	return int(*c>>8) % n
}

// manyPatterns: patterns of all ops with at most so many nodes, by a rule.
func manyPatterns(count int, most int, leaves ...[]impl.Re) [][]impl.Re {
	c := chances(11)
	var all [][]impl.Re
	for len(all) < count {
		all = append(all, c.pattern(1+c.next(most), leaves))
	}
	return all
}

func (c *chances) pattern(nodes int, leaves [][]impl.Re) []impl.Re {
	if nodes < 2 {
		return leaves[c.next(len(leaves))]
	}
	one := []int{impl.ReStar, impl.ReNot}
	two := []int{impl.ReCat, impl.ReOr, impl.ReCat, impl.ReOr, impl.ReAnd}
	if nodes == 2 || c.next(4) == 0 {
		return opRe(one[c.next(len(one))], c.pattern(nodes-1, leaves))
	}
	ahead := 1 + c.next(nodes-2)
	return opRe(two[c.next(len(two))], c.pattern(ahead, leaves), c.pattern(nodes-1-ahead, leaves))
}

var manyLeaves = [][]impl.Re{
	emptyRe(), setRe(), runeRe(97), runeRe(98), setRe(97, 98), setRe(0, lastRune), setRe(97, 97, 99, 99),
	setRe(0, 96, 98, lastRune), runeRe(0), runeRe(lastRune), setRe(65, 90, 97, 122), runeRe(45), setRe(40, 42, 91, 93),
	setRe(228, 228, 12354, 12360, 128512, 128520), setRe(55295, 57344), spanLeaf(), runeRe(92), runeRe(46),
}

func spanLeaf() []impl.Re { return setRe(spansOf(97, mostSpans, 1, 1)...) }

var wordRunes = []int{97, 98, 99}

func checkGoodRe(t *testing.T, p []impl.Re, want bool) {
	t.Helper()
	if good := impl.GoodRe(p); good != want {
		t.Fatalf("GoodRe(%v) = %v", p, good)
	}
}

func checkMatch(t *testing.T, p []impl.Re, l []int, want bool) {
	t.Helper()
	if is, ok := impl.MatchesRe(p, l); is != want || !ok {
		t.Fatalf("MatchesRe(%s, %v) = %v, %v; not %v, true", textAsSaid(p), l, is, ok, want)
	}
}

func checkNotMatched(t *testing.T, p []impl.Re, l []int) {
	t.Helper()
	if is, ok := impl.MatchesRe(p, l); is || ok {
		t.Fatalf("MatchesRe(%v, %v) = %v, %v", p, l, is, ok)
	}
}

// checkRe: what a function answered is the pattern that is wanted; none, where
// that is nil.
func checkRe(t *testing.T, what string, of any, p []impl.Re, ok bool, want []impl.Re) {
	t.Helper()
	if ok != (want != nil) || !isSameRe(p, want) {
		t.Fatalf("%s(%v) = %v, %v; not %v", what, of, p, ok, want)
	}
}

func checkDeriv(t *testing.T, p []impl.Re, r int, want []impl.Re) {
	t.Helper()
	d, ok := impl.DerivRe(p, r)
	checkRe(t, "DerivRe", p, d, ok, want)
}

func checkTidy(t *testing.T, p []impl.Re, want []impl.Re) {
	t.Helper()
	tidy, ok := impl.TidyRe(p)
	checkRe(t, "TidyRe", p, tidy, ok, want)
}

func checkRev(t *testing.T, p []impl.Re, want []impl.Re) {
	t.Helper()
	rev, ok := impl.RevRe(p)
	checkRe(t, "RevRe", p, rev, ok, want)
}

func checkFold(t *testing.T, p []impl.Re, want []impl.Re) {
	t.Helper()
	folded, ok := impl.FoldRe(p)
	checkRe(t, "FoldRe", p, folded, ok, want)
}

func checkLit(t *testing.T, l []int, want []impl.Re) {
	t.Helper()
	p, ok := impl.LitRe(l)
	checkRe(t, "LitRe", l, p, ok, want)
}

func checkText(t *testing.T, p []impl.Re, want string) {
	t.Helper()
	if s, ok := impl.ReText(p); s != want || !ok {
		t.Fatalf("ReText(%v) = %q, %v; not %q, true", p, s, ok, want)
	}
}

func checkNoText(t *testing.T, p []impl.Re) {
	t.Helper()
	if s, ok := impl.ReText(p); s != "" || ok {
		t.Fatalf("ReText(%v) = %q, %v", p, s, ok)
	}
}

func checkReadRe(t *testing.T, s string, want []impl.Re) {
	t.Helper()
	p, at, ok := impl.ReadRe(s)
	if !ok || at != utf8.RuneCountInString(s) || !isSameRe(p, want) {
		t.Fatalf("ReadRe(%q) = %v, %d, %v; not %v", s, p, at, ok, want)
	}
}

func checkFault(t *testing.T, s string, place int) {
	t.Helper()
	if p, at, ok := impl.ReadRe(s); len(p) != 0 || at != place || ok {
		t.Fatalf("ReadRe(%q) = %v, %d, %v; not none, %d, false", s, p, at, ok, place)
	}
}

// checkWritten: a pattern's text is as said, and is read back.
func checkWritten(t *testing.T, p []impl.Re) {
	t.Helper()
	s := textAsSaid(p)
	if len(s) > impl.MaxText {
		checkNoText(t, p)
		checkFault(t, s, 0)
		return
	}
	checkText(t, p, s)
	checkReadRe(t, s, p)
}

// re is the pattern of a text, which has to be one.
func re(t *testing.T, s string) []impl.Re {
	t.Helper()
	p, at, ok := impl.ReadRe(s)
	if !ok {
		t.Fatalf("ReadRe(%q) tells false at %d", s, at)
	}
	return p
}

// checkPromiseOf: with a rune ahead the pattern matches just what its
// derivative does without, and both as said.
func checkPromiseOf(t *testing.T, p []impl.Re, r int, lists [][]int) {
	t.Helper()
	d, ok := impl.DerivRe(p, r)
	if !ok {
		if len(derivAsSaid(p, r)) <= mostNodes {
			t.Fatalf("DerivRe(%s, %d) tells false", textAsSaid(p), r)
		}
		return
	}
	for _, l := range lists {
		with := append([]int{r}, l...)
		want := matchAsSaid(p, with)
		checkMatch(t, p, with, want)
		checkMatch(t, d, l, want)
	}
}

func shortLists(n int, runes []int) [][]int {
	var all [][]int
	eachShortList(n, runes, func(l []int) { all = append(all, slices.Clone(l)) })
	return all
}

func TestDerivativeOfAllSmallPatterns(t *testing.T) {
	lists := shortLists(3, wordRunes)
	for _, p := range patternsUpTo(4, fewLeaves...) {
		for _, r := range wordRunes {
			checkPromiseOf(t, p, r, lists)
		}
	}
	lists = shortLists(2, wordRunes[:2])
	for _, p := range patternsUpTo(5, fewLeaves...) {
		checkPromiseOf(t, p, 97, lists)
	}
}

func TestDerivativeOfManyPatterns(t *testing.T) {
	c := chances(5)
	runes := []int{97, 98, 97, 98, 99, 0, 45, 122, 12354, 55295, 57344, lastRune}
	for _, p := range manyPatterns(1500, mostNodes, manyLeaves...) {
		lists := [][]int{nil}
		for _, n := range []int{1, 2, 4, 9} {
			var l []int
			for range n {
				l = append(l, runes[c.next(len(runes))])
			}
			lists = append(lists, l)
		}
		checkPromiseOf(t, p, runes[c.next(len(runes))], lists)
	}
}

// Rune by rune down to the empty list: what is left is nullable just where the
// list is matched.
func TestDerivativesOneAfterTheOther(t *testing.T) {
	for _, s := range []string{"(ab)*", "(a|b)*", "((ab)*&(~(.*(bb))))", "(~(a(ab)))", "(((ab)|a)*b)", "(~(~a*))", "((a*b*)*&.*)", "(a|())*"} {
		p := re(t, s)
		eachShortList(6, []int{97, 98}, func(l []int) {
			q, ok := p, true
			for _, r := range l {
				if q, ok = impl.DerivRe(q, r); !ok {
					return
				}
			}
			want := matchAsSaid(p, l)
			if is, ok := impl.IsNullable(q); is != want || !ok {
				t.Fatalf("%s and %v: %s is nullable: %v, %v", s, l, textAsSaid(q), is, ok)
			}
		})
	}
}

func TestGoodReOfShortLists(t *testing.T) {
	nodes := []impl.Re{
		{Op: impl.ReNil}, {Op: impl.ReSet}, {Op: impl.ReSet, Set: []int{97, 98}}, {Op: impl.ReCat}, {Op: impl.ReOr}, {Op: impl.ReAnd},
		{Op: impl.ReStar}, {Op: impl.ReNot}, {}, {Op: 8}, {Op: impl.ReNil, Set: []int{97, 97}}, {Op: impl.ReSet, Set: []int{98, 97}},
	}
	numbers := numbersFrom(0, len(nodes))
	eachShortList(5, numbers, func(l []int) {
		var p []impl.Re
		for _, i := range l {
			p = append(p, nodes[i])
		}
		checkGoodRe(t, p, isGoodReAsSaid(p))
	})
}

func TestGoodReBySets(t *testing.T) {
	for _, s := range [][]int{
		nil, {}, {97, 97}, {0, 0}, {0, lastRune}, {lastRune, lastRune}, {97, 98, 100, 120}, {55295, 55295}, {57344, 57344},
		// what is no rune lies within a span, but does not begin or end it
		{55295, 57344}, {55000, 58000}, {0, 96, 98, lastRune}, {0, 55295, 57344, lastRune},
		spansOf(0, mostSpans, 1, 1), spansOf(0, mostSpans, 100000, 1)[:22],
	} {
		checkGoodRe(t, setRe(s...), true)
		checkGoodRe(t, opRe(impl.ReCat, setRe(s...), opRe(impl.ReStar, setRe(s...))), true)
	}
	for _, s := range slices.Concat(noSets, [][]int{
		{55296, 55296}, {57343, 57343}, {55296, 57343}, {55000, 55296}, {55000, 57343}, {55296, 58000}, {57343, 58000}, {56000, 57344},
		{97, 98, 55295, 55296}, {97, 98, 55296, 58000}, {0, 55295, 55297, lastRune},
	}) {
		checkGoodRe(t, setRe(s...), false)
		checkGoodRe(t, opRe(impl.ReCat, setRe(s...), runeRe(97)), false)
		checkGoodRe(t, opRe(impl.ReCat, runeRe(97), setRe(s...)), false)
	}
	for _, s := range slices.Concat(edgeSets, manySets(2000)) {
		checkGoodRe(t, setRe(s...), isGoodReAsSaid(setRe(s...)))
	}
	for op := range 10 {
		for _, s := range [][]int{{97, 97}, {0, lastRune}, {97}, {98, 97}} {
			p := append(slices.Concat(runeRe(97), runeRe(97))[:max(0, partsNeeded(op))], impl.Re{Op: op, Set: s})
			checkGoodRe(t, p, op == impl.ReSet && isGoodAsSaid(s))
			p[len(p)-1].Set = []int{}
			checkGoodRe(t, p, op >= impl.ReNil && op <= impl.ReNot)
		}
	}
}

// chainRe: so many parts, each behind the ones ahead.
func chainRe(op int, parts int, part []impl.Re) []impl.Re {
	p := part
	for range parts - 1 {
		p = opRe(op, p, part)
	}
	return p
}

// deepRe: all parts first, and then all nodes of two parts.
func deepRe(op int, parts int, part []impl.Re) []impl.Re {
	p := slices.Repeat(part, parts)
	return append(p, slices.Repeat([]impl.Re{{Op: op}}, parts-1)...)
}

func TestGoodReAtMaxRe(t *testing.T) {
	if mostNodes != 40 || mostWord != 40 {
		t.Errorf("MaxRe and MaxWord are %d and %d", mostNodes, mostWord)
	}
	checkGoodRe(t, nil, false)
	checkGoodRe(t, []impl.Re{}, false)
	for _, leaf := range slices.Concat(fewLeaves, manyLeaves) {
		checkGoodRe(t, leaf, true)
		for _, op := range []int{impl.ReStar, impl.ReNot} {
			checkGoodRe(t, timesRe(op, mostNodes-1, leaf), true)
			checkGoodRe(t, timesRe(op, mostNodes, leaf), false)
		}
		for _, op := range []int{impl.ReCat, impl.ReOr, impl.ReAnd} {
			for _, p := range [][]impl.Re{chainRe(op, 20, leaf), deepRe(op, 20, leaf)} {
				checkGoodRe(t, p, true)
				checkGoodRe(t, opRe(impl.ReStar, p), true)
				checkGoodRe(t, opRe(impl.ReNot, opRe(impl.ReStar, p)), false)
			}
			checkGoodRe(t, chainRe(op, 21, leaf), false)
			checkGoodRe(t, deepRe(op, 21, leaf), false)
		}
	}
	checkGoodRe(t, slices.Repeat(runeRe(97), mostNodes), false)
	checkGoodRe(t, chainRe(impl.ReCat, 20, runeRe(97))[1:], false)
	checkGoodRe(t, chainRe(impl.ReCat, 20, runeRe(97))[:38], false)
	checkGoodRe(t, deepRe(impl.ReCat, 100000, runeRe(97)), false)
}

func TestPlainAndNullable(t *testing.T) {
	for _, p := range slices.Concat(patternsUpTo(5, fewLeaves...), manyPatterns(3000, mostNodes, manyLeaves...)) {
		wantPlain := !slices.ContainsFunc(p, func(n impl.Re) bool { return n.Op == impl.ReAnd || n.Op == impl.ReNot })
		if is, ok := impl.IsPlain(p); is != wantPlain || !ok {
			t.Fatalf("IsPlain(%s) = %v, %v", textAsSaid(p), is, ok)
		}
		want := matchAsSaid(p, nil)
		if is, ok := impl.IsNullable(p); is != want || !ok {
			t.Fatalf("IsNullable(%s) = %v, %v", textAsSaid(p), is, ok)
		}
		checkMatch(t, p, nil, want)
	}
}

func TestPlainAndNullableByHand(t *testing.T) {
	for _, c := range []struct {
		s               string
		plain, nullable bool
	}{
		{"()", true, true}, {"[]", true, false}, {"a", true, false}, {".", true, false}, {"[a-c]", true, false},
		{"(ab)", true, false}, {"(a())", true, false}, {"(()a)", true, false}, {"(()())", true, true}, {"(a*b*)", true, true}, {"(a*b)", true, false},
		{"(a|b)", true, false}, {"(a|())", true, true}, {"(()|a)", true, true}, {"(a*|b*)", true, true},
		{"(a&b)", false, false}, {"(a&())", false, false}, {"(()&a)", false, false}, {"(()&b*)", false, true},
		{"a*", true, true}, {"a**", true, true}, {"[]*", true, true}, {"()*", true, true},
		{"(~a)", false, true}, {"(~())", false, false}, {"(~[])", false, true}, {"(~(~a))", false, false}, {"(~(~()))", false, true},
		{"(~a*)", false, false}, {"(~a)*", false, true}, {"((~a)b)", false, false}, {"(a(~b))", false, false}, {"((a&b)|c)", false, false},
		{"((a&b)*c)", false, false}, {"((~a)(~b))", false, true}, {"(a|(b&c*))", false, false}, {"((~())|a)", false, false},
	} {
		p := re(t, c.s)
		if is, ok := impl.IsPlain(p); is != c.plain || !ok {
			t.Errorf("IsPlain(%s) = %v, %v", c.s, is, ok)
		}
		if is, ok := impl.IsNullable(p); is != c.nullable || !ok {
			t.Errorf("IsNullable(%s) = %v, %v", c.s, is, ok)
		}
	}
}

func TestMatchesReByHand(t *testing.T) {
	for _, c := range []struct {
		s        string
		yes, not []string
	}{
		{"()", []string{""}, []string{"a", "aa", "("}},
		{"[]", nil, []string{"", "a", "[]"}},
		{"a", []string{"a"}, []string{"", "b", "aa", "A"}},
		{".", []string{"a", "\x00", "\U0010ffff", "\ufffd", "\n"}, []string{"", "aa"}},
		{"[a-ce]", []string{"a", "b", "c", "e"}, []string{"", "d", "f", "`", "ab"}},
		{"(ab)", []string{"ab"}, []string{"", "a", "b", "ba", "abb", "aab"}},
		{"(a|b)", []string{"a", "b"}, []string{"", "ab", "c"}},
		{"([a-c]&[b-d])", []string{"b", "c"}, []string{"", "a", "d", "bc"}},
		{"(a&b)", nil, []string{"", "a", "b", "ab"}},
		{"a*", []string{"", "a", "aa", "aaaaaaaa"}, []string{"b", "ab", "ba", "aab"}},
		{"(ab)*", []string{"", "ab", "abab"}, []string{"a", "b", "aba", "ba", "abb"}},
		{"(a*b*)*", []string{"", "a", "b", "abba", "bbaab"}, []string{"c", "abc"}},
		{"a**", []string{"", "a", "aaa"}, []string{"b"}},
		{"()*", []string{""}, []string{"a"}},
		{"[]*", []string{""}, []string{"a"}},
		{"(()|a)*", []string{"", "a", "aaa"}, []string{"b", "ab"}},
		{"(~a)", []string{"", "b", "aa", "ab"}, []string{"a"}},
		{"(~(~a))", []string{"a"}, []string{"", "b", "aa"}},
		{"(~[])", []string{"", "a", "abc"}, nil},
		{"(~())", []string{"a", "abc"}, []string{""}},
		{"(~.*)", nil, []string{"", "a", "ab"}},
		{"(.*&(~(.*(a.*))))", []string{"", "b", "bcb"}, []string{"a", "bab", "bba"}},
		{"(~a)*", []string{"", "b", "aa", "ab", "aab"}, []string{"a"}},
		{"((~a)b)", []string{"b", "bb", "aab"}, []string{"", "ab", "a"}},
		{`(\*\.)`, []string{"*."}, []string{`\*\.`, "aa", "*a"}},
	} {
		p := re(t, c.s)
		for _, s := range c.yes {
			checkMatch(t, p, rangedOver(s), true)
		}
		for _, s := range c.not {
			checkMatch(t, p, rangedOver(s), false)
		}
	}
}

func TestMatchesReAsSaid(t *testing.T) {
	lists := shortLists(4, []int{97, 98})
	for _, p := range patternsUpTo(4, fewLeaves...) {
		for _, l := range lists {
			checkMatch(t, p, l, matchAsSaid(p, l))
		}
	}
	c := chances(3)
	for _, p := range manyPatterns(1000, mostNodes, manyLeaves...) {
		var l []int
		for range c.next(12) {
			l = append(l, wordRunes[c.next(3)])
		}
		checkMatch(t, p, l, matchAsSaid(p, l))
	}
}

func TestMatchesReAtTheBoundsOfASet(t *testing.T) {
	for _, s := range [][]int{{97, 99}, {0, 5}, {lastRune - 3, lastRune}, {55290, 55295}, {57344, 57350}, {55290, 57350}, {0, lastRune}, spansOf(10, mostSpans, 3, 2)} {
		for _, r := range boundsOf(s) {
			checkMatch(t, setRe(s...), []int{r}, hasNumber(s, r))
			want := setRe()
			if hasNumber(s, r) {
				want = emptyRe()
			}
			checkDeriv(t, setRe(s...), r, want)
		}
	}
}

func TestMatchesReAtMaxWord(t *testing.T) {
	full := slices.Repeat([]int{97}, mostWord)
	late := slices.Clone(full)
	late[mostWord-1] = 98
	for _, c := range []struct {
		s          string
		full, late bool
	}{
		{"a*", true, false}, {"a**", true, false}, {"a*****************************", true, false}, {".*", true, true}, {"(.*b)", false, true},
		{"(~a*)", false, true}, {"((a*a*)*(a*a*)*)*", true, false}, {"(((a|())(a|()))*((a|b)|())*)*", true, true}, {"(aa)*", true, false},
		{"((aa)a)*", false, false}, {"(((aa)(aa))((aa)(aa)))*", true, false}, {"(((~a)|b)(~[]))", true, true}, {"(~(~a*))", true, false},
		{"(a*b)", false, true}, {"(a(~b))", true, true}, {"((a*&(aa)*)&((aa)(aa))*)", true, false}, {"[]", false, false},
	} {
		p := re(t, c.s)
		checkMatch(t, p, full, c.full)
		checkMatch(t, p, late, c.late)
		checkNotMatched(t, p, append(slices.Clone(full), 97))
		checkNotMatched(t, p, slices.Repeat([]int{97}, 100000))
	}
	// as many parts as there may be, each of which could take all
	for _, p := range [][]impl.Re{chainRe(impl.ReCat, 13, opRe(impl.ReStar, setRe(97, 98))), timesRe(impl.ReNot, 38, opRe(impl.ReStar, setRe(97, 98)))} {
		checkMatch(t, p, full, true)
		checkMatch(t, p, late, true)
	}
	for i := range mostWord {
		l := slices.Clone(full)
		l[i] = 99
		checkMatch(t, re(t, "(a*(ca*))"), l, true)
		checkMatch(t, re(t, "(a*(ba*))"), l, false)
		checkMatch(t, re(t, "(~(a*(ca*)))"), l, false)
	}
}

func TestMatchesReOfWhatIsNoRune(t *testing.T) {
	for _, r := range noRunes {
		for _, p := range [][]impl.Re{emptyRe(), setRe(), setRe(0, lastRune), opRe(impl.ReStar, setRe(0, lastRune)), opRe(impl.ReNot, setRe()), setRe(55295, 57344)} {
			for _, l := range [][]int{{r}, {97, r}, {r, 97}, append(slices.Repeat([]int{97}, mostWord-1), r)} {
				checkNotMatched(t, p, l)
			}
			checkDeriv(t, p, r, nil)
		}
		checkLit(t, []int{r}, nil)
		checkLit(t, []int{97, r}, nil)
		checkLit(t, []int{r, 97}, nil)
		checkLit(t, append(slices.Repeat([]int{97}, 19), r), nil)
	}
}

func TestTidyReByHand(t *testing.T) {
	for _, c := range []struct{ s, want string }{
		// no rule is open
		{"()", "()"}, {"[]", "[]"}, {"a", "a"}, {"(ab)", "(ab)"}, {"(a|b)", "(a|b)"}, {"(a&b)", "(a&b)"}, {"a*", "a*"}, {"(~a)", "(~a)"},
		{"(aa)", "(aa)"}, {"(~())", "(~())"}, {"(~[])", "(~[])"}, {"(a|())", "(a|())"}, {"(a&())", "(a&())"}, {"(a*a*)", "(a*a*)"}, {"(~a*)", "(~a*)"},
		{"(~a)*", "(~a)*"}, {"((~a)|a)", "((~a)|a)"},
		// each rule alone
		{"(a[])", "[]"}, {"([]a)", "[]"}, {"([][])", "[]"}, {"([]())", "[]"}, {"(()[])", "[]"}, {"(a())", "a"}, {"(()a)", "a"}, {"(()())", "()"},
		{"(a|[])", "a"}, {"([]|a)", "a"}, {"([]|[])", "[]"}, {"(a|a)", "a"}, {"(()|[])", "()"}, {"(()|())", "()"},
		{"(a&[])", "[]"}, {"([]&a)", "[]"}, {"([]&[])", "[]"}, {"(a&a)", "a"}, {"(()&())", "()"}, {"(()&[])", "[]"}, {"([]&())", "[]"},
		{"()*", "()"}, {"[]*", "()"}, {"a**", "a*"}, {"(~(~a))", "a"},
		// open once a part is tidy
		{"((a[])b)", "[]"}, {"(b(a[]))", "[]"}, {"((a[])|b)", "b"}, {"((a[])&b)", "[]"}, {"(a[])*", "()"}, {"(a|[])*", "a*"}, {"(a*|[])*", "a*"},
		{"([]*a)", "a"}, {"(a[]*)", "a"}, {"([]*|())", "()"}, {"((a|[])|(()a))", "a"}, {"((a())&(a&a))", "a"}, {"(~(()(~a)))", "a"}, {"(~(~(~a)))", "(~a)"},
		{"(~(~(~(~a))))", "a"}, {"a***", "a*"}, {"(~(~a*))*", "a*"}, {"(~(~()))*", "()"}, {"((~(~()))a)", "a"}, {"((~(~[]))a)", "[]"}, {"(()()*)", "()"},
		{"((a|a)|(a|a))", "a"}, {"((ab)|(ab))", "(ab)"}, {"((ab)&(ab))", "(ab)"}, {"((a|b)*|(a|b)*)", "(a|b)*"}, {"((a(b()))|((()a)b))", "(ab)"},
		// matching the same, but other nodes
		{"((a|b)|(b|a))", "((a|b)|(b|a))"}, {"([ac]|(a|c))", "([ac]|(a|c))"}, {"(((ab)c)|(a(bc)))", "(((ab)c)|(a(bc)))"}, {"(a*&(a*a*))", "(a*&(a*a*))"},
		{"([a-c]|[a-d])", "([a-c]|[a-d])"}, {"(a&(~(~b)))", "(a&b)"}, {"(()|a*)", "(()|a*)"}, {"(a|(a|b))", "(a|(a|b))"}, {"((~[])&a)", "((~[])&a)"},
	} {
		p := re(t, c.s)
		checkTidy(t, p, re(t, c.want))
		checkTidy(t, re(t, c.want), re(t, c.want))
	}
}

func TestTidyReOfManyPatterns(t *testing.T) {
	lists := shortLists(3, []int{97, 98})
	check := func(p []impl.Re) {
		want := tidyAsSaid(p)
		checkTidy(t, p, want)
		checkTidy(t, want, want)
		if len(want) > len(p) {
			t.Fatalf("TidyRe(%s) has more nodes", textAsSaid(p))
		}
		for _, l := range lists {
			is, ok := impl.MatchesRe(p, l)
			if !ok {
				t.Fatalf("MatchesRe(%s, %v) tells false", textAsSaid(p), l)
			}
			checkMatch(t, want, l, is)
		}
	}
	for _, p := range patternsUpTo(5, fewLeaves...) {
		check(p)
	}
	for _, p := range manyPatterns(2000, mostNodes, slices.Concat(fewLeaves, fewLeaves, manyLeaves)...) {
		check(p)
	}
}

func TestDerivReByHand(t *testing.T) {
	for _, c := range []struct {
		s    string
		r    int
		want string
	}{
		{"()", 97, "[]"}, {"[]", 97, "[]"}, {"a", 97, "()"}, {"a", 98, "[]"}, {".", 0, "()"}, {".", lastRune, "()"}, {"[a-c]", 99, "()"}, {"[a-c]", 100, "[]"},
		{"(a|b)", 97, "()"}, {"((ab)|(ac))", 97, "(b|c)"}, {"(a|b)", 99, "[]"}, {"((ab)|c)", 97, "b"}, {"(a&b)", 97, "[]"}, {"((ab)&(ac))", 97, "(b&c)"},
		{"(~a)", 97, "(~())"}, {"(~a)", 98, "(~[])"}, {"(~(~a))", 97, "()"}, {"a*", 97, "a*"}, {"a*", 98, "[]"}, {"(ab)*", 97, "(b(ab)*)"},
		{"a**", 97, "(a*a*)"}, {"()*", 97, "[]"}, {"[]*", 97, "[]"},
		// the first part is not nullable
		{"(ab)", 97, "b"}, {"(ab)", 98, "[]"}, {"((ab)c)", 97, "(bc)"}, {"(a())", 97, "()"}, {"([]a)", 97, "[]"},
		// and is
		{"(a*b)", 97, "(a*b)"}, {"(a*b)", 98, "()"}, {"(()b)", 98, "()"}, {"(a*a)", 97, "((a*a)|())"}, {"(a*a*)", 97, "((a*a*)|a*)"}, {"((~a)b)", 98, "(((~[])b)|())"},
		{"((a|())b)", 97, "b"}, {"((a|())b)", 98, "()"}, {"((a|())a)", 97, "(a|())"}, {"(()())", 97, "[]"},
	} {
		checkDeriv(t, re(t, c.s), c.r, re(t, c.want))
	}
}

func TestDerivReAsSaid(t *testing.T) {
	for _, p := range slices.Concat(patternsUpTo(5, fewLeaves...), manyPatterns(5000, mostNodes, manyLeaves...), manyPatterns(3000, 12, manyLeaves...)) {
		for _, r := range []int{97, 98, 99, 55295, lastRune} {
			d := derivAsSaid(p, r)
			if len(d) > mostNodes {
				checkDeriv(t, p, r, nil)
				continue
			}
			checkDeriv(t, p, r, tidyAsSaid(d))
		}
	}
}

func TestDerivReAtMaxRe(t *testing.T) {
	word, _ := impl.LitRe(slices.Repeat([]int{97}, 10))
	longer, _ := impl.LitRe(slices.Repeat([]int{97}, 11))
	star := opRe(impl.ReStar, word)
	rest, _ := impl.LitRe(slices.Repeat([]int{97}, 9))
	// ahead of TidyRe the word's has 19 nodes, the star 20, and there is a ReCat
	checkDeriv(t, star, 97, opRe(impl.ReCat, rest, star))
	checkDeriv(t, star, 98, setRe())
	checkDeriv(t, opRe(impl.ReNot, star), 97, nil)
	checkDeriv(t, opRe(impl.ReNot, star), 98, nil)
	checkDeriv(t, opRe(impl.ReStar, longer), 97, nil)
	checkDeriv(t, opRe(impl.ReStar, longer), 98, nil)
	// how many there are is asked ahead of TidyRe, however few are left by it
	for _, c := range []struct {
		p     []impl.Re
		nodes int
	}{
		{star, 40}, {opRe(impl.ReNot, star), 41}, {opRe(impl.ReOr, star, emptyRe()), 42},
		{timesRe(impl.ReNot, 39, runeRe(97)), 40}, {chainRe(impl.ReOr, 20, runeRe(97)), 39}, {opRe(impl.ReNot, chainRe(impl.ReAnd, 20, runeRe(97))), 40},
		{chainRe(impl.ReCat, 20, runeRe(97)), 39}, {timesRe(impl.ReStar, 7, runeRe(97)), 43}, {timesRe(impl.ReStar, 6, runeRe(97)), 34},
		{opRe(impl.ReOr, timesRe(impl.ReStar, 6, runeRe(97)), timesRe(impl.ReNot, 4, emptyRe())), 40},
		{opRe(impl.ReOr, timesRe(impl.ReStar, 6, runeRe(97)), timesRe(impl.ReNot, 5, emptyRe())), 41},
		{opRe(impl.ReCat, emptyRe(), timesRe(impl.ReNot, 17, runeRe(97))), 39},
		{opRe(impl.ReNot, opRe(impl.ReCat, emptyRe(), timesRe(impl.ReNot, 17, runeRe(97)))), 40},
		{opRe(impl.ReCat, emptyRe(), timesRe(impl.ReNot, 18, runeRe(97))), 41},
		{opRe(impl.ReCat, runeRe(97), timesRe(impl.ReNot, 37, runeRe(97))), 40},
	} {
		for _, r := range []int{97, 98} {
			d := derivAsSaid(c.p, r)
			if len(d) != c.nodes {
				t.Fatalf("%s has a derivative of %d nodes", textAsSaid(c.p), len(d))
			}
			if c.nodes > mostNodes {
				checkDeriv(t, c.p, r, nil)
				continue
			}
			checkDeriv(t, c.p, r, tidyAsSaid(d))
		}
	}
}

func TestRevReByHand(t *testing.T) {
	for _, c := range []struct{ s, want string }{
		{"()", "()"}, {"[]", "[]"}, {"[a-c]", "[a-c]"}, {"(ab)", "(ba)"}, {"((ab)c)", "(c(ba))"}, {"(a(bc))", "((cb)a)"}, {"((ab)(cd))", "((dc)(ba))"},
		{"(a|b)", "(a|b)"}, {"((ab)|(cd))", "((ba)|(dc))"}, {"((ab)&(cd))", "((ba)&(dc))"}, {"(ab)*", "(ba)*"}, {"(a*b)", "(ba*)"}, {"(~(ab))", "(~(ba))"},
		{"(()a)", "(a())"}, {"((a(~(bc)))*(d|(ef)))", "((d|(fe))((~(cb))a)*)"},
	} {
		checkRev(t, re(t, c.s), re(t, c.want))
		checkRev(t, re(t, c.want), re(t, c.s))
	}
}

func TestRevReMatchesWhatIsTurnedRound(t *testing.T) {
	lists := shortLists(4, []int{97, 98})
	for _, p := range slices.Concat(patternsUpTo(4, fewLeaves...), manyPatterns(500, mostNodes, manyLeaves...)) {
		rev := revAsSaid(p)
		checkRev(t, p, rev)
		checkRev(t, rev, p)
		for _, l := range lists {
			is, _ := impl.MatchesRe(p, l)
			back := slices.Clone(l)
			slices.Reverse(back)
			checkMatch(t, rev, back, is)
		}
	}
	checkRev(t, chainRe(impl.ReCat, 20, runeRe(97)), deepRe(impl.ReCat, 20, runeRe(97)))
}

func TestFoldRe(t *testing.T) {
	for _, c := range []struct{ s, want string }{
		{"()", "()"}, {"[]", "[]"}, {".", "."}, {"a", "[Aa]"}, {"Z", "[Zz]"}, {"1", "1"}, {`\*`, `\*`}, {"[a-c]", "[A-Ca-c]"}, {"[A-Za-z]", "[A-Za-z]"},
		{"(aB)", "([Aa][Bb])"}, {"(a|b)", "([Aa]|[Bb])"}, {"(a&b)", "([Aa]&[Bb])"}, {"a*", "[Aa]*"}, {"(~a)", "(~[Aa])"}, {"(~(a*1)*)", "(~([Aa]*1)*)"},
		{"\u00e4", "\u00e4"}, {"[Y-Za-b]", "[A-BY-Za-by-z]"}, {"[A-L]", "[A-La-l]"},
	} {
		checkFold(t, re(t, c.s), re(t, c.want))
		checkFold(t, re(t, c.want), re(t, c.want))
	}
	for _, p := range manyPatterns(3000, mostNodes, manyLeaves...) {
		var want []impl.Re
		for _, n := range p {
			s, ok := impl.FoldSet(n.Set)
			if !ok {
				want = nil
				break
			}
			want = append(want, impl.Re{Op: n.Op, Set: s})
		}
		checkFold(t, p, want)
	}
}

func TestFoldReAtMaxSpans(t *testing.T) {
	both := setRe(slices.Concat(spansOf(65, 6, 1, 1), spansOf(97, 6, 1, 1))...)
	for _, first := range []int{65, 97} {
		few, many := setRe(spansOf(first, 6, 1, 1)...), setRe(spansOf(first, 7, 1, 1)...)
		checkFold(t, few, both)
		checkFold(t, many, nil)
		for _, op := range []int{impl.ReCat, impl.ReOr, impl.ReAnd} {
			checkFold(t, opRe(op, few, few), opRe(op, both, both))
			checkFold(t, opRe(op, few, many), nil)
			checkFold(t, opRe(op, many, few), nil)
		}
		checkFold(t, opRe(impl.ReNot, opRe(impl.ReStar, many)), nil)
	}
	full := setRe(spansOf(500, mostSpans, 2, 2)...)
	checkFold(t, full, full)
	checkFold(t, timesRe(impl.ReNot, 39, runeRe(97)), timesRe(impl.ReNot, 39, setRe(65, 65, 97, 97)))
}

func TestLitRe(t *testing.T) {
	checkLit(t, nil, emptyRe())
	checkLit(t, []int{}, emptyRe())
	for _, r := range slices.Concat(everyMark, []int{0, 97, 55295, 57344, bad, lastRune}) {
		checkLit(t, []int{r}, runeRe(r))
		checkLit(t, []int{r, 98}, slices.Concat(runeRe(r), runeRe(98), []impl.Re{{Op: impl.ReCat}}))
	}
	checkLit(t, []int{97, 98, 99}, re(t, "((ab)c)"))
	checkLit(t, []int{97, 97, 97, 97}, re(t, "(((aa)a)a)"))
	for n := 1; n <= 60; n++ {
		l := numbersFrom(97, n)
		if n > 20 {
			checkLit(t, l, nil)
			continue
		}
		want := runeRe(97)
		for _, r := range l[1:] {
			want = opRe(impl.ReCat, want, runeRe(r))
		}
		checkLit(t, l, want)
	}
	checkLit(t, make([]int, 1000000), nil)
}

func TestLitReMatchesJustItsRunes(t *testing.T) {
	eachShortList(3, wordRunes, func(l []int) {
		l = slices.Clone(l)
		p, _ := impl.LitRe(l)
		eachShortList(4, wordRunes, func(other []int) { checkMatch(t, p, other, slices.Equal(l, other)) })
	})
	l := numbersFrom(97, 20)
	p, _ := impl.LitRe(l)
	checkMatch(t, p, l, true)
	checkMatch(t, p, l[1:], false)
	checkMatch(t, p, append(slices.Clone(l), 97), false)
}

func TestReTextByHand(t *testing.T) {
	a, b := runeRe(97), runeRe(98)
	for _, c := range []struct {
		p []impl.Re
		s string
	}{
		{emptyRe(), "()"}, {setRe(), "[]"}, {setRe(0, lastRune), "."}, {a, "a"}, {setRe(97, 98), "[a-b]"}, {setRe(97, 97, 99, 99), "[ac]"},
		{setRe(97, 97, 99, 101), "[ac-e]"}, {setRe(97, 99, 101, 101), "[a-ce]"}, {setRe(97, 99, 101, 110, 120, 120), "[a-ce-nx]"},
		{opRe(impl.ReCat, a, b), "(ab)"}, {opRe(impl.ReOr, a, b), "(a|b)"}, {opRe(impl.ReAnd, a, b), "(a&b)"}, {opRe(impl.ReStar, a), "a*"}, {opRe(impl.ReNot, a), "(~a)"},
		{opRe(impl.ReStar, opRe(impl.ReStar, a)), "a**"}, {opRe(impl.ReStar, emptyRe()), "()*"}, {opRe(impl.ReStar, setRe()), "[]*"}, {opRe(impl.ReStar, setRe(0, lastRune)), ".*"},
		{opRe(impl.ReStar, opRe(impl.ReCat, a, b)), "(ab)*"}, {opRe(impl.ReCat, a, opRe(impl.ReStar, b)), "(ab*)"}, {opRe(impl.ReNot, opRe(impl.ReNot, a)), "(~(~a))"},
		{opRe(impl.ReCat, opRe(impl.ReCat, a, b), a), "((ab)a)"}, {opRe(impl.ReCat, a, opRe(impl.ReCat, b, a)), "(a(ba))"}, {opRe(impl.ReOr, emptyRe(), setRe()), "(()|[])"},
		{runeRe(0), "\x00"}, {runeRe(10), "\n"}, {runeRe(228), "\u00e4"}, {runeRe(12354), "\u3042"}, {runeRe(128512), "\U0001f600"}, {runeRe(bad), "\ufffd"},
		{setRe(0, lastRune-1), "[\x00-\U0010fffe]"}, {setRe(1, lastRune), "[\x01-\U0010ffff]"}, {setRe(55295, 57344), "[\ud7ff-\ue000]"},
		{setRe(0, 0, lastRune, lastRune), "[\x00\U0010ffff]"}, {setRe(0, 55295, 57344, lastRune), "[\x00-\ud7ff\ue000-\U0010ffff]"},
		{setRe(40, 42), `[\(-\*]`}, {setRe(45, 46), `[\--\.]`}, {setRe(91, 93), `[\[-\]]`}, {setRe(45, 45, 92, 92), `[\-\\]`}, {setRe(38, 38, 40, 41, 124, 124, 126, 126), `[\&\(-\)\|\~]`},
		{opRe(impl.ReStar, runeRe(42)), `\**`}, {opRe(impl.ReStar, runeRe(92)), `\\*`}, {opRe(impl.ReCat, runeRe(40), runeRe(41)), `(\(\))`}, {opRe(impl.ReOr, runeRe(124), runeRe(124)), `(\||\|)`},
		{opRe(impl.ReNot, runeRe(126)), `(~\~)`}, {opRe(impl.ReAnd, runeRe(38), runeRe(46)), `(\&&\.)`}, {runeRe(94), "^"}, {runeRe(63), "?"}, {runeRe(43), "+"}, {runeRe(36), "$"},
	} {
		checkText(t, c.p, c.s)
		checkReadRe(t, c.s, c.p)
		if s := textAsSaid(c.p); s != c.s {
			t.Errorf("%q is as said, not %q", s, c.s)
		}
	}
}

// Each rune below 200, alone, alone within brackets, and as the first and the
// last of a span: a mark has a \ ahead in all of them, nothing else has.
func TestReTextOfMarks(t *testing.T) {
	for r := range 200 {
		s := string(rune(r))
		if slices.Contains(everyMark, r) {
			s = `\` + s
		}
		checkText(t, runeRe(r), s)
		checkReadRe(t, s, runeRe(r))
		for _, c := range []struct {
			set  []int
			text string
		}{
			{[]int{r, r, 300, 300}, "[" + s + "\u012c]"},
			{[]int{r, 300}, "[" + s + "-\u012c]"},
			{[]int{r, 300, 302, 302}, "[" + s + "-\u012c\u012e]"},
		} {
			checkText(t, setRe(c.set...), c.text)
			checkReadRe(t, c.text, setRe(c.set...))
		}
		if r > 1 {
			checkText(t, setRe(0, r), "[\x00-"+s+"]")
			checkReadRe(t, "[\x00-"+s+"]", setRe(0, r))
			checkReadRe(t, "[\x00"+s+"]", setRe(0, 0, r, r))
		}
		if slices.Contains(everyMark, r) {
			for _, around := range []string{"?", "a?b", "(?", "(a?", "[?c", "[c?", "[a-?", "[a-c?"} {
				checkNearly(t, strings.Replace(around, "?", s[1:], 1))
			}
			continue
		}
		checkFault(t, `\`+s, 1)
		checkFault(t, `[\`+s+`]`, 2)
		checkFault(t, `[a-\`+s+`]`, 4)
	}
}

func TestPatternsAreReadBack(t *testing.T) {
	for _, p := range slices.Concat(patternsUpTo(5, fewLeaves...), patternsUpTo(3, manyLeaves...), manyPatterns(5000, mostNodes, manyLeaves...)) {
		checkWritten(t, p)
	}
	for _, s := range slices.Concat(edgeSets, manySets(3000)) {
		if isGoodReAsSaid(setRe(s...)) {
			checkWritten(t, setRe(s...))
		}
	}
}

// wideSet: twelve spans of runes with four bytes each.
func wideSet() []impl.Re { return setRe(spansOf(100000, mostSpans, 5, 5)...) }

func TestReTextAtMaxText(t *testing.T) {
	wide := chainRe(impl.ReCat, 8, wideSet())
	eleven := spansOf(100000, mostSpans-1, 5, 5)
	for _, c := range []struct {
		p     []impl.Re
		bytes int
	}{
		{wideSet(), 110}, {wide, 894},
		{opRe(impl.ReCat, wide, setRe(append([]int{5000, 5000}, eleven...)...)), 1000},
		{opRe(impl.ReCat, setRe(append([]int{5000, 5000}, eleven...)...), wide), 1000},
		{opRe(impl.ReCat, wide, setRe(append([]int{99000, 99000}, eleven...)...)), 1001},
		{opRe(impl.ReStar, opRe(impl.ReCat, wide, setRe(append([]int{228, 228}, eleven...)...))), 1000},
		{opRe(impl.ReStar, opRe(impl.ReCat, wide, setRe(append([]int{5000, 5000}, eleven...)...))), 1001},
		{opRe(impl.ReOr, wide, setRe(append([]int{228, 228}, eleven...)...)), 1000},
		{opRe(impl.ReOr, wide, setRe(append([]int{5000, 5000}, eleven...)...)), 1001},
		{opRe(impl.ReNot, opRe(impl.ReCat, wide, setRe(append([]int{97, 97}, eleven...)...))), 1001},
		{opRe(impl.ReNot, opRe(impl.ReCat, wide, setRe(eleven...))), 1000},
		{opRe(impl.ReCat, wide, setRe(append([]int{42, 42}, eleven...)...)), 999},
		{chainRe(impl.ReCat, 9, wideSet()), 1006}, {chainRe(impl.ReCat, 20, wideSet()), 2238},
	} {
		s := textAsSaid(c.p)
		if len(s) != c.bytes {
			t.Fatalf("%q has %d bytes", s, len(s))
		}
		checkWritten(t, c.p)
	}
}

func TestReadReFaultsByHand(t *testing.T) {
	for _, c := range []struct {
		s  string
		at int
	}{
		// too early
		{"", 0}, {"(", 1}, {"(a", 2}, {"(ab", 3}, {"(a|", 3}, {"(a|b", 4}, {"(a&", 3}, {"(~", 2}, {"(~a", 3}, {"(a*", 3}, {"((ab)", 5}, {"((ab)c", 6}, {"(()", 3}, {"([]", 3},
		{"[", 1}, {"[a", 2}, {"[a-", 3}, {"[a-b", 4}, {"[a-bc", 5}, {`\`, 1}, {`[\`, 2}, {`[a-\`, 4}, {`[a-\]`, 5}, {`[\]`, 3}, {`(a\`, 3}, {`(a\)`, 4},
		// marks that can't stand there
		{")", 0}, {"]", 0}, {"|", 0}, {"&", 0}, {"~", 0}, {"*", 0}, {"-", 0}, {"(*", 1}, {"(|a)", 1}, {"(&a)", 1}, {"(-)", 1}, {"(])", 1}, {"(a)", 2}, {"(a*)", 3}, {"(a|)", 3}, {"(a&)", 3}, {"(a||b)", 3},
		{"(a|b|c)", 4}, {"(a&b|c)", 4}, {"(a|b&c)", 4}, {"(abc)", 3}, {"(a~b)", 2}, {"(a-b)", 2}, {"(a]b)", 2}, {"(~)", 2}, {"(~*)", 2}, {"(~~a)", 2}, {"(~ab)", 3}, {"(~a|b)", 3}, {"(()", 3}, {"(())", 3}, {"(a|*b)", 3},
		{"ab", 1}, {"a)", 1}, {"a|b", 1}, {"a&b", 1}, {"a~", 1}, {"a-", 1}, {"a.", 1}, {"..", 1}, {"a(", 1}, {"a[", 1}, {"a]", 1}, {`a\*`, 1}, {"a*b", 2}, {"a*)", 2}, {"()a", 2}, {"()()", 2}, {"(ab)c", 4}, {"[]a", 2}, {"[ac]c", 4}, {"()*.", 3},
		{"[-", 1}, {"[-a]", 1}, {"[a-]", 3}, {"[a--b]", 3}, {"[a-b-c]", 4}, {"[a.]", 2}, {"[a*]", 2}, {"[a|b]", 2}, {"[(]", 1}, {"[[]", 1}, {"[~a]", 1}, {"[a&]", 2}, {"[a)]", 2}, {"[.-a]", 1}, {"[a-.]", 3}, {"[a]]", 3}, {"[]]", 2},
		// a \ ahead of what is no mark
		{`\a`, 1}, {`\n`, 1}, {"\\\u00e4", 1}, {`\ `, 1}, {`\\\a`, 2}, {`(\a`, 2}, {`(a\b)`, 3}, {`[\a]`, 2}, {`[a-\b]`, 4}, {`\^`, 1}, {`[\^]`, 2},
		// runes, not bytes
		{"\u00e4)", 1}, {"\u3042)", 1}, {"\U0001f600)", 1}, {"(\u00e4\u3042\U0001f600", 3}, {"(\u00e4|\U0001f600|", 4}, {"[\u3042-\U0001f600-", 4}, {"\u3042\u3042", 1}, {"(\U0001f600", 2}, {"\ufffd\ufffd", 1},
	} {
		checkFault(t, c.s, c.at)
		if at, whole := faultOf(c.s); at != c.at || whole {
			t.Errorf("%q is at fault at %d as said", c.s, at)
		}
	}
}

func TestReadReOfWhatIsRightButNoText(t *testing.T) {
	for _, s := range []string{
		// one rune, or all, within brackets
		"[a]", `[\*]`, "[\u3042]", "[\x00-\U0010ffff]", "([a]b)", "[a]*", "(~[a])",
		// the last is the first
		"[a-a]", "[a-ac]", "[ac-c]", `[\--\-]`,
		// out of order
		"[b-a]", "[ca]", "[c-ea]", "[ac-b]", "[a-zb-c]", "[aa]", "[a-ca-c]", "[a-cb]", "[\u3042a]", `[\*\(]`, "([b-a]|c)", "[\U0010ffff-\x00]",
		// touching
		"[ab]", "[a-bc]", "[ab-c]", "[a-cd-e]", "[\x00\x01]", "[ace-fg]", `[\(\)]`,
		// too many spans
		"[acegikmoqsuwy]", "[a-bd-eg-hj-km-np-qs-tv-wy-z1]", "[" + strings.Repeat("ac", 400) + "]",
		// too many nodes
		"a" + strings.Repeat("*", 40), "a" + strings.Repeat("*", 999), strings.Repeat("(~", 40) + "a" + strings.Repeat(")", 40), strings.Repeat("(a", 20) + "a" + strings.Repeat(")", 20),
		strings.Repeat("(", 200) + "a" + strings.Repeat("a)", 200), strings.Repeat("(", 200) + "()" + strings.Repeat("|.)", 200), "([]" + strings.Repeat("*", 20) + "a" + strings.Repeat("*", 20) + ")",
	} {
		if _, whole := faultOf(s); !whole {
			t.Errorf("%q is not right", s)
		}
		checkFault(t, s, 0)
	}
	for _, s := range []string{
		"a" + strings.Repeat("*", 39), strings.Repeat("(~", 39) + "a" + strings.Repeat(")", 39), strings.Repeat("(a", 19) + "a*" + strings.Repeat(")", 19),
		strings.Repeat("(", 19) + "()" + strings.Repeat("|.)", 19), "[acegikmoqsuw]", "[a-bd-eg-hj-km-np-qs-tv-w]",
	} {
		checkText(t, re(t, s), s)
	}
	// where there are too many nodes, or spans are not as said, a fault behind them is told all the same
	for _, s := range []string{
		"a" + strings.Repeat("*", 500) + "b", strings.Repeat("(", 500), strings.Repeat("(", 200) + "a" + strings.Repeat("a)", 199), strings.Repeat("(~", 300) + ")", strings.Repeat("(a", 300) + "a))a",
		"([b-a]", "[b-a]b", "[aa", "[a]b", "([a-a]|b|", "[acegikmoqsuwy", "[acegikmoqsuwy-]", "[\x00-\U0010ffff].",
	} {
		at, whole := faultOf(s)
		if whole || at == 0 {
			t.Errorf("%q has no fault", s)
		}
		checkFault(t, s, at)
	}
}

func TestReadReOfTextsThatAreLongerOrNotWhole(t *testing.T) {
	for _, s := range []string{
		strings.Repeat("a", impl.MaxText+1), strings.Repeat("(", impl.MaxText+1), "a" + strings.Repeat("*", impl.MaxText), "(ab" + strings.Repeat("x", impl.MaxText),
		strings.Repeat("\u3042", 334), strings.Repeat("(", 1000000), "ab" + strings.Repeat("\xff", impl.MaxText),
	} {
		checkFault(t, s, 0)
	}
	checkFault(t, strings.Repeat("a", impl.MaxText), 1)
	checkFault(t, strings.Repeat("(", impl.MaxText), impl.MaxText)
	checkFault(t, strings.Repeat("\u3042", 333), 1)
	checkFault(t, strings.Repeat("(\u3042", 250), 500)
	for _, b := range brokenTexts {
		for _, s := range []string{b.s, "a" + b.s, "(a" + b.s + ")", "[" + b.s + "]", "ab" + b.s, b.s + ")", "(a)" + b.s} {
			if !impl.IsWhole(s) {
				checkFault(t, s, 0)
			}
		}
	}
	for _, s := range []string{"\xff", "\x80", "a\xff", "(a\xff)", "(ab\xff", "(ab)\xc3", "[a-\xe3\x81]", "ab\xff", "\xed\xa0\x80", "\xc0\x80", "\\\xff"} {
		checkFault(t, s, 0)
	}
}

// All texts of a few marks and letters: the pattern whose text it is, or the
// place that going on rune by rune tells.
func TestReadReOfAllShortTexts(t *testing.T) {
	read := 0
	check := func(s string) {
		at, whole := faultOf(s)
		if !whole {
			checkFault(t, s, at)
			return
		}
		if !hasSpansAsWritten(s) {
			checkFault(t, s, 0)
			return
		}
		p, n, ok := impl.ReadRe(s)
		if !ok || n != len(s) || !isGoodReAsSaid(p) || textAsSaid(p) != s {
			t.Fatalf("ReadRe(%q) = %v, %d, %v", s, p, n, ok)
		}
		read++
	}
	eachShortText(5, patternMarks+"abc", check)
	eachShortText(6, `()|~*a\`, check)
	eachShortText(7, `[]-\ac`, check)
	eachShortText(8, "()&a", check)
	if read < 500 {
		t.Errorf("only %d texts are patterns", read)
	}
}

// Each text of a pattern, cut short, with one rune less, or with one other.
func TestReadReOfTextsThatAreNearlyRight(t *testing.T) {
	for _, p := range manyPatterns(300, 16, manyLeaves...) {
		runes := []rune(textAsSaid(p))
		for i := range runes {
			for _, put := range []string{"", "a", "*", ")", "(", "]", "-", `\`, "|", "\u3042"} {
				checkNearly(t, string(runes[:i])+put+string(runes[i+1:]))
				checkNearly(t, string(runes[:i])+put+string(runes[i:]))
			}
			checkNearly(t, string(runes[:i]))
		}
	}
}

func checkNearly(t *testing.T, s string) {
	t.Helper()
	at, whole := faultOf(s)
	switch {
	case !whole:
		checkFault(t, s, at)
	case !hasSpansAsWritten(s):
		checkFault(t, s, 0)
	default:
		checkText(t, re(t, s), s)
	}
}

// badPatterns: each by one fault, or by more.
func badPatterns() [][]impl.Re {
	a := runeRe(97)
	all := [][]impl.Re{
		nil, {}, {{}}, {{Op: 8}}, {{Op: -1}}, {{Op: math.MaxInt}}, {{Op: math.MinInt}}, {{Op: 0, Set: []int{97, 97}}},
		// parts that are not there
		{{Op: impl.ReCat}}, {{Op: impl.ReOr}}, {{Op: impl.ReAnd}}, {{Op: impl.ReStar}}, {{Op: impl.ReNot}}, opRe(impl.ReCat, a), opRe(impl.ReOr, a), opRe(impl.ReAnd, a),
		opRe(impl.ReCat, a, opRe(impl.ReOr, a)), append(opRe(impl.ReCat, a, a), impl.Re{Op: impl.ReCat}),
		// the parts come behind
		{{Op: impl.ReStar}, a[0]}, {{Op: impl.ReCat}, a[0], a[0]}, {a[0], {Op: impl.ReCat}, a[0]},
		// more than one is left
		slices.Concat(a, a), slices.Concat(emptyRe(), emptyRe()), slices.Concat(opRe(impl.ReCat, a, a), a), append(opRe(impl.ReStar, a), opRe(impl.ReStar, a)...),
		// a Set where there is none
		{{Op: impl.ReNil, Set: []int{97, 97}}}, {a[0], {Op: impl.ReStar, Set: []int{97, 97}}}, {a[0], {Op: impl.ReNot, Set: []int{0, lastRune}}}, {a[0], a[0], {Op: impl.ReCat, Set: []int{97, 98}}},
		{a[0], a[0], {Op: impl.ReOr, Set: []int{97}}}, {a[0], a[0], {Op: impl.ReAnd, Set: []int{-1}}},
		// too long
		timesRe(impl.ReStar, mostNodes, a), chainRe(impl.ReCat, 21, a), slices.Repeat(a, 41), timesRe(impl.ReNot, 5000, a),
		setRe(55296, 55296), setRe(55000, 57343), opRe(impl.ReOr, a, setRe(57343, 60000)),
	}
	for _, s := range noSets {
		all = append(all, setRe(s...), opRe(impl.ReCat, a, setRe(s...)))
	}
	return all
}

func TestWhatIsNoPatternGetsTheZeroAnswer(t *testing.T) {
	for _, p := range badPatterns() {
		checkGoodRe(t, p, false)
		if is, ok := impl.IsPlain(p); is || ok {
			t.Fatalf("IsPlain(%v) = %v, %v", p, is, ok)
		}
		if is, ok := impl.IsNullable(p); is || ok {
			t.Fatalf("IsNullable(%v) = %v, %v", p, is, ok)
		}
		for _, l := range [][]int{nil, {97}, {97, 97}, {-1}} {
			checkNotMatched(t, p, l)
		}
		for _, r := range []int{97, 0, lastRune, -1, 55296} {
			checkDeriv(t, p, r, nil)
		}
		checkTidy(t, p, nil)
		checkRev(t, p, nil)
		checkFold(t, p, nil)
		checkNoText(t, p)
	}
}

// A reFn is one of those that make a pattern of a pattern.
type reFn struct {
	name string
	fn   func(p []impl.Re) ([]impl.Re, bool)
}

var reFns = []reFn{
	{"DerivRe by 97", func(p []impl.Re) ([]impl.Re, bool) { return impl.DerivRe(p, 97) }},
	{"DerivRe by 12355", func(p []impl.Re) ([]impl.Re, bool) { return impl.DerivRe(p, 12355) }},
	{"TidyRe", impl.TidyRe}, {"RevRe", impl.RevRe}, {"FoldRe", impl.FoldRe},
}

func cloneRe(p []impl.Re) []impl.Re {
	q := slices.Clone(p)
	for i := range q {
		q[i].Set = slices.Clone(q[i].Set)
	}
	return q
}

// overwriteRe writes into all memory of a pattern that is answered: what lies
// behind its lists, too.
func overwriteRe(p []impl.Re) {
	for i := range p {
		overwrite(p[i].Set[:cap(p[i].Set)])
		p[i] = impl.Re{Op: 99}
	}
	clear(p[:cap(p)])
}

// spreadRe: the same pattern, with a node behind it in its memory, and numbers
// behind each of its Sets; all of it is answered.
func spreadRe(p []impl.Re) (spread []impl.Re, numbers [][]int) {
	spread = append(slices.Clone(p), impl.Re{Op: impl.ReStar}, impl.Re{Op: 77})[:len(p)]
	for i := range spread {
		spread[i].Set = withMore(spread[i].Set, 500, 501, -7)
		numbers = append(numbers, spread[i].Set[:len(spread[i].Set)+3])
	}
	return spread, numbers
}

func TestPatternsAreNotWrittenIntoNorReadFurther(t *testing.T) {
	patterns := slices.Concat(badPatterns()[:40], patternsUpTo(4, fewLeaves...), manyPatterns(300, mostNodes, manyLeaves...))
	for _, plain := range patterns {
		p, numbers := spreadRe(plain)
		before := cloneRe(p[:len(p)+2])
		kept := make([][]int, len(numbers))
		for i := range numbers {
			kept[i] = slices.Clone(numbers[i])
		}
		if impl.GoodRe(p) != isGoodReAsSaid(plain) {
			t.Fatalf("GoodRe(%v) hangs on what lies behind the lists", plain)
		}
		impl.IsPlain(p)
		impl.IsNullable(p)
		l := withMore([]int{97, 98, 97}, 98, 98)
		is, _ := impl.MatchesRe(p, l)
		if isGoodReAsSaid(plain) && is != matchAsSaid(plain, []int{97, 98, 97}) {
			t.Fatalf("MatchesRe(%v) hangs on what lies behind the lists", plain)
		}
		s, _ := impl.ReText(p)
		if want, _ := impl.ReText(cloneRe(plain)); s != want {
			t.Fatalf("ReText(%v) hangs on what lies behind the lists", plain)
		}
		for _, f := range reFns {
			got, ok := f.fn(p)
			want, wantOk := f.fn(cloneRe(plain))
			if ok != wantOk || !isSameRe(got, want) {
				t.Fatalf("%s of %v hangs on what lies behind the lists", f.name, plain)
			}
			overwriteRe(got)
		}
		if !isSameRe(p[:len(p)+2], before) || !slices.EqualFunc(numbers, kept, slices.Equal) || !slices.Equal(l[:5], []int{97, 98, 97, 98, 98}) {
			t.Fatalf("%v was written into, or an answer shares its memory", plain)
		}
	}
}

func TestPatternsAreNewMemory(t *testing.T) {
	for _, p := range slices.Concat(patternsUpTo(4, fewLeaves...), manyPatterns(300, mostNodes, manyLeaves...)) {
		for _, f := range reFns {
			checkApart(t, f.name, func() []impl.Re { q, _ := f.fn(p); return q })
		}
		s := textAsSaid(p)
		checkApart(t, "ReadRe", func() []impl.Re { q, _, _ := impl.ReadRe(s); return q })
	}
	l := []int{97, 98, 97, 42}
	checkApart(t, "LitRe", func() []impl.Re { q, _ := impl.LitRe(l); return q })
	checkApart(t, "LitRe of none", func() []impl.Re { q, _ := impl.LitRe(nil); return q })
	checkApart(t, "ReadRe of all", func() []impl.Re { q, _, _ := impl.ReadRe("(.(.[]))"); return q })
	// the star is told twice
	checkApart(t, "DerivRe of a star", func() []impl.Re { q, _ := impl.DerivRe(re(t, "([a-c][a-c])**"), 97); return q })
	if !slices.Equal(l, []int{97, 98, 97, 42}) {
		t.Error("LitRe wrote into its list")
	}
}

// checkApart: two answers share no memory, and no two Sets of one do.
func checkApart(t *testing.T, what string, make func() []impl.Re) {
	t.Helper()
	first, second := make(), make()
	kept := cloneRe(second)
	overwriteRe(first)
	if !isSameRe(second, kept) {
		t.Fatalf("two answers of %s share memory", what)
	}
	if !isSameRe(make(), kept) {
		t.Fatalf("%s is another one then", what)
	}
	for i := range second {
		overwrite(second[i].Set[:cap(second[i].Set)])
		for k := i + 1; k < len(second); k++ {
			if !slices.Equal(second[k].Set, kept[k].Set) {
				t.Fatalf("two Sets of an answer of %s share memory: %v", what, kept)
			}
		}
	}
}

// In what is answered no node but ReSet has a Set, and all that is told true
// is good.
func TestAnswersAreGoodPatterns(t *testing.T) {
	for _, p := range slices.Concat(patternsUpTo(4, fewLeaves...), manyPatterns(1000, mostNodes, manyLeaves...)) {
		for _, f := range reFns {
			if q, ok := f.fn(p); ok && !isGoodReAsSaid(q) {
				t.Fatalf("%s of %s = %v", f.name, textAsSaid(p), q)
			}
		}
	}
}
