package tests

import (
	"fmt"
	"math"
	"slices"
	"testing"

	"loop.example/g00692/impl"
)

const mostStates = impl.MaxStates
const mostCuts = 40

// isRising: whether a list rises, from first to last at most.
func isRising(l []int, first, last int) bool {
	for i, n := range l {
		if n < first || n > last || i > 0 && n <= l[i-1] {
			return false
		}
	}
	return true
}

func isGoodNfaAsSaid(n impl.Nfa) bool {
	last := len(n.Sets) - 1
	isPlaces := func(l []int) bool { return isRising(l, 0, last) }
	good := len(n.Sets) <= mostNodes && len(n.Follow) == len(n.Sets) && isPlaces(n.First) && isPlaces(n.Last)
	for _, s := range n.Sets {
		good = good && isGoodAsSaid(s)
	}
	for _, l := range n.Follow {
		good = good && isPlaces(l)
	}
	return good
}

func isGoodDfaAsSaid(d impl.Dfa) bool {
	last := len(d.Next) - 1
	good := last >= 0 && last < mostStates && len(d.Final) == len(d.Next) && len(d.Cuts) <= mostCuts && isRising(d.Cuts, 1, lastRune)
	for _, row := range d.Next {
		good = good && len(row) == len(d.Cuts)+1
		for _, state := range row {
			good = good && state >= 0 && state <= last
		}
	}
	return good
}

func isSameNfa(a, b impl.Nfa) bool {
	return a.Empty == b.Empty && slices.Equal(a.First, b.First) && slices.Equal(a.Last, b.Last) &&
		slices.EqualFunc(a.Sets, b.Sets, slices.Equal) && slices.EqualFunc(a.Follow, b.Follow, slices.Equal)
}

func isSameMachine(a, b impl.Dfa) bool {
	return slices.Equal(a.Cuts, b.Cuts) && slices.Equal(a.Final, b.Final) && slices.EqualFunc(a.Next, b.Next, slices.Equal)
}

// withOwnRunes: the same pattern, each Set being a rune of its own.
func withOwnRunes(p []impl.Re) (own []impl.Re, runes []int) {
	own = slices.Clone(p)
	for i, n := range own {
		if n.Op == impl.ReSet {
			r := 1000 + len(runes)
			runes = append(runes, r)
			own[i].Set = []int{r, r}
		}
	}
	return own, runes
}

// placesSeen: First, Last and Follow by looking at all lists of at most so many
// runes that the pattern matches, each set having a rune of its own.
func placesSeen(p []impl.Re, most int) impl.Nfa {
	own, runes := withOwnRunes(p)
	var n impl.Nfa
	n.Follow = make([][]int, len(runes))
	add := func(l *[]int, r int) {
		*l = append(*l, r-1000)
		slices.Sort(*l)
		*l = slices.Compact(*l)
	}
	eachShortList(most, runes, func(l []int) {
		if is, ok := impl.MatchesRe(own, l); !ok || !is {
			return
		}
		if len(l) == 0 {
			n.Empty = true
			return
		}
		add(&n.First, l[0])
		add(&n.Last, l[len(l)-1])
		for i, r := range l[1:] {
			add(&n.Follow[l[i]-1000], r)
		}
	})
	n.Sets = setsOf(p)
	return n
}

func setsOf(p []impl.Re) [][]int {
	var sets [][]int
	for _, n := range p {
		if n.Op == impl.ReSet {
			sets = append(sets, n.Set)
		}
	}
	return sets
}

// A part of a pattern on the pile of nfaAsSaid.
type placed struct {
	empty       bool
	first, last []int
}

// nfaAsSaid reads the pattern from the front, with a pile.
func nfaAsSaid(p []impl.Re) impl.Nfa {
	n := impl.Nfa{Sets: setsOf(p)}
	n.Follow = make([][]int, len(n.Sets))
	united := func(a, b []int) []int {
		l := slices.Concat(a, b)
		slices.Sort(l)
		return slices.Compact(l)
	}
	let := func(last, first []int) {
		for _, place := range last {
			n.Follow[place] = united(n.Follow[place], first)
		}
	}
	var pile []placed
	place := 0
	for _, node := range p {
		kept := pile[:len(pile)-partsNeeded(node.Op)]
		parts := slices.Clone(pile[len(kept):])
		made := placed{empty: true}
		switch node.Op {
		case impl.ReSet:
			made = placed{false, []int{place}, []int{place}}
			place++
		case impl.ReStar:
			let(parts[0].last, parts[0].first)
			made = placed{true, parts[0].first, parts[0].last}
		case impl.ReOr:
			made = placed{parts[0].empty || parts[1].empty, united(parts[0].first, parts[1].first), united(parts[0].last, parts[1].last)}
		case impl.ReCat:
			let(parts[0].last, parts[1].first)
			made = placed{parts[0].empty && parts[1].empty, parts[0].first, parts[1].last}
			if parts[0].empty {
				made.first = united(made.first, parts[1].first)
			}
			if parts[1].empty {
				made.last = united(made.last, parts[0].last)
			}
		}
		pile = append(kept, made)
	}
	n.Empty, n.First, n.Last = pile[0].empty, pile[0].first, pile[0].last
	return n
}

// takesAsSaid goes from the last rune back to the first one.
func takesAsSaid(n impl.Nfa, l []int) bool {
	if len(l) == 0 {
		return n.Empty
	}
	good := n.Last
	for i := len(l) - 1; i >= 0; i-- {
		good = slices.DeleteFunc(slices.Clone(good), func(place int) bool { return !hasNumber(n.Sets[place], l[i]) })
		if i == 0 {
			break
		}
		var ahead []int
		for place, follow := range n.Follow {
			if slices.ContainsFunc(follow, func(next int) bool { return slices.Contains(good, next) }) {
				ahead = append(ahead, place)
			}
		}
		good = ahead
	}
	return slices.ContainsFunc(n.First, func(place int) bool { return slices.Contains(good, place) })
}

// cutsAsSaid: as many as there are.
func cutsAsSaid(n impl.Nfa) []int {
	seen := map[int]bool{}
	for _, s := range n.Sets {
		for i, number := range s {
			seen[number+i%2] = true
		}
	}
	var cuts []int
	for cut := range seen {
		if cut >= 1 && cut <= lastRune {
			cuts = append(cuts, cut)
		}
	}
	slices.Sort(cuts)
	return cuts
}

func entriesOf(cuts []int) []int { return append([]int{0}, cuts...) }

// dfaAsSaid has as many states as there are, each a list of places; that of the
// beginning is [-1].
func dfaAsSaid(n impl.Nfa) impl.Dfa {
	d := impl.Dfa{Cuts: cutsAsSaid(n)}
	states := [][]int{{-1}}
	for i := 0; i < len(states); i++ {
		var row []int
		for _, number := range entriesOf(d.Cuts) {
			next := nextPlaces(n, states[i], number)
			at := slices.IndexFunc(states, func(s []int) bool { return slices.Equal(s, next) })
			if at < 0 {
				at = len(states)
				states = append(states, next)
			}
			row = append(row, at)
		}
		d.Next = append(d.Next, row)
		final := slices.ContainsFunc(states[i], func(place int) bool { return slices.Contains(n.Last, place) })
		d.Final = append(d.Final, final || i == 0 && n.Empty)
	}
	return d
}

func nextPlaces(n impl.Nfa, places []int, number int) []int {
	var next []int
	for place, s := range n.Sets {
		follows := func(from int) bool {
			if from < 0 {
				return slices.Contains(n.First, place)
			}
			return slices.Contains(n.Follow[from], place)
		}
		if hasNumber(s, number) && slices.ContainsFunc(places, follows) {
			next = append(next, place)
		}
	}
	return next
}

// stateBehind goes by numbers, be they runes or not.
func stateBehind(d impl.Dfa, l []int) int {
	state := 0
	for _, number := range l {
		entry := 0
		for _, cut := range d.Cuts {
			if cut <= number {
				entry++
			}
		}
		state = d.Next[state][entry]
	}
	return state
}

// metFrom0: the states in the order in which they are met.
func metFrom0(d impl.Dfa) []int {
	met := []int{0}
	for i := 0; i < len(met); i++ {
		for _, next := range d.Next[met[i]] {
			if !slices.Contains(met, next) {
				met = append(met, next)
			}
		}
	}
	return met
}

// unlikeStates: which pairs of states some list tells apart.
func unlikeStates(d impl.Dfa) [][]bool {
	unlike := make([][]bool, len(d.Next))
	for a := range unlike {
		for b := range d.Next {
			unlike[a] = append(unlike[a], d.Final[a] != d.Final[b])
		}
	}
	for more := true; more; {
		more = false
		for a := range unlike {
			for b := range unlike {
				for entry := range d.Next[a] {
					if !unlike[a][b] && unlike[d.Next[a][entry]][d.Next[b][entry]] {
						unlike[a][b], more = true, true
					}
				}
			}
		}
	}
	return unlike
}

// leastAsSaid: of all states that are met and alike the first one that is met
// stands for all.
func leastAsSaid(d impl.Dfa) impl.Dfa {
	unlike := unlikeStates(d)
	var kept []int
	number := make([]int, len(d.Next))
	for _, state := range metFrom0(d) {
		at := slices.IndexFunc(kept, func(k int) bool { return !unlike[k][state] })
		if at < 0 {
			at = len(kept)
			kept = append(kept, state)
		}
		number[state] = at
	}
	least := impl.Dfa{Cuts: d.Cuts}
	for _, state := range kept {
		var row []int
		for _, next := range d.Next[state] {
			row = append(row, number[next])
		}
		least.Next = append(least.Next, row)
		least.Final = append(least.Final, d.Final[state])
	}
	return inOrderMet(least)
}

// inOrderMet: the same machine without what is not met, numbered as met.
func inOrderMet(d impl.Dfa) impl.Dfa {
	met := metFrom0(d)
	ordered := impl.Dfa{Cuts: d.Cuts}
	for _, state := range met {
		var row []int
		for _, next := range d.Next[state] {
			row = append(row, slices.Index(met, next))
		}
		ordered.Next = append(ordered.Next, row)
		ordered.Final = append(ordered.Final, d.Final[state])
	}
	return ordered
}

// bothAsSaid: first all pairs there are, then those that are met.
func bothAsSaid(a, b impl.Dfa) impl.Dfa {
	all := impl.Dfa{Cuts: a.Cuts}
	for i := range a.Next {
		for k := range b.Next {
			var row []int
			for entry := range a.Next[i] {
				row = append(row, a.Next[i][entry]*len(b.Next)+b.Next[k][entry])
			}
			all.Next = append(all.Next, row)
			all.Final = append(all.Final, a.Final[i] && b.Final[k])
		}
	}
	return inOrderMet(all)
}

// areSameAsSaid: side by side both are Final or none is.
func areSameAsSaid(a, b impl.Dfa) bool {
	met := [][2]int{{0, 0}}
	for i := 0; i < len(met); i++ {
		x, y := met[i][0], met[i][1]
		if a.Final[x] != b.Final[y] {
			return false
		}
		for entry := range a.Next[x] {
			if next := [2]int{a.Next[x][entry], b.Next[y][entry]}; !slices.Contains(met, next) {
				met = append(met, next)
			}
		}
	}
	return true
}

func isNoneAsSaid(d impl.Dfa) bool {
	return !slices.ContainsFunc(metFrom0(d), func(state int) bool { return d.Final[state] })
}

// shortAsSaid tries all lists, shorter ones first, lesser ones first.
func shortAsSaid(d impl.Dfa) ([]int, bool) {
	lists := [][]int{nil}
	for range d.Next {
		var longer [][]int
		for _, l := range lists {
			if d.Final[stateBehind(d, l)] {
				return l, true
			}
			for _, number := range entriesOf(d.Cuts) {
				longer = append(longer, append(slices.Clone(l), number))
			}
		}
		lists = longer
	}
	return nil, false
}

// plainOf: the same nodes, ReOr for ReAnd and ReStar for ReNot.
func plainOf(p []impl.Re) []impl.Re {
	plain := slices.Clone(p)
	for i, n := range plain {
		switch n.Op {
		case impl.ReAnd:
			plain[i].Op = impl.ReOr
		case impl.ReNot:
			plain[i].Op = impl.ReStar
		}
	}
	return plain
}

func plainUpTo(nodes int, leaves ...[]impl.Re) [][]impl.Re {
	return slices.DeleteFunc(patternsUpTo(nodes, leaves...), func(p []impl.Re) bool { return !isSameRe(p, plainOf(p)) })
}

func manyPlain(count int, most int, leaves ...[]impl.Re) [][]impl.Re {
	all := manyPatterns(count, most, leaves...)
	for i, p := range all {
		all[i] = plainOf(p)
	}
	return all
}

// machineSets: sets of few cuts, at the ends, and at what is no rune.
var machineSets = [][]int{
	nil, {97, 97}, {97, 98}, {98, 98}, {0, lastRune}, {0, 96}, {99, lastRune}, {97, 97, 99, 99}, {0, 0}, {lastRune, lastRune},
	{55296, 57343}, {55295, 57344}, {56000, 56000}, {55000, 56000}, {56001, 60000},
}

// places: a rising list of places, each by chance.
func (c *chances) places(count int) []int {
	var l []int
	for place := range count {
		if c.next(3) == 0 {
			l = append(l, place)
		}
	}
	return l
}

func manyNfas(count int, most int) []impl.Nfa {
	c := chances(23)
	var all []impl.Nfa
	for len(all) < count {
		places := c.next(most + 1)
		n := impl.Nfa{Empty: c.next(2) == 0, First: c.places(places), Last: c.places(places)}
		for range places {
			n.Sets = append(n.Sets, machineSets[c.next(len(machineSets))])
			n.Follow = append(n.Follow, c.places(places))
		}
		all = append(all, n)
	}
	return all
}

func (c *chances) dfa(states int, cuts []int) impl.Dfa {
	d := impl.Dfa{Cuts: cuts}
	rare := 1 + c.next(5)
	for range states {
		var row []int
		for range len(cuts) + 1 {
			row = append(row, c.next(states))
		}
		d.Next = append(d.Next, row)
		d.Final = append(d.Final, c.next(1+rare) == 0)
	}
	return d
}

func manyDfas(count int, most int, cuts ...int) []impl.Dfa {
	c := chances(29)
	var all []impl.Dfa
	for len(all) < count {
		all = append(all, c.dfa(1+c.next(most), cuts))
	}
	return all
}

// eachDfa hands over all machines with so many states and these cuts.
func eachDfa(states int, cuts []int, use func(impl.Dfa)) {
	entries := states * (len(cuts) + 1)
	eachShortList(entries, numbersFrom(0, states), func(next []int) {
		if len(next) < entries {
			return
		}
		for bits := range 1 << states {
			d := impl.Dfa{Cuts: cuts}
			for state := range states {
				d.Next = append(d.Next, next[state*(len(cuts)+1):(state+1)*(len(cuts)+1)])
				d.Final = append(d.Final, bits>>state&1 == 1)
			}
			use(d)
		}
	})
}

// ringOf: so many states ahead of a ring, without cuts; the last one is Final.
func ringOf(ahead, ring int) impl.Dfa {
	var d impl.Dfa
	for state := range ahead + ring {
		next := state + 1
		if next == ahead+ring {
			next = ahead
		}
		d.Next = append(d.Next, []int{next})
		d.Final = append(d.Final, state == ahead+ring-1)
	}
	return d
}

// ringsOf: a machine of places that goes round in rings, each of so many
// places, all at once, as long as it meets numbers of a set.
func ringsOf(set []int, rings ...int) impl.Nfa {
	var n impl.Nfa
	for _, places := range rings {
		first := len(n.Sets)
		n.First = append(n.First, first)
		n.Last = append(n.Last, first+places-1)
		for place := range places {
			n.Sets = append(n.Sets, set)
			n.Follow = append(n.Follow, []int{first + (place+1)%places})
		}
	}
	return n
}

func checkNfaOf(t *testing.T, p []impl.Re, want impl.Nfa) impl.Nfa {
	t.Helper()
	n, ok := impl.NfaOf(p)
	if !ok || !isSameNfa(n, want) {
		t.Fatalf("NfaOf(%s) = %v, %v; not %v, true", textAsSaid(p), n, ok, want)
	}
	checkGoodNfa(t, n, true)
	return n
}

func checkNoNfa(t *testing.T, p []impl.Re) {
	t.Helper()
	if n, ok := impl.NfaOf(p); ok || !isSameNfa(n, impl.Nfa{}) {
		t.Fatalf("NfaOf(%v) = %v, %v", p, n, ok)
	}
}

func checkGoodNfa(t *testing.T, n impl.Nfa, want bool) {
	t.Helper()
	if good := impl.GoodNfa(n); good != want {
		t.Fatalf("GoodNfa(%v) = %v", n, good)
	}
}

func checkGoodDfa(t *testing.T, d impl.Dfa, want bool) {
	t.Helper()
	if good := impl.GoodDfa(d); good != want {
		t.Fatalf("GoodDfa(%v) = %v", d, good)
	}
}

func checkRunNfa(t *testing.T, n impl.Nfa, l []int, want bool) {
	t.Helper()
	if is, ok := impl.RunNfa(n, l); is != want || !ok {
		t.Fatalf("RunNfa(%v, %v) = %v, %v; not %v, true", n, l, is, ok, want)
	}
}

func checkNotRunNfa(t *testing.T, n impl.Nfa, l []int) {
	t.Helper()
	if is, ok := impl.RunNfa(n, l); is || ok {
		t.Fatalf("RunNfa(%v, of %d) = %v, %v", n, len(l), is, ok)
	}
}

func checkRunDfa(t *testing.T, d impl.Dfa, l []int, want bool) {
	t.Helper()
	if is, ok := impl.RunDfa(d, l); is != want || !ok {
		t.Fatalf("RunDfa(%v, %v) = %v, %v; not %v, true", d, l, is, ok, want)
	}
}

func checkNotRunDfa(t *testing.T, d impl.Dfa, l []int) {
	t.Helper()
	if is, ok := impl.RunDfa(d, l); is || ok {
		t.Fatalf("RunDfa(%v, of %d) = %v, %v", d, len(l), is, ok)
	}
}

func checkCuts(t *testing.T, n impl.Nfa, want []int) {
	t.Helper()
	if cuts, ok := impl.CutsOf(n); !slices.Equal(cuts, want) || !ok {
		t.Fatalf("CutsOf(%v) = %v, %v; not %v, true", n, cuts, ok, want)
	}
}

func checkNoCuts(t *testing.T, n impl.Nfa) {
	t.Helper()
	if cuts, ok := impl.CutsOf(n); len(cuts) != 0 || ok {
		t.Fatalf("CutsOf(%v) = %v, %v", n, cuts, ok)
	}
}

// checkDfa: what a function answered is the machine that is wanted, if that has
// no more states than there may be; none otherwise.
func checkDfa(t *testing.T, what string, of any, d impl.Dfa, ok bool, want impl.Dfa) {
	t.Helper()
	if fits := len(want.Next) > 0 && len(want.Next) <= mostStates; !fits {
		want = impl.Dfa{}
	}
	if ok != (len(want.Next) > 0) || !isSameMachine(d, want) {
		t.Fatalf("%s(%v) = %v, %v; not %v", what, of, d, ok, want)
	}
	if ok {
		checkGoodDfa(t, d, true)
	}
}

func checkDfaOf(t *testing.T, n impl.Nfa, want impl.Dfa) {
	t.Helper()
	d, ok := impl.DfaOf(n)
	checkDfa(t, "DfaOf", n, d, ok, want)
}

func checkLeast(t *testing.T, d impl.Dfa, want impl.Dfa) {
	t.Helper()
	least, ok := impl.LeastDfa(d)
	checkDfa(t, "LeastDfa", d, least, ok, want)
}

func checkNot(t *testing.T, d impl.Dfa, want impl.Dfa) {
	t.Helper()
	not, ok := impl.NotDfa(d)
	checkDfa(t, "NotDfa", d, not, ok, want)
}

func checkBoth(t *testing.T, a, b impl.Dfa, want impl.Dfa) {
	t.Helper()
	both, ok := impl.BothDfa(a, b)
	checkDfa(t, "BothDfa", []impl.Dfa{a, b}, both, ok, want)
}

func checkNone(t *testing.T, d impl.Dfa, want bool) {
	t.Helper()
	if is, ok := impl.IsNoneDfa(d); is != want || !ok {
		t.Fatalf("IsNoneDfa(%v) = %v, %v; not %v, true", d, is, ok, want)
	}
}

func checkShort(t *testing.T, d impl.Dfa, want []int, wantOk bool) {
	t.Helper()
	if l, ok := impl.ShortIn(d); !slices.Equal(l, want) || ok != wantOk {
		t.Fatalf("ShortIn(%v) = %v, %v; not %v, %v", d, l, ok, want, wantOk)
	}
}

func checkSameDfa(t *testing.T, a, b impl.Dfa, want bool) {
	t.Helper()
	if is, ok := impl.SameDfa(a, b); is != want || !ok {
		t.Fatalf("SameDfa(%v, %v) = %v, %v; not %v, true", a, b, is, ok, want)
	}
}

func checkNotSameAsked(t *testing.T, a, b impl.Dfa) {
	t.Helper()
	if is, ok := impl.SameDfa(a, b); is || ok {
		t.Fatalf("SameDfa(%v, %v) = %v, %v", a, b, is, ok)
	}
}

// nfa is the machine of places of a pattern's text, which has to have one.
func nfa(t *testing.T, s string) impl.Nfa {
	t.Helper()
	n, ok := impl.NfaOf(re(t, s))
	if !ok {
		t.Fatalf("NfaOf(%s) tells false", s)
	}
	return n
}

func dfa(t *testing.T, s string) impl.Dfa {
	t.Helper()
	d, ok := impl.DfaOf(nfa(t, s))
	if !ok {
		t.Fatalf("DfaOf(%s) tells false", s)
	}
	return d
}

func notOf(d impl.Dfa) impl.Dfa {
	not := impl.Dfa{Cuts: d.Cuts, Next: d.Next}
	for _, final := range d.Final {
		not.Final = append(not.Final, !final)
	}
	return not
}

// checkPromise6: the pattern, its machine of places, that of states and that
// with the fewest take the same of these lists.
func checkPromise6(t *testing.T, p []impl.Re, lists [][]int) {
	t.Helper()
	n, ok := impl.NfaOf(p)
	if !ok {
		t.Fatalf("NfaOf(%s) tells false", textAsSaid(p))
	}
	d, hasStates := impl.DfaOf(n)
	if want := len(cutsAsSaid(n)) <= mostCuts; hasStates && !want {
		t.Fatalf("DfaOf(%s) tells true", textAsSaid(p))
	}
	least, ok := impl.LeastDfa(d)
	if ok != hasStates || len(least.Next) > len(d.Next) {
		t.Fatalf("LeastDfa of %s tells %v, and has %d states", textAsSaid(p), ok, len(least.Next))
	}
	for _, l := range lists {
		want, ok := impl.MatchesRe(p, l)
		if !ok {
			t.Fatalf("MatchesRe(%s, %v) tells false", textAsSaid(p), l)
		}
		checkRunNfa(t, n, l, want)
		if hasStates {
			checkRunDfa(t, d, l, want)
			checkRunDfa(t, least, l, want)
		}
	}
}

func TestMachinesOfAllSmallPatternsTakeTheSame(t *testing.T) {
	lists := shortLists(4, wordRunes)
	for _, p := range plainUpTo(5, fewLeaves...) {
		checkPromise6(t, p, lists)
	}
	// a rune that is in no set, below and above those that are
	lists = shortLists(2, []int{0, 96, 97, 98, 99, 55295, 57344, lastRune})
	for _, p := range plainUpTo(4, runeRe(97), setRe(98, 98, 57344, 57344), setRe(0, lastRune), setRe(55295, 57344)) {
		checkPromise6(t, p, lists)
	}
}

func TestMachinesOfManyPatternsTakeTheSame(t *testing.T) {
	c := chances(7)
	runes := []int{97, 98, 97, 98, 99, 0, 45, 122, 12354, 55295, 57344, lastRune}
	for _, p := range manyPlain(1500, mostNodes, manyLeaves...) {
		lists := [][]int{nil}
		for _, r := range runes {
			lists = append(lists, []int{r})
		}
		for range 12 {
			var l []int
			for range 2 + c.next(7) {
				l = append(l, runes[c.next(len(runes))])
			}
			lists = append(lists, l)
		}
		checkPromise6(t, p, lists)
	}
	lists := shortLists(6, []int{97, 98})
	for _, p := range manyPlain(300, 25, runeRe(97), runeRe(98), setRe(97, 98), emptyRe()) {
		checkPromise6(t, p, lists)
	}
}

func TestMachinesByHandTakeTheSame(t *testing.T) {
	lists := shortLists(6, wordRunes)
	for _, s := range []string{
		"()", "[]", "a", ".", "[]*", "()*", "a*", "a**", "(a*b*)*", "((ab)|a)*", "((a|b)*(a(a|b)))", "(a*|b*)*", "((a|())(b|()))*", "(([]a)|b)", "([]*a)",
		"(a([]|b))", "((a[])*b)", "(((ab)*|c)*(ab*))", "(.*(a(b.*)))", "([a-b][b-c])*", "(((aa)|(aa))|((aa)a))*",
	} {
		checkPromise6(t, re(t, s), lists)
	}
}

func TestNfaOfByHand(t *testing.T) {
	a, b, c := []int{97, 97}, []int{98, 98}, []int{99, 99}
	var none []int
	for _, x := range []struct {
		s    string
		want impl.Nfa
	}{
		{"()", impl.Nfa{Empty: true}},
		{"()*", impl.Nfa{Empty: true}},
		{"(()())", impl.Nfa{Empty: true}},
		{"(()|())**", impl.Nfa{Empty: true}},
		{"a", impl.Nfa{Sets: [][]int{a}, First: []int{0}, Last: []int{0}, Follow: [][]int{none}}},
		{"[]", impl.Nfa{Sets: [][]int{none}, First: []int{0}, Last: []int{0}, Follow: [][]int{none}}},
		{"[]*", impl.Nfa{Empty: true, Sets: [][]int{none}, First: []int{0}, Last: []int{0}, Follow: [][]int{{0}}}},
		{"a**", impl.Nfa{Empty: true, Sets: [][]int{a}, First: []int{0}, Last: []int{0}, Follow: [][]int{{0}}}},
		{"(ab)", impl.Nfa{Sets: [][]int{a, b}, First: []int{0}, Last: []int{1}, Follow: [][]int{{1}, none}}},
		{"(a[])", impl.Nfa{Sets: [][]int{a, none}, First: []int{0}, Last: []int{1}, Follow: [][]int{{1}, none}}},
		{"([]a)", impl.Nfa{Sets: [][]int{none, a}, First: []int{0}, Last: []int{1}, Follow: [][]int{{1}, none}}},
		{"([]*a)", impl.Nfa{Sets: [][]int{none, a}, First: []int{0, 1}, Last: []int{1}, Follow: [][]int{{0, 1}, none}}},
		{"(a|b)", impl.Nfa{Sets: [][]int{a, b}, First: []int{0, 1}, Last: []int{0, 1}, Follow: [][]int{none, none}}},
		{"(a|())", impl.Nfa{Empty: true, Sets: [][]int{a}, First: []int{0}, Last: []int{0}, Follow: [][]int{none}}},
		{"(aa)", impl.Nfa{Sets: [][]int{a, a}, First: []int{0}, Last: []int{1}, Follow: [][]int{{1}, none}}},
		{"(a|a)*", impl.Nfa{Empty: true, Sets: [][]int{a, a}, First: []int{0, 1}, Last: []int{0, 1}, Follow: [][]int{{0, 1}, {0, 1}}}},
		{"(ab*)", impl.Nfa{Sets: [][]int{a, b}, First: []int{0}, Last: []int{0, 1}, Follow: [][]int{{1}, {1}}}},
		{"(a*b)", impl.Nfa{Sets: [][]int{a, b}, First: []int{0, 1}, Last: []int{1}, Follow: [][]int{{0, 1}, none}}},
		{"(a*b*)", impl.Nfa{Empty: true, Sets: [][]int{a, b}, First: []int{0, 1}, Last: []int{0, 1}, Follow: [][]int{{0, 1}, {1}}}},
		{"(a*b*)*", impl.Nfa{Empty: true, Sets: [][]int{a, b}, First: []int{0, 1}, Last: []int{0, 1}, Follow: [][]int{{0, 1}, {0, 1}}}},
		{"(ab)*", impl.Nfa{Empty: true, Sets: [][]int{a, b}, First: []int{0}, Last: []int{1}, Follow: [][]int{{1}, {0}}}},
		{"(a(b*c))", impl.Nfa{Sets: [][]int{a, b, c}, First: []int{0}, Last: []int{2}, Follow: [][]int{{1, 2}, {1, 2}, none}}},
		{"((ab*)c*)", impl.Nfa{Sets: [][]int{a, b, c}, First: []int{0}, Last: []int{0, 1, 2}, Follow: [][]int{{1, 2}, {1, 2}, {2}}}},
		{"((ab)|c)*", impl.Nfa{Empty: true, Sets: [][]int{a, b, c}, First: []int{0, 2}, Last: []int{1, 2}, Follow: [][]int{{1}, {0, 2}, {0, 2}}}},
		{"(()(a()))", impl.Nfa{Sets: [][]int{a}, First: []int{0}, Last: []int{0}, Follow: [][]int{none}}},
		{"(.[a-ce])", impl.Nfa{Sets: [][]int{{0, lastRune}, {97, 99, 101, 101}}, First: []int{0}, Last: []int{1}, Follow: [][]int{{1}, none}}},
	} {
		checkNfaOf(t, re(t, x.s), x.want)
	}
}

func TestNfaOfSmallPatternsBySight(t *testing.T) {
	for _, p := range plainUpTo(6, emptyRe(), setRe(), runeRe(97)) {
		want := placesSeen(p, 6)
		checkNfaOf(t, p, want)
		if !isSameNfa(nfaAsSaid(p), want) {
			t.Fatalf("the test's own machine of %s is %v", textAsSaid(p), nfaAsSaid(p))
		}
	}
}

func TestNfaOfManyPatterns(t *testing.T) {
	for _, p := range slices.Concat(plainUpTo(5, fewLeaves...), manyPlain(3000, mostNodes, manyLeaves...)) {
		checkNfaOf(t, p, nfaAsSaid(p))
	}
}

func TestNfaOfAtMaxRe(t *testing.T) {
	for _, leaf := range slices.Concat(fewLeaves, manyLeaves) {
		for _, p := range [][]impl.Re{
			timesRe(impl.ReStar, mostNodes-1, leaf), opRe(impl.ReStar, chainRe(impl.ReCat, 20, leaf)), opRe(impl.ReStar, deepRe(impl.ReCat, 20, leaf)),
			opRe(impl.ReStar, chainRe(impl.ReOr, 20, leaf)), chainRe(impl.ReCat, 13, opRe(impl.ReStar, leaf)), deepRe(impl.ReOr, 13, opRe(impl.ReStar, leaf)),
		} {
			checkNfaOf(t, p, nfaAsSaid(p))
		}
		checkNoNfa(t, timesRe(impl.ReStar, mostNodes, leaf))
		checkNoNfa(t, chainRe(impl.ReCat, 21, leaf))
	}
	n := checkNfaOf(t, chainRe(impl.ReCat, 20, runeRe(97)), nfaAsSaid(chainRe(impl.ReCat, 20, runeRe(97))))
	checkRunNfa(t, n, slices.Repeat([]int{97}, 20), true)
	checkRunNfa(t, n, slices.Repeat([]int{97}, 19), false)
	checkRunNfa(t, n, slices.Repeat([]int{97}, 21), false)
}

func TestNfaOfWhatIsNotPlain(t *testing.T) {
	for _, p := range patternsUpTo(4, fewLeaves...) {
		if !isSameRe(p, plainOf(p)) {
			checkNoNfa(t, p)
		}
	}
	for _, s := range []string{"(~a)", "(a&a)", "(~(~a))", "(a(b|(~c)))", "((a&b)*c)", "(()&())", "(~())", "(a|(b|(c|(a&b))))"} {
		checkNoNfa(t, re(t, s))
	}
	for _, p := range badPatterns() {
		checkNoNfa(t, p)
	}
}

// twoPlaces: a good machine, of which the tests turn one field at a time.
func twoPlaces() impl.Nfa {
	return impl.Nfa{Sets: [][]int{{97, 97}, {98, 98}}, First: []int{0}, Last: []int{0, 1}, Follow: [][]int{{1}, {1}}}
}

// turnsOfPlaces: rising lists of two places, and such as are none.
var turnsOfPlaces = shortLists(3, []int{-1, 0, 1, 2})

func TestGoodNfaByItsLists(t *testing.T) {
	for _, l := range append(turnsOfPlaces, []int{math.MinInt}, []int{math.MaxInt}, []int{0, math.MaxInt}, []int{0, 1, math.MinInt}, []int{64}, []int{-64, 0}, numbersFrom(0, 100000)) {
		for _, turn := range []func(n *impl.Nfa){
			func(n *impl.Nfa) { n.First = l }, func(n *impl.Nfa) { n.Last = l }, func(n *impl.Nfa) { n.Follow[0] = l }, func(n *impl.Nfa) { n.Follow[1] = l },
		} {
			for _, empty := range []bool{false, true} {
				n := twoPlaces()
				n.Empty = empty
				turn(&n)
				checkGoodNfa(t, n, isRising(l, 0, 1))
				if !isRising(l, 0, 1) {
					checkNoAnswerOfNfa(t, n)
				}
			}
		}
	}
	for count := range 5 {
		n := twoPlaces()
		n.Follow = slices.Repeat([][]int{{1}}, count)
		checkGoodNfa(t, n, count == 2)
		n = twoPlaces()
		n.Sets = slices.Repeat([][]int{{97, 97}}, count)
		checkGoodNfa(t, n, count == 2)
	}
}

func TestGoodNfaByItsSets(t *testing.T) {
	for _, s := range slices.Concat(edgeSets, machineSets, noSets, manySets(500)) {
		for place := range 2 {
			n := twoPlaces()
			n.Sets[place] = s
			checkGoodNfa(t, n, isGoodAsSaid(s))
			if !isGoodAsSaid(s) {
				checkNoAnswerOfNfa(t, n)
			}
		}
	}
}

func TestGoodNfaByItsPlaces(t *testing.T) {
	for _, empty := range []bool{false, true} {
		checkGoodNfa(t, impl.Nfa{Empty: empty}, true)
		checkGoodNfa(t, impl.Nfa{Empty: empty, Sets: [][]int{}, First: []int{}, Last: []int{}, Follow: [][]int{}}, true)
		checkGoodNfa(t, impl.Nfa{Empty: empty, First: []int{0}}, false)
		checkGoodNfa(t, impl.Nfa{Empty: empty, Last: []int{0}}, false)
		checkGoodNfa(t, impl.Nfa{Empty: empty, Follow: [][]int{nil}}, false)
		checkGoodNfa(t, impl.Nfa{Empty: empty, Sets: [][]int{nil}}, false)
		checkGoodNfa(t, impl.Nfa{Empty: empty, Sets: [][]int{nil}, Follow: [][]int{nil}}, true)
	}
	all := numbersFrom(0, mostNodes)
	full := impl.Nfa{Sets: slices.Repeat([][]int{{97, 97}}, mostNodes), First: all, Last: all, Follow: slices.Repeat([][]int{all}, mostNodes)}
	checkGoodNfa(t, full, true)
	checkRunNfa(t, full, []int{97, 97, 97}, true)
	checkRunNfa(t, full, []int{97, 98, 97}, false)
	full.Last = []int{mostNodes - 1}
	full.First = []int{mostNodes - 1}
	checkGoodNfa(t, full, true)
	full.First = []int{mostNodes}
	checkGoodNfa(t, full, false)
	for _, places := range []int{mostNodes + 1, 64, 65, 5000} {
		n := ringsOf([]int{97, 97}, places)
		checkGoodNfa(t, n, false)
		checkNoAnswerOfNfa(t, n)
	}
	checkGoodNfa(t, ringsOf([]int{97, 97}, mostNodes), true)
	for _, n := range manyNfas(1000, 7) {
		checkGoodNfa(t, n, isGoodNfaAsSaid(n))
	}
}

func checkNoAnswerOfNfa(t *testing.T, n impl.Nfa) {
	t.Helper()
	checkGoodNfa(t, n, false)
	for _, l := range [][]int{nil, {97}, {97, 98}, {-1}} {
		checkNotRunNfa(t, n, l)
	}
	checkNoCuts(t, n)
	checkDfaOf(t, n, impl.Dfa{})
}

func TestRunNfaAsSaid(t *testing.T) {
	lists := shortLists(3, []int{0, 97, 98, 99, 57344})
	for _, n := range manyNfas(600, 6) {
		for _, l := range lists {
			checkRunNfa(t, n, l, takesAsSaid(n, l))
		}
	}
	for _, n := range manyNfas(200, mostNodes) {
		for _, l := range lists {
			checkRunNfa(t, n, l, takesAsSaid(n, l))
		}
	}
}

func TestRunNfaByHand(t *testing.T) {
	none := impl.Nfa{}
	checkRunNfa(t, none, nil, false)
	checkRunNfa(t, none, []int{97}, false)
	none.Empty = true
	checkRunNfa(t, none, nil, true)
	checkRunNfa(t, none, []int{}, true)
	checkRunNfa(t, none, []int{97}, false)
	n := twoPlaces()
	checkRunNfa(t, n, nil, false)
	checkRunNfa(t, n, []int{97}, true)
	checkRunNfa(t, n, []int{97, 98, 98}, true)
	checkRunNfa(t, n, []int{98}, false)
	checkRunNfa(t, n, []int{97, 97}, false)
	// Empty says nothing of other lists, and First and Last nothing of it
	n.Empty = true
	checkRunNfa(t, n, nil, true)
	checkRunNfa(t, n, []int{98}, false)
	n.Last = nil
	checkRunNfa(t, n, nil, true)
	checkRunNfa(t, n, []int{97}, false)
	n = twoPlaces()
	n.First = nil
	checkRunNfa(t, n, []int{97}, false)
	checkRunNfa(t, n, nil, false)
	// a run that came to no place does not begin again
	checkRunNfa(t, twoPlaces(), []int{99, 97}, false)
	checkRunNfa(t, twoPlaces(), []int{97, 99, 97}, false)
}

func TestRunsAtMaxText(t *testing.T) {
	full := slices.Repeat([]int{97}, impl.MaxText)
	late := slices.Clone(full)
	late[impl.MaxText-1] = 98
	for _, c := range []struct {
		s          string
		full, late bool
	}{{"a*", true, false}, {"(a*b)", false, true}, {"(aa)*", true, false}, {"((aa)a)*", false, false}, {".*", true, true}, {"()", false, false}, {"[]*", false, false}} {
		n, d := nfa(t, c.s), dfa(t, c.s)
		checkRunNfa(t, n, full, c.full)
		checkRunNfa(t, n, late, c.late)
		checkRunDfa(t, d, full, c.full)
		checkRunDfa(t, d, late, c.late)
		for _, l := range [][]int{append(slices.Clone(full), 97), slices.Repeat([]int{97}, 200000)} {
			checkNotRunNfa(t, n, l)
			checkNotRunDfa(t, d, l)
		}
	}
}

func TestRunsOfWhatIsNoRune(t *testing.T) {
	for _, r := range noRunes {
		for _, s := range []string{".*", "()", "[]", "a", "[\ud7ff-\ue000]*"} {
			for _, l := range [][]int{{r}, {97, r}, {r, 97}, append(slices.Repeat([]int{97}, impl.MaxText-1), r)} {
				checkNotRunNfa(t, nfa(t, s), l)
				checkNotRunDfa(t, dfa(t, s), l)
			}
		}
		checkNotRunNfa(t, impl.Nfa{Sets: [][]int{{55296, 57343}}, First: []int{0}, Last: []int{0}, Follow: [][]int{nil}}, []int{r})
		checkNotRunDfa(t, impl.Dfa{Cuts: []int{55296, 57344}, Next: [][]int{{0, 0, 0}}, Final: []bool{true}}, []int{r})
	}
}

func withSets(sets ...[]int) impl.Nfa {
	return impl.Nfa{Sets: sets, Follow: make([][]int, len(sets))}
}

func TestCutsOfByHand(t *testing.T) {
	for _, c := range []struct {
		sets [][]int
		want []int
	}{
		{nil, nil},
		{[][]int{nil}, nil},
		{[][]int{nil, nil, nil}, nil},
		{[][]int{{0, lastRune}}, nil},
		{[][]int{{0, 0}}, []int{1}},
		{[][]int{{0, 96}}, []int{97}},
		{[][]int{{97, 97}}, []int{97, 98}},
		{[][]int{{97, 99}}, []int{97, 100}},
		{[][]int{{1, lastRune}}, []int{1}},
		{[][]int{{lastRune, lastRune}}, []int{lastRune}},
		{[][]int{{lastRune - 1, lastRune - 1}}, []int{lastRune - 1, lastRune}},
		{[][]int{{0, lastRune - 1}}, []int{lastRune}},
		{[][]int{{0, 0, lastRune, lastRune}}, []int{1, lastRune}},
		{[][]int{{0, 0, 2, lastRune}}, []int{1, 2}},
		// sharing a first, a last, both, or one beginning where another ends
		{[][]int{{97, 99}, {97, 120}}, []int{97, 100, 121}},
		{[][]int{{97, 99}, {90, 99}}, []int{90, 97, 100}},
		{[][]int{{97, 99}, {97, 99}}, []int{97, 100}},
		{[][]int{{97, 99}, {100, 110}}, []int{97, 100, 111}},
		{[][]int{{100, 110}, {97, 99}}, []int{97, 100, 111}},
		{[][]int{{97, 99}, {99, 110}}, []int{97, 99, 100, 111}},
		{[][]int{{97, 99}, {98, 98}}, []int{97, 98, 99, 100}},
		{[][]int{{97, 97, 99, 99}, {98, 98}}, []int{97, 98, 99, 100}},
		{[][]int{{0, lastRune}, {97, 97}, nil}, []int{97, 98}},
		{[][]int{{55296, 57343}}, []int{55296, 57344}},
		{[][]int{{55000, 56000}, {56500, 60000}}, []int{55000, 56001, 56500, 60001}},
	} {
		n := withSets(c.sets...)
		checkCuts(t, n, c.want)
		// it does not hang on which places are met
		n.First = numbersFrom(0, len(c.sets))
		n.Empty = true
		checkCuts(t, n, c.want)
	}
}

func TestCutsOfAtMost40(t *testing.T) {
	for _, sets := range [][][]int{
		{spansOf(10, 12, 2, 2), spansOf(1000, 8, 3, 5)},
		{spansOf(10, 12, 2, 2), spansOf(10, 12, 2, 2), spansOf(1000, 8, 3, 5), nil, {0, lastRune}},
		{spansOf(0, 12, 2, 2), spansOf(1000, 8, 3, 5), {0, 5000}},
		{spansOf(10, 12, 2, 2), spansOf(1000, 8, 3, 5), {10, 11}, {1000, 1002}, {10, 1002}},
	} {
		n := withSets(sets...)
		want := cutsAsSaid(n)
		if len(want) != mostCuts {
			t.Fatalf("%v: not just 40 cuts: %d", sets, len(want))
		}
		checkCuts(t, n, want)
		checkDfaOf(t, n, dfaAsSaid(n))
		for _, more := range [][]int{{5000, lastRune}, {0, 6000}, {10, 9999}, {7000, 7000}} {
			n := withSets(append(slices.Clone(sets), more)...)
			checkGoodNfa(t, n, true)
			checkNoCuts(t, n)
			checkDfaOf(t, n, impl.Dfa{})
			checkRunNfa(t, n, []int{7000}, false)
		}
	}
	checkCuts(t, withSets(numbersOfOne(20)...), numbersFrom(100, 40))
	checkNoCuts(t, withSets(numbersOfOne(21)...))
	checkNoCuts(t, withSets(numbersOfOne(mostNodes)...))
}

// numbersOfOne: so many sets of one rune each, which do not touch.
func numbersOfOne(count int) [][]int {
	var sets [][]int
	for i := range count {
		sets = append(sets, []int{100 + 2*i, 100 + 2*i})
	}
	return sets
}

func TestCutsOfManyMachines(t *testing.T) {
	for _, n := range manyNfas(1000, 8) {
		checkCuts(t, n, cutsAsSaid(n))
	}
	sets := slices.Concat(edgeSets, manySets(300))
	for i, s := range sets {
		n := withSets(s, sets[(i*7+3)%len(sets)], sets[(i*11+5)%len(sets)])
		if !isGoodNfaAsSaid(n) {
			continue
		}
		if want := cutsAsSaid(n); len(want) <= mostCuts {
			checkCuts(t, n, want)
		} else {
			checkNoCuts(t, n)
		}
	}
}

func TestDfaOfByHand(t *testing.T) {
	for _, c := range []struct {
		s    string
		want impl.Dfa
	}{
		{"()", impl.Dfa{Next: [][]int{{1}, {1}}, Final: []bool{true, false}}},
		{"[]", impl.Dfa{Next: [][]int{{1}, {1}}, Final: []bool{false, false}}},
		{".", impl.Dfa{Next: [][]int{{1}, {2}, {2}}, Final: []bool{false, true, false}}},
		// state 0 is the beginning alone, though the other one goes on the same
		{".*", impl.Dfa{Next: [][]int{{1}, {1}}, Final: []bool{true, true}}},
		{"a*", impl.Dfa{Cuts: []int{97, 98}, Next: [][]int{{1, 2, 1}, {1, 1, 1}, {1, 2, 1}}, Final: []bool{true, false, true}}},
		{"a", impl.Dfa{Cuts: []int{97, 98}, Next: [][]int{{1, 2, 1}, {1, 1, 1}, {1, 1, 1}}, Final: []bool{false, false, true}}},
		{"(ab*)", impl.Dfa{Cuts: []int{97, 98, 99}, Next: [][]int{{1, 2, 1, 1}, {1, 1, 1, 1}, {1, 1, 3, 1}, {1, 1, 3, 1}}, Final: []bool{false, false, true, true}}},
		{"(a|b)", impl.Dfa{Cuts: []int{97, 98, 99}, Next: [][]int{{1, 2, 3, 1}, {1, 1, 1, 1}, {1, 1, 1, 1}, {1, 1, 1, 1}}, Final: []bool{false, false, true, true}}},
		{"(b|a)", impl.Dfa{Cuts: []int{97, 98, 99}, Next: [][]int{{1, 2, 3, 1}, {1, 1, 1, 1}, {1, 1, 1, 1}, {1, 1, 1, 1}}, Final: []bool{false, false, true, true}}},
		{"([\x00-`]a)", impl.Dfa{Cuts: []int{97, 98}, Next: [][]int{{1, 2, 2}, {2, 3, 2}, {2, 2, 2}, {2, 2, 2}}, Final: []bool{false, false, false, true}}},
		// two places at once
		{"(a*a)", impl.Dfa{Cuts: []int{97, 98}, Next: [][]int{{1, 2, 1}, {1, 1, 1}, {1, 2, 1}}, Final: []bool{false, false, true}}},
		{"((ab)|(aa))", impl.Dfa{Cuts: []int{97, 98, 99}, Next: [][]int{{1, 2, 1, 1}, {1, 1, 1, 1}, {1, 3, 4, 1}, {1, 1, 1, 1}, {1, 1, 1, 1}}, Final: []bool{false, false, false, true, true}}},
		// the set is all that a run can go through
		{"(.a)", impl.Dfa{Cuts: []int{97, 98}, Next: [][]int{{1, 1, 1}, {2, 3, 2}, {2, 2, 2}, {2, 2, 2}}, Final: []bool{false, false, false, true}}},
	} {
		checkDfaOf(t, nfa(t, c.s), c.want)
		if !isSameMachine(dfaAsSaid(nfa(t, c.s)), c.want) {
			t.Fatalf("the test's own machine of %s is %v", c.s, dfaAsSaid(nfa(t, c.s)))
		}
	}
	checkDfaOf(t, impl.Nfa{}, impl.Dfa{Next: [][]int{{1}, {1}}, Final: []bool{false, false}})
	checkDfaOf(t, impl.Nfa{Empty: true}, impl.Dfa{Next: [][]int{{1}, {1}}, Final: []bool{true, false}})
	// numbers that are no runes go by their entries as well
	checkDfaOf(t, impl.Nfa{Sets: [][]int{{56000, 56000}}, First: []int{0}, Last: []int{0}, Follow: [][]int{nil}},
		impl.Dfa{Cuts: []int{56000, 56001}, Next: [][]int{{1, 2, 1}, {1, 1, 1}, {1, 1, 1}}, Final: []bool{false, false, true}})
	// a place that is not met has its cuts
	checkDfaOf(t, impl.Nfa{Sets: [][]int{{97, 97}}, Last: []int{0}, Follow: [][]int{{0}}},
		impl.Dfa{Cuts: []int{97, 98}, Next: [][]int{{1, 1, 1}, {1, 1, 1}}, Final: []bool{false, false}})
}

func TestDfaOfManyMachines(t *testing.T) {
	for _, n := range manyNfas(1500, 5) {
		checkDfaOf(t, n, dfaAsSaid(n))
	}
	for _, n := range manyNfas(150, 8) {
		if want := dfaAsSaid(n); len(want.Next) < 600 {
			checkDfaOf(t, n, want)
		}
	}
	for _, p := range slices.Concat(plainUpTo(4, fewLeaves...), manyPlain(400, 20, fewLeaves...)) {
		n := nfaAsSaid(p)
		checkDfaOf(t, n, dfaAsSaid(n))
	}
}

func TestDfaOfAtMaxStates(t *testing.T) {
	if mostStates != 60 {
		t.Errorf("MaxStates is %d", mostStates)
	}
	all, some := []int{0, lastRune}, []int{97, 97}
	for _, c := range []struct {
		n      impl.Nfa
		states int
	}{
		{ringsOf(all, 40), 41}, {ringsOf(some, 40), 42}, {ringsOf(some, 2, 29), 60}, {ringsOf(all, 3, 19), 58}, {ringsOf(all, 4, 15), 61}, {ringsOf(all, 3, 20), 61},
		{ringsOf(all, 29, 2), 59}, {ringsOf(some, 4, 15), 62}, {ringsOf(some, 3, 4, 5), 62}, {ringsOf(all, 3, 4, 5), 61}, {ringsOf(some, 5, 11), 57},
		{ringsOf(all, 5, 7, 11), 386}, {ringsOf(all, 19, 21), 400},
	} {
		want := dfaAsSaid(c.n)
		if len(want.Next) != c.states {
			t.Fatalf("%v has %d states", c.n, len(want.Next))
		}
		checkGoodNfa(t, c.n, true)
		checkDfaOf(t, c.n, want)
	}
	// more sets of places than could be gone through
	checkDfaOf(t, ringsOf(all, 2, 3, 5, 7, 11), impl.Dfa{})
	n := nfa(t, "((a|b)*(a((a|b)((a|b)((a|b)((a|b)((a|b)(a|b))))))))")
	if len(dfaAsSaid(n).Next) <= mostStates {
		t.Fatalf("%v has few states", n)
	}
	checkDfaOf(t, n, impl.Dfa{})
	checkRunNfa(t, n, []int{97, 98, 97, 97, 97, 97, 98, 98}, false)
	checkRunNfa(t, n, []int{98, 97, 98, 97, 97, 97, 98, 98}, true)
}

// twoStates: a good machine, of which the tests turn one field at a time.
func twoStates() impl.Dfa {
	return impl.Dfa{Cuts: []int{97, 98}, Next: [][]int{{0, 1, 0}, {1, 1, 0}}, Final: []bool{false, true}}
}

func TestGoodDfaByItsNext(t *testing.T) {
	for _, row := range append(shortLists(4, []int{-1, 0, 1, 2}), []int{0, math.MinInt, 1}, []int{math.MaxInt, 0, 0}, []int{0, 0, 1 << 32}, make([]int, 100000)) {
		for state := range 2 {
			d := twoStates()
			d.Next[state] = row
			want := len(row) == 3 && slices.Min(row) >= 0 && slices.Max(row) <= 1
			checkGoodDfa(t, d, want)
			if !want {
				checkNoAnswerOfDfa(t, d)
			}
		}
	}
	for count := range 5 {
		d := twoStates()
		d.Final = make([]bool, count)
		checkGoodDfa(t, d, count == 2)
		d = twoStates()
		d.Next = slices.Repeat([][]int{{0, 0, 0}}, count)
		checkGoodDfa(t, d, count == 2)
		d.Final = make([]bool, count)
		checkGoodDfa(t, d, count >= 1)
	}
}

func TestGoodDfaByItsCuts(t *testing.T) {
	for _, cuts := range append(shortLists(3, []int{-1, 0, 1, 2, 97, 55296, lastRune, lastRune + 1}), []int{math.MinInt}, []int{math.MaxInt}, []int{1, math.MaxInt}, []int{97, math.MinInt}) {
		d := impl.Dfa{Cuts: cuts, Next: [][]int{make([]int, len(cuts)+1)}, Final: []bool{true}}
		want := isRising(cuts, 1, lastRune)
		checkGoodDfa(t, d, want)
		if !want {
			checkNoAnswerOfDfa(t, d)
		}
	}
	for _, first := range []int{1, 2, 500, 55296, lastRune - 39, lastRune - 38} {
		for _, count := range []int{39, 40, 41, 42, 1000} {
			cuts := numbersFrom(first, count)
			d := impl.Dfa{Cuts: cuts, Next: [][]int{make([]int, count+1)}, Final: []bool{true}}
			want := count <= mostCuts && cuts[count-1] <= lastRune
			checkGoodDfa(t, d, want)
			if !want {
				checkNoAnswerOfDfa(t, d)
			}
		}
	}
	many := impl.Dfa{Cuts: numbersFrom(1, 40), Next: [][]int{numbersFrom(0, 41), numbersFrom(1, 41)}, Final: make([]bool, 42)}
	for len(many.Next) < 42 {
		many.Next = append(many.Next, make([]int, 41))
	}
	many.Final[17], many.Final[40], many.Final[41] = true, true, true
	for r := range 60 {
		checkRunDfa(t, many, []int{r}, r == 17 || r >= 40)
		checkRunDfa(t, many, []int{1, r}, r == 16 || r >= 39)
	}
	checkRunDfa(t, many, []int{lastRune}, true)
}

func TestGoodDfaByItsStates(t *testing.T) {
	checkGoodDfa(t, impl.Dfa{}, false)
	checkGoodDfa(t, impl.Dfa{Next: [][]int{}, Final: []bool{}}, false)
	checkGoodDfa(t, impl.Dfa{Cuts: []int{97}}, false)
	checkGoodDfa(t, impl.Dfa{Next: [][]int{{0}}, Final: []bool{false}}, true)
	checkGoodDfa(t, impl.Dfa{Cuts: []int{}, Next: [][]int{{0}}, Final: []bool{true}}, true)
	checkGoodDfa(t, impl.Dfa{Next: [][]int{nil}, Final: []bool{true}}, false)
	for _, states := range []int{1, 2, 59, 60, 61, 62, 64, 1000} {
		d := ringOf(0, states)
		checkGoodDfa(t, d, states <= mostStates)
		if states > mostStates {
			checkNoAnswerOfDfa(t, d)
		}
	}
	for _, d := range manyDfas(500, mostStates, 97, 98, 120) {
		checkGoodDfa(t, d, isGoodDfaAsSaid(d))
	}
}

func checkNoAnswerOfDfa(t *testing.T, d impl.Dfa) {
	t.Helper()
	checkGoodDfa(t, d, false)
	for _, l := range [][]int{nil, {97}, {97, 98}, {-1}} {
		checkNotRunDfa(t, d, l)
	}
	checkLeast(t, d, impl.Dfa{})
	checkNot(t, d, impl.Dfa{})
	fine := impl.Dfa{Cuts: d.Cuts, Next: [][]int{make([]int, len(d.Cuts)+1)}, Final: []bool{true}}
	for _, pair := range [][2]impl.Dfa{{d, d}, {d, fine}, {fine, d}, {d, twoStates()}, {twoStates(), d}} {
		checkBoth(t, pair[0], pair[1], impl.Dfa{})
		checkNotSameAsked(t, pair[0], pair[1])
	}
	if is, ok := impl.IsNoneDfa(d); is || ok {
		t.Fatalf("IsNoneDfa(%v) = %v, %v", d, is, ok)
	}
	checkShort(t, d, nil, false)
}

func TestRunDfaByHand(t *testing.T) {
	d := twoStates()
	for _, c := range []struct {
		l    []int
		want bool
	}{
		{nil, false}, {[]int{}, false}, {[]int{97}, true}, {[]int{96}, false}, {[]int{98}, false}, {[]int{0}, false}, {[]int{lastRune}, false},
		{[]int{97, 0}, true}, {[]int{97, 97}, true}, {[]int{97, 98}, false}, {[]int{97, lastRune}, false}, {[]int{98, 97}, true}, {[]int{97, 98, 97, 96, 96}, true},
	} {
		checkRunDfa(t, d, c.l, c.want)
		checkRunDfa(t, notOf(d), c.l, !c.want)
	}
	checkRunDfa(t, impl.Dfa{Next: [][]int{{0}}, Final: []bool{true}}, nil, true)
	checkRunDfa(t, impl.Dfa{Next: [][]int{{0}}, Final: []bool{false}}, []int{5}, false)
	// a cut is the first number of its entry
	edges := impl.Dfa{Cuts: []int{1, 55296, 57344, lastRune}, Next: [][]int{{0, 1, 2, 3, 4}, {0, 0, 0, 0, 0}, {0, 0, 0, 0, 0}, {0, 0, 0, 0, 0}, {0, 0, 0, 0, 0}}, Final: make([]bool, 5)}
	for state, runes := range [][]int{{0}, {1, 2, 55295}, nil, {57344, lastRune - 1}, {lastRune}} {
		for _, r := range runes {
			for other := range 5 {
				edges.Final = make([]bool, 5)
				edges.Final[other] = true
				checkRunDfa(t, edges, []int{r}, other == state)
			}
		}
	}
}

func TestRunDfaAsSaid(t *testing.T) {
	lists := shortLists(3, []int{0, 96, 97, 98, 57344, lastRune})
	for _, d := range slices.Concat(manyDfas(200, 6, 97, 98, 57344), manyDfas(100, mostStates, 1, 97, lastRune)) {
		for _, l := range lists {
			checkRunDfa(t, d, l, d.Final[stateBehind(d, l)])
		}
	}
}

func TestLeastDfaByHand(t *testing.T) {
	cuts := []int{97}
	yes := impl.Dfa{Cuts: cuts, Next: [][]int{{0, 0}}, Final: []bool{true}}
	no := impl.Dfa{Cuts: cuts, Next: [][]int{{0, 0}}, Final: []bool{false}}
	for _, c := range []struct{ d, want impl.Dfa }{
		{yes, yes},
		{no, no},
		// it takes all, or nothing, by several states
		{impl.Dfa{Cuts: cuts, Next: [][]int{{1, 2}, {2, 0}, {0, 0}}, Final: []bool{true, true, true}}, yes},
		{impl.Dfa{Cuts: cuts, Next: [][]int{{1, 2}, {2, 0}, {0, 0}}, Final: []bool{false, false, false}}, no},
		// a Final that is not met
		{impl.Dfa{Cuts: cuts, Next: [][]int{{0, 0}, {1, 0}}, Final: []bool{false, true}}, no},
		{impl.Dfa{Cuts: cuts, Next: [][]int{{0, 0}, {1, 0}}, Final: []bool{true, false}}, yes},
		{impl.Dfa{Cuts: cuts, Next: [][]int{{2, 2}, {2, 0}, {0, 2}}, Final: []bool{false, true, false}}, no},
		// fewest states already, numbered otherwise
		{impl.Dfa{Cuts: cuts, Next: [][]int{{2, 1}, {1, 1}, {0, 0}}, Final: []bool{false, false, true}}, impl.Dfa{Cuts: cuts, Next: [][]int{{1, 2}, {0, 0}, {2, 2}}, Final: []bool{false, true, false}}},
		{impl.Dfa{Cuts: cuts, Next: [][]int{{0, 2}, {0, 0}, {1, 2}}, Final: []bool{false, true, false}}, impl.Dfa{Cuts: cuts, Next: [][]int{{0, 1}, {2, 1}, {0, 0}}, Final: []bool{false, false, true}}},
		// two that nothing tells apart, the one not met being the lesser one
		{impl.Dfa{Cuts: cuts, Next: [][]int{{3, 0}, {0, 3}, {0, 0}, {0, 3}}, Final: []bool{false, true, false, true}}, impl.Dfa{Cuts: cuts, Next: [][]int{{1, 0}, {0, 1}}, Final: []bool{false, true}}},
		// told apart by a list of two only
		{impl.Dfa{Cuts: cuts, Next: [][]int{{1, 2}, {3, 3}, {4, 3}, {3, 3}, {5, 5}, {5, 5}}, Final: []bool{false, false, false, false, true, false}},
			impl.Dfa{Cuts: cuts, Next: [][]int{{1, 2}, {1, 1}, {3, 1}, {1, 1}}, Final: []bool{false, false, false, true}}},
		// entries that need not be apart stay so
		{impl.Dfa{Cuts: []int{5, 9}, Next: [][]int{{1, 1, 1}, {0, 0, 0}}, Final: []bool{true, true}}, impl.Dfa{Cuts: []int{5, 9}, Next: [][]int{{0, 0, 0}}, Final: []bool{true}}},
		// what only numbers that are no runes tell apart is apart
		{impl.Dfa{Cuts: []int{55296, 57344}, Next: [][]int{{0, 1, 0}, {1, 1, 1}}, Final: []bool{false, true}}, impl.Dfa{Cuts: []int{55296, 57344}, Next: [][]int{{0, 1, 0}, {1, 1, 1}}, Final: []bool{false, true}}},
	} {
		checkLeast(t, c.d, c.want)
		checkLeast(t, c.want, c.want)
		if !isSameMachine(leastAsSaid(c.d), c.want) {
			t.Fatalf("the test's own least machine of %v is %v", c.d, leastAsSaid(c.d))
		}
	}
	for _, c := range []struct {
		s      string
		states int
	}{
		{"()", 2}, {"[]", 1}, {".", 3}, {".*", 1}, {"a*", 2}, {"a", 3}, {"(a|b)*", 2}, {"(a*b*)*", 2}, {"(ab)*", 3}, {"((aa)|(bb))*", 4}, {"(.*(ab))", 3},
		{"(a(a|b))", 4}, {"([]a)", 1}, {"((a|b)*(a(a|b)))", 5}, {"(.*(a(..)))", 8}, {"((aa)*|((aa)a)*)", 7},
	} {
		least, ok := impl.LeastDfa(dfa(t, c.s))
		if !ok || len(least.Next) != c.states {
			t.Errorf("LeastDfa of %s = %v, %v", c.s, least, ok)
		}
	}
}

func TestLeastDfaOfAllSmallMachines(t *testing.T) {
	check := func(d impl.Dfa) {
		want := leastAsSaid(d)
		checkLeast(t, d, want)
		checkLeast(t, want, want)
		short, ok := shortAsSaid(d)
		checkShort(t, d, short, ok)
		checkNone(t, d, !ok)
	}
	for states := 1; states <= 3; states++ {
		eachDfa(states, nil, check)
		eachDfa(states, []int{97}, check)
	}
	eachDfa(4, nil, check)
	eachDfa(5, nil, check)
	eachDfa(2, []int{97, 98}, check)
}

func TestLeastDfaOfManyMachines(t *testing.T) {
	lists := shortLists(3, []int{0, 97, 98, lastRune})
	for _, d := range slices.Concat(manyDfas(600, 9, 97, 98), manyDfas(300, 12, 98), manyDfas(150, mostStates, 97), manyDfas(40, mostStates, numbersFrom(90, mostCuts)...)) {
		want := leastAsSaid(d)
		checkLeast(t, d, want)
		checkLeast(t, want, want)
		least, _ := impl.LeastDfa(d)
		for _, l := range lists {
			checkRunDfa(t, least, l, d.Final[stateBehind(d, l)])
		}
	}
	// machines of which many states are alike
	for i, d := range manyDfas(200, 7, 97, 98) {
		twice := twiceOver(d, i)
		checkLeast(t, twice, leastAsSaid(d))
		checkSameDfa(t, d, twice, true)
		checkSameDfa(t, twice, notOf(d), false)
	}
}

// twiceOver: each state is there twice, and Next leads to one or the other.
func twiceOver(d impl.Dfa, seed int) impl.Dfa {
	c := chances(seed)
	twice := impl.Dfa{Cuts: d.Cuts}
	for state := range 2 * len(d.Next) {
		var row []int
		for _, next := range d.Next[state/2] {
			row = append(row, 2*next+c.next(2))
		}
		twice.Next = append(twice.Next, row)
		twice.Final = append(twice.Final, d.Final[state/2])
	}
	return twice
}

func TestLeastDfaAtMaxStates(t *testing.T) {
	// each tells as many states as it has: none is like another one
	for _, d := range []impl.Dfa{ringOf(0, mostStates), ringOf(20, 40), ringOf(59, 1)} {
		checkLeast(t, d, d)
		checkSameDfa(t, d, d, true)
		checkNot(t, d, notOf(d))
		checkShort(t, d, make([]int, mostStates-1), true)
		checkNone(t, d, false)
	}
	// a ring of which half the states, a third and so on would do
	for _, part := range []int{1, 2, 3, 4, 5, 6, 10, 12, 15, 20, 30} {
		d := ringOf(0, mostStates)
		for state := range d.Final {
			d.Final[state] = state%part == part-1
		}
		checkLeast(t, d, ringOf(0, part))
		checkSameDfa(t, d, ringOf(0, part), true)
		checkSameDfa(t, ringOf(0, part), d, true)
		checkSameDfa(t, d, ringOf(0, mostStates), false)
	}
}

func TestNotDfa(t *testing.T) {
	checkNot(t, twoStates(), impl.Dfa{Cuts: []int{97, 98}, Next: [][]int{{0, 1, 0}, {1, 1, 0}}, Final: []bool{true, false}})
	lists := shortLists(3, []int{0, 97, 98, lastRune})
	// states that are not met stay, and are the other way round too
	for _, d := range slices.Concat(manyDfas(300, 7, 97, 98), manyDfas(50, mostStates, numbersFrom(60, mostCuts)...)) {
		checkNot(t, d, notOf(d))
		checkNot(t, notOf(d), d)
		not, _ := impl.NotDfa(d)
		for _, l := range lists {
			checkRunDfa(t, not, l, !d.Final[stateBehind(d, l)])
		}
		again, ok := impl.NotDfa(not)
		checkDfa(t, "NotDfa of NotDfa", d, again, ok, d)
		checkSameDfa(t, d, not, false)
		both, ok := impl.BothDfa(d, not)
		if !ok {
			t.Fatalf("BothDfa(%v and its contrary) tells false", d)
		}
		checkNone(t, both, true)
		checkShort(t, both, nil, false)
	}
}

func TestBothDfaByHand(t *testing.T) {
	cuts := []int{97}
	a := impl.Dfa{Cuts: cuts, Next: [][]int{{1, 0}, {0, 1}}, Final: []bool{true, false}}
	b := impl.Dfa{Cuts: cuts, Next: [][]int{{0, 1}, {1, 2}, {2, 0}}, Final: []bool{false, false, true}}
	// (0,0) (1,0) (0,1) (1,1) (0,2) (1,2)
	checkBoth(t, a, b, impl.Dfa{Cuts: cuts, Next: [][]int{{1, 2}, {0, 3}, {3, 4}, {2, 5}, {5, 0}, {4, 1}}, Final: []bool{false, false, false, false, true, false}})
	// (0,0) (0,1) (1,0) (1,1) (2,0) (2,1)
	checkBoth(t, b, a, impl.Dfa{Cuts: cuts, Next: [][]int{{1, 2}, {0, 3}, {3, 4}, {2, 5}, {5, 0}, {4, 1}}, Final: []bool{false, false, false, false, true, false}})
	// pairs that are not met are not there
	checkBoth(t, a, a, a)
	checkBoth(t, a, notOf(a), impl.Dfa{Cuts: cuts, Next: a.Next, Final: []bool{false, false}})
	// states that are alike stay apart
	all := impl.Dfa{Cuts: cuts, Next: [][]int{{1, 1}, {0, 0}}, Final: []bool{true, true}}
	checkBoth(t, all, all, all)
	checkBoth(t, all, impl.Dfa{Cuts: cuts, Next: [][]int{{0, 0}}, Final: []bool{true}}, all)
	// other Cuts
	for _, other := range [][]int{nil, {96}, {98}, {97, 98}, {1, 97}} {
		o := impl.Dfa{Cuts: other, Next: [][]int{make([]int, len(other)+1)}, Final: []bool{true}}
		checkBoth(t, a, o, impl.Dfa{})
		checkBoth(t, o, a, impl.Dfa{})
		checkNotSameAsked(t, a, o)
		checkNotSameAsked(t, o, a)
		checkBoth(t, o, o, o)
		checkSameDfa(t, o, o, true)
	}
}

func TestBothDfaOfManyMachines(t *testing.T) {
	lists := shortLists(3, []int{0, 97, 98, lastRune})
	as, bs := manyDfas(300, 8, 97, 98), manyDfas(400, 7, 97, 98)[100:]
	for i, a := range as {
		b := bs[i]
		checkBoth(t, a, b, bothAsSaid(a, b))
		both, ok := impl.BothDfa(a, b)
		for _, l := range lists {
			if ok {
				checkRunDfa(t, both, l, a.Final[stateBehind(a, l)] && b.Final[stateBehind(b, l)])
			}
		}
		checkSameDfa(t, a, b, areSameAsSaid(a, b))
	}
	as, bs = manyDfas(100, 15, 97), manyDfas(200, 15, 97)[100:]
	for i, a := range as {
		checkBoth(t, a, bs[i], bothAsSaid(a, bs[i]))
	}
}

func TestBothDfaAtMaxStates(t *testing.T) {
	for _, c := range []struct {
		a, b  impl.Dfa
		pairs int
	}{
		{ringOf(0, 4), ringOf(0, 15), 60}, {ringOf(0, 3), ringOf(0, 20), 60}, {ringOf(0, 60), ringOf(0, 60), 60}, {ringOf(0, 60), ringOf(0, 12), 60},
		{ringOf(1, 4), ringOf(0, 15), 61}, {ringOf(0, 4), ringOf(1, 15), 61}, {ringOf(4, 8), ringOf(3, 7), 60}, {ringOf(4, 8), ringOf(5, 7), 61},
		{ringOf(59, 1), ringOf(0, 2), 61}, {ringOf(58, 1), ringOf(0, 2), 60}, {ringOf(0, 60), ringOf(0, 59), 3540},
	} {
		want := bothAsSaid(c.a, c.b)
		if len(want.Next) != c.pairs {
			t.Fatalf("%d pairs", len(want.Next))
		}
		checkBoth(t, c.a, c.b, want)
	}
}

func TestShortInByHand(t *testing.T) {
	cuts := []int{97, 98}
	for _, c := range []struct {
		d    impl.Dfa
		want []int
		ok   bool
	}{
		{impl.Dfa{Next: [][]int{{0}}, Final: []bool{true}}, nil, true},
		{impl.Dfa{Next: [][]int{{0}}, Final: []bool{false}}, nil, false},
		{impl.Dfa{Next: [][]int{{1}, {0}}, Final: []bool{false, true}}, []int{0}, true},
		// a Final that is not met
		{impl.Dfa{Next: [][]int{{0}, {0}}, Final: []bool{false, true}}, nil, false},
		{impl.Dfa{Cuts: cuts, Next: [][]int{{0, 0, 0}, {2, 2, 2}, {2, 2, 2}}, Final: []bool{false, true, true}}, nil, false},
		// the empty list is the shortest one
		{impl.Dfa{Cuts: cuts, Next: [][]int{{1, 1, 1}, {1, 1, 1}}, Final: []bool{true, true}}, nil, true},
		// several of one number
		{impl.Dfa{Cuts: cuts, Next: [][]int{{0, 1, 1}, {0, 0, 0}}, Final: []bool{false, true}}, []int{97}, true},
		{impl.Dfa{Cuts: cuts, Next: [][]int{{0, 2, 1}, {0, 0, 0}, {0, 0, 0}}, Final: []bool{false, true, true}}, []int{97}, true},
		{impl.Dfa{Cuts: cuts, Next: [][]int{{1, 1, 1}, {0, 0, 0}}, Final: []bool{false, true}}, []int{0}, true},
		// a shorter one by a greater number
		{impl.Dfa{Cuts: cuts, Next: [][]int{{1, 1, 2}, {2, 2, 2}, {2, 2, 2}}, Final: []bool{false, false, true}}, []int{98}, true},
		// the first unlike number decides, not the last one, nor the state
		{impl.Dfa{Cuts: cuts, Next: [][]int{{3, 2, 1}, {4, 3, 3}, {3, 3, 4}, {3, 3, 3}, {3, 3, 3}}, Final: []bool{false, false, false, false, true}}, []int{97, 98}, true},
		{impl.Dfa{Cuts: cuts, Next: [][]int{{5, 2, 1}, {4, 5, 5}, {5, 5, 3}, {5, 5, 5}, {5, 5, 5}, {5, 5, 5}}, Final: []bool{false, false, false, true, true, false}}, []int{97, 98}, true},
		{impl.Dfa{Cuts: cuts, Next: [][]int{{1, 2, 0}, {0, 0, 3}, {3, 3, 3}, {0, 0, 0}}, Final: []bool{false, false, false, true}}, []int{0, 98}, true},
		// numbers that are no runes
		{impl.Dfa{Cuts: []int{55296, 57344}, Next: [][]int{{0, 1, 0}, {0, 0, 0}}, Final: []bool{false, true}}, []int{55296}, true},
		{impl.Dfa{Cuts: []int{56000}, Next: [][]int{{0, 1}, {0, 2}, {0, 0}}, Final: []bool{false, false, true}}, []int{56000, 56000}, true},
		{impl.Dfa{Cuts: []int{lastRune}, Next: [][]int{{0, 1}, {0, 0}}, Final: []bool{false, true}}, []int{lastRune}, true},
	} {
		checkShort(t, c.d, c.want, c.ok)
		checkNone(t, c.d, !c.ok)
		if l, ok := shortAsSaid(c.d); !slices.Equal(l, c.want) || ok != c.ok {
			t.Fatalf("the test's own shortest list of %v is %v, %v", c.d, l, ok)
		}
	}
}

func TestShortInOfManyMachines(t *testing.T) {
	for _, d := range slices.Concat(manyDfas(600, 6, 97, 98), manyDfas(400, 9, 55296), manyDfas(300, 5, 1, 97, lastRune)) {
		want, ok := shortAsSaid(d)
		checkShort(t, d, want, ok)
		checkNone(t, d, !ok)
	}
	for _, d := range manyDfas(300, mostStates, 97, 98) {
		none := isNoneAsSaid(d)
		checkNone(t, d, none)
		l, ok := impl.ShortIn(d)
		if ok == none || ok && !d.Final[stateBehind(d, l)] {
			t.Fatalf("ShortIn(%v) = %v, %v", d, l, ok)
		}
	}
}

func TestSameDfaByHand(t *testing.T) {
	for _, c := range []struct {
		a, b string
		want bool
	}{
		{"(a|b)*", "(a*b*)*", true}, {"(a|b)*", "(b|a)*", true}, {"(ab)*", "(()|(a((ba)*b)))", true}, {"a**", "a*", true}, {"(a*a)", "(aa*)", true}, {"([]a)", "(a[])", true},
		{"(ab)", "(ba)", false}, {"a*", "(aa*)", false}, {"(a|b)", "(a|b)*", false}, {"(aa)*", "a*", false}, {"(a(b|()))", "(ab)", false},
	} {
		checkSameDfa(t, dfa(t, c.a), dfa(t, c.b), c.want)
		checkSameDfa(t, dfa(t, c.b), dfa(t, c.a), c.want)
		if got := areSameAsSaid(dfa(t, c.a), dfa(t, c.b)); got != c.want {
			t.Fatalf("the test's own answer for %s and %s is %v", c.a, c.b, got)
		}
	}
	// the same lists, but by other Cuts
	checkNotSameAsked(t, dfa(t, "[]"), dfa(t, "([]a)"))
	checkNotSameAsked(t, dfa(t, "(a|b)"), dfa(t, "[a-b]"))
	checkNotSameAsked(t, dfa(t, "a"), dfa(t, "b"))
}

func TestSameDfaOfSmallMachines(t *testing.T) {
	var all []impl.Dfa
	for states := 1; states <= 2; states++ {
		eachDfa(states, []int{97}, func(d impl.Dfa) { all = append(all, d) })
	}
	for _, a := range all {
		for _, b := range all {
			checkSameDfa(t, a, b, areSameAsSaid(a, b))
		}
	}
	as := manyDfas(200, 3, 97)
	for i, a := range as {
		b := as[(i*7+1)%len(as)]
		checkSameDfa(t, a, b, areSameAsSaid(a, b))
		checkSameDfa(t, a, leastAsSaid(a), true)
	}
}

// Two patterns match the same just where none of both machines takes what the
// other one does not.
func TestPatternsAreToldApartByTheirMachines(t *testing.T) {
	leaves := [][]impl.Re{runeRe(97), emptyRe()}
	patterns := slices.DeleteFunc(plainUpTo(4, leaves...), func(p []impl.Re) bool { return len(setsOf(p)) == 0 })
	lists := shortLists(6, []int{97, 98})
	for _, p := range patterns {
		for _, q := range patterns {
			a, _ := impl.DfaOf(nfaAsSaid(p))
			b, _ := impl.DfaOf(nfaAsSaid(q))
			want := !slices.ContainsFunc(lists, func(l []int) bool {
				inP, _ := impl.RunDfa(a, l)
				inQ, _ := impl.RunDfa(b, l)
				return inP != inQ
			})
			checkSameDfa(t, a, b, want)
			onlyA, _ := impl.BothDfa(a, notOf(b))
			onlyB, _ := impl.BothDfa(notOf(a), b)
			noneA, _ := impl.IsNoneDfa(onlyA)
			noneB, _ := impl.IsNoneDfa(onlyB)
			if (noneA && noneB) != want {
				t.Fatalf("%s and %s: %v, %v", textAsSaid(p), textAsSaid(q), noneA, noneB)
			}
		}
	}
}

func cloneNfa(n impl.Nfa) impl.Nfa {
	return impl.Nfa{Empty: n.Empty, Sets: cloneLists(n.Sets), First: slices.Clone(n.First), Last: slices.Clone(n.Last), Follow: cloneLists(n.Follow)}
}

func cloneDfa(d impl.Dfa) impl.Dfa {
	return impl.Dfa{Cuts: slices.Clone(d.Cuts), Next: cloneLists(d.Next), Final: slices.Clone(d.Final)}
}

func cloneLists(lists [][]int) [][]int {
	var clone [][]int
	for _, l := range lists {
		clone = append(clone, slices.Clone(l))
	}
	return clone
}

// spreadLists: the same lists, with more behind each one, and behind all.
func spreadLists(lists [][]int) [][]int {
	var spread [][]int
	for _, l := range lists {
		spread = append(spread, withMore(l, 0, 97, -7))
	}
	return append(spread, []int{0, 0}, []int{97})[:len(lists)]
}

func spreadNfa(n impl.Nfa) impl.Nfa {
	return impl.Nfa{Empty: n.Empty, Sets: spreadLists(n.Sets), First: withMore(n.First, 0, 1, -7), Last: withMore(n.Last, 0, 1, -7), Follow: spreadLists(n.Follow)}
}

func spreadDfa(d impl.Dfa) impl.Dfa {
	return impl.Dfa{Cuts: withMore(d.Cuts, 200, 201, -7), Next: spreadLists(d.Next), Final: append(slices.Clone(d.Final), true, false)[:len(d.Final)]}
}

// wholeOf tells all that stands in some lists and behind them.
func wholeOf(lists ...[]int) string {
	s := ""
	for _, l := range lists {
		s += fmt.Sprint(len(l), l[:cap(l)], ";")
	}
	return s
}

func wholeOfLists(lists [][]int) string { return wholeOf(lists[:cap(lists)]...) }

func wholeOfNfa(n impl.Nfa) string {
	return fmt.Sprint(n.Empty, wholeOf(n.First, n.Last), wholeOfLists(n.Sets), wholeOfLists(n.Follow))
}

func wholeOfDfa(d impl.Dfa) string {
	return fmt.Sprint(wholeOf(d.Cuts), wholeOfLists(d.Next), d.Final[:cap(d.Final)])
}

func listsOfNfa(n impl.Nfa) [][]int {
	return slices.Concat([][]int{n.First, n.Last}, n.Sets, n.Follow)
}

func listsOfDfa(d impl.Dfa) [][]int { return slices.Concat([][]int{d.Cuts}, d.Next) }

// overwriteNfa writes into all memory of a machine that is answered: what lies
// behind its lists, too.
func overwriteNfa(n impl.Nfa) {
	for _, l := range listsOfNfa(n) {
		overwrite(l)
	}
	clear(n.Sets[:cap(n.Sets)])
	clear(n.Follow[:cap(n.Follow)])
}

func overwriteDfa(d impl.Dfa) {
	for _, l := range listsOfDfa(d) {
		overwrite(l)
	}
	clear(d.Next[:cap(d.Next)])
	for i := range d.Final[:cap(d.Final)] {
		d.Final[:cap(d.Final)][i] = !d.Final[:cap(d.Final)][i]
	}
}

// checkListsApart: writing into one list of an answer, and behind it, changes
// no other one.
func checkListsApart(t *testing.T, what string, lists [][]int) {
	t.Helper()
	kept := cloneLists(lists)
	for i, l := range lists {
		overwrite(l)
		for k := i + 1; k < len(lists); k++ {
			if !slices.Equal(lists[k], kept[k]) {
				t.Fatalf("two lists of an answer of %s share memory: %v", what, kept)
			}
		}
	}
}

// A dfaFn is one of those that make a machine of states of one.
type dfaFn struct {
	name string
	fn   func(d impl.Dfa) (impl.Dfa, bool)
}

var dfaFns = []dfaFn{
	{"LeastDfa", impl.LeastDfa}, {"NotDfa", impl.NotDfa},
	{"BothDfa", func(d impl.Dfa) (impl.Dfa, bool) { return impl.BothDfa(d, d) }},
	{"BothDfa with another one", func(d impl.Dfa) (impl.Dfa, bool) { return impl.BothDfa(d, twoStates()) }},
}

func badNfas() []impl.Nfa {
	few := twoPlaces()
	few.Follow = few.Follow[:1]
	twice := twoPlaces()
	twice.Last = []int{1, 1}
	noSet := twoPlaces()
	noSet.Sets[1] = []int{98, 97}
	return []impl.Nfa{few, twice, noSet, {First: []int{0}}, ringsOf([]int{97, 97}, 41)}
}

func badDfas() []impl.Dfa {
	few := twoStates()
	few.Final = few.Final[:1]
	noState := twoStates()
	noState.Next[1] = []int{0, 2, 0}
	noCut := twoStates()
	noCut.Cuts = []int{97, 97}
	return []impl.Dfa{{}, few, noState, noCut, ringOf(0, 61)}
}

func TestMachinesOfPlacesAreNotWrittenIntoNorReadFurther(t *testing.T) {
	for _, plain := range slices.Concat(badNfas(), manyNfas(300, 6), []impl.Nfa{{}, ringsOf([]int{97, 97}, 2, 29), withSets(spansOf(10, 12, 2, 2), spansOf(10, 12, 2, 2))}) {
		n := spreadNfa(plain)
		before := wholeOfNfa(n)
		l := withMore([]int{97, 98}, 98, -7)
		if impl.GoodNfa(n) != isGoodNfaAsSaid(plain) {
			t.Fatalf("GoodNfa(%v) hangs on what lies behind the lists", plain)
		}
		is, ok := impl.RunNfa(n, l)
		if ok != isGoodNfaAsSaid(plain) || ok && is != takesAsSaid(plain, []int{97, 98}) {
			t.Fatalf("RunNfa(%v) hangs on what lies behind the lists", plain)
		}
		cuts, ok := impl.CutsOf(n)
		if ok && !slices.Equal(cuts, cutsAsSaid(plain)) {
			t.Fatalf("CutsOf(%v) hangs on what lies behind the lists", plain)
		}
		overwrite(cuts)
		d, ok := impl.DfaOf(n)
		if ok && !isSameMachine(d, dfaAsSaid(plain)) {
			t.Fatalf("DfaOf(%v) hangs on what lies behind the lists", plain)
		}
		overwriteDfa(d)
		if wholeOfNfa(n) != before || !slices.Equal(l[:4], []int{97, 98, 98, -7}) {
			t.Fatalf("%v was written into, or an answer shares its memory", plain)
		}
	}
}

func TestMachinesOfStatesAreNotWrittenIntoNorReadFurther(t *testing.T) {
	for _, plain := range slices.Concat(badDfas(), manyDfas(200, 6, 97, 98), manyDfas(20, mostStates, 97, 98), manyDfas(50, 5), manyDfas(5, 5, numbersFrom(30, 40)...)) {
		d := spreadDfa(plain)
		before := wholeOfDfa(d)
		l := withMore([]int{97, 98}, 98, -7)
		if impl.GoodDfa(d) != isGoodDfaAsSaid(plain) {
			t.Fatalf("GoodDfa(%v) hangs on what lies behind the lists", plain)
		}
		is, ok := impl.RunDfa(d, l)
		if ok != isGoodDfaAsSaid(plain) || ok && is != plain.Final[stateBehind(plain, []int{97, 98})] {
			t.Fatalf("RunDfa(%v) hangs on what lies behind the lists", plain)
		}
		for _, f := range dfaFns {
			got, ok := f.fn(d)
			want, wantOk := f.fn(cloneDfa(plain))
			if ok != wantOk || !isSameMachine(got, want) {
				t.Fatalf("%s of %v hangs on what lies behind the lists", f.name, plain)
			}
			overwriteDfa(got)
		}
		impl.IsNoneDfa(d)
		impl.SameDfa(d, d)
		impl.SameDfa(twoStates(), d)
		short, _ := impl.ShortIn(d)
		overwrite(short)
		if wholeOfDfa(d) != before || !slices.Equal(l[:4], []int{97, 98, 98, -7}) {
			t.Fatalf("%v was written into, or an answer shares its memory", plain)
		}
	}
}

func TestNfaOfWritesIntoNoPattern(t *testing.T) {
	for _, plain := range slices.Concat(badPatterns()[:40], patternsUpTo(4, fewLeaves...), manyPlain(200, mostNodes, manyLeaves...)) {
		p, numbers := spreadRe(plain)
		before, kept := cloneRe(p[:len(p)+2]), cloneLists(numbers)
		n, ok := impl.NfaOf(p)
		if ok && !isSameNfa(n, nfaAsSaid(plain)) {
			t.Fatalf("NfaOf(%v) hangs on what lies behind the lists", plain)
		}
		overwriteNfa(n)
		if !isSameRe(p[:len(p)+2], before) || !slices.EqualFunc(numbers, kept, slices.Equal) {
			t.Fatalf("%v was written into, or an answer shares its memory", plain)
		}
	}
}

func TestMachinesAreNewMemory(t *testing.T) {
	for _, p := range slices.Concat(plainUpTo(4, fewLeaves...), manyPlain(200, mostNodes, manyLeaves...)) {
		first, _ := impl.NfaOf(p)
		second, _ := impl.NfaOf(p)
		kept := cloneNfa(second)
		overwriteNfa(first)
		if third, _ := impl.NfaOf(p); !isSameNfa(second, kept) || !isSameNfa(third, kept) {
			t.Fatalf("two answers of NfaOf(%s) share memory", textAsSaid(p))
		}
		checkListsApart(t, "NfaOf", listsOfNfa(second))
		checkDfaApart(t, "DfaOf", func() impl.Dfa { d, _ := impl.DfaOf(kept); return d })
		cuts, _ := impl.CutsOf(kept)
		overwrite(cuts)
		if cuts, ok := impl.CutsOf(kept); ok && !slices.Equal(cuts, cutsAsSaid(kept)) {
			t.Fatalf("two answers of CutsOf(%v) share memory", kept)
		}
	}
	for _, d := range slices.Concat(manyDfas(100, 6, 97, 98), manyDfas(50, 6), manyDfas(10, mostStates, 97, 98)) {
		for _, f := range dfaFns {
			checkDfaApart(t, f.name, func() impl.Dfa { made, _ := f.fn(d); return made })
		}
		first, _ := impl.ShortIn(d)
		second, _ := impl.ShortIn(d)
		kept := slices.Clone(second)
		overwrite(first)
		if !slices.Equal(second, kept) {
			t.Fatalf("two answers of ShortIn(%v) share memory", d)
		}
	}
}

// checkDfaApart: two answers share no memory, and no two lists of one do.
func checkDfaApart(t *testing.T, what string, make func() impl.Dfa) {
	t.Helper()
	first, second := make(), make()
	kept := cloneDfa(second)
	overwriteDfa(first)
	if !isSameMachine(second, kept) || !isSameMachine(make(), kept) {
		t.Fatalf("two answers of %s share memory", what)
	}
	checkListsApart(t, what, listsOfDfa(second))
}
