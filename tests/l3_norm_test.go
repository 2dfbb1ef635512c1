package tests

import (
	"math"
	"slices"
	"testing"

	"loop.example/g00692/impl"
)

const mostHeld = impl.MaxHeld

type pair struct {
	a, b int
}

// joinedPairs: all that two runes make, by the three sentences that say so.
var joinedPairs = func() map[pair]int {
	joined := map[pair]int{}
	for place, letter := range "ABCDEFGHIJKLMNOPQRSTUVWXYZabcdefghijklmnopqrstuvwxyz" {
		for mark := 768; mark <= 775; mark++ {
			joined[pair{int(letter), mark}] = 57344 + 8*place + mark - 768
		}
	}
	for i := range 19 {
		for k := range 21 {
			two := 44032 + 588*i + 28*k
			joined[pair{4352 + i, 4449 + k}] = two
			for m := 1; m <= 27; m++ {
				joined[pair{two, 4519 + m}] = two + m
			}
		}
	}
	return joined
}()

// partsOf: what each joined rune is made of, in the end.
var partsOf = func() map[int][]int {
	made := map[int]pair{}
	for p, r := range joinedPairs {
		made[r] = p
	}
	parts := map[int][]int{}
	for r, p := range made {
		if two, ok := made[p.a]; ok {
			parts[r] = []int{two.a, two.b, p.b}
		} else {
			parts[r] = []int{p.a, p.b}
		}
	}
	return parts
}()

// orderAsSaid: the orders of 770 to 774 are 1 to 5, and so on every five.
func orderAsSaid(r int) int {
	if r < 768 || r > 879 {
		return 0
	}
	return (r-765)%5 + 1
}

func splitAsSaid(l []int) []int {
	var out []int
	for _, r := range l {
		if parts, ok := partsOf[r]; ok {
			out = append(out, parts...)
		} else {
			out = append(out, r)
		}
	}
	return out
}

func sortAsSaid(l []int) []int {
	out := slices.Clone(l)
	for from := 0; from < len(out); from++ {
		to := from
		for to < len(out) && orderAsSaid(out[to]) > 0 {
			to++
		}
		slices.SortStableFunc(out[from:to], func(a, b int) int { return orderAsSaid(a) - orderAsSaid(b) })
		from = to
	}
	return out
}

func joinAsSaid(l []int) []int {
	var out []int
	for _, r := range l {
		base := len(out) - 1
		for base >= 0 && orderAsSaid(out[base]) > 0 {
			base--
		}
		may := base >= 0
		for _, m := range out[base+1:] {
			may = may && orderAsSaid(m) < orderAsSaid(r)
		}
		if may {
			if joined, ok := joinedPairs[pair{out[base], r}]; ok {
				out[base] = joined
				continue
			}
		}
		out = append(out, r)
	}
	return out
}

func normalAsSaid(l []int) []int { return joinAsSaid(sortAsSaid(splitAsSaid(l))) }

// eachShortList hands over all lists of at most n of the runes.
func eachShortList(n int, runes []int, use func([]int)) {
	var from func([]int)
	from = func(l []int) {
		use(slices.Clone(l))
		if len(l) == n {
			return
		}
		for _, r := range runes {
			from(append(slices.Clip(l), r))
		}
	}
	from(nil)
}

// eachListCutting hands over a list cut at none, some, and all of its places.
func eachListCutting(l []int, use func([][]int)) {
	for cuts := range 1 << max(0, len(l)-1) {
		var pieces [][]int
		from := 0
		for i := 1; i < len(l); i++ {
			if cuts>>(i-1)&1 == 1 {
				pieces, from = append(pieces, l[from:i]), i
			}
		}
		use(append(pieces, l[from:]))
	}
}

// formRunes: letters, marks of each order that are joined and that are not,
// parts of syllables, syllables of two and of three, and others.
var formRunes = []int{97, 57553, 768, 769, 770, 775, 779, 780, 4352, 4449, 4520, 44032, 44033, 64}

// A listFn is one of those that make one list of another one.
type listFn struct {
	name string
	fn   func([]int) ([]int, bool)
	want func([]int) []int
}

var splitting = listFn{"SplitAll", impl.SplitAll, splitAsSaid}
var sorting = listFn{"SortMarks", impl.SortMarks, sortAsSaid}
var joining = listFn{"JoinAll", impl.JoinAll, joinAsSaid}
var forming = listFn{"NormalOf", impl.NormalOf, normalAsSaid}
var flushing = listFn{"FlushNorm", flushHeld, func(l []int) []int { return joinAsSaid(sortAsSaid(l)) }}

var listFns = []listFn{splitting, sorting, joining, forming, flushing}

func flushHeld(l []int) ([]int, bool) { return impl.FlushNorm(impl.Norm{Held: l}) }

func checkList(t *testing.T, f listFn, l []int, want []int) {
	t.Helper()
	if got, ok := f.fn(l); !ok || !slices.Equal(got, want) {
		t.Fatalf("%s(%v) = %v, %v; not %v, true", f.name, l, got, ok, want)
	}
}

func checkNoList(t *testing.T, f listFn, l []int) {
	t.Helper()
	if got, ok := f.fn(l); len(got) != 0 || ok {
		t.Errorf("%s of %d runes = %v, %v", f.name, len(l), got, ok)
	}
}

func checkIsNormal(t *testing.T, l []int, want bool) {
	t.Helper()
	if is, ok := impl.IsNormal(l); is != want || !ok {
		t.Fatalf("IsNormal(%v) = %v, %v; not %v, true", l, is, ok, want)
	}
}

func checkSame(t *testing.T, a []int, b []int, want bool) {
	t.Helper()
	for _, p := range [][2][]int{{a, b}, {b, a}} {
		if same, ok := impl.SameText(p[0], p[1]); same != want || !ok {
			t.Fatalf("SameText(%v, %v) = %v, %v; not %v, true", p[0], p[1], same, ok, want)
		}
	}
}

func checkFed(t *testing.T, held []int, l []int, then []int, told []int) {
	t.Helper()
	n, got, ok := impl.FeedNorm(impl.Norm{Held: held}, l)
	if !ok || !slices.Equal(n.Held, then) || !slices.Equal(got, told) {
		t.Fatalf("FeedNorm(%v, %v) = %v, %v, %v; not %v, %v, true", held, l, n.Held, got, ok, then, told)
	}
}

func checkNormNotFed(t *testing.T, held []int, l []int) {
	t.Helper()
	n, got, ok := impl.FeedNorm(impl.Norm{Held: held}, l)
	if len(n.Held) != 0 || len(got) != 0 || ok {
		t.Errorf("FeedNorm of %d held and %d runes = %v, %v, %v", len(held), len(l), n.Held, got, ok)
	}
}

// formInPieces feeds one piece after the other, and flushes.
func formInPieces(t *testing.T, pieces [][]int) []int {
	t.Helper()
	var n impl.Norm
	var out []int
	for _, p := range pieces {
		next, told, ok := impl.FeedNorm(n, p)
		if !ok {
			t.Fatalf("FeedNorm(%v, %v) tells false", n.Held, p)
		}
		n, out = next, append(out, told...)
	}
	last, ok := impl.FlushNorm(n)
	if !ok {
		t.Fatalf("FlushNorm(%v) tells false", n.Held)
	}
	return append(out, last...)
}

func checkForm(t *testing.T, l []int) {
	t.Helper()
	for _, f := range listFns {
		checkList(t, f, l, f.want(l))
	}
	normal := normalAsSaid(l)
	checkList(t, forming, normal, normal)
	checkIsNormal(t, normal, true)
	checkIsNormal(t, l, slices.Equal(l, normal))
	checkSame(t, l, normal, true)
}

func checkFormOfPieces(t *testing.T, pieces [][]int) {
	t.Helper()
	want := normalAsSaid(slices.Concat(pieces...))
	if got := formInPieces(t, pieces); !slices.Equal(got, want) {
		t.Fatalf("pieces %v: %v; all at once %v", pieces, got, want)
	}
}

func TestFormsOfShortLists(t *testing.T) {
	eachShortList(4, formRunes, func(l []int) { checkForm(t, l) })
	// marks of each order, with the least letter and the greatest
	eachShortList(6, []int{65, 771, 772, 878, 4352}, func(l []int) { checkForm(t, l) })
	eachShortList(6, []int{4370, 4469, 4546, 45232, 776}, func(l []int) { checkForm(t, l) })
}

func TestShortListsInAllPieces(t *testing.T) {
	each := func(l []int) { eachListCutting(l, func(pieces [][]int) { checkFormOfPieces(t, pieces) }) }
	eachShortList(4, formRunes, each)
	eachShortList(6, []int{122, 769, 770, 4449}, each)
	eachShortList(6, []int{4352, 4449, 4520, 879}, each)
}

// longLists: each of many runes, of all kinds, and split at most MaxHeld.
func longLists() [][]int {
	var mixed, syllables, marks, letters []int
	for i := range 100 {
		mixed = append(mixed, formRunes[i*i%len(formRunes)], formRunes[(i*5+i/7)%len(formRunes)])
		syllables = append(syllables, 44032+i*111)
		marks = append(marks, 768+i*37%112)
		letters = append(letters, 65+i*7%58, 768+i*3%9)
	}
	middle := slices.Concat(marks, []int{97}, marks, []int{44032, 4520}, marks[:50])
	parts := slices.Repeat([]int{4352, 4449, 4520, 4520, 4449, 771}, 33)
	return [][]int{mixed[:150], syllables, marks, letters, middle, parts}
}

func TestLongListsCutAtEveryPlace(t *testing.T) {
	for _, l := range longLists() {
		checkForm(t, l)
		for i := range len(l) + 1 {
			checkFormOfPieces(t, [][]int{l[:i], l[i:]})
			checkFormOfPieces(t, [][]int{l[:i/2], l[i/2 : i], {}, l[i:], nil})
		}
		for n := 1; n < 9; n++ {
			checkFormOfPieces(t, slices.Collect(slices.Chunk(l, n)))
		}
	}
}

// What is fed again and again may be far longer than one list may be.
func TestMoreThanMaxHeldInPieces(t *testing.T) {
	all := slices.Concat(slices.Repeat(longLists(), 3)...)
	for _, n := range []int{1, 2, 7, 50} {
		checkFormOfPieces(t, slices.Collect(slices.Chunk(all, n)))
	}
}

func TestOrderOf(t *testing.T) {
	for _, c := range []struct{ r, order int }{
		{0, 0}, {97, 0}, {65, 0}, {767, 0}, {768, 4}, {769, 5}, {770, 1}, {771, 2}, {772, 3}, {773, 4}, {774, 5},
		{775, 1}, {776, 2}, {875, 1}, {876, 2}, {877, 3}, {878, 4}, {879, 5}, {880, 0}, {4352, 0}, {4449, 0},
		{4520, 0}, {44032, 0}, {57344, 0}, {bad, 0}, {impl.MaxRune, 0},
	} {
		if o, ok := impl.OrderOf(c.r); o != c.order || !ok {
			t.Errorf("OrderOf(%d) = %d, %v; not %d, true", c.r, o, ok, c.order)
		}
	}
	for r := range impl.MaxRune + 1 {
		if o, ok := impl.OrderOf(r); o != orderAsSaid(r) || ok != impl.GoodRune(r) {
			t.Fatalf("OrderOf(%d) = %d, %v", r, o, ok)
		}
	}
	for _, r := range noRunes {
		if o, ok := impl.OrderOf(r); o != 0 || ok {
			t.Errorf("OrderOf(%d) = %d, %v", r, o, ok)
		}
	}
}

func TestJoinRunesByHand(t *testing.T) {
	for _, c := range []struct{ a, b, joined int }{
		{65, 768, 57344}, {65, 775, 57351}, {66, 768, 57352}, {90, 768, 57544}, {90, 775, 57551},
		{97, 768, 57552}, {97, 769, 57553}, {122, 768, 57752}, {122, 775, 57759},
		{4352, 4449, 44032}, {4352, 4450, 44060}, {4352, 4469, 44592}, {4353, 4449, 44620},
		{4370, 4449, 54616}, {4370, 4469, 55176},
		{44032, 4520, 44033}, {44032, 4546, 44059}, {44060, 4520, 44061}, {54616, 4523, 54620},
		{55176, 4520, 55177}, {55176, 4546, 55203},
	} {
		if r, ok := impl.JoinRunes(c.a, c.b); r != c.joined || !ok {
			t.Errorf("JoinRunes(%d, %d) = %d, %v; not %d, true", c.a, c.b, r, ok, c.joined)
		}
	}
	for _, p := range []pair{
		{64, 768}, {91, 768}, {96, 768}, {123, 768}, {64, 775}, {91, 775}, {96, 775}, {123, 775},
		{65, 767}, {65, 776}, {122, 767}, {122, 776}, {97, 879}, {97, 98}, {768, 97}, {768, 769},
		{57344, 768}, {57553, 770}, {57553, 4520},
		{4351, 4449}, {4371, 4449}, {4352, 4448}, {4352, 4470}, {4370, 4470}, {4449, 4352}, {4352, 4520}, {4449, 4520},
		{44032, 4519}, {44032, 4547}, {55176, 4519}, {55176, 4547}, {44032, 4449}, {44032, 768}, {4352, 768},
		// a third part behind one that is there already, and beyond the syllables
		{44033, 4520}, {44059, 4520}, {44033, 4546}, {55203, 4546}, {55204, 4520}, {44031, 4520}, {44004, 4520},
		{0, 0}, {97, 0}, {0, 768}, {impl.MaxRune, impl.MaxRune},
	} {
		if r, ok := impl.JoinRunes(p.a, p.b); r != 0 || ok {
			t.Errorf("JoinRunes(%d, %d) = %d, %v", p.a, p.b, r, ok)
		}
	}
}

// formEdges: the runes at each bound that chapter 3 names, and one beyond.
var formEdges = []int{
	0, 64, 65, 66, 89, 90, 91, 96, 97, 98, 121, 122, 123, 767, 768, 769, 774, 775, 776, 878, 879, 880,
	4351, 4352, 4353, 4369, 4370, 4371, 4448, 4449, 4450, 4468, 4469, 4470, 4519, 4520, 4521, 4545, 4546, 4547,
	44031, 44032, 44033, 44059, 44060, 44061, 44619, 44620, 55175, 55176, 55177, 55203, 55204, 55231, 55232, 55295,
	57344, 57345, 57551, 57552, 57759, 57760, bad, impl.MaxRune,
}

func TestJoinRunesIsAsSaid(t *testing.T) {
	edges := slices.Concat(formEdges, noRunes)
	for _, a := range edges {
		for _, b := range edges {
			want, join := joinedPairs[pair{a, b}]
			if r, ok := impl.JoinRunes(a, b); r != want || ok != join {
				t.Fatalf("JoinRunes(%d, %d) = %d, %v; not %d, %v", a, b, r, ok, want, join)
			}
		}
	}
	for p, want := range joinedPairs {
		if r, ok := impl.JoinRunes(p.a, p.b); r != want || !ok {
			t.Fatalf("JoinRunes(%d, %d) = %d, %v; not %d, true", p.a, p.b, r, ok, want)
		}
	}
	for r := range impl.MaxRune + 1 {
		for _, p := range []pair{{97, r}, {r, 768}, {4352, r}, {r, 4449}, {44032, r}, {r, 4520}} {
			want, join := joinedPairs[p]
			if got, ok := impl.JoinRunes(p.a, p.b); got != want || ok != join {
				t.Fatalf("JoinRunes(%d, %d) = %d, %v; not %d, %v", p.a, p.b, got, ok, want, join)
			}
		}
	}
}

func TestSplitRune(t *testing.T) {
	for _, c := range []struct {
		r     int
		parts []int
	}{
		{0, []int{0}}, {97, []int{97}}, {768, []int{768}}, {4352, []int{4352}}, {4449, []int{4449}}, {4520, []int{4520}},
		{57344, []int{65, 768}}, {57351, []int{65, 775}}, {57352, []int{66, 768}}, {57551, []int{90, 775}},
		{57552, []int{97, 768}}, {57759, []int{122, 775}}, {57760, []int{57760}}, {55295, []int{55295}},
		{44031, []int{44031}}, {44032, []int{4352, 4449}}, {44033, []int{4352, 4449, 4520}}, {44059, []int{4352, 4449, 4546}},
		{44060, []int{4352, 4450}}, {44620, []int{4353, 4449}}, {54620, []int{4370, 4449, 4523}},
		{55176, []int{4370, 4469}}, {55203, []int{4370, 4469, 4546}}, {55204, []int{55204}}, {impl.MaxRune, []int{impl.MaxRune}},
	} {
		if l, ok := impl.SplitRune(c.r); !ok || !slices.Equal(l, c.parts) {
			t.Errorf("SplitRune(%d) = %v, %v; not %v, true", c.r, l, ok, c.parts)
		}
	}
	for r := range impl.MaxRune + 1 {
		if !impl.GoodRune(r) {
			continue
		}
		if l, ok := impl.SplitRune(r); !ok || !slices.Equal(l, splitAsSaid([]int{r})) {
			t.Fatalf("SplitRune(%d) = %v, %v; not %v, true", r, l, ok, splitAsSaid([]int{r}))
		}
	}
	for _, r := range noRunes {
		if l, ok := impl.SplitRune(r); len(l) != 0 || ok {
			t.Errorf("SplitRune(%d) = %v, %v", r, l, ok)
		}
	}
}

// A changed is a list, and what one of the functions makes of it.
type changed struct {
	l, want []int
}

func checkChanged(t *testing.T, f listFn, cases []changed) {
	t.Helper()
	for _, c := range cases {
		checkList(t, f, c.l, c.want)
	}
}

func TestSplitAll(t *testing.T) {
	checkChanged(t, splitting, []changed{
		{nil, nil},
		{[]int{}, nil},
		{[]int{97, 770, 769}, []int{97, 770, 769}},
		{[]int{57553, 770, 44033, 44032, 0}, []int{97, 769, 770, 4352, 4449, 4520, 4352, 4449, 0}},
		{[]int{55203, 55204, 57759}, []int{4370, 4469, 4546, 55204, 122, 775}},
	})
}

func TestSortMarks(t *testing.T) {
	checkChanged(t, sorting, []changed{
		{nil, nil},
		{[]int{98, 97, 4352, 0}, []int{98, 97, 4352, 0}},
		// each order, and back
		{[]int{769, 768, 772, 771, 770}, []int{770, 771, 772, 768, 769}},
		{[]int{770, 771, 772, 768, 769}, []int{770, 771, 772, 768, 769}},
		// marks of one order stay as they are
		{[]int{774, 769, 879, 779}, []int{774, 769, 879, 779}},
		{[]int{774, 770, 769, 775, 779, 770}, []int{770, 775, 770, 774, 769, 779}},
		// runs at the front, at the end, and with one rune between
		{[]int{769, 770, 97}, []int{770, 769, 97}},
		{[]int{97, 769, 770}, []int{97, 770, 769}},
		{[]int{769, 770, 97, 771, 770}, []int{770, 769, 97, 770, 771}},
		{[]int{769, 97, 770}, []int{769, 97, 770}},
		{[]int{769, 767, 770, 880, 769, 770}, []int{769, 767, 770, 880, 770, 769}},
		{[]int{98, 769, 770, 97, 98, 769, 775}, []int{98, 770, 769, 97, 98, 775, 769}},
		// nothing is split or joined
		{[]int{57553, 769, 770, 4352, 4449}, []int{57553, 770, 769, 4352, 4449}},
	})
}

func TestJoinAll(t *testing.T) {
	checkChanged(t, joining, []changed{
		{nil, nil},
		{[]int{97}, []int{97}},
		{[]int{97, 769}, []int{57553}},
		{[]int{97, 776}, []int{97, 776}},
		// across lesser marks: orders 1, 2, 3, and then 5
		{[]int{97, 780, 769}, []int{57553, 780}},
		{[]int{97, 780, 776, 777, 769}, []int{57553, 780, 776, 777}},
		{[]int{97, 777, 780, 769}, []int{57553, 777, 780}},
		// not across the same order, or a greater one
		{[]int{97, 779, 769}, []int{97, 779, 769}},
		{[]int{97, 779, 770}, []int{97, 779, 770}},
		{[]int{97, 780, 779, 769}, []int{97, 780, 779, 769}},
		{[]int{97, 779, 780, 769}, []int{97, 779, 780, 769}},
		{[]int{97, 779, 780, 773}, []int{97, 779, 780, 773}},
		{[]int{97, 780, 770}, []int{97, 780, 770}},
		// nothing that is no mark ahead of them
		{[]int{769}, []int{769}},
		{[]int{769, 770, 768}, []int{769, 770, 768}},
		{[]int{769, 97, 769}, []int{769, 57553}},
		// two of one order, and a letter that is joined already
		{[]int{97, 769, 774}, []int{57553, 774}},
		{[]int{97, 770, 769}, []int{57554, 769}},
		{[]int{97, 769, 770}, []int{57553, 770}},
		{[]int{57553, 770}, []int{57553, 770}},
		{[]int{57553, 97, 770}, []int{57553, 57554}},
		// only the last that is no mark is base
		{[]int{97, 64, 769}, []int{97, 64, 769}},
		{[]int{64, 97, 769, 98, 768}, []int{64, 57553, 57560}},
		{[]int{97, 780, 98, 780, 769}, []int{97, 780, 57561, 780}},
		// syllables
		{[]int{4352, 4449}, []int{44032}},
		{[]int{4352, 4449, 4520}, []int{44033}},
		{[]int{44032, 4546}, []int{44059}},
		{[]int{4352, 4449, 4520, 4520}, []int{44033, 4520}},
		{[]int{44033, 4520, 4449}, []int{44033, 4520, 4449}},
		{[]int{4352, 4352, 4449, 4449, 4520}, []int{4352, 44032, 4449, 4520}},
		{[]int{4352, 4520, 4449}, []int{4352, 4520, 4449}},
		{[]int{4449, 4520}, []int{4449, 4520}},
		{[]int{97, 4449, 4520}, []int{97, 4449, 4520}},
		// parts of syllables behind marks
		{[]int{4352, 769, 4449}, []int{4352, 769, 4449}},
		{[]int{4352, 4449, 769, 4520}, []int{44032, 769, 4520}},
		{[]int{769, 4352, 4449, 770}, []int{769, 44032, 770}},
		{[]int{44032, 769, 4520, 4352, 4449, 4520, 769}, []int{44032, 769, 4520, 44033, 769}},
	})
}

func TestNormalOf(t *testing.T) {
	checkChanged(t, forming, []changed{
		{nil, nil},
		{[]int{97, 769, 770}, []int{57554, 769}},
		{[]int{57553, 770}, []int{57554, 769}},
		{[]int{57553, 769}, []int{57553, 769}},
		{[]int{57553, 774, 780}, []int{57553, 780, 774}},
		{[]int{97, 769, 780}, []int{57553, 780}},
		{[]int{97, 769, 779}, []int{57553, 779}},
		{[]int{97, 779, 769}, []int{97, 779, 769}},
		{[]int{769, 770, 97}, []int{770, 769, 97}},
		{[]int{4352, 4449, 4520, 44032, 4520}, []int{44033, 44033}},
		{[]int{44033, 4520}, []int{44033, 4520}},
		{[]int{4370, 4449, 4523, 4352, 4467, 4527}, []int{54620, 44544}},
	})
}

func TestIsNormalAndSameText(t *testing.T) {
	for _, l := range [][]int{nil, {97}, {57553}, {57554, 769}, {770, 769, 97}, {44033}, {44033, 4520}, {97, 779, 769}, {4352, 769, 4449}} {
		checkIsNormal(t, l, true)
		checkSame(t, l, slices.Clone(l), true)
	}
	for _, l := range [][]int{{97, 769}, {57553, 770}, {769, 770}, {4352, 4449}, {44032, 4520}, {97, 780, 769}, {97, 57553, 98, 769}} {
		checkIsNormal(t, l, false)
	}
	for _, p := range []struct {
		a, b []int
		same bool
	}{
		{nil, []int{}, true}, {nil, []int{97}, false}, {nil, []int{0}, false}, {[]int{97}, []int{98}, false},
		{[]int{97, 98}, []int{98, 97}, false}, {[]int{97}, []int{97, 97}, false},
		{[]int{97, 769}, []int{57553}, true}, {[]int{97, 769}, []int{57554}, false}, {[]int{97, 769}, []int{97}, false},
		{[]int{4352, 4449, 4520}, []int{44032, 4520}, true}, {[]int{44033}, []int{44032}, false},
		// orders that are unlike do not tell marks apart, one order does
		{[]int{97, 769, 770}, []int{97, 770, 769}, true}, {[]int{57553, 770}, []int{57554, 769}, true},
		{[]int{97, 769, 774}, []int{97, 774, 769}, false}, {[]int{97, 769, 779}, []int{97, 779, 769}, false},
		{[]int{769, 774}, []int{774, 769}, false}, {[]int{769, 773}, []int{773, 769}, true},
		{[]int{97, 769, 98, 770}, []int{97, 770, 98, 769}, false},
	} {
		checkSame(t, p.a, p.b, p.same)
	}
}

func TestFeedNorm(t *testing.T) {
	for _, c := range []struct {
		held, l, then, told []int
	}{
		{nil, nil, nil, nil},
		{nil, []int{97}, []int{97}, nil},
		{[]int{97}, nil, []int{97}, nil},
		{[]int{97, 769}, []int{}, []int{97, 769}, nil},
		{[]int{97, 769}, []int{98}, []int{98}, []int{57553}},
		{[]int{97, 769}, []int{770}, []int{97, 769, 770}, nil},
		{[]int{97, 769}, []int{770, 0}, []int{0}, []int{57554, 769}},
		{nil, []int{97, 769, 98, 770, 769}, []int{98, 770, 769}, []int{57553}},
		// what comes is split, and held so
		{nil, []int{57553}, []int{97, 769}, nil},
		{[]int{97}, []int{44033}, []int{4352, 4449, 4520}, []int{97}},
		{[]int{98, 770}, []int{57553, 770}, []int{97, 769, 770}, []int{57562}},
		// what is held is not split
		{[]int{57553}, []int{770}, []int{57553, 770}, nil},
		{[]int{57553, 770}, []int{98}, []int{98}, []int{57553, 770}},
		{[]int{44032}, []int{4520, 97}, []int{97}, []int{44033}},
		// of more than one that begins in what is held all but the last is told
		{[]int{97, 769, 98, 769}, nil, []int{98, 769}, []int{57553}},
		{[]int{97, 98}, []int{769}, []int{98, 769}, []int{97}},
		// marks alone
		{nil, []int{769, 770}, []int{769, 770}, nil},
		{[]int{769, 770}, []int{768}, []int{769, 770, 768}, nil},
		{[]int{769, 770}, []int{97}, []int{97}, []int{770, 769}},
		{nil, []int{768, 879}, []int{768, 879}, nil},
		{nil, []int{879, 767}, []int{767}, []int{879}},
		{nil, []int{768, 880}, []int{880}, []int{768}},
		// parts of syllables alone
		{nil, []int{4449, 4469, 4520, 4546}, []int{4449, 4469, 4520, 4546}, nil},
		{[]int{4449}, []int{4520, 4449}, []int{4449, 4520, 4449}, nil},
		{[]int{4449, 4520}, []int{4352}, []int{4352}, []int{4449, 4520}},
		{[]int{4352}, []int{4449}, []int{4352, 4449}, nil},
		{[]int{4352, 4449}, []int{4520}, []int{4352, 4449, 4520}, nil},
		{[]int{4352, 4449, 4520}, []int{4352}, []int{4352}, []int{44033}},
		// just beyond those
		{[]int{769}, []int{4448}, []int{4448}, []int{769}}, {[]int{769}, []int{4470}, []int{4470}, []int{769}},
		{[]int{769}, []int{4519}, []int{4519}, []int{769}}, {[]int{769}, []int{4547}, []int{4547}, []int{769}},
		{[]int{769}, []int{4351}, []int{4351}, []int{769}}, {[]int{769}, []int{4370}, []int{4370}, []int{769}},
	} {
		checkFed(t, c.held, c.l, c.then, c.told)
	}
}

// feedAsSaid: the last rune that begins, by its words, and what is ahead.
func feedAsSaid(held []int, l []int) (then []int, told []int) {
	all := slices.Concat(held, splitAsSaid(l))
	at := 0
	for i, r := range all {
		if orderAsSaid(r) == 0 && !(4449 <= r && r <= 4469) && !(4520 <= r && r <= 4546) {
			at = i
		}
	}
	return all[at:], joinAsSaid(sortAsSaid(all[:at]))
}

func TestFeedNormOfShortLists(t *testing.T) {
	eachShortList(2, formRunes, func(held []int) {
		eachShortList(3, formRunes, func(l []int) {
			then, told := feedAsSaid(held, l)
			checkFed(t, held, l, then, told)
		})
	})
	for _, a := range formEdges {
		for _, b := range formEdges {
			then, told := feedAsSaid([]int{a}, []int{b})
			checkFed(t, []int{a}, []int{b}, then, told)
			then, told = feedAsSaid(nil, []int{97, a, b})
			checkFed(t, nil, []int{97, a, b}, then, told)
		}
	}
}

func TestFlushNorm(t *testing.T) {
	checkChanged(t, flushing, []changed{
		{nil, nil},
		{[]int{97, 769, 770}, []int{57554, 769}},
		{[]int{4352, 4449, 4520}, []int{44033}},
		{[]int{769, 770}, []int{770, 769}},
		{[]int{98, 97, 780, 769, 98}, []int{98, 57553, 780, 98}},
		// what is held is not split
		{[]int{57553, 770}, []int{57553, 770}},
	})
}

func TestListsOfMaxHeld(t *testing.T) {
	for _, r := range []int{0, 97, 769, 4352, 4449, 4520, bad, impl.MaxRune} {
		l := slices.Repeat([]int{r}, mostHeld)
		checkForm(t, l)
		for _, long := range [][]int{append(slices.Clip(l), r), append(slices.Clip(l), l...), slices.Repeat(l, 10)} {
			for _, f := range listFns {
				checkNoList(t, f, long)
			}
			checkNoForm(t, long)
		}
	}
	for _, l := range [][]int{{97, 769}, {4352, 4449, 4520}, {97, 769, 770}, {97, 780, 769}} {
		checkForm(t, slices.Repeat(l, mostHeld/len(l)))
	}
}

// checkNoForm: a list that is not as said gets the zero answer, beside any
// other one.
func checkNoForm(t *testing.T, l []int) {
	t.Helper()
	if is, ok := impl.IsNormal(l); is || ok {
		t.Errorf("IsNormal of %d runes = %v, %v", len(l), is, ok)
	}
	for _, p := range [][2][]int{{l, nil}, {nil, l}, {l, {97}}, {{97}, l}, {l, l}} {
		if same, ok := impl.SameText(p[0], p[1]); same || ok {
			t.Errorf("SameText of %d and %d runes = %v, %v", len(p[0]), len(p[1]), same, ok)
		}
	}
	for _, other := range [][]int{nil, {97}, {769}} {
		checkNormNotFed(t, other, l)
	}
}

// Split they are more than MaxHeld, so that SplitAll tells false, and with it
// all that goes by it.
func TestAnswersLongerThanMaxHeld(t *testing.T) {
	for _, c := range []struct{ r, parts int }{{57553, 2}, {44032, 2}, {44033, 3}} {
		l := slices.Repeat([]int{c.r}, mostHeld/c.parts)
		checkForm(t, l)
		for _, long := range [][]int{append(slices.Clip(l), 97), append(slices.Clip(l), c.r), slices.Repeat([]int{c.r}, mostHeld)} {
			if len(splitAsSaid(long)) <= mostHeld {
				t.Fatalf("%d runes are not long enough", len(long))
			}
			checkNoList(t, splitting, long)
			checkNoList(t, forming, long)
			checkNoForm(t, long)
			// these split nothing
			for _, f := range []listFn{sorting, joining, flushing} {
				checkList(t, f, long, long)
			}
		}
	}
}

func TestFeedNormAtMaxHeld(t *testing.T) {
	letters, marks := slices.Repeat([]int{97}, mostHeld), slices.Repeat([]int{779}, mostHeld)
	none := []int{}
	// held: nothing begins but at the front
	checkFed(t, marks, nil, marks, none)
	checkFed(t, nil, marks, marks, none)
	checkFed(t, marks[1:], []int{779}, marks, none)
	checkFed(t, []int{97}, marks[1:], slices.Concat([]int{97}, marks[1:]), none)
	checkNormNotFed(t, marks, []int{779})
	checkNormNotFed(t, []int{779}, marks)
	checkNormNotFed(t, []int{97}, marks)
	checkNormNotFed(t, marks, marks)
	checkFed(t, marks[1:], []int{57553}, []int{97, 769}, marks[1:])
	// told: up to MaxHeld, with one held beside
	checkFed(t, letters, []int{98}, []int{98}, letters)
	checkFed(t, letters, nil, []int{97}, letters[1:])
	checkFed(t, nil, letters, []int{97}, letters[1:])
	checkFed(t, []int{97}, letters, []int{97}, letters)
	checkFed(t, marks, []int{97}, []int{97}, marks)
	checkFed(t, letters, marks[1:], slices.Concat([]int{97}, marks[1:]), letters[1:])
	checkFed(t, letters, slices.Concat([]int{97}, marks[1:]), slices.Concat([]int{97}, marks[1:]), letters)
	checkNormNotFed(t, letters, []int{98, 98})
	checkNormNotFed(t, []int{97, 97}, letters)
	checkNormNotFed(t, letters, letters)
	checkNormNotFed(t, letters, marks)
	checkNormNotFed(t, marks, []int{97, 98})
	// those ahead are too many for SortMarks, however few they are once joined
	parts := slices.Repeat([]int{97, 769}, mostHeld/2)
	checkFed(t, parts, []int{98}, []int{98}, slices.Repeat([]int{57553}, mostHeld/2))
	checkNormNotFed(t, parts, []int{98, 98})
	checkNormNotFed(t, parts, parts)
	for _, held := range [][]int{append(slices.Clip(letters), 97), append(slices.Clip(marks), 779), slices.Repeat(letters, 3)} {
		checkNormNotFed(t, held, nil)
		checkNormNotFed(t, held, []int{97})
		checkNoList(t, flushing, held)
	}
}

func TestListsWithWhatIsNoRuneHaveNoForm(t *testing.T) {
	for _, r := range slices.Concat(noRunes, []int{math.MinInt + 768, -769}) {
		for _, l := range [][]int{{r}, {r, 97}, {97, r}, {97, 769, r, 98}, {769, r, 770}, {4352, r, 4449}, append(slices.Repeat([]int{97}, mostHeld-1), r)} {
			for _, f := range listFns {
				checkNoList(t, f, l)
			}
			checkNoForm(t, l)
			checkNormNotFed(t, l, nil)
			checkNormNotFed(t, l, []int{97})
			checkNormNotFed(t, l, l)
		}
	}
}

// withMore: the list with something behind its length in its memory.
func withMore(l []int, more ...int) []int { return slices.Concat(l, more)[:len(l)] }

func TestFormsWriteIntoNoListAndReadNoFurther(t *testing.T) {
	lists := slices.Concat(longLists(), [][]int{
		nil, {97}, {97, 769, 770}, {770, 769, 97, 769}, {44033, 4520}, {4352, 4449}, {97, -1, 770}, {55296},
		slices.Repeat([]int{97, 769, 770}, 100), slices.Repeat([]int{57553}, mostHeld), slices.Repeat([]int{97}, mostHeld+1),
	})
	for _, plain := range lists {
		l := withMore(plain, 770, -7, 4449)
		before := slices.Clone(l[:len(l)+3])
		for _, f := range listFns {
			got, ok := f.fn(l)
			want, wantOk := f.fn(slices.Clip(slices.Clone(plain)))
			if ok != wantOk || !slices.Equal(got, want) {
				t.Errorf("%s(%v) hangs on what lies behind the list", f.name, plain)
			}
			overwrite(got)
		}
		impl.IsNormal(l)
		impl.SameText(l, l)
		for _, other := range [][]int{nil, {769}, {97, 4449}} {
			next, told, _ := impl.FeedNorm(impl.Norm{Held: l}, other)
			overwrite(next.Held)
			overwrite(told)
			next, told, _ = impl.FeedNorm(impl.Norm{Held: other}, l)
			overwrite(next.Held)
			overwrite(told)
		}
		if !slices.Equal(l[:len(l)+3], before) {
			t.Errorf("%v was written into, or an answer shares its memory", plain)
		}
	}
}

func TestFormsAreNewMemory(t *testing.T) {
	for _, l := range longLists() {
		for _, f := range listFns {
			first, _ := f.fn(l)
			second, _ := f.fn(l)
			overwrite(first)
			if !slices.Equal(second, f.want(l)) {
				t.Errorf("two answers of %s share memory", f.name)
			}
			checkList(t, f, l, f.want(l))
		}
		for i := 1; i < len(l); i += 11 {
			then, told := feedAsSaid(l[:i], l[i:])
			if len(then) > mostHeld || len(told) > mostHeld {
				continue
			}
			n, first, _ := impl.FeedNorm(impl.Norm{Held: l[:i]}, l[i:])
			overwrite(first)
			if !slices.Equal(n.Held, then) {
				t.Error("what FeedNorm told shares memory with what is held")
			}
			n, first, _ = impl.FeedNorm(impl.Norm{Held: l[:i]}, l[i:])
			overwrite(n.Held)
			if !slices.Equal(first, told) {
				t.Error("what FeedNorm holds shares memory with what it told")
			}
			checkFed(t, l[:i], l[i:], then, told)
		}
	}
	for _, r := range []int{97, 57553, 44032, 44033} {
		first, _ := impl.SplitRune(r)
		second, _ := impl.SplitRune(r)
		overwrite(first)
		if !slices.Equal(second, splitAsSaid([]int{r})) {
			t.Errorf("two answers of SplitRune(%d) share memory", r)
		}
	}
}

// A Norm may be fed twice: the one that was handed in is as it was.
func TestANormIsFedAnewFromWhereItWas(t *testing.T) {
	n, _, _ := impl.FeedNorm(impl.Norm{}, []int{97, 770})
	for _, come := range []int{769, 98, 4449, 769} {
		then, told := feedAsSaid([]int{97, 770}, []int{come})
		checkFed(t, n.Held, []int{come}, then, told)
	}
	if !slices.Equal(n.Held, []int{97, 770}) {
		t.Errorf("held %v", n.Held)
	}
}
