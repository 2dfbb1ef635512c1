package tests

import (
	"fmt"
	"math"
	"slices"
	"strings"
	"testing"

	"loop.example/g00692/impl"
)

const mostProg = impl.MaxProg
const mostVars = impl.MaxVarsD
const mostChunks = impl.MaxChunks
const mostTick = impl.MaxTick
const mostFuel = impl.MaxFuel
const mostWait = 1000
const mostGiven = 1000

var noFuels = []int{-1, -2, mostFuel + 1, mostFuel + 2, 1000, math.MinInt, math.MaxInt}

var noKinds = []int{0, 8, 9, -1, -2, -7, 255, math.MinInt, math.MaxInt}

func runesIn(s string) []int {
	var l []int
	for _, r := range s {
		l = append(l, int(r))
	}
	return l
}

func textIn(l []int) string {
	var b strings.Builder
	for _, r := range l {
		b.WriteRune(rune(r))
	}
	return b.String()
}

func send(s string) impl.Ins         { return impl.Ins{Kind: impl.DgSend, Text: runesIn(s)} }
func setTo(v int, n int) impl.Ins    { return impl.Ins{Kind: impl.DgSet, A: v, B: n} }
func addTo(v int, n int) impl.Ins    { return impl.Ins{Kind: impl.DgAdd, A: v, B: n} }
func jumpTo(to int) impl.Ins         { return impl.Ins{Kind: impl.DgJump, To: to} }
func endHere() impl.Ins              { return impl.Ins{Kind: impl.DgEnd} }
func lessThan(v, n, to int) impl.Ins { return impl.Ins{Kind: impl.DgLess, A: v, B: n, To: to} }

// await: clauses as clausesOf has them, and for each one where to go.
func await(t *testing.T, wait int, to int, clauses string, gotos ...int) impl.Ins {
	t.Helper()
	return impl.Ins{Kind: impl.DgExpect, A: wait, To: to, Clauses: clausesOf(t, clauses), Gotos: gotos}
}

func came(tick int, bytes string) impl.Chunk { return impl.Chunk{Tick: tick, Bytes: bytes} }
func ended(tick int) impl.Chunk              { return impl.Chunk{Tick: tick, Eof: true} }

func isTo(n int, count int) bool { return n >= 0 && n <= count }

func isVar(n int) bool { return n >= 0 && n < mostVars }

func isGivenNumber(n int) bool { return n >= -mostGiven && n <= mostGiven }

// isGoodInsAsSaid takes away what the kind names, where it is as said: nothing
// may be left then.
func isGoodInsAsSaid(i impl.Ins, count int) bool {
	named := true
	rest := i
	switch i.Kind {
	case impl.DgSend:
		named = len(i.Text) <= mostWord && areRunes(i.Text)
		rest.Text = nil
	case impl.DgExpect:
		named = i.A >= 0 && i.A <= mostWait && isTo(i.To, count) && len(i.Clauses) <= mostPatterns && len(i.Gotos) == len(i.Clauses)
		for _, c := range i.Clauses {
			isPat := c.Kind == impl.ClPat && isGoodReAsSaid(c.Pat)
			named = named && (isPat || (c.Kind == impl.ClEof || c.Kind == impl.ClFull) && len(c.Pat) == 0)
		}
		for _, to := range i.Gotos {
			named = named && isTo(to, count)
		}
		rest.A, rest.To, rest.Clauses, rest.Gotos = 0, 0, nil, nil
	case impl.DgSet, impl.DgAdd:
		named = isVar(i.A) && isGivenNumber(i.B)
		rest.A, rest.B = 0, 0
	case impl.DgLess:
		named = isVar(i.A) && isGivenNumber(i.B) && isTo(i.To, count)
		rest.A, rest.B, rest.To = 0, 0, 0
	case impl.DgJump:
		named = isTo(i.To, count)
		rest.To = 0
	case impl.DgEnd:
	default:
		return false
	}
	return named && rest.A == 0 && rest.B == 0 && rest.To == 0 && len(rest.Text)+len(rest.Clauses)+len(rest.Gotos) == 0
}

func isGoodProgAsSaid(p []impl.Ins) bool {
	return len(p) <= mostProg && !slices.ContainsFunc(p, func(i impl.Ins) bool { return !isGoodInsAsSaid(i, len(p)) })
}

func isGoodPeerAsSaid(l []impl.Chunk) bool {
	for k, c := range l {
		if c.Tick < 0 || c.Tick > mostTick || len(c.Bytes) > mostText {
			return false
		}
		for _, behind := range l[k+1:] {
			if behind.Tick < c.Tick || c.Eof {
				return false
			}
		}
		if c.Eof && c.Bytes != "" {
			return false
		}
	}
	return len(l) <= mostChunks
}

// An arrival is all that comes at one tick.
type arrival struct {
	tick  int
	bytes string
	eof   bool
}

func arrivalsOf(peer []impl.Chunk) []arrival {
	var l []arrival
	for _, c := range peer {
		if len(l) == 0 || l[len(l)-1].tick != c.Tick {
			l = append(l, arrival{tick: c.Tick})
		}
		last := &l[len(l)-1]
		last.bytes += c.Bytes
		last.eof = last.eof || c.Eof
	}
	return l
}

// heardAsSaid: FeedSession and EndSession, by the decoder and a buffer that is
// put as said.
func heardAsSaid(s impl.Session, a arrival) (impl.Session, []int, bool) {
	if len(a.bytes) > mostText {
		return s, nil, false
	}
	d, runes, longs, ok := impl.FeedDecoder(s.Dec, a.bytes)
	if !ok {
		return s, nil, false
	}
	if a.eof {
		end, lastRunes, lastLongs, _ := impl.FlushDecoder(d)
		d, runes, longs = end, append(runes, lastRunes...), append(longs, lastLongs...)
	}
	b, went, ok := putAsSaid(s.Buf, runes, longs)
	if !ok {
		return s, nil, false
	}
	return impl.Session{Dec: d, Buf: b, Eof: a.eof}, went, true
}

// A reading goes through a talk: arrivals are those that have not come.
type reading struct {
	en       int
	now      int
	arrivals []arrival
	impl.Talk
}

func (x *reading) tell(at int, e impl.Event) {
	e.At, e.Now = at, x.now
	x.Log = append(x.Log, e)
}

// goes tells the next number, or -1 where the talk is broken.
func (x *reading) goes(at int, i impl.Ins) int {
	switch i.Kind {
	case impl.DgSend:
		_, first := writeWhole(x.en, i.Text)
		if first < 0 {
			x.tell(at, impl.Event{Kind: impl.EvSent, Text: i.Text})
		} else {
			x.tell(at, impl.Event{Kind: impl.EvBad, No: first})
		}
	case impl.DgExpect:
		return x.awaits(at, i, x.now+i.A)
	case impl.DgSet:
		x.Vars[i.A] = i.B
	case impl.DgAdd:
		x.Vars[i.A] += i.B
	case impl.DgLess:
		if x.Vars[i.A] < i.B {
			return i.To
		}
	case impl.DgJump:
		return i.To
	}
	return at + 1
}

func (x *reading) awaits(at int, i impl.Ins, until int) int {
	if s, a, _ := impl.TakeIn(x.Left, i.Clauses); a.No >= 0 {
		x.Left = s
		x.tell(at, impl.Event{Kind: impl.EvMatch, No: a.No, Text: a.Text})
		return i.Gotos[a.No]
	}
	if len(x.arrivals) == 0 || x.arrivals[0].tick > until {
		x.now = until
		x.tell(at, impl.Event{Kind: impl.EvTime})
		return i.To
	}
	x.now = max(x.now, x.arrivals[0].tick)
	s, went, ok := heardAsSaid(x.Left, x.arrivals[0])
	if !ok {
		return -1
	}
	x.Left, x.arrivals = s, x.arrivals[1:]
	if len(went) > 0 {
		x.tell(at, impl.Event{Kind: impl.EvLost, Text: went})
	}
	return x.awaits(at, i, until)
}

func talkAsSaid(p []impl.Ins, peer []impl.Chunk, en int, most int, fuel int) impl.Talk {
	x := reading{en: en, arrivals: arrivalsOf(peer)}
	x.Left, _ = impl.NewSession(en, most)
	x.Vars = make([]int, mostVars)
	next := 0
	for next >= 0 {
		if next == len(p) || p[next].Kind == impl.DgEnd {
			x.Code = impl.TkEnd
			return x.Talk
		}
		if fuel == 0 {
			x.Code = impl.TkFuel
			return x.Talk
		}
		next = x.goes(next, p[next])
		fuel--
	}
	x.Code = impl.TkBroken
	return x.Talk
}

func isSameEvent(a, b impl.Event) bool {
	return a.Kind == b.Kind && a.At == b.At && a.Now == b.Now && a.No == b.No && slices.Equal(a.Text, b.Text)
}

func isSameTalk(a, b impl.Talk) bool {
	return a.Code == b.Code && slices.Equal(a.Vars, b.Vars) && slices.EqualFunc(a.Log, b.Log, isSameEvent) && isSameSession(a.Left, b.Left)
}

// eventTold: its Now, at which instruction, what it is, and all else of it.
func eventTold(e impl.Event) string {
	kinds := map[int]string{impl.EvSent: "sent", impl.EvMatch: "match", impl.EvTime: "time", impl.EvLost: "lost", impl.EvBad: "bad"}
	s := fmt.Sprintf("%d@%d %s", e.Now, e.At, kinds[e.Kind])
	if e.Kind == impl.EvMatch || e.Kind == impl.EvBad || e.No != 0 {
		s += fmt.Sprint(" ", e.No)
	}
	if len(e.Text) > 0 {
		s += " " + textIn(e.Text)
	}
	return s
}

// talkTold: its events, and how it is over.
func talkTold(x impl.Talk) string {
	var words []string
	for _, e := range x.Log {
		words = append(words, eventTold(e))
	}
	codes := map[int]string{impl.TkEnd: "end", impl.TkFuel: "fuel", impl.TkBroken: "broken"}
	return strings.Join(append(words, codes[x.Code]), "; ")
}

// leftTold: the runes that are there, how many bytes are gone, and what else
// there is.
func leftTold(s impl.Session) string {
	told := fmt.Sprintf("%s %d", textIn(s.Buf.Runes), s.Buf.Gone)
	if s.Dec.Held != "" {
		told += fmt.Sprintf(" %x", s.Dec.Held)
	}
	if s.Eof {
		told += " eof"
	}
	return told
}

func checkTalk(t *testing.T, p []impl.Ins, peer []impl.Chunk, en int, most int, fuel int, want impl.Talk) {
	t.Helper()
	if x, ok := impl.RunTalk(p, peer, en, most, fuel); !ok || !isSameTalk(x, want) {
		t.Fatalf("RunTalk(%v, %v, %d, %d, %d) = %v (%s), %v; not %v (%s)", p, peer, en, most, fuel, x, talkTold(x), ok, want, talkTold(want))
	}
}

func checkNoTalk(t *testing.T, p []impl.Ins, peer []impl.Chunk, en int, most int, fuel int) {
	t.Helper()
	if x, ok := impl.RunTalk(p, peer, en, most, fuel); ok || !isSameTalk(x, impl.Talk{}) {
		t.Fatalf("RunTalk(%v, %v, %d, %d, %d) = %v, %v; not the zero answer", p, peer, en, most, fuel, x, ok)
	}
}

// checkTalkAsSaid tells the talk, which must hang together by itself, too.
func checkTalkAsSaid(t *testing.T, p []impl.Ins, peer []impl.Chunk, en int, most int, fuel int) impl.Talk {
	t.Helper()
	want := talkAsSaid(p, peer, en, most, fuel)
	checkTalk(t, p, peer, en, most, fuel, want)
	now := 0
	for _, e := range want.Log {
		if e.Now < now || e.At < 0 || e.At >= len(p) {
			t.Fatalf("RunTalk(%v, %v, %d, %d, %d) tells %v at %d", p, peer, en, most, fuel, e, now)
		}
		now = e.Now
	}
	if !impl.GoodSession(want.Left) {
		t.Fatalf("RunTalk(%v, %v, %d, %d, %d) leaves %v", p, peer, en, most, fuel, want.Left)
	}
	return want
}

func checkGoodProg(t *testing.T, p []impl.Ins, want bool) {
	t.Helper()
	if impl.GoodProg(p) != want || isGoodProgAsSaid(p) != want {
		t.Fatalf("GoodProg(%v) is %v", p, impl.GoodProg(p))
	}
	if x, ok := impl.RunTalk(p, nil, utf8Bytes, 3, 5); ok != want || !ok && !isSameTalk(x, impl.Talk{}) {
		t.Fatalf("RunTalk(%v) = %v, %v", p, x, ok)
	}
}

func checkGoodPeer(t *testing.T, l []impl.Chunk, want bool) {
	t.Helper()
	if impl.GoodPeer(l) != want || isGoodPeerAsSaid(l) != want {
		t.Fatalf("GoodPeer(%v) is %v", l, impl.GoodPeer(l))
	}
	if x, ok := impl.RunTalk(nil, l, utf8Bytes, 3, 5); ok != want || !ok && !isSameTalk(x, impl.Talk{}) {
		t.Fatalf("RunTalk(nil, %v) = %v, %v", l, x, ok)
	}
	if want {
		return
	}
	for k := -1; k <= len(l); k++ {
		checkNoSplit(t, l, k, 0)
	}
}

func checkSplit(t *testing.T, l []impl.Chunk, k int, at int, want []impl.Chunk) {
	t.Helper()
	if x, ok := impl.SplitChunk(l, k, at); !ok || !slices.Equal(x, want) {
		t.Fatalf("SplitChunk(%v, %d, %d) = %v, %v; not %v", l, k, at, x, ok, want)
	}
}

func checkNoSplit(t *testing.T, l []impl.Chunk, k int, at int) {
	t.Helper()
	if x, ok := impl.SplitChunk(l, k, at); ok || len(x) != 0 {
		t.Fatalf("SplitChunk(%v, %d, %d) = %v, %v; not the zero answer", l, k, at, x, ok)
	}
}

func checkSent(t *testing.T, x impl.Talk, want []int) {
	t.Helper()
	if l, ok := impl.SentOf(x); !ok || !slices.Equal(l, want) {
		t.Fatalf("SentOf(%v) = %v, %v; not %v", x, l, ok, want)
	}
}

func checkNotSent(t *testing.T, x impl.Talk) {
	t.Helper()
	if l, ok := impl.SentOf(x); ok || len(l) != 0 {
		t.Fatalf("SentOf(%v) = %v, %v; not the zero answer", x, l, ok)
	}
}

// eachIns: of each kind one that has all that is named for it.
func eachIns(t *testing.T) []impl.Ins {
	return []impl.Ins{send("hi"), await(t, 7, 1, "b eof", 1, 0), setTo(2, -5), addTo(3, 6), lessThan(1, 9, 1), jumpTo(1), endHere()}
}

// Of each kind all fields that are not 0 or empty, in all ways: just those
// named may be so.
func TestGoodProgByItsFields(t *testing.T) {
	full := impl.Ins{A: 1, B: 1, To: 1, Text: []int{97}, Clauses: clausesOf(t, "b"), Gotos: []int{1}}
	good := map[int]int{}
	for kind := impl.DgSend; kind <= impl.DgEnd; kind++ {
		for fields := range 1 << 6 {
			i := impl.Ins{Kind: kind}
			if fields&1 != 0 {
				i.A = full.A
			}
			if fields&2 != 0 {
				i.B = full.B
			}
			if fields&4 != 0 {
				i.To = full.To
			}
			if fields&8 != 0 {
				i.Text = full.Text
			}
			if fields&16 != 0 {
				i.Clauses = full.Clauses
			}
			if fields&32 != 0 {
				i.Gotos = full.Gotos
			}
			p := []impl.Ins{i}
			checkGoodProg(t, p, isGoodProgAsSaid(p))
			if impl.GoodProg(p) {
				good[kind]++
			}
		}
	}
	// DgExpect: A and To, and both Clauses and Gotos or none of them.
	for kind, want := range map[int]int{impl.DgSend: 2, impl.DgExpect: 8, impl.DgSet: 4, impl.DgAdd: 4, impl.DgLess: 8, impl.DgJump: 2, impl.DgEnd: 1} {
		if good[kind] != want {
			t.Errorf("kind %d is good in %d ways, not %d", kind, good[kind], want)
		}
	}
}

func TestEachFieldThatIsNotNamed(t *testing.T) {
	for _, plain := range eachIns(t) {
		checkGoodProg(t, []impl.Ins{plain}, true)
		var none []impl.Ins
		put := func(change func(i *impl.Ins)) {
			i := plain
			change(&i)
			none = append(none, i)
		}
		if !slices.Contains([]int{impl.DgExpect, impl.DgSet, impl.DgAdd, impl.DgLess}, plain.Kind) {
			put(func(i *impl.Ins) { i.A = 1 })
			put(func(i *impl.Ins) { i.A = -1 })
		}
		if !slices.Contains([]int{impl.DgSet, impl.DgAdd, impl.DgLess}, plain.Kind) {
			put(func(i *impl.Ins) { i.B = 1 })
			put(func(i *impl.Ins) { i.B = -1 })
		}
		if !slices.Contains([]int{impl.DgExpect, impl.DgLess, impl.DgJump}, plain.Kind) {
			put(func(i *impl.Ins) { i.To = 1 })
		}
		if plain.Kind != impl.DgSend {
			put(func(i *impl.Ins) { i.Text = []int{97} })
			put(func(i *impl.Ins) { i.Text = []int{0} })
		}
		if plain.Kind != impl.DgExpect {
			put(func(i *impl.Ins) { i.Clauses, i.Gotos = clausesOf(t, "eof"), []int{0} })
			put(func(i *impl.Ins) { i.Clauses = clausesOf(t, "eof") })
			put(func(i *impl.Ins) { i.Gotos = []int{0} })
		}
		for _, i := range none {
			checkGoodProg(t, []impl.Ins{i}, false)
			checkGoodProg(t, []impl.Ins{endHere(), jumpTo(0), i}, false)
		}
		empty := plain
		if plain.Kind != impl.DgSend {
			empty.Text = []int{}
		}
		if plain.Kind != impl.DgExpect {
			empty.Clauses, empty.Gotos = []impl.Clause{}, []int{}
		}
		checkGoodProg(t, []impl.Ins{empty}, true)
		for _, kind := range noKinds {
			i := plain
			i.Kind = kind
			checkGoodProg(t, []impl.Ins{i}, false)
			checkGoodProg(t, []impl.Ins{{Kind: kind}, plain}, false)
			checkGoodProg(t, []impl.Ins{plain, {Kind: kind}}, false)
		}
	}
}

func TestNumbersOfInstructionsAtTheirLimits(t *testing.T) {
	far := []int{-2, 5000, math.MinInt, math.MaxInt}
	check := func(i impl.Ins, want bool) {
		t.Helper()
		// in a program of three, at each place of it
		for at := range 3 {
			p := []impl.Ins{endHere(), endHere(), endHere()}
			p[at] = i
			checkGoodProg(t, p, want)
		}
	}
	for _, n := range append([]int{-1, 0, 1, mostVars - 1, mostVars, mostVars + 1, mostWait - 1, mostWait, mostWait + 1}, far...) {
		check(await(t, n, 0, ""), n >= 0 && n <= 1000)
		for _, kind := range []int{impl.DgSet, impl.DgAdd, impl.DgLess} {
			check(impl.Ins{Kind: kind, A: n}, n >= 0 && n <= 3)
		}
	}
	for _, n := range append([]int{-mostGiven - 1, -mostGiven, -mostGiven + 1, -1, 0, 1, mostGiven - 1, mostGiven, mostGiven + 1}, far...) {
		for _, kind := range []int{impl.DgSet, impl.DgAdd, impl.DgLess} {
			check(impl.Ins{Kind: kind, A: 1, B: n}, n >= -1000 && n <= 1000)
		}
	}
	for _, n := range append([]int{-1, 0, 1, 2, 3, 4, 5}, far...) {
		want := n >= 0 && n <= 3
		check(jumpTo(n), want)
		check(lessThan(0, 0, n), want)
		check(await(t, 0, n, ""), want)
		check(await(t, 0, 3, "b", n), want)
		check(await(t, 0, 3, "eof b full", n, 0, 3), want)
		check(await(t, 0, 3, "eof b full", 0, n, 3), want)
		check(await(t, 0, 3, "eof b full", 0, 3, n), want)
	}
}

func TestGotosAreAsManyAsClauses(t *testing.T) {
	for clauses := range mostPatterns + 3 {
		for gotos := range mostPatterns + 3 {
			i := await(t, 1, 0, strings.Repeat("b ", clauses), make([]int, gotos)...)
			checkGoodProg(t, []impl.Ins{i}, clauses == gotos && clauses <= mostPatterns)
			i = await(t, 1, 0, strings.Repeat("eof ", clauses), make([]int, gotos)...)
			checkGoodProg(t, []impl.Ins{i}, clauses == gotos && clauses <= mostPatterns)
		}
	}
}

func TestClausesOfInstructionsThatAreNone(t *testing.T) {
	var none []impl.Clause
	for _, kind := range []int{0, 4, -1, math.MinInt, math.MaxInt} {
		none = append(none, impl.Clause{Kind: kind}, impl.Clause{Kind: kind, Pat: runeRe(97)})
	}
	none = append(none, impl.Clause{Kind: impl.ClEof, Pat: runeRe(97)}, impl.Clause{Kind: impl.ClFull, Pat: runeRe(97)})
	for _, p := range badPatterns() {
		none = append(none, patClause(p))
	}
	for _, c := range none {
		for _, l := range [][]impl.Clause{{c}, append(clausesOf(t, "b eof"), c), append([]impl.Clause{c}, clausesOf(t, "full")...)} {
			checkGoodProg(t, []impl.Ins{{Kind: impl.DgExpect, Clauses: l, Gotos: make([]int, len(l))}}, false)
		}
	}
	long := []impl.Clause{patClause(timesRe(impl.ReStar, mostNodes-1, runeRe(98)))}
	checkGoodProg(t, []impl.Ins{{Kind: impl.DgExpect, Clauses: long, Gotos: []int{1}}}, true)
}

func TestTextsOfInstructions(t *testing.T) {
	for _, n := range []int{0, 1, mostWord - 1, mostWord, mostWord + 1, mostWord + 2, mostText} {
		for _, r := range []int{0, 97, 12354, lastRune} {
			checkGoodProg(t, []impl.Ins{{Kind: impl.DgSend, Text: slices.Repeat([]int{r}, n)}}, n <= 40)
		}
	}
	for _, r := range noRunes {
		for at := range 3 {
			l := []int{97, 98, 99}
			l[at] = r
			checkGoodProg(t, []impl.Ins{{Kind: impl.DgSend, Text: l}}, false)
		}
		l := slices.Repeat([]int{97}, mostWord)
		l[mostWord-1] = r
		checkGoodProg(t, []impl.Ins{{Kind: impl.DgSend, Text: l}}, false)
	}
}

func TestProgramsAtMaxProg(t *testing.T) {
	for _, i := range eachIns(t) {
		for _, n := range []int{1, 2, mostProg - 1, mostProg, mostProg + 1, mostProg + 2, 200} {
			checkGoodProg(t, slices.Repeat([]impl.Ins{i}, n), n <= 30)
		}
	}
	checkGoodProg(t, nil, true)
	checkGoodProg(t, []impl.Ins{}, true)
	p := slices.Repeat([]impl.Ins{jumpTo(mostProg)}, mostProg)
	checkGoodProg(t, p, true)
	checkGoodProg(t, p[1:], false)
	p[mostProg-1] = jumpTo(mostProg + 1)
	checkGoodProg(t, p, false)
}

func TestGoodPeerOfAllSmallPeers(t *testing.T) {
	var chunks []impl.Chunk
	for _, tick := range []int{-1, 0, 1, 2, mostTick - 1, mostTick, mostTick + 1} {
		for _, bytes := range []string{"", "a"} {
			chunks = append(chunks, came(tick, bytes), impl.Chunk{Tick: tick, Bytes: bytes, Eof: true})
		}
	}
	good := 0
	check := func(l ...impl.Chunk) {
		want := isGoodPeerAsSaid(l)
		checkGoodPeer(t, l, want)
		if want {
			good++
		}
	}
	check()
	for _, a := range chunks {
		check(a)
		for _, b := range chunks {
			check(a, b)
			for _, c := range chunks {
				check(a, b, c)
			}
		}
	}
	// of 5 ticks: 5, 15 and 35 lists that do not go back; all but the last one of 2 chunks, that one of 3
	if want := 1 + 5*3 + 15*6 + 35*12; good != want {
		t.Errorf("%d peers are good, not %d", good, want)
	}
}

func TestGoodPeerAtItsLimits(t *testing.T) {
	for _, n := range []int{0, 1, mostText - 1, mostText, mostText + 1, 2 * mostText} {
		bytes := strings.Repeat("\xff", n)
		checkGoodPeer(t, []impl.Chunk{came(3, bytes)}, n <= 1000)
		checkGoodPeer(t, []impl.Chunk{came(3, bytes), came(3, "a")}, n <= 1000)
		checkGoodPeer(t, []impl.Chunk{came(2, "a"), came(3, bytes), ended(3)}, n <= 1000)
		checkGoodPeer(t, []impl.Chunk{{Tick: 3, Bytes: bytes, Eof: true}}, n == 0)
	}
	for _, n := range []int{1, 2, mostChunks - 1, mostChunks, mostChunks + 1, mostChunks + 2, 200} {
		checkGoodPeer(t, slices.Repeat([]impl.Chunk{came(0, "")}, n), n <= 20)
		checkGoodPeer(t, slices.Repeat([]impl.Chunk{came(mostTick, "a")}, n), n <= 20)
		checkGoodPeer(t, append(slices.Repeat([]impl.Chunk{came(4, "a")}, n-1), ended(4)), n <= 20)
		checkGoodPeer(t, slices.Repeat([]impl.Chunk{ended(4)}, n), n == 1)
	}
	for _, tick := range []int{math.MinInt, -2, -1, mostTick + 1, mostTick + 2, math.MaxInt} {
		checkGoodPeer(t, []impl.Chunk{came(tick, "a")}, false)
		checkGoodPeer(t, []impl.Chunk{came(0, "a"), came(tick, "a")}, false)
		checkGoodPeer(t, []impl.Chunk{ended(tick)}, false)
	}
	for tick := range 8 {
		checkGoodPeer(t, []impl.Chunk{came(1, ""), came(5, "a"), came(tick, "b")}, tick >= 5)
		checkGoodPeer(t, []impl.Chunk{came(1, ""), came(5, "a"), ended(tick)}, tick >= 5)
		checkGoodPeer(t, []impl.Chunk{came(tick, ""), came(5, "a"), came(7, "b")}, tick <= 5)
	}
}

// A handTalk has its events and its end as talkTold tells them, and what is
// left as leftTold does.
type handTalk struct {
	p    []impl.Ins
	peer []impl.Chunk
	en   int
	most int
	fuel int
	told string
	left string
}

func checkHandTalks(t *testing.T, talks []handTalk) {
	t.Helper()
	for _, h := range talks {
		x, ok := impl.RunTalk(h.p, h.peer, h.en, h.most, h.fuel)
		if !ok || talkTold(x) != h.told || leftTold(x.Left) != h.left || x.Left.Dec.En != h.en || x.Left.Buf.Max != h.most {
			t.Errorf("RunTalk(%v, %v, %d, %d, %d) tells %q and leaves %q, not %q and %q", h.p, h.peer, h.en, h.most, h.fuel, talkTold(x), leftTold(x.Left), h.told, h.left)
		}
		checkTalkAsSaid(t, h.p, h.peer, h.en, h.most, h.fuel)
	}
}

func TestTheEndIsLookedForFirst(t *testing.T) {
	hi, nap := send("hi"), await(t, 3, 1, "")
	checkHandTalks(t, []handTalk{
		{nil, nil, utf8Bytes, 5, 0, "end", " 0"},
		{nil, []impl.Chunk{came(0, "a"), ended(0)}, utf8Bytes, 5, 9, "end", " 0"},
		{[]impl.Ins{endHere()}, nil, utf8Bytes, 5, 0, "end", " 0"},
		{[]impl.Ins{endHere(), hi}, nil, utf8Bytes, 5, 9, "end", " 0"},
		{[]impl.Ins{hi}, nil, utf8Bytes, 5, 0, "fuel", " 0"},
		{[]impl.Ins{hi}, nil, utf8Bytes, 5, 1, "0@0 sent hi; end", " 0"},
		{[]impl.Ins{hi, endHere()}, nil, utf8Bytes, 5, 0, "fuel", " 0"},
		{[]impl.Ins{hi, endHere()}, nil, utf8Bytes, 5, 1, "0@0 sent hi; end", " 0"},
		{[]impl.Ins{hi, hi}, nil, utf8Bytes, 5, 1, "0@0 sent hi; fuel", " 0"},
		{[]impl.Ins{hi, hi}, nil, utf8Bytes, 5, 2, "0@0 sent hi; 0@1 sent hi; end", " 0"},
		{[]impl.Ins{jumpTo(1)}, nil, utf8Bytes, 5, 0, "fuel", " 0"},
		{[]impl.Ins{jumpTo(1)}, nil, utf8Bytes, 5, 1, "end", " 0"},
		{[]impl.Ins{jumpTo(3), hi, hi, endHere()}, nil, utf8Bytes, 5, 1, "end", " 0"},
		{[]impl.Ins{jumpTo(3), hi, hi, hi}, nil, utf8Bytes, 5, 1, "fuel", " 0"},
		{[]impl.Ins{nap}, nil, utf8Bytes, 5, 1, "3@0 time; end", " 0"},
		{[]impl.Ins{nap}, nil, utf8Bytes, 5, 0, "fuel", " 0"},
		{[]impl.Ins{nap}, []impl.Chunk{came(0, "a")}, utf8Bytes, 5, 0, "fuel", " 0"},
		// the number of an instruction goes with its event
		{[]impl.Ins{jumpTo(2), endHere(), hi, jumpTo(1)}, nil, utf8Bytes, 5, 3, "0@2 sent hi; end", " 0"},
	})
}

func TestTalksThatGoOnForEver(t *testing.T) {
	hi := send("hi")
	checkHandTalks(t, []handTalk{
		{[]impl.Ins{jumpTo(0)}, nil, utf8Bytes, 5, mostFuel, "fuel", " 0"},
		{[]impl.Ins{hi, jumpTo(0)}, nil, utf8Bytes, 5, 4, "0@0 sent hi; 0@0 sent hi; fuel", " 0"},
		{[]impl.Ins{hi, jumpTo(0)}, nil, utf8Bytes, 5, 5, "0@0 sent hi; 0@0 sent hi; 0@0 sent hi; fuel", " 0"},
		{[]impl.Ins{await(t, 0, 0, "")}, nil, utf8Bytes, 5, 2, "0@0 time; 0@0 time; fuel", " 0"},
		{[]impl.Ins{await(t, 4, 0, "")}, nil, utf8Bytes, 5, 3, "4@0 time; 8@0 time; 12@0 time; fuel", " 0"},
		{[]impl.Ins{await(t, 4, 0, "()", 0)}, nil, utf8Bytes, 5, 3, "0@0 match 0; 0@0 match 0; 0@0 match 0; fuel", " 0"},
		{[]impl.Ins{await(t, 4, 1, "eof", 0)}, []impl.Chunk{ended(2)}, utf8Bytes, 5, 3, "2@0 match 0; 2@0 match 0; 2@0 match 0; fuel", " 0 eof"},
	})
	x, ok := impl.RunTalk([]impl.Ins{hi, jumpTo(0)}, nil, utf8Bytes, 1, mostFuel)
	if !ok || x.Code != impl.TkFuel || len(x.Log) != mostFuel/2 {
		t.Errorf("with all fuel it tells %d events", len(x.Log))
	}
	x, ok = impl.RunTalk([]impl.Ins{await(t, mostWait, 0, "")}, nil, utf8Bytes, 1, mostFuel)
	if !ok || len(x.Log) != mostFuel || x.Log[mostFuel-1].Now != mostFuel*mostWait {
		t.Errorf("with all fuel it waits %d times", len(x.Log))
	}
}

func checkVars(t *testing.T, p []impl.Ins, fuel int, code int, want ...int) {
	t.Helper()
	x, ok := impl.RunTalk(p, nil, utf8Bytes, 1, fuel)
	if !ok || x.Code != code || len(x.Log) != 0 || !slices.Equal(x.Vars, want) {
		t.Errorf("RunTalk(%v) with fuel %d = %v, %v; not %v", p, fuel, x, ok, want)
	}
	checkTalkAsSaid(t, p, nil, utf8Bytes, 1, fuel)
}

func TestVariables(t *testing.T) {
	checkVars(t, nil, 0, impl.TkEnd, 0, 0, 0, 0)
	checkVars(t, []impl.Ins{setTo(0, 7)}, 0, impl.TkFuel, 0, 0, 0, 0)
	checkVars(t, []impl.Ins{setTo(0, 7)}, 1, impl.TkEnd, 7, 0, 0, 0)
	checkVars(t, []impl.Ins{setTo(0, 1), setTo(1, -2), setTo(2, 3), setTo(3, -4)}, 4, impl.TkEnd, 1, -2, 3, -4)
	checkVars(t, []impl.Ins{setTo(2, 5), setTo(2, -1000)}, 4, impl.TkEnd, 0, 0, -1000, 0)
	checkVars(t, []impl.Ins{setTo(2, 5), addTo(2, 7), addTo(3, 1000), addTo(2, -20)}, 4, impl.TkEnd, 0, 0, -8, 1000)
	checkVars(t, []impl.Ins{addTo(1, 4), setTo(1, 2), addTo(1, 0)}, 4, impl.TkEnd, 0, 2, 0, 0)
	for v := range mostVars {
		want := make([]int, mostVars)
		want[v] = 3
		checkVars(t, []impl.Ins{addTo(v, 1), addTo(v, 2)}, 9, impl.TkEnd, want...)
	}
	// as far as any talk comes: 7 times round, less 3, with 29 of 30 adding
	p := append([]impl.Ins{jumpTo(1)}, slices.Repeat([]impl.Ins{addTo(1, mostGiven)}, mostProg-1)...)
	p[0], p[mostProg-1] = p[1], jumpTo(0)
	checkVars(t, p, mostFuel, impl.TkFuel, 0, 194*1000, 0, 0)
	for i := range mostProg - 1 {
		p[i].B = -mostGiven
	}
	checkVars(t, p, mostFuel, impl.TkFuel, 0, -194*1000, 0, 0)
}

func TestLessAndJump(t *testing.T) {
	for _, n := range []int{-mostGiven, -1, 0, 1, 5, mostGiven} {
		for _, m := range []int{n - 1, n, n + 1} {
			if m < -mostGiven || m > mostGiven {
				continue
			}
			want := 2
			if m < n {
				want = 1
			}
			checkVars(t, []impl.Ins{setTo(2, m), lessThan(2, n, 5), setTo(0, 2), endHere(), endHere(), setTo(0, 1)}, 9, impl.TkEnd, want, 0, m, 0)
			// back to a place ahead
			checkVars(t, []impl.Ins{jumpTo(3), setTo(0, 1), endHere(), setTo(2, m), lessThan(2, n, 1), setTo(0, 2)}, 9, impl.TkEnd, want, 0, m, 0)
			// to the end
			checkVars(t, []impl.Ins{setTo(2, m), setTo(0, 1), lessThan(2, n, 4), setTo(0, 2)}, 9, impl.TkEnd, want, 0, m, 0)
		}
	}
	// five times round
	checkVars(t, []impl.Ins{addTo(1, 3), addTo(0, 1), lessThan(0, 5, 0)}, 15, impl.TkEnd, 5, 15, 0, 0)
	checkVars(t, []impl.Ins{addTo(1, 3), addTo(0, 1), lessThan(0, 5, 0)}, 14, impl.TkFuel, 5, 15, 0, 0)
	checkVars(t, []impl.Ins{addTo(1, 3), addTo(0, 1), lessThan(0, 5, 0)}, 13, impl.TkFuel, 4, 15, 0, 0)
	checkVars(t, []impl.Ins{addTo(1, 3), addTo(0, 1), lessThan(0, 5, 0)}, 12, impl.TkFuel, 4, 12, 0, 0)
	// another variable is not looked at
	checkVars(t, []impl.Ins{setTo(3, -9), lessThan(2, 0, 4), setTo(0, 2), endHere(), setTo(0, 1)}, 9, impl.TkEnd, 2, 0, 0, -9)
}

func TestWhatIsSent(t *testing.T) {
	texts := []string{"", "a", "hi", "ä", "aä", "Ā", "aĀb", "あ", "aあb", "😀", "a😀", "\x0e", "a\x0f", "Āあ", "\x00\x7f", "\x7f", "ああa", string(rune(lastRune))}
	for _, en := range allCodes {
		for _, s := range texts {
			_, first := writeWhole(en, runesIn(s))
			want := "0@1 sent " + s
			switch {
			case first >= 0:
				want = fmt.Sprint("0@1 bad ", first)
			case s == "":
				want = "0@1 sent"
			}
			checkHandTalks(t, []handTalk{{[]impl.Ins{setTo(0, 1), send(s)}, nil, en, 5, 9, want + "; end", " 0"}})
		}
		// as long as can be: 160 bytes at most
		for _, r := range []int{97, 228, 12354, lastRune} {
			i := impl.Ins{Kind: impl.DgSend, Text: slices.Repeat([]int{r}, mostWord)}
			x := checkTalkAsSaid(t, []impl.Ins{i, i}, nil, en, 5, 9)
			if len(x.Log) != 2 || x.Code != impl.TkEnd {
				t.Errorf("code %d: %v", en, x)
			}
			i.Text[0], i.Text[mostWord-1] = 97, 256
			checkTalkAsSaid(t, []impl.Ins{i, i}, nil, en, 5, 9)
		}
	}
	checkHandTalks(t, []handTalk{
		{[]impl.Ins{send("aĀ"), send("b")}, nil, latinBytes, 5, 9, "0@0 bad 1; 0@1 sent b; end", " 0"},
		{[]impl.Ins{send("abĀĀ")}, nil, latinBytes, 5, 9, "0@0 bad 2; end", " 0"},
		{[]impl.Ins{send("\x0f"), send("あb")}, nil, shiftBytes, 5, 9, "0@0 bad 0; 0@1 sent あb; end", " 0"},
		{[]impl.Ins{send("Āa")}, nil, bigUnits, 5, 9, "0@0 sent Āa; end", " 0"},
	})
}

func TestOtherArgumentsOfTalks(t *testing.T) {
	p, peer := []impl.Ins{send("hi"), await(t, 5, 2, "b", 2)}, []impl.Chunk{came(2, "b"), ended(3)}
	for _, en := range allCodes {
		for _, most := range []int{1, 2, mostInBuf - 1, mostInBuf} {
			for _, fuel := range []int{0, 1, 2, 3, mostFuel - 1, mostFuel} {
				checkTalkAsSaid(t, p, peer, en, most, fuel)
				checkTalkAsSaid(t, nil, nil, en, most, fuel)
			}
		}
	}
	for _, en := range noCodes {
		checkNoTalk(t, p, peer, en, 5, 9)
		checkNoTalk(t, nil, nil, en, 5, 0)
	}
	for _, most := range noMaxes {
		checkNoTalk(t, p, peer, utf8Bytes, most, 9)
		checkNoTalk(t, nil, nil, utf8Bytes, most, 0)
	}
	for _, fuel := range noFuels {
		checkNoTalk(t, p, peer, utf8Bytes, 5, fuel)
		checkNoTalk(t, nil, nil, utf8Bytes, 5, fuel)
	}
	for _, none := range [][]impl.Ins{{{}}, {jumpTo(2)}, {endHere(), {Kind: 8}}, slices.Repeat([]impl.Ins{endHere()}, mostProg+1)} {
		checkNoTalk(t, none, peer, utf8Bytes, 5, 9)
	}
	for _, none := range [][]impl.Chunk{{came(-1, "")}, {came(3, ""), came(2, "")}, {ended(2), ended(2)}, {{Eof: true, Bytes: "a"}}, slices.Repeat([]impl.Chunk{came(0, "")}, mostChunks+1)} {
		checkNoTalk(t, p, none, utf8Bytes, 5, 9)
		checkNoTalk(t, nil, none, utf8Bytes, 5, 0)
	}
}

func TestWhatIsThereAlready(t *testing.T) {
	p := []impl.Ins{await(t, 5, 4, "a", 1), await(t, 0, 4, "b", 2), await(t, 0, 4, "(cd)", 3), send("x")}
	checkHandTalks(t, []handTalk{
		// all is taken of what one chunk brings
		{p, []impl.Chunk{came(3, "zaybxcd!")}, utf8Bytes, 9, 9, "3@0 match 0 a; 3@1 match 0 b; 3@2 match 0 cd; 3@3 sent x; end", "! 7"},
		// what comes later is not asked for while something is there
		{p, []impl.Chunk{came(3, "ab"), came(3, "c"), came(4, "d")}, utf8Bytes, 9, 9, "3@0 match 0 a; 3@1 match 0 b; 3@2 time; end", "c 2"},
		{[]impl.Ins{await(t, 9, 2, "a", 1), await(t, 9, 2, "a", 2)}, []impl.Chunk{came(3, "aa"), came(4, "aa")}, utf8Bytes, 9, 9, "3@0 match 0 a; 3@1 match 0 a; end", " 2"},
		{[]impl.Ins{await(t, 9, 2, "a", 1), await(t, 9, 2, "(aa)", 2)}, []impl.Chunk{came(3, "aa"), came(4, "aa")}, utf8Bytes, 9, 9, "3@0 match 0 a; 4@1 match 0 aa; end", "a 3"},
		// nothing comes where nothing is awaited
		{[]impl.Ins{send("x"), setTo(0, 1)}, []impl.Chunk{came(0, "a"), came(3, "b")}, utf8Bytes, 9, 9, "0@0 sent x; end", " 0"},
		// where each clause leads
		{[]impl.Ins{await(t, 5, 5, "c b a", 2, 3, 4), endHere(), send("c"), send("b"), send("a")}, []impl.Chunk{came(1, "b")}, utf8Bytes, 9, 9, "1@0 match 1 b; 1@3 sent b; 1@4 sent a; end", " 1"},
		{[]impl.Ins{await(t, 5, 5, "c b a", 2, 3, 4), endHere(), send("c"), send("b"), send("a")}, []impl.Chunk{came(1, "a")}, utf8Bytes, 9, 9, "1@0 match 2 a; 1@4 sent a; end", " 1"},
		{[]impl.Ins{await(t, 5, 4, "c b a", 2, 3, 4), endHere(), send("c"), send("b"), send("t")}, []impl.Chunk{came(1, "x")}, utf8Bytes, 9, 9, "5@0 time; 5@4 sent t; end", "x 0"},
		// a pattern, all that is there where it is full, all where the end has come
		{[]impl.Ins{await(t, 5, 2, "full eof b", 1, 2, 2), await(t, 5, 2, "full eof b", 2, 2, 2)}, []impl.Chunk{came(1, "xyz"), came(2, "x"), ended(2)}, utf8Bytes, 3, 9, "1@0 match 0; 2@1 match 1; end", " 4 eof"},
		{[]impl.Ins{await(t, 5, 1, "full b", 1, 1)}, []impl.Chunk{came(1, "xby")}, utf8Bytes, 3, 9, "1@0 match 1 b; end", "y 2"},
	})
}

func TestWaitsEndAtTheirTick(t *testing.T) {
	p := []impl.Ins{await(t, 5, 2, "b", 1), send("y"), await(t, 4, 3, "b", 3)}
	checkHandTalks(t, []handTalk{
		{p, nil, utf8Bytes, 9, 9, "5@0 time; 9@2 time; end", " 0"},
		{p, []impl.Chunk{came(4, "b")}, utf8Bytes, 9, 9, "4@0 match 0 b; 4@1 sent y; 8@2 time; end", " 1"},
		{p, []impl.Chunk{came(5, "b")}, utf8Bytes, 9, 9, "5@0 match 0 b; 5@1 sent y; 9@2 time; end", " 1"},
		{p, []impl.Chunk{came(6, "b")}, utf8Bytes, 9, 9, "5@0 time; 6@2 match 0 b; end", " 1"},
		{p, []impl.Chunk{came(9, "b")}, utf8Bytes, 9, 9, "5@0 time; 9@2 match 0 b; end", " 1"},
		{p, []impl.Chunk{came(10, "b")}, utf8Bytes, 9, 9, "5@0 time; 9@2 time; end", " 0"},
		// from the Now at which it was begun on, not from the last chunk on
		{p, []impl.Chunk{came(3, "a"), came(5, "b")}, utf8Bytes, 9, 9, "5@0 match 0 b; 5@1 sent y; 9@2 time; end", " 2"},
		{p, []impl.Chunk{came(3, "a"), came(6, "b")}, utf8Bytes, 9, 9, "5@0 time; 6@2 match 0 b; end", " 2"},
		{p, []impl.Chunk{came(3, "a"), came(4, ""), came(5, "a"), came(8, "a"), came(10, "b")}, utf8Bytes, 9, 9, "5@0 time; 9@2 time; end", "aaa 0"},
		{p, []impl.Chunk{came(4, "b"), came(8, "b")}, utf8Bytes, 9, 9, "4@0 match 0 b; 4@1 sent y; 8@2 match 0 b; end", " 2"},
		{p, []impl.Chunk{came(4, "b"), came(9, "b")}, utf8Bytes, 9, 9, "4@0 match 0 b; 4@1 sent y; 8@2 time; end", " 1"},
		// what comes where nothing is awaited but time
		{[]impl.Ins{await(t, 5, 1, ""), await(t, 0, 2, "(ab)", 2)}, []impl.Chunk{came(1, "a"), came(5, "b"), came(6, "c")}, utf8Bytes, 9, 9, "5@0 time; 5@1 match 0 ab; end", " 2"},
		// no wait: what comes now comes all the same
		{[]impl.Ins{await(t, 0, 1, "b", 1)}, []impl.Chunk{came(0, "b")}, utf8Bytes, 9, 9, "0@0 match 0 b; end", " 1"},
		{[]impl.Ins{await(t, 0, 1, "b", 1)}, []impl.Chunk{came(0, "a"), came(0, "b"), came(1, "c")}, utf8Bytes, 9, 9, "0@0 match 0 b; end", " 2"},
		{[]impl.Ins{await(t, 0, 1, "b", 1)}, []impl.Chunk{came(1, "b")}, utf8Bytes, 9, 9, "0@0 time; end", " 0"},
		{[]impl.Ins{await(t, 2, 1, ""), await(t, 0, 2, "b", 2)}, []impl.Chunk{came(3, "b")}, utf8Bytes, 9, 9, "2@0 time; 2@1 time; end", " 0"},
		// Now is the tick of what came, whether or not it helped
		{[]impl.Ins{await(t, 9, 1, "a", 1), await(t, 9, 2, "b", 2), send("x")}, []impl.Chunk{came(2, "ab")}, utf8Bytes, 9, 9, "2@0 match 0 a; 2@1 match 0 b; 2@2 sent x; end", " 2"},
		{[]impl.Ins{await(t, 9, 1, "a", 1), await(t, 9, 2, "b", 2), send("x")}, []impl.Chunk{came(2, "a"), came(7, "b")}, utf8Bytes, 9, 9, "2@0 match 0 a; 7@1 match 0 b; 7@2 sent x; end", " 2"},
		// the longest wait, and the last tick
		{slices.Repeat([]impl.Ins{await(t, mostWait, 1, "b", 1)}, 1), []impl.Chunk{came(mostWait, "b")}, utf8Bytes, 9, 9, "1000@0 match 0 b; end", " 1"},
		{slices.Repeat([]impl.Ins{await(t, mostWait, 1, "b", 1)}, 1), []impl.Chunk{came(mostWait+1, "b")}, utf8Bytes, 9, 9, "1000@0 time; end", " 0"},
		{[]impl.Ins{await(t, mostWait, 0, "b", 1)}, []impl.Chunk{came(mostTick, "b")}, utf8Bytes, 9, 10, "1000@0 time; 2000@0 time; 3000@0 time; 4000@0 time; 5000@0 time; 6000@0 time; 7000@0 time; 8000@0 time; 9000@0 time; 10000@0 match 0 b; end", " 1"},
	})
}

func TestChunksOfOneTick(t *testing.T) {
	p := []impl.Ins{await(t, 9, 2, "((ab)c) eof", 1, 2), await(t, 0, 2, "eof", 2)}
	checkHandTalks(t, []handTalk{
		{p, []impl.Chunk{came(3, "a"), came(3, "b"), came(3, "c")}, utf8Bytes, 9, 9, "3@0 match 0 abc; 3@1 time; end", " 3"},
		{p, []impl.Chunk{came(3, "a"), came(3, ""), came(3, "bc"), ended(3)}, utf8Bytes, 9, 9, "3@0 match 0 abc; 3@1 match 0; end", " 3 eof"},
		{p, []impl.Chunk{came(3, "ab"), came(4, "c"), ended(4)}, utf8Bytes, 9, 9, "4@0 match 0 abc; 4@1 match 0; end", " 3 eof"},
		{p, []impl.Chunk{came(3, "abc"), ended(4)}, utf8Bytes, 9, 9, "3@0 match 0 abc; 3@1 time; end", " 3"},
		{p, []impl.Chunk{came(3, "ab"), ended(3)}, utf8Bytes, 9, 9, "3@0 match 1; end", " 2 eof"},
		{p, []impl.Chunk{ended(3)}, utf8Bytes, 9, 9, "3@0 match 1; end", " 0 eof"},
		{p, []impl.Chunk{ended(0)}, utf8Bytes, 9, 9, "0@0 match 1; end", " 0 eof"},
		// all of them come, though the first ones would do
		{[]impl.Ins{await(t, 9, 1, "a", 1)}, []impl.Chunk{came(3, "a"), came(3, "b"), came(3, "c"), ended(3)}, utf8Bytes, 9, 9, "3@0 match 0 a; end", "bc 1 eof"},
		{[]impl.Ins{await(t, 9, 1, "full a", 1, 1)}, []impl.Chunk{came(3, "b"), came(3, "c"), came(3, "d")}, utf8Bytes, 3, 9, "3@0 match 0; end", " 3"},
		// a rune of two chunks, and one that the end cuts off
		{[]impl.Ins{await(t, 9, 1, "あ", 1)}, []impl.Chunk{came(3, "\xe3"), came(3, "\x81\x82x")}, utf8Bytes, 9, 9, "3@0 match 0 あ; end", "x 3"},
		{[]impl.Ins{await(t, 9, 1, "あ", 1)}, []impl.Chunk{came(3, "x\xe3"), came(4, "\x81"), came(7, "\x82")}, utf8Bytes, 9, 9, "7@0 match 0 あ; end", " 4"},
		{[]impl.Ins{await(t, 9, 1, "あ", 1)}, []impl.Chunk{came(3, "x\xe3"), came(4, "\x81")}, utf8Bytes, 9, 9, "9@0 time; end", "x 0 e381"},
		{[]impl.Ins{await(t, 9, 1, "\ufffd", 1)}, []impl.Chunk{came(3, "x\xe3"), came(3, "\x81"), ended(3)}, utf8Bytes, 9, 9, "3@0 match 0 \ufffd; end", "\ufffd 2 eof"},
		// behind the end nothing comes, and it is still there
		{[]impl.Ins{await(t, 2, 0, "eof", 1), await(t, 2, 2, "a eof", 1, 2)}, []impl.Chunk{came(1, "b"), ended(3)}, utf8Bytes, 9, 9, "2@0 time; 3@0 match 0; 3@1 match 1; end", " 1 eof"},
		{[]impl.Ins{await(t, 2, 1, "a", 1), await(t, 2, 2, "a", 2)}, []impl.Chunk{came(1, "b"), ended(1)}, utf8Bytes, 9, 9, "2@0 time; 4@1 time; end", "b 0 eof"},
	})
}

func TestWhatIsLost(t *testing.T) {
	b := []impl.Ins{setTo(0, 1), await(t, 9, 2, "b", 2)}
	checkHandTalks(t, []handTalk{
		{b, []impl.Chunk{came(3, "axb")}, utf8Bytes, 1, 9, "3@1 lost ax; 3@1 match 0 b; end", " 3"},
		{b, []impl.Chunk{came(3, "axb")}, utf8Bytes, 2, 9, "3@1 lost a; 3@1 match 0 b; end", " 3"},
		{b, []impl.Chunk{came(3, "axb")}, utf8Bytes, 3, 9, "3@1 match 0 b; end", " 3"},
		{b, []impl.Chunk{came(3, "bax")}, utf8Bytes, 2, 9, "3@1 lost b; 9@1 time; end", "ax 1"},
		// of one tick at once, of others one behind the other
		{b, []impl.Chunk{came(3, "ax"), came(3, "yb")}, utf8Bytes, 1, 9, "3@1 lost axy; 3@1 match 0 b; end", " 4"},
		{b, []impl.Chunk{came(3, "ax"), came(4, "yb")}, utf8Bytes, 1, 9, "3@1 lost a; 4@1 lost xy; 4@1 match 0 b; end", " 4"},
		{b, []impl.Chunk{came(3, "a"), came(4, ""), came(5, "x"), came(6, "y")}, utf8Bytes, 2, 9, "6@1 lost a; 9@1 time; end", "xy 1"},
		// what went of the bytes, and of the end, is one loss
		{b, []impl.Chunk{came(3, "ax\xe3\x81"), ended(3)}, utf8Bytes, 1, 9, "3@1 lost ax\ufffd; 9@1 time; end", "\ufffd 3 eof"},
		{b, []impl.Chunk{came(3, "a\xe3\x81"), ended(3)}, utf8Bytes, 2, 9, "3@1 lost a; 9@1 time; end", "\ufffd\ufffd 1 eof"},
		{b, []impl.Chunk{came(3, "a\xe3\x81"), ended(4)}, utf8Bytes, 2, 9, "4@1 lost a; 9@1 time; end", "\ufffd\ufffd 1 eof"},
		{b, []impl.Chunk{came(3, "a\xe3\x81"), ended(4)}, utf8Bytes, 3, 9, "9@1 time; end", "a\ufffd\ufffd 0 eof"},
		// what is taken is not lost
		{[]impl.Ins{await(t, 9, 1, "full", 1), await(t, 9, 2, "full", 2)}, []impl.Chunk{came(3, "ab"), came(4, "cde")}, utf8Bytes, 2, 9, "3@0 match 0; 4@1 lost c; 4@1 match 0; end", " 5"},
		// as much as can be
		{[]impl.Ins{await(t, 9, 1, "b", 1)}, []impl.Chunk{came(3, strings.Repeat("a", mostText-1)+"b")}, utf8Bytes, 1, 9, "3@0 lost " + strings.Repeat("a", mostText-1) + "; 3@0 match 0 b; end", " 1000"},
		{[]impl.Ins{await(t, 9, 1, "b", 1)}, []impl.Chunk{came(3, strings.Repeat("a", mostText-1)+"b")}, latinBytes, mostInBuf, 9, "3@0 lost " + strings.Repeat("a", mostText-mostInBuf) + "; 3@0 match 0 b; end", " 1000"},
	})
}

func TestBrokenTalks(t *testing.T) {
	whole, half := strings.Repeat("a", mostText), strings.Repeat("a", mostText/2)
	b := []impl.Ins{setTo(0, 1), send("x"), await(t, 9, 3, "b", 3), send("y")}
	turns := strings.Repeat("\x0e\x0f", mostText/2)
	checkHandTalks(t, []handTalk{
		// more than MaxText bytes at one tick
		{b, []impl.Chunk{came(3, half), came(3, half)}, utf8Bytes, mostInBuf, 9, "0@1 sent x; 3@2 lost " + whole[mostInBuf:] + "; 9@2 time; 9@3 sent y; end", whole[:mostInBuf] + " 940"},
		{b, []impl.Chunk{came(3, half), came(3, half), came(3, "a")}, utf8Bytes, mostInBuf, 9, "0@1 sent x; broken", " 0"},
		{b, []impl.Chunk{came(3, whole), came(3, "b")}, utf8Bytes, mostInBuf, 9, "0@1 sent x; broken", " 0"},
		{b, []impl.Chunk{came(3, "b"), came(3, whole), ended(3)}, utf8Bytes, mostInBuf, 9, "0@1 sent x; broken", " 0"},
		{b, []impl.Chunk{came(2, "cd"), came(3, "b"), came(3, whole), ended(3)}, utf8Bytes, 1, 9, "0@1 sent x; 2@2 lost c; broken", "d 1"},
		{b, []impl.Chunk{came(3, whole), ended(3)}, latinBytes, 1, 9, "0@1 sent x; 3@2 lost " + whole[1:] + "; 9@2 time; 9@3 sent y; end", "a 999 eof"},
		{b, []impl.Chunk{came(3, whole), came(4, whole), came(5, "b")}, utf8Bytes, 1, 9, "0@1 sent x; 3@2 lost " + whole[1:] + "; 4@2 lost " + whole + "; 5@2 lost a; 5@2 match 0 b; 5@3 sent y; end", " 2001"},
		// where it would not have come
		{b, []impl.Chunk{came(10, whole), came(10, "b")}, utf8Bytes, 1, 9, "0@1 sent x; 9@2 time; 9@3 sent y; end", " 0"},
		{b, []impl.Chunk{came(3, "b"), came(4, whole), came(4, "b")}, utf8Bytes, 1, 9, "0@1 sent x; 3@2 match 0 b; 3@3 sent y; end", " 1"},
		// fuel is used up by the broken one, too
		{b, []impl.Chunk{came(3, whole), came(3, "b")}, utf8Bytes, 1, 2, "0@1 sent x; fuel", " 0"},
		{b, []impl.Chunk{came(3, whole), came(3, "b")}, utf8Bytes, 1, 3, "0@1 sent x; broken", " 0"},
		// more than MaxText bytes that turn shift, and a rune that has more
		{b, []impl.Chunk{came(3, turns)}, shiftBytes, 5, 9, "0@1 sent x; 9@2 time; 9@3 sent y; end", " 0"},
		{b, []impl.Chunk{came(3, turns), came(4, "\x0f")}, shiftBytes, 5, 9, "0@1 sent x; broken", " 0"},
		{b, []impl.Chunk{came(3, "c"), came(4, turns), came(5, "b")}, shiftBytes, 1, 9, "0@1 sent x; broken", "c 0"},
		{b, []impl.Chunk{came(3, "c"), came(4, turns[1:]), came(5, "b")}, shiftBytes, 1, 9, "0@1 sent x; 5@2 lost c; 5@2 match 0 b; 5@3 sent y; end", " 1001"},
	})
	x, ok := impl.RunTalk(b, []impl.Chunk{came(3, "\x0e"), came(4, turns), came(5, "b")}, shiftBytes, 5, 9)
	if !ok || x.Code != impl.TkBroken || x.Left.Dec != (impl.Decoder{En: shiftBytes, Shift: 1, Loose: 1}) || !slices.Equal(x.Vars, []int{1, 0, 0, 0}) || len(x.Log) != 1 {
		t.Errorf("%v, %v", x, ok)
	}
}

// eachShortProg: all programs of at most so many instructions.
func eachShortProg(most int, l []impl.Ins, use func([]impl.Ins)) {
	use(nil)
	if most == 0 {
		return
	}
	for _, i := range l {
		eachShortProg(most-1, l, func(rest []impl.Ins) { use(append([]impl.Ins{i}, rest...)) })
	}
}

func TestAllShortPrograms(t *testing.T) {
	l := []impl.Ins{
		send("x"), send("Ā"), setTo(0, 2), addTo(0, 1), lessThan(0, 2, 0), lessThan(0, 2, 1), jumpTo(0), jumpTo(1), endHere(),
		await(t, 2, 0, "a", 1), await(t, 1, 1, "eof (ab) full", 0, 1, 0), await(t, 0, 1, ".", 0), await(t, 3, 1, ""),
	}
	peers := [][]impl.Chunk{
		nil,
		{came(0, "a"), came(1, "b"), came(1, "ab"), ended(4)},
		{came(2, "xxa"), came(3, "b"), ended(3)},
	}
	told := map[int]int{}
	eachShortProg(3, l, func(p []impl.Ins) {
		if !impl.GoodProg(p) {
			checkNoTalk(t, p, nil, latinBytes, 2, 6)
			return
		}
		for _, peer := range peers {
			for _, most := range []int{1, 2, 4} {
				told[checkTalkAsSaid(t, p, peer, latinBytes, most, 6).Code]++
			}
		}
	})
	if told[impl.TkEnd] < 1000 || told[impl.TkFuel] < 1000 {
		t.Error(told)
	}
}

var talkClauses = strings.Fields("a b c . (ab) [a-c] (.*b) ((ab)|c) (~a) あ [あ-ん] ä 😀 \ufffd eof full eof full () (cc)")

var sentTexts = []string{"", "hi", "a", "あ", "aäb", "あaい", "😀", "Ā", "\x0e", "ab\x0f"}

func (c *chances) await(t *testing.T, count int) impl.Ins {
	var words []string
	var gotos []int
	for range c.next(4) {
		words, gotos = append(words, talkClauses[c.next(len(talkClauses))]), append(gotos, c.next(count+1))
	}
	wait := []int{0, 1, 2, 3, 5, 8, 20, mostWait}[c.next(8)]
	return await(t, wait, c.next(count+1), strings.Join(words, " "), gotos...)
}

func (c *chances) prog(t *testing.T, most int) []impl.Ins {
	count := c.next(most + 1)
	var p []impl.Ins
	for range count {
		v, n := c.next(mostVars), c.next(7)-3
		switch kind := c.next(12); kind {
		case 0:
			p = append(p, send(sentTexts[c.next(len(sentTexts))]))
		case 1:
			p = append(p, setTo(v, n))
		case 2:
			p = append(p, addTo(v, n*300))
		case 3:
			p = append(p, lessThan(v, n, c.next(count+1)))
		case 4:
			p = append(p, jumpTo(c.next(count+1)))
		case 5:
			if c.next(4) == 0 {
				p = append(p, endHere())
				continue
			}
			fallthrough
		default:
			p = append(p, c.await(t, count))
		}
	}
	return p
}

// chunk: letters that are awaited, or any bytes; at times what breaks a talk.
func (c *chances) chunk(en int, tick int) impl.Chunk {
	switch c.next(24) {
	case 0:
		return came(tick, strings.Repeat("\x0e\x0f", mostText/2))
	case 1, 2, 3, 4, 5:
		return came(tick, c.drawnBytes(en, c.next(12)))
	}
	var l []int
	for range c.next(6) {
		l = append(l, []int{97, 98, 97, 98, 99, 228, 12354, 12363, 128512}[c.next(9)])
	}
	bytes, first := writeWhole(en, l)
	if first >= 0 {
		bytes, _ = writeWhole(en, l[:first])
	}
	return came(tick, bytes)
}

func (c *chances) peer(en int, most int) []impl.Chunk {
	var l []impl.Chunk
	tick := 0
	for range c.next(most) {
		tick += c.next(4) * c.next(3)
		l = append(l, c.chunk(en, tick))
	}
	if c.next(2) == 0 {
		l = append(l, ended(tick+c.next(2)))
	}
	return l
}

func TestTalksOfChance(t *testing.T) {
	c := chances(83)
	codes, kinds := map[int]int{}, map[int]int{}
	for turn := range 12000 {
		en := allCodes[turn%len(allCodes)]
		p, peer := c.prog(t, 8), c.peer(en, 8)
		most, fuel := 1+c.next(5), c.next(30)
		switch c.next(20) {
		case 0:
			p, peer = c.prog(t, mostProg), c.peer(en, mostChunks)
		case 1:
			most, fuel = mostInBuf, mostFuel
		}
		x := checkTalkAsSaid(t, p, peer, en, most, fuel)
		codes[x.Code]++
		for _, e := range x.Log {
			kinds[e.Kind]++
		}
	}
	for code := impl.TkEnd; code <= impl.TkBroken; code++ {
		if codes[code] < 500 {
			t.Errorf("code %d was told %d times", code, codes[code])
		}
	}
	for kind := impl.EvSent; kind <= impl.EvBad; kind++ {
		if kinds[kind] < 500 {
			t.Errorf("kind %d was told %d times", kind, kinds[kind])
		}
	}
}

// checkCutTalks is promise 11: each chunk cut at each place leaves the talk as it
// is.
func checkCutTalks(t *testing.T, p []impl.Ins, peer []impl.Chunk, en int, most int, fuel int) {
	t.Helper()
	want := checkTalkAsSaid(t, p, peer, en, most, fuel)
	for k, c := range peer {
		for at := range len(c.Bytes) + 1 {
			cut, ok := impl.SplitChunk(peer, k, at)
			if !ok {
				t.Fatalf("SplitChunk(%v, %d, %d) is false", peer, k, at)
			}
			checkTalk(t, p, cut, en, most, fuel, want)
		}
	}
}

func TestATalkDoesNotHangOnCuts(t *testing.T) {
	c := chances(89)
	for turn := range 1500 {
		en := allCodes[turn%len(allCodes)]
		peer := c.peer(en, 5)
		for k := range peer {
			peer[k].Bytes = peer[k].Bytes[:min(len(peer[k].Bytes), 12)]
		}
		checkCutTalks(t, c.prog(t, 6), peer, en, 1+c.next(4), 20)
	}
}

// A peer in pieces of one byte each, as far as MaxChunks goes.
func TestATalkOfSingleBytes(t *testing.T) {
	c := chances(97)
	for turn := range 1500 {
		en := allCodes[turn%len(allCodes)]
		p, peer := c.prog(t, 6), c.peer(en, 5)
		want := checkTalkAsSaid(t, p, peer, en, 3, 20)
		cut := peer
		for k := 0; k < len(cut); k++ {
			for len(cut[k].Bytes) > 1 && len(cut) < mostChunks {
				at := 1 + c.next(2)*(len(cut[k].Bytes)-2)
				l, ok := impl.SplitChunk(cut, k, at)
				if !ok {
					t.Fatalf("SplitChunk(%v, %d, %d) is false", cut, k, at)
				}
				cut = l
				if at == 1 {
					k++
				}
			}
		}
		checkTalk(t, p, cut, en, 3, 20, want)
	}
}

func TestLongChunksInTwo(t *testing.T) {
	p := []impl.Ins{await(t, 9, 2, "(zb)", 1), await(t, 9, 2, "(.*あ) full", 2, 0), send("x")}
	for _, en := range allCodes {
		bytes, _ := writeWhole(en, runesIn(strings.Repeat("a\nb", 20)+"z"))
		more, _ := writeWhole(en, runesIn("bab"))
		end, _ := writeWhole(en, []int{97, 12354})
		for _, most := range []int{1, 2, 40, mostInBuf} {
			checkCutTalks(t, p, []impl.Chunk{came(2, bytes), came(2, more), came(5, end), ended(5)}, en, most, 9)
		}
		whole := strings.Repeat("\x00a", mostText/2)
		want := checkTalkAsSaid(t, p, []impl.Chunk{came(2, whole), came(3, whole)}, en, 5, 9)
		for at := 0; at <= mostText; at += 9 {
			cut, _ := impl.SplitChunk([]impl.Chunk{came(2, whole), came(3, whole)}, at%2, at)
			checkTalk(t, p, cut, en, 5, 9, want)
		}
		// too many at one tick, however they are cut
		want = checkTalkAsSaid(t, p, []impl.Chunk{came(2, whole), came(2, "a")}, en, 5, 9)
		for at := 0; at <= mostText; at += 9 {
			cut, _ := impl.SplitChunk([]impl.Chunk{came(2, whole), came(2, "a")}, 0, at)
			checkTalk(t, p, cut, en, 5, 9, want)
		}
		if want.Code != impl.TkBroken {
			t.Errorf("code %d: %v", en, want)
		}
	}
}

// With more fuel a talk begins as with less, and once it is over it stays so.
func TestATalkBeginsAsWithLessFuel(t *testing.T) {
	c := chances(101)
	for turn := range 300 {
		en := allCodes[turn%len(allCodes)]
		p, peer, most := c.prog(t, 8), c.peer(en, 8), 1+c.next(4)
		less, ok := impl.RunTalk(p, peer, en, most, 0)
		for fuel := range mostFuel {
			more, then := impl.RunTalk(p, peer, en, most, fuel+1)
			if !ok || !then || len(more.Log) < len(less.Log) || !slices.EqualFunc(less.Log, more.Log[:len(less.Log)], isSameEvent) {
				t.Fatalf("RunTalk(%v, %v, %d, %d) tells %v with fuel %d, and %v with one more", p, peer, en, most, less, fuel, more)
			}
			if less.Code != impl.TkFuel && !isSameTalk(less, more) {
				t.Fatalf("RunTalk(%v, %v, %d, %d) tells %v with fuel %d, and %v with one more", p, peer, en, most, less, fuel, more)
			}
			less, ok = more, then
		}
	}
}

func TestSplitChunkByHand(t *testing.T) {
	peer := []impl.Chunk{came(2, "abc"), came(2, ""), came(5, "\xe3\x81\x82"), ended(7)}
	checkSplit(t, peer, 0, 0, []impl.Chunk{came(2, ""), came(2, "abc"), came(2, ""), came(5, "\xe3\x81\x82"), ended(7)})
	checkSplit(t, peer, 0, 1, []impl.Chunk{came(2, "a"), came(2, "bc"), came(2, ""), came(5, "\xe3\x81\x82"), ended(7)})
	checkSplit(t, peer, 0, 3, []impl.Chunk{came(2, "abc"), came(2, ""), came(2, ""), came(5, "\xe3\x81\x82"), ended(7)})
	checkSplit(t, peer, 1, 0, []impl.Chunk{came(2, "abc"), came(2, ""), came(2, ""), came(5, "\xe3\x81\x82"), ended(7)})
	checkSplit(t, peer, 2, 2, []impl.Chunk{came(2, "abc"), came(2, ""), came(5, "\xe3\x81"), came(5, "\x82"), ended(7)})
	// the end stays at the end
	checkSplit(t, peer, 3, 0, []impl.Chunk{came(2, "abc"), came(2, ""), came(5, "\xe3\x81\x82"), came(7, ""), ended(7)})
	checkSplit(t, []impl.Chunk{ended(0)}, 0, 0, []impl.Chunk{came(0, ""), ended(0)})
	for k, many := range []int{3, 0, 3, 0} {
		for _, at := range []int{-1, -2, many + 1, many + 2, math.MinInt, math.MaxInt} {
			checkNoSplit(t, peer, k, at)
		}
	}
	for _, k := range []int{-1, -2, 4, 5, math.MinInt, math.MaxInt} {
		for _, at := range []int{-1, 0, 1, 3} {
			checkNoSplit(t, peer, k, at)
			checkNoSplit(t, peer[:0], k, at)
			checkNoSplit(t, nil, k, at)
		}
	}
	checkNoSplit(t, nil, 0, 0)
}

func TestSplitChunkAtMaxChunks(t *testing.T) {
	for many := 1; many <= mostChunks; many++ {
		for _, last := range []impl.Chunk{came(6, "ab"), ended(6)} {
			l := append(slices.Repeat([]impl.Chunk{came(6, "ab")}, many-1), last)
			for k := range many {
				for at := range len(l[k].Bytes) + 1 {
					if many == mostChunks {
						checkNoSplit(t, l, k, at)
						continue
					}
					x, ok := impl.SplitChunk(l, k, at)
					if !ok || !impl.GoodPeer(x) || len(x) != many+1 || x[many].Eof != last.Eof || x[k].Bytes != l[k].Bytes[:at] || x[k+1].Bytes != l[k].Bytes[at:] {
						t.Fatalf("SplitChunk(%v, %d, %d) = %v, %v", l, k, at, x, ok)
					}
				}
			}
		}
	}
	whole := strings.Repeat("\xff", mostText)
	for _, at := range []int{0, 1, mostText / 2, mostText - 1, mostText} {
		checkSplit(t, []impl.Chunk{came(mostTick, whole)}, 0, at, []impl.Chunk{came(mostTick, whole[:at]), came(mostTick, whole[at:])})
	}
	checkNoSplit(t, []impl.Chunk{came(mostTick, whole)}, 0, mostText+1)
}

func TestSplitChunkOfNoPeer(t *testing.T) {
	for _, none := range [][]impl.Chunk{
		{came(-1, "ab")}, {came(mostTick+1, "ab")}, {came(3, "ab"), came(2, "ab")}, {ended(2), came(2, "ab")}, {ended(2), ended(2)},
		{{Tick: 1, Bytes: "ab", Eof: true}}, {came(1, strings.Repeat("a", mostText+1))}, slices.Repeat([]impl.Chunk{came(1, "ab")}, mostChunks+1),
	} {
		for k := -1; k <= len(none); k++ {
			for at := -1; at < 4; at++ {
				checkNoSplit(t, none, k, at)
			}
		}
	}
}

func sentEvent(l ...int) impl.Event { return impl.Event{Kind: impl.EvSent, Text: l} }

func TestSentOf(t *testing.T) {
	checkSent(t, impl.Talk{}, nil)
	checkSent(t, impl.Talk{Log: []impl.Event{}}, nil)
	checkSent(t, impl.Talk{Log: []impl.Event{sentEvent()}}, nil)
	checkSent(t, impl.Talk{Log: []impl.Event{sentEvent(98, 97), sentEvent(), sentEvent(lastRune, 0)}}, []int{98, 97, lastRune, 0})
	// of all other kinds nothing, even where they have a Text
	for _, kind := range []int{impl.EvMatch, impl.EvTime, impl.EvLost, impl.EvBad, 0, -1, 6, math.MinInt, math.MaxInt} {
		other := impl.Event{Kind: kind, No: 3, Text: []int{100, 101}}
		checkSent(t, impl.Talk{Log: []impl.Event{other}}, nil)
		checkSent(t, impl.Talk{Log: []impl.Event{other, sentEvent(97), other, other, sentEvent(98, 99), other}}, []int{97, 98, 99})
		other.Text = slices.Repeat([]int{97}, mostText+1)
		checkSent(t, impl.Talk{Log: []impl.Event{other, sentEvent(97)}}, []int{97})
		other.Text = []int{-1}
		checkSent(t, impl.Talk{Log: []impl.Event{other, sentEvent(97)}}, []int{97})
	}
	// whatever else the talk is, or its events are
	checkSent(t, impl.Talk{Code: 77, Vars: []int{1}, Log: []impl.Event{{Kind: impl.EvSent, At: -4, Now: -5, No: 9, Text: []int{97}}}, Left: impl.Session{Eof: true}}, []int{97})
	for _, r := range noRunes {
		checkNotSent(t, impl.Talk{Log: []impl.Event{sentEvent(r)}})
		checkNotSent(t, impl.Talk{Log: []impl.Event{sentEvent(97), sentEvent(97, r), sentEvent(98)}})
		checkNotSent(t, impl.Talk{Log: []impl.Event{sentEvent(97), sentEvent(r, 97)}})
	}
}

func TestSentOfAtMaxText(t *testing.T) {
	for _, many := range []int{mostText - 1, mostText, mostText + 1, mostText + 2, 3 * mostText} {
		whole := numbersFrom(60000, many)
		for _, piece := range []int{1, 7, mostWord, mostText / 2, mostText, 3 * mostText} {
			x := impl.Talk{Log: []impl.Event{{Kind: impl.EvTime}}}
			for l := range slices.Chunk(whole, piece) {
				x.Log = append(x.Log, sentEvent(l...), impl.Event{Kind: impl.EvLost, Text: l})
			}
			x.Log = append(x.Log, sentEvent())
			if many <= 1000 {
				checkSent(t, x, whole)
			} else {
				checkNotSent(t, x)
			}
		}
	}
}

func TestSentOfATalk(t *testing.T) {
	long := strings.Repeat("あ", mostWord)
	p := []impl.Ins{send(long), send("ab"), send("\x0e"), await(t, 3, 4, ""), jumpTo(0)}
	x, _ := impl.RunTalk(p, nil, shiftBytes, 1, 20)
	checkSent(t, x, runesIn(strings.Repeat(long+"ab", 4)))
	// 24 rounds are 1008 runes
	x, _ = impl.RunTalk(p, nil, shiftBytes, 1, 23*5+2)
	checkNotSent(t, x)
	x, _ = impl.RunTalk(p, nil, shiftBytes, 1, 23*5)
	checkSent(t, x, runesIn(strings.Repeat(long+"ab", 23)))
	x, _ = impl.RunTalk([]impl.Ins{send(long), jumpTo(0)}, nil, utf8Bytes, 1, 50)
	checkSent(t, x, runesIn(strings.Repeat(long, 25)))
	x, _ = impl.RunTalk([]impl.Ins{send(long), jumpTo(0)}, nil, utf8Bytes, 1, 51)
	checkNotSent(t, x)
}

// All that a talk can be at most, with patterns that are as long as can be and
// are never there: each chunk is asked for, and the fuel runs out.
func TestTalksOfMostWork(t *testing.T) {
	never := runeRe(99)
	for _, pattern := range [][]impl.Re{
		opRe(impl.ReCat, chainRe(impl.ReCat, 12, starRe()), never),
		opRe(impl.ReCat, timesRe(impl.ReNot, mostNodes-6, opRe(impl.ReCat, runeRe(97), starRe())), never),
		opRe(impl.ReCat, timesRe(impl.ReStar, mostNodes-3, anyRe()), never),
	} {
		i := impl.Ins{Kind: impl.DgExpect, A: 500, Clauses: slices.Repeat([]impl.Clause{patClause(pattern)}, mostPatterns), Gotos: make([]int, mostPatterns)}
		p := append(slices.Repeat([]impl.Ins{i}, mostProg-1), jumpTo(0))
		for k := range p {
			p[k].To = (k + 1) % mostProg
		}
		var peer []impl.Chunk
		for k := range mostChunks {
			peer = append(peer, came(500*k, strings.Repeat("a", mostText)))
		}
		x := checkTalkAsSaid(t, p, peer, utf8Bytes, mostInBuf, mostFuel)
		if x.Code != impl.TkFuel || len(x.Log) != mostFuel-mostFuel/mostProg+mostChunks || x.Left.Buf.Gone != mostChunks*mostText-mostInBuf {
			t.Errorf("%d events, then %s", len(x.Log), leftTold(x.Left))
		}
	}
}

// spreadProg: the same program, with more behind each of its lists; numbers
// are all lists of numbers in it.
func spreadProg(p []impl.Ins) (spread []impl.Ins, numbers [][]int) {
	for _, i := range p {
		l, sets := spreadClauses(i.Clauses)
		i.Text, i.Gotos, i.Clauses = withMore(i.Text, 97, 98, -7), withMore(i.Gotos, 0, 0, -7), l
		spread, numbers = append(spread, i), append(numbers, sets...)
		numbers = append(numbers, i.Text, i.Gotos)
	}
	return append(spread, send("behind"), impl.Ins{Kind: 77})[:len(p)], numbers
}

func spreadPeer(l []impl.Chunk) []impl.Chunk {
	return append(slices.Clone(l), came(mostTick, "ab"), impl.Chunk{Tick: -77})[:len(l)]
}

func wholeOfProg(p []impl.Ins, numbers [][]int) string {
	s := wholeOf(numbers...)
	for _, i := range p[:cap(p)] {
		s += fmt.Sprint(i.Kind, i.A, i.B, i.To, i.Text, i.Gotos, len(i.Clauses), i.Clauses[:cap(i.Clauses)], ";")
	}
	return s
}

func wholeOfPeer(l []impl.Chunk) string { return fmt.Sprintf("%#v", l[:cap(l)]) }

// listsOfTalk: all lists of numbers that a talk has.
func listsOfTalk(x impl.Talk) [][]int {
	l := [][]int{x.Vars, x.Left.Buf.Runes, x.Left.Buf.Longs}
	for _, e := range x.Log {
		l = append(l, e.Text)
	}
	return l
}

func overwriteTalk(x impl.Talk) {
	for _, l := range listsOfTalk(x) {
		overwrite(l)
	}
	for i := range x.Log[:cap(x.Log)] {
		x.Log[:cap(x.Log)][i] = impl.Event{Kind: 99, At: 99}
	}
}

func TestTalksAreNotWrittenIntoNorReadFurther(t *testing.T) {
	c := chances(103)
	for turn := range 2000 {
		en := allCodes[turn%len(allCodes)]
		plain, plainPeer := c.prog(t, 6), c.peer(en, 6)
		p, numbers := spreadProg(plain)
		peer := spreadPeer(plainPeer)
		before, peerBefore := wholeOfProg(p, numbers), wholeOfPeer(peer)
		want := talkAsSaid(plain, plainPeer, en, 3, 20)
		checkGoodProg(t, p, true)
		checkGoodPeer(t, peer, true)
		x, _ := impl.RunTalk(p, peer, en, 3, 20)
		overwriteTalk(x)
		checkTalk(t, p, peer, en, 3, 20, want)
		for k, chunk := range peer {
			at := c.next(len(chunk.Bytes) + 1)
			l, _ := impl.SplitChunk(peer, k, at)
			clear(l[:cap(l)])
			again, _ := impl.SplitChunk(plainPeer, k, at)
			checkSplit(t, peer, k, at, again)
		}
		if wholeOfProg(p, numbers) != before || wholeOfPeer(peer) != peerBefore {
			t.Fatalf("%v, %v were written into, or an answer shares their memory", plain, plainPeer)
		}
	}
}

func TestWrongProgramsAreNotWrittenInto(t *testing.T) {
	for _, i := range eachIns(t) {
		i.B, i.Text, i.Gotos = i.B+5, append(i.Text, -1), append(i.Gotos, 9)
		p, numbers := spreadProg([]impl.Ins{i, i})
		peer := spreadPeer([]impl.Chunk{ended(3), came(2, "a")})
		before, peerBefore := wholeOfProg(p, numbers), wholeOfPeer(peer)
		checkGoodProg(t, p, false)
		checkGoodPeer(t, peer, false)
		checkNoTalk(t, p, peer, utf8Bytes, 3, 9)
		if wholeOfProg(p, numbers) != before || wholeOfPeer(peer) != peerBefore {
			t.Fatalf("%v was written into", i)
		}
	}
}

func TestTalksAreNewMemory(t *testing.T) {
	c := chances(107)
	events := 0
	for turn := range 3000 {
		en := allCodes[turn%len(allCodes)]
		p, peer := c.prog(t, 6), c.peer(en, 6)
		first, _ := impl.RunTalk(p, peer, en, 3, 20)
		x, _ := impl.RunTalk(p, peer, en, 3, 20)
		lists := listsOfTalk(x)
		if turn%2 == 0 {
			slices.Reverse(lists)
		}
		checkListsApart(t, "RunTalk", lists)
		events += len(x.Log)
		overwriteTalk(x)
		checkTalk(t, p, peer, en, 3, 20, first)
		if want := talkAsSaid(p, peer, en, 3, 20); !isSameTalk(first, want) {
			t.Fatalf("one talk shares memory with another one: %v", first)
		}
	}
	if events < 3000 {
		t.Errorf("there were %d events", events)
	}
}

func TestSentOfIsNewMemory(t *testing.T) {
	for many := range 5 {
		x := impl.Talk{Log: []impl.Event{{Kind: impl.EvSent, Text: withMore([]int{97, 98}, 97, -7)}}}
		for range many {
			x.Log = append(x.Log, sentEvent(99), sentEvent())
		}
		log := slices.Clone(x.Log)
		x.Log = append(x.Log, sentEvent(100), sentEvent(-1))[:len(log)]
		before := wholeOf(x.Log[0].Text)
		want := append([]int{97, 98}, slices.Repeat([]int{99}, many)...)
		l, _ := impl.SentOf(x)
		overwrite(l)
		checkSent(t, x, want)
		if wholeOf(x.Log[0].Text) != before || !slices.EqualFunc(x.Log, log, isSameEvent) || x.Log[:len(log)+2][len(log)].Text[0] != 100 {
			t.Fatalf("%v was written into", x)
		}
	}
}

func TestBytesOfTalksAreNewMemory(t *testing.T) {
	peer := []impl.Chunk{came(1, "abc"), came(2, "def"), came(2, "x\xe3\x81")}
	for k := range peer {
		for at := range 4 {
			l, ok := impl.SplitChunk(peer, k, at)
			for n, chunk := range l {
				for _, other := range append(l[:n:n], peer...) {
					if !ok || sharesBytes(chunk.Bytes, other.Bytes) {
						t.Errorf("SplitChunk at %d of %d shares the bytes %q", at, k, chunk.Bytes)
					}
				}
			}
		}
	}
	for _, l := range [][]impl.Chunk{peer, peer[2:], {came(0, "\xe3\x81")}} {
		x, _ := impl.RunTalk([]impl.Ins{await(t, 5, 1, "a", 0)}, l, utf8Bytes, 9, 9)
		if x.Left.Dec.Held != "\xe3\x81" || sharesBytes(x.Left.Dec.Held, l[len(l)-1].Bytes) {
			t.Errorf("the talk holds %q of its peer", x.Left.Dec.Held)
		}
	}
}
