package tests

import (
	"math"
	"slices"
	"strings"
	"testing"

	"loop.example/g00692/impl"
)

const mostInBuf = impl.MaxBuf
const mostGone = impl.MaxGone
const mostText = impl.MaxText

// noLongs: how many bytes no rune takes.
var noLongs = []int{0, -1, mostText + 1, mostText + 2, math.MinInt, math.MaxInt}

var noMaxes = []int{0, -1, mostInBuf + 1, mostInBuf + 2, 1000, math.MinInt, math.MaxInt}

var noGones = []int{-1, mostGone + 1, mostGone + 2, math.MinInt, math.MaxInt}

func onesOf(n int) []int { return slices.Repeat([]int{1}, n) }

func sumOf(l []int) int {
	sum := 0
	for _, n := range l {
		sum += n
	}
	return sum
}

// bufOf: each rune is one of a, b, c, in turn, and takes one byte.
func bufOf(most int, runes int) impl.Buf {
	var l []int
	for i := range runes {
		l = append(l, 97+i%3)
	}
	return impl.Buf{Max: most, Runes: l, Longs: onesOf(runes)}
}

func isLong(n int) bool { return n > 0 && n <= mostText }

func areLongs(l []int) bool { return !slices.ContainsFunc(l, func(n int) bool { return !isLong(n) }) }

func areRunes(l []int) bool {
	return !slices.ContainsFunc(l, func(r int) bool { return r < 0 || r > lastRune || r >= 55296 && r <= 57343 })
}

func isGoodBufAsSaid(b impl.Buf) bool {
	if b.Max < 1 || b.Max > mostInBuf || b.Gone < 0 || b.Gone > mostGone {
		return false
	}
	return len(b.Runes) <= b.Max && len(b.Runes) == len(b.Longs) && areRunes(b.Runes) && areLongs(b.Longs)
}

// goOn lets the first n go, one after the other.
func goOn(b impl.Buf, n int) (impl.Buf, []int, bool) {
	var went []int
	for range n {
		went = append(went, b.Runes[0])
		b.Gone += b.Longs[0]
		b.Runes, b.Longs = b.Runes[1:], b.Longs[1:]
	}
	if b.Gone > mostGone {
		return impl.Buf{}, nil, false
	}
	return b, went, true
}

func putAsSaid(b impl.Buf, runes, longs []int) (impl.Buf, []int, bool) {
	if !isGoodBufAsSaid(b) || len(runes) != len(longs) || !areRunes(runes) || !areLongs(longs) {
		return impl.Buf{}, nil, false
	}
	b.Runes, b.Longs = slices.Concat(b.Runes, runes), slices.Concat(b.Longs, longs)
	if len(b.Runes) > b.Max {
		return goOn(b, len(b.Runes)-b.Max)
	}
	return b, nil, true
}

func takeAsSaid(b impl.Buf, n int) (impl.Buf, []int, bool) {
	if !isGoodBufAsSaid(b) || n < 0 || n > len(b.Runes) {
		return impl.Buf{}, nil, false
	}
	return goOn(b, n)
}

func isSameBuf(a, b impl.Buf) bool {
	return a.Max == b.Max && a.Gone == b.Gone && slices.Equal(a.Runes, b.Runes) && slices.Equal(a.Longs, b.Longs)
}

func isSameSession(a, b impl.Session) bool {
	return a.Dec == b.Dec && a.Eof == b.Eof && isSameBuf(a.Buf, b.Buf)
}

func isSameAnswer(a, b impl.Answer) bool {
	return a.No == b.No && a.From == b.From && a.To == b.To && a.Byte == b.Byte && slices.Equal(a.Text, b.Text)
}

func checkGoodBuf(t *testing.T, b impl.Buf, want bool) {
	t.Helper()
	if impl.GoodBuf(b) != want {
		t.Fatalf("GoodBuf(%v) is not %v", b, want)
	}
	s, ok := impl.NewSession(utf8Bytes, 1)
	s.Buf = b
	if !ok || impl.GoodSession(s) != want {
		t.Fatalf("GoodSession(%v) is not %v", s, want)
	}
}

func checkPut(t *testing.T, b impl.Buf, runes, longs []int, want impl.Buf, wentThen []int) {
	t.Helper()
	if then, went, ok := impl.PutBuf(b, runes, longs); !ok || !isSameBuf(then, want) || !slices.Equal(went, wentThen) {
		t.Fatalf("PutBuf(%v, %v, %v) = %v, %v, %v; not %v, %v, true", b, runes, longs, then, went, ok, want, wentThen)
	}
}

func checkNoPut(t *testing.T, b impl.Buf, runes, longs []int) {
	t.Helper()
	if then, went, ok := impl.PutBuf(b, runes, longs); ok || !isSameBuf(then, impl.Buf{}) || len(went) != 0 {
		t.Fatalf("PutBuf(%v, %v, %v) = %v, %v, %v; not the zero answer", b, runes, longs, then, went, ok)
	}
}

func checkPutAsSaid(t *testing.T, b impl.Buf, runes, longs []int) {
	t.Helper()
	want, went, ok := putAsSaid(b, runes, longs)
	if !ok {
		checkNoPut(t, b, runes, longs)
		return
	}
	checkPut(t, b, runes, longs, want, went)
	checkGoodBuf(t, want, true)
}

func checkTake(t *testing.T, b impl.Buf, n int, want impl.Buf, wentThen []int) {
	t.Helper()
	if then, went, ok := impl.TakeBuf(b, n); !ok || !isSameBuf(then, want) || !slices.Equal(went, wentThen) {
		t.Fatalf("TakeBuf(%v, %d) = %v, %v, %v; not %v, %v, true", b, n, then, went, ok, want, wentThen)
	}
}

func checkNoTake(t *testing.T, b impl.Buf, n int) {
	t.Helper()
	if then, went, ok := impl.TakeBuf(b, n); ok || !isSameBuf(then, impl.Buf{}) || len(went) != 0 {
		t.Fatalf("TakeBuf(%v, %d) = %v, %v, %v; not the zero answer", b, n, then, went, ok)
	}
}

func checkTakeAsSaid(t *testing.T, b impl.Buf, n int) {
	t.Helper()
	want, went, ok := takeAsSaid(b, n)
	if !ok {
		checkNoTake(t, b, n)
		return
	}
	checkTake(t, b, n, want, went)
	checkGoodBuf(t, want, true)
}

func checkByte(t *testing.T, b impl.Buf, k int, want int) {
	t.Helper()
	if n, ok := impl.ByteOf(b, k); n != want || !ok {
		t.Fatalf("ByteOf(%v, %d) = %d, %v; not %d, true", b, k, n, ok, want)
	}
}

func checkNoByte(t *testing.T, b impl.Buf, k int) {
	t.Helper()
	if n, ok := impl.ByteOf(b, k); n != 0 || ok {
		t.Fatalf("ByteOf(%v, %d) = %d, %v; not the zero answer", b, k, n, ok)
	}
}

// checkTakings: all that can be taken, and one more to each side.
func checkTakings(t *testing.T, b impl.Buf) {
	t.Helper()
	for n := range len(b.Runes) + 1 {
		checkTakeAsSaid(t, b, n)
		checkByte(t, b, n, b.Gone+sumOf(b.Longs[:n]))
	}
	for _, n := range []int{-1, len(b.Runes) + 1, len(b.Runes) + 2, -len(b.Runes) - 1, mostInBuf + 1, mostGone, math.MinInt, math.MaxInt} {
		checkNoTake(t, b, n)
		checkNoByte(t, b, n)
	}
}

// checkNoBuf: what is no good buffer gets the zero answer everywhere.
func checkNoBuf(t *testing.T, b impl.Buf) {
	t.Helper()
	checkGoodBuf(t, b, false)
	checkNoPut(t, b, nil, nil)
	checkNoPut(t, b, []int{97}, []int{1})
	checkNoPut(t, b, slices.Repeat([]int{97}, 70), onesOf(70))
	for _, n := range []int{0, 1, len(b.Runes), len(b.Longs), -1, math.MaxInt, math.MinInt} {
		checkNoTake(t, b, n)
		checkNoByte(t, b, n)
	}
	checkNoSession(t, impl.Session{Dec: impl.Decoder{En: utf8Bytes}, Buf: b})
	checkNoSession(t, impl.Session{Dec: impl.Decoder{En: shiftBytes, Shift: 1}, Buf: b, Eof: true})
}

func checkBuf(t *testing.T, b impl.Buf) {
	t.Helper()
	if !isGoodBufAsSaid(b) {
		checkNoBuf(t, b)
		return
	}
	checkGoodBuf(t, b, true)
	checkPut(t, b, nil, nil, b, nil)
	checkTakings(t, b)
}

func checkNewSession(t *testing.T, en int, most int) impl.Session {
	t.Helper()
	s, ok := impl.NewSession(en, most)
	if want := (impl.Session{Dec: impl.Decoder{En: en}, Buf: impl.Buf{Max: most}}); !ok || !isSameSession(s, want) || !impl.GoodSession(s) {
		t.Fatalf("NewSession(%d, %d) = %v, %v", en, most, s, ok)
	}
	return s
}

func checkNoNewSession(t *testing.T, en int, most int) {
	t.Helper()
	if s, ok := impl.NewSession(en, most); ok || !isSameSession(s, impl.Session{}) {
		t.Fatalf("NewSession(%d, %d) = %v, %v; not the zero answer", en, most, s, ok)
	}
}

func checkFedSession(t *testing.T, s impl.Session, bytes string, want impl.Session, wentThen []int) {
	t.Helper()
	if then, went, ok := impl.FeedSession(s, bytes); !ok || !isSameSession(then, want) || !slices.Equal(went, wentThen) {
		t.Fatalf("FeedSession(%v, %q) = %v, %v, %v; not %v, %v, true", s, bytes, then, went, ok, want, wentThen)
	}
}

func checkNotFedSession(t *testing.T, s impl.Session, bytes string) {
	t.Helper()
	if then, went, ok := impl.FeedSession(s, bytes); ok || !isSameSession(then, impl.Session{}) || len(went) != 0 {
		t.Fatalf("FeedSession(%v, %q) = %v, %v, %v; not the zero answer", s, bytes, then, went, ok)
	}
}

func checkEnded(t *testing.T, s impl.Session, want impl.Session, wentThen []int) {
	t.Helper()
	if then, went, ok := impl.EndSession(s); !ok || !isSameSession(then, want) || !slices.Equal(went, wentThen) {
		t.Fatalf("EndSession(%v) = %v, %v, %v; not %v, %v, true", s, then, went, ok, want, wentThen)
	}
}

func checkNotEnded(t *testing.T, s impl.Session) {
	t.Helper()
	if then, went, ok := impl.EndSession(s); ok || !isSameSession(then, impl.Session{}) || len(went) != 0 {
		t.Fatalf("EndSession(%v) = %v, %v, %v; not the zero answer", s, then, went, ok)
	}
}

func checkExpect(t *testing.T, s impl.Session, l []impl.Clause, want impl.Answer) {
	t.Helper()
	if a, ok := impl.ExpectIn(s, l); !ok || !isSameAnswer(a, want) {
		t.Fatalf("ExpectIn(%v, %v) = %v, %v; not %v, true", s, l, a, ok, want)
	}
}

func checkNoExpect(t *testing.T, s impl.Session, l []impl.Clause) {
	t.Helper()
	if a, ok := impl.ExpectIn(s, l); ok || !isSameAnswer(a, impl.Answer{}) {
		t.Fatalf("ExpectIn(%v, %v) = %v, %v; not the zero answer", s, l, a, ok)
	}
	checkNoTakeIn(t, s, l)
}

func checkTakeIn(t *testing.T, s impl.Session, l []impl.Clause, want impl.Session, wantAnswer impl.Answer) {
	t.Helper()
	if then, a, ok := impl.TakeIn(s, l); !ok || !isSameSession(then, want) || !isSameAnswer(a, wantAnswer) {
		t.Fatalf("TakeIn(%v, %v) = %v, %v, %v; not %v, %v, true", s, l, then, a, ok, want, wantAnswer)
	}
}

func checkNoTakeIn(t *testing.T, s impl.Session, l []impl.Clause) {
	t.Helper()
	if then, a, ok := impl.TakeIn(s, l); ok || !isSameSession(then, impl.Session{}) || !isSameAnswer(a, impl.Answer{}) {
		t.Fatalf("TakeIn(%v, %v) = %v, %v, %v; not the zero answer", s, l, then, a, ok)
	}
}

func patClause(p []impl.Re) impl.Clause { return impl.Clause{Kind: impl.ClPat, Pat: p} }

// clausesOf: a word each: "eof", "full", or the text of a pattern.
func clausesOf(t *testing.T, s string) []impl.Clause {
	t.Helper()
	var l []impl.Clause
	for _, word := range strings.Fields(s) {
		switch word {
		case "eof":
			l = append(l, impl.Clause{Kind: impl.ClEof})
		case "full":
			l = append(l, impl.Clause{Kind: impl.ClFull})
		default:
			l = append(l, patClause(re(t, word)))
		}
	}
	return l
}

// checkNoSession: what is no good session gets the zero answer everywhere.
func checkNoSession(t *testing.T, s impl.Session) {
	t.Helper()
	if impl.GoodSession(s) {
		t.Fatalf("GoodSession(%v)", s)
	}
	for _, bytes := range []string{"", "a", "\x00a", "\xe3\x81\x82"} {
		checkNotFedSession(t, s, bytes)
	}
	checkNotEnded(t, s)
	for _, l := range [][]impl.Clause{nil, {{Kind: impl.ClEof}}, {{Kind: impl.ClFull}}, {patClause(emptyRe())}, {patClause(runeRe(97)), {Kind: impl.ClEof}}} {
		checkNoExpect(t, s, l)
	}
}

// bytesIn: all bytes that a session has an eye on.
func bytesIn(s impl.Session) int {
	return s.Buf.Gone + sumOf(s.Buf.Longs) + s.Dec.Loose + len(s.Dec.Held)
}

// behind: the session behind all bytes at once, by its decoder alone: of what
// came the last ones stay.
func behind(t *testing.T, s impl.Session, bytes string, eof bool) (impl.Session, []int) {
	t.Helper()
	d, runes, longs, ok := impl.FeedDecoder(s.Dec, bytes)
	if eof {
		var lastRunes, lastLongs []int
		d, lastRunes, lastLongs, _ = impl.FlushDecoder(d)
		runes, longs = append(runes, lastRunes...), append(longs, lastLongs...)
	}
	runes, longs = slices.Concat(s.Buf.Runes, runes), slices.Concat(s.Buf.Longs, longs)
	went := max(0, len(runes)-s.Buf.Max)
	gone := s.Buf.Gone + sumOf(longs[:went])
	if !ok || gone > mostGone || !areLongs(longs) {
		t.Fatalf("%q is not read behind %v", bytes, s)
	}
	return impl.Session{Dec: d, Buf: impl.Buf{Max: s.Buf.Max, Runes: runes[went:], Longs: longs[went:], Gone: gone}, Eof: eof}, runes[:went]
}

// checkFedPieces is promise 10: pieces leave a session as all at once do, the
// same runes go, and no byte is lost.
func checkFedPieces(t *testing.T, s impl.Session, pieces []string) {
	t.Helper()
	bytes := strings.Join(pieces, "")
	begin, came := s, bytesIn(s)
	var went []int
	for _, piece := range pieces {
		next, l, ok := impl.FeedSession(s, piece)
		came += len(piece)
		if !ok || !impl.GoodSession(next) || bytesIn(next) != came {
			t.Fatalf("FeedSession(%v, %q) = %v, %v, %v", s, piece, next, l, ok)
		}
		s, went = next, append(went, l...)
	}
	want, wantWent := behind(t, begin, bytes, false)
	if !isSameSession(s, want) || !slices.Equal(went, wantWent) {
		t.Fatalf("%v behind %q: %v, %v; all at once %v, %v", begin, pieces, s, went, want, wantWent)
	}
	end, l, ok := impl.EndSession(s)
	went = append(went, l...)
	want, wantWent = behind(t, begin, bytes, true)
	if !ok || !isSameSession(end, want) || !slices.Equal(went, wantWent) || !impl.GoodSession(end) || bytesIn(end) != came {
		t.Fatalf("%v behind %q and the end: %v, %v, %v; all at once %v, %v", begin, pieces, end, went, ok, want, wantWent)
	}
}

func checkAllFedCuttings(t *testing.T, s impl.Session, bytes string) {
	t.Helper()
	eachCutting(bytes, func(pieces []string) { checkFedPieces(t, s, pieces) })
}

func TestPiecesOfShortTextsLeaveASessionAsAllAtOnce(t *testing.T) {
	for _, en := range allCodes {
		for _, most := range []int{1, 2, mostInBuf} {
			s := checkNewSession(t, en, most)
			eachShortText(3, edgeBytesOf[en], func(bytes string) { checkAllFedCuttings(t, s, bytes) })
		}
		s := checkNewSession(t, en, 3)
		eachShortText(4, edgeBytesOf[en], func(bytes string) { checkFedPieces(t, s, strings.Split(bytes, "")) })
	}
}

// drawnBytes: most of them those that the code treats in a way of its own.
func (c *chances) drawnBytes(en int, many int) string {
	var b strings.Builder
	for b.Len() < many {
		if c.next(3) > 0 {
			edges := edgeBytesOf[en]
			b.WriteByte(edges[c.next(len(edges))])
			continue
		}
		s, _ := writeWhole(en, []int{[]int{97, 98, 65, 32, 12354, 12360}[c.next(6)]})
		b.WriteString(s)
	}
	return b.String()[:many]
}

// drawnSession: some bytes came by now, and some runes were taken.
func (c *chances) drawnSession(t *testing.T, en int, most int) impl.Session {
	t.Helper()
	s := checkNewSession(t, en, most)
	for range c.next(4) {
		s, _, _ = impl.FeedSession(s, c.drawnBytes(en, c.next(20)))
		s.Buf, _, _ = impl.TakeBuf(s.Buf, c.next(len(s.Buf.Runes)+1))
	}
	if !impl.GoodSession(s) {
		t.Fatalf("%v is not good", s)
	}
	return s
}

func TestDrawnBytesCutInEveryWay(t *testing.T) {
	c := chances(53)
	for _, en := range allCodes {
		for _, most := range []int{1, 2, 3, 5, mostInBuf} {
			for range 4 {
				checkAllFedCuttings(t, c.drawnSession(t, en, most), c.drawnBytes(en, 9))
			}
		}
	}
}

func TestDrawnBytesInPiecesOfChance(t *testing.T) {
	c := chances(59)
	for range 2000 {
		en := allCodes[c.next(len(allCodes))]
		s := c.drawnSession(t, en, 1+c.next(mostInBuf))
		bytes := c.drawnBytes(en, c.next(200))
		var pieces []string
		for rest := bytes; rest != ""; {
			n := c.next(1 + min(len(rest), 1+c.next(40)))
			pieces, rest = append(pieces, rest[:n]), rest[n:]
		}
		checkFedPieces(t, s, pieces)
	}
}

func TestLongTextsLeaveASessionAsAllAtOnce(t *testing.T) {
	for _, bytes := range longTexts() {
		for _, en := range allCodes {
			for _, most := range []int{1, 7, mostInBuf} {
				s := checkNewSession(t, en, most)
				for i := 0; i <= len(bytes); i += 3 {
					checkFedPieces(t, s, []string{bytes[:i], bytes[i:]})
					checkFedPieces(t, s, []string{bytes[:i/2], bytes[i/2 : i], "", bytes[i:]})
				}
				checkFedPieces(t, s, strings.Split(bytes, ""))
			}
		}
	}
}

// Behind all of it the runes are those of the text, read by Go's own means.
func TestSessionsReadWhatTheTextIs(t *testing.T) {
	c := chances(61)
	for range 1500 {
		en := allCodes[c.next(len(allCodes))]
		bytes := c.drawnBytes(en, c.next(120))
		runes, longs := readWhole(en, bytes)
		s := checkNewSession(t, en, 1+c.next(mostInBuf))
		var came []int
		for rest := bytes; rest != ""; {
			n := 1 + c.next(len(rest))
			next, went, ok := impl.FeedSession(s, rest[:n])
			if !ok {
				t.Fatalf("FeedSession(%v, %q)", s, rest[:n])
			}
			s, came, rest = next, append(came, went...), rest[n:]
		}
		s, went, ok := impl.EndSession(s)
		came = append(append(came, went...), s.Buf.Runes...)
		gone := len(runes) - len(s.Buf.Runes)
		if !ok || !slices.Equal(came, runes) || !slices.Equal(s.Buf.Longs, longs[gone:]) || s.Buf.Gone != sumOf(longs[:gone]) {
			t.Fatalf("code %d, %q: %v, %v; the text is %v, %v", en, bytes, came, s, runes, longs)
		}
	}
}

func TestGoodBufAtItsLimits(t *testing.T) {
	for _, most := range append([]int{1, 2, 3, mostInBuf - 1, mostInBuf}, noMaxes...) {
		for _, many := range []int{0, 1, 2, 3, 4, mostInBuf - 1, mostInBuf, mostInBuf + 1, 500} {
			for _, gone := range append([]int{0, 1, mostGone - 1, mostGone}, noGones...) {
				b := bufOf(most, many)
				b.Gone = gone
				checkBuf(t, b)
			}
		}
	}
	checkGoodBuf(t, bufOf(1, 0), true)
	checkGoodBuf(t, bufOf(1, 1), true)
	checkGoodBuf(t, bufOf(1, 2), false)
	checkGoodBuf(t, bufOf(mostInBuf, mostInBuf), true)
	checkGoodBuf(t, bufOf(mostInBuf, mostInBuf+1), false)
	checkGoodBuf(t, bufOf(mostInBuf+1, 0), false)
	checkGoodBuf(t, bufOf(0, 0), false)
	checkGoodBuf(t, impl.Buf{}, false)
}

func TestGoodBufByItsLongs(t *testing.T) {
	for _, many := range []int{1, 2, 3, mostInBuf} {
		for k := range many {
			for _, n := range append([]int{1, 2, mostText - 1, mostText}, noLongs...) {
				b := bufOf(mostInBuf, many)
				b.Longs[k] = n
				checkBuf(t, b)
			}
		}
	}
	for runes := range 4 {
		for longs := range 6 {
			b := bufOf(4, runes)
			b.Longs = onesOf(longs)
			checkBuf(t, b)
		}
	}
	b := impl.Buf{Max: 2, Longs: []int{1}}
	checkNoBuf(t, b)
	b = impl.Buf{Max: 2, Runes: []int{97, 98}, Longs: []int{mostText, mostText}, Gone: mostGone - 2*mostText}
	checkBuf(t, b)
	checkByte(t, b, 2, mostGone)
}

func TestGoodBufByItsRunes(t *testing.T) {
	for _, many := range []int{1, 2, mostInBuf} {
		for k := range many {
			for _, r := range slices.Concat(noRunes, []int{0, 97, 55295, 57344, bad, lastRune}) {
				b := bufOf(mostInBuf, many)
				b.Runes[k] = r
				checkBuf(t, b)
			}
		}
	}
}

func TestPutBufByHand(t *testing.T) {
	buf := func(most int, runes, longs []int, gone int) impl.Buf {
		return impl.Buf{Max: most, Runes: runes, Longs: longs, Gone: gone}
	}
	for _, c := range []struct {
		b            impl.Buf
		runes, longs []int
		then         impl.Buf
		went         []int
	}{
		{buf(2, nil, nil, 0), nil, nil, buf(2, nil, nil, 0), nil},
		{buf(2, nil, nil, 5), []int{97}, []int{3}, buf(2, []int{97}, []int{3}, 5), nil},
		{buf(2, []int{97}, []int{3}, 5), []int{98}, []int{4}, buf(2, []int{97, 98}, []int{3, 4}, 5), nil},
		{buf(2, []int{97, 98}, []int{3, 4}, 5), nil, nil, buf(2, []int{97, 98}, []int{3, 4}, 5), nil},
		// one more than there is room for
		{buf(2, []int{97, 98}, []int{3, 4}, 5), []int{99}, []int{1}, buf(2, []int{98, 99}, []int{4, 1}, 8), []int{97}},
		{buf(2, []int{97}, []int{3}, 5), []int{98, 99}, []int{2, 1}, buf(2, []int{98, 99}, []int{2, 1}, 8), []int{97}},
		{buf(1, []int{97}, []int{3}, 0), []int{98}, []int{2}, buf(1, []int{98}, []int{2}, 3), []int{97}},
		// all that was there
		{buf(2, []int{97, 98}, []int{3, 4}, 5), []int{99, 100}, []int{1, 1}, buf(2, []int{99, 100}, []int{1, 1}, 12), []int{97, 98}},
		// some of those that come, too
		{buf(2, []int{97, 98}, []int{3, 4}, 5), []int{99, 100, 101}, []int{10, 20, 30}, buf(2, []int{100, 101}, []int{20, 30}, 22), []int{97, 98, 99}},
		{buf(2, nil, nil, 0), []int{97, 98, 99}, []int{1, 2, 3}, buf(2, []int{98, 99}, []int{2, 3}, 1), []int{97}},
		{buf(1, []int{97}, []int{1000}, 0), []int{98, 99, 100, 101}, []int{1000, 1000, 1000, 1000}, buf(1, []int{101}, []int{1000}, 4000), []int{97, 98, 99, 100}},
	} {
		checkPut(t, c.b, c.runes, c.longs, c.then, c.went)
		checkPutAsSaid(t, c.b, c.runes, c.longs)
	}
}

func TestPutBufOfAllSmallBuffers(t *testing.T) {
	longs := []int{3, 1, 1000, 2, 7, 4, 1, 5}
	for most := 1; most <= 4; most++ {
		for many := range most + 1 {
			b := bufOf(most, many)
			b.Longs, b.Gone = []int{2, 8, 1, 999}[:many], 11
			for come := range len(longs) {
				for fewer := range come + 1 {
					checkPutAsSaid(t, b, numbersFrom(100, come), longs[:come-fewer])
					checkPutAsSaid(t, b, numbersFrom(100, come-fewer), longs[:come])
				}
			}
		}
	}
}

func TestPutBufAtMaxBuf(t *testing.T) {
	for _, many := range []int{0, 1, 30, mostInBuf - 1, mostInBuf} {
		for _, come := range []int{0, 1, mostInBuf - many, mostInBuf - many + 1, mostInBuf, mostInBuf + 1, 500, mostText, mostText + 3} {
			runes, longs := bufOf(mostInBuf, come).Runes, onesOf(come)
			for i := range longs {
				longs[i] += i % 5
			}
			b := bufOf(mostInBuf, many)
			checkPutAsSaid(t, b, runes, longs)
			checkNoPut(t, b, runes, append(longs, 1))
			checkNoPut(t, b, append(runes, 97), longs)
		}
	}
}

func TestPutBufOfWhatIsNoRuneOrLong(t *testing.T) {
	for _, most := range []int{1, 2, 5, mostInBuf} {
		for many := range min(most, 3) {
			b := bufOf(most, many)
			for come := 1; come < 7; come++ {
				// where what is wrong would go at once, too
				for k := range come {
					runes, longs := bufOf(most, come).Runes, onesOf(come)
					for _, r := range noRunes {
						runes[k] = r
						checkNoPut(t, b, runes, longs)
					}
					runes[k] = lastRune
					for _, n := range noLongs {
						longs[k] = n
						checkNoPut(t, b, runes, longs)
					}
					longs[k] = mostText
					checkPutAsSaid(t, b, runes, longs)
				}
			}
		}
	}
}

func TestGoneAtMaxGone(t *testing.T) {
	for _, ahead := range []int{0, 1, 2, 999, 1000, 1001, 2000, 2001} {
		b := impl.Buf{Max: 2, Runes: []int{97, 98}, Longs: []int{mostText, mostText}, Gone: mostGone - ahead}
		checkBuf(t, b)
		checkPutAsSaid(t, b, []int{99}, []int{1})
		checkPutAsSaid(t, b, []int{99, 100}, []int{1, 1})
		checkPutAsSaid(t, b, []int{99, 100, 101}, []int{1, 1, 1})
		b = impl.Buf{Max: 3, Runes: []int{97, 98}, Longs: []int{1, 1000}, Gone: mostGone - ahead}
		checkBuf(t, b)
		checkPutAsSaid(t, b, []int{99}, []int{1})
		checkPutAsSaid(t, b, []int{99, 100}, []int{1, 1})
	}
	b := impl.Buf{Max: 1, Runes: []int{97}, Longs: []int{2}, Gone: mostGone - 2}
	checkPut(t, b, []int{98}, []int{1}, impl.Buf{Max: 1, Runes: []int{98}, Longs: []int{1}, Gone: mostGone}, []int{97})
	checkTake(t, b, 1, impl.Buf{Max: 1, Gone: mostGone}, []int{97})
	b.Gone++
	checkNoPut(t, b, []int{98}, []int{1})
	checkNoTake(t, b, 1)
	// the byte is told all the same: it is no Gone
	checkByte(t, b, 1, mostGone+1)
	b = impl.Buf{Max: mostInBuf, Runes: bufOf(mostInBuf, mostInBuf).Runes, Longs: slices.Repeat([]int{mostText}, mostInBuf), Gone: mostGone}
	checkByte(t, b, mostInBuf, mostGone+mostInBuf*mostText)
	checkNoTake(t, b, 1)
	checkTake(t, b, 0, b, nil)
	// as many as no list of bytes could have
	checkNoPut(t, impl.Buf{Max: 1}, slices.Repeat([]int{97}, 1100), slices.Repeat([]int{mostText}, 1100))
	checkPutAsSaid(t, impl.Buf{Max: 1}, slices.Repeat([]int{97}, 1001), slices.Repeat([]int{mostText}, 1001))
	checkNoPut(t, impl.Buf{Max: 1}, slices.Repeat([]int{97}, 1002), slices.Repeat([]int{mostText}, 1002))
}

func TestTakeBufAndByteOfByHand(t *testing.T) {
	b := impl.Buf{Max: 4, Runes: []int{97, 12354, 99}, Longs: []int{1, 3, 2}, Gone: 7}
	checkTake(t, b, 0, b, nil)
	checkTake(t, b, 1, impl.Buf{Max: 4, Runes: []int{12354, 99}, Longs: []int{3, 2}, Gone: 8}, []int{97})
	checkTake(t, b, 2, impl.Buf{Max: 4, Runes: []int{99}, Longs: []int{2}, Gone: 11}, []int{97, 12354})
	checkTake(t, b, 3, impl.Buf{Max: 4, Gone: 13}, []int{97, 12354, 99})
	for k, n := range []int{7, 8, 11, 13} {
		checkByte(t, b, k, n)
	}
	checkTakings(t, b)
	checkTakings(t, impl.Buf{Max: 1})
	checkByte(t, impl.Buf{Max: 1, Gone: 5}, 0, 5)
}

func TestBuffersOfChance(t *testing.T) {
	c := chances(67)
	b := impl.Buf{Max: 7}
	for range 20000 {
		come := c.next(5)
		if c.next(20) == 0 {
			come = c.next(30)
		}
		runes, longs := c.listOfChance(come), make([]int, come)
		for i := range longs {
			longs[i] = 1 + c.next(4)
		}
		checkPutAsSaid(t, b, runes, longs)
		b, _, _ = putAsSaid(b, runes, longs)
		checkTakings(t, b)
		b, _, _ = takeAsSaid(b, c.next(len(b.Runes)+1))
		if b.Gone > mostGone-1000 {
			b = impl.Buf{Max: 1 + c.next(mostInBuf)}
		}
	}
}

func TestNewSession(t *testing.T) {
	for _, en := range allCodes {
		for most := 1; most <= mostInBuf; most++ {
			checkNewSession(t, en, most)
		}
		for _, most := range noMaxes {
			checkNoNewSession(t, en, most)
		}
	}
	for _, en := range noCodes {
		checkNoNewSession(t, en, 10)
		checkNoNewSession(t, en, 0)
	}
}

func TestGoodSession(t *testing.T) {
	begun := beginnings()
	b := bufOf(5, 3)
	for _, en := range append(slices.Clone(allCodes), noCodes...) {
		for _, shift := range []int{0, 1, 2, -1} {
			for _, loose := range []int{0, 1, mostText, mostText + 1, -1} {
				for _, held := range []string{"", "a", "\x00", "\xc3", "\xe3\x81", "\xd8\x00", "\xd8\x00\xdc", "\x00\xd8", "\xf0\x90\x80", "\xff"} {
					d := impl.Decoder{En: en, Shift: shift, Loose: loose, Held: held}
					good := asSaid(d, begun)
					if !good {
						checkNoSession(t, impl.Session{Dec: d, Buf: b})
						checkNoSession(t, impl.Session{Dec: d, Buf: b, Eof: true})
						continue
					}
					if !impl.GoodSession(impl.Session{Dec: d, Buf: b}) {
						t.Fatalf("a session with %v is not good", d)
					}
					// at the end nothing is held
					end := impl.Session{Dec: d, Buf: b, Eof: true}
					if held != "" {
						checkNoSession(t, end)
					} else if !impl.GoodSession(end) {
						t.Fatalf("%v is not good", end)
					}
				}
			}
		}
	}
	checkNoSession(t, impl.Session{})
}

func TestFeedSessionByHand(t *testing.T) {
	s := checkNewSession(t, utf8Bytes, 3)
	with := func(held string, gone int, runes, longs []int) impl.Session {
		return impl.Session{Dec: impl.Decoder{En: utf8Bytes, Held: held}, Buf: impl.Buf{Max: 3, Runes: runes, Longs: longs, Gone: gone}}
	}
	for _, c := range []struct {
		bytes string
		then  impl.Session
		went  []int
	}{
		{"", with("", 0, nil, nil), nil},
		{"a", with("", 0, []int{97}, []int{1}), nil},
		{"\xe3\x81", with("\xe3\x81", 0, []int{97}, []int{1}), nil},
		{"\x82", with("", 0, []int{97, 12354}, []int{1, 3}), nil},
		{"b\xf0", with("\xf0", 0, []int{97, 12354, 98}, []int{1, 3, 1}), nil},
		{"\x9f\x98\x80", with("", 1, []int{12354, 98, 128512}, []int{3, 1, 4}), []int{97}},
		{"\xff", with("", 4, []int{98, 128512, bad}, []int{1, 4, 1}), []int{12354}},
		{"abcde", with("", 12, []int{99, 100, 101}, []int{1, 1, 1}), []int{98, 128512, bad, 97, 98}},
		{"\xe3", with("\xe3", 12, []int{99, 100, 101}, []int{1, 1, 1}), nil},
		{"\xe3\xe3", with("\xe3", 14, []int{101, bad, bad}, []int{1, 1, 1}), []int{99, 100}},
	} {
		checkFedSession(t, s, c.bytes, c.then, c.went)
		s = c.then
	}
	s = checkNewSession(t, shiftBytes, 1)
	s.Dec.Shift, s.Dec.Loose = 1, 4
	then := impl.Session{Dec: impl.Decoder{En: shiftBytes, Loose: 2}, Buf: impl.Buf{Max: 1, Runes: []int{12418}, Longs: []int{2}, Gone: 5}}
	checkFedSession(t, s, "a\x0eb\x0e\x0f", then, []int{12417})
	end := then
	end.Eof = true
	checkEnded(t, then, end, nil)
}

func TestFeedSessionAtMaxText(t *testing.T) {
	for _, en := range allCodes {
		for _, b := range []string{"a", "\x00", "\xe3", "\xff", "\xd8"} {
			for _, most := range []int{1, mostInBuf} {
				s := checkNewSession(t, en, most)
				bytes := strings.Repeat(b, mostText)
				checkFedPieces(t, s, []string{bytes})
				checkFedPieces(t, s, []string{bytes[:1], bytes[1:]})
				checkFedPieces(t, s, []string{bytes[:499], bytes[499:]})
				for _, longer := range []string{bytes + b, bytes + "a", strings.Repeat(bytes, 3)} {
					checkNotFedSession(t, s, longer)
				}
				half, _, _ := impl.FeedSession(s, b)
				checkNotFedSession(t, half, bytes+"a")
				full, _, _ := impl.FeedSession(half, bytes)
				if bytesIn(full) != mostText+1 || !impl.GoodSession(full) {
					t.Fatalf("%v behind %d bytes", full, mostText+1)
				}
			}
		}
	}
}

// As many bytes turn shift as may be loose, and the rune behind them takes
// one more.
func TestARuneThatTakesTooManyBytes(t *testing.T) {
	turns := strings.Repeat("\x0e", mostText)
	s := checkNewSession(t, shiftBytes, 2)
	then := s
	then.Dec.Shift, then.Dec.Loose = 1, mostText-1
	checkFedSession(t, s, turns[1:], then, nil)
	last := impl.Session{Dec: impl.Decoder{En: shiftBytes, Shift: 1}, Buf: impl.Buf{Max: 2, Runes: []int{12417}, Longs: []int{mostText}}}
	checkFedSession(t, then, "a", last, nil)
	checkFedSession(t, s, turns[1:]+"a", last, nil)
	then.Dec.Loose = mostText
	checkFedSession(t, s, turns, then, nil)
	checkNotFedSession(t, then, "a")
	checkNotFedSession(t, then, "\x0e")
	checkNotFedSession(t, then, "\x0ea")
	// where it would go at once, too
	checkNotFedSession(t, then, "abcd")
	then.Eof = true
	checkEnded(t, impl.Session{Dec: then.Dec, Buf: then.Buf}, then, nil)
}

func TestSessionsAtMaxGone(t *testing.T) {
	s := checkNewSession(t, latinBytes, mostInBuf)
	bytes := strings.Repeat("a", mostText)
	for range mostGone / mostText {
		s, _, _ = impl.FeedSession(s, bytes)
	}
	s, went, ok := impl.FeedSession(s, bytes[:mostInBuf])
	if !ok || len(went) != mostInBuf || s.Buf.Gone != mostGone || len(s.Buf.Runes) != mostInBuf || !impl.GoodSession(s) {
		t.Fatalf("%d bytes are gone, %v", s.Buf.Gone, ok)
	}
	checkNotFedSession(t, s, "a")
	checkNotFedSession(t, s, bytes)
	checkFedSession(t, s, "", s, nil)
	end := s
	end.Eof = true
	checkEnded(t, s, end, nil)
	checkExpect(t, s, clausesOf(t, "(aa)"), impl.Answer{To: 2, Text: []int{97, 97}, Byte: mostGone + 2})
	checkNoTakeIn(t, s, clausesOf(t, "(aa)"))
	checkNoTakeIn(t, s, clausesOf(t, "full"))
	checkNoTakeIn(t, s, clausesOf(t, "eof full"))
	checkNoTakeIn(t, end, clausesOf(t, "eof"))
	checkTakeIn(t, s, clausesOf(t, "b eof"), s, impl.Answer{No: -1})
	checkTakeIn(t, s, clausesOf(t, "b ()"), s, impl.Answer{No: 1, Byte: mostGone})
	// what is held, and would go at the end
	half := impl.Session{Dec: impl.Decoder{En: utf8Bytes, Held: "\xe3"}, Buf: impl.Buf{Max: 1, Runes: []int{97}, Longs: []int{1}, Gone: mostGone}}
	checkNotEnded(t, half)
	half.Buf.Gone--
	checkEnded(t, half, impl.Session{Dec: impl.Decoder{En: utf8Bytes}, Buf: impl.Buf{Max: 1, Runes: []int{bad}, Longs: []int{1}, Gone: mostGone}, Eof: true}, []int{97})
	half.Dec.Held = "\xe3\x81"
	checkNotEnded(t, half)
}

func TestEndSessionByHand(t *testing.T) {
	for _, c := range []struct {
		d            impl.Decoder
		runes, longs []int
	}{
		{impl.Decoder{En: utf8Bytes}, nil, nil},
		{impl.Decoder{En: utf8Bytes, Held: "\xe3"}, []int{bad}, []int{1}},
		{impl.Decoder{En: utf8Bytes, Held: "\xe3\x81"}, []int{bad, bad}, []int{1, 1}},
		{impl.Decoder{En: utf8Bytes, Held: "\xf0\x90\x80"}, []int{bad, bad, bad}, []int{1, 1, 1}},
		{impl.Decoder{En: bigUnits, Held: "\x00"}, []int{bad}, []int{1}},
		{impl.Decoder{En: bigUnits, Held: "\xd8\x00"}, []int{bad}, []int{2}},
		{impl.Decoder{En: littleUnits, Held: "\x00\xd8\x00"}, []int{bad, bad}, []int{2, 1}},
		{impl.Decoder{En: latinBytes}, nil, nil},
		{impl.Decoder{En: shiftBytes, Shift: 1}, nil, nil},
		{impl.Decoder{En: shiftBytes, Shift: 1, Loose: 9}, nil, nil},
		{impl.Decoder{En: shiftBytes, Loose: mostText}, nil, nil},
	} {
		for _, many := range []int{0, 1, 2, 3} {
			s := impl.Session{Dec: c.d, Buf: bufOf(3, many)}
			end := s
			end.Dec.Held, end.Eof = "", true
			buf, went, _ := putAsSaid(s.Buf, c.runes, c.longs)
			end.Buf = buf
			checkEnded(t, s, end, went)
			// once is the end
			checkNotEnded(t, end)
			for _, bytes := range []string{"", "a", "\xe3\x81\x82"} {
				checkNotFedSession(t, end, bytes)
			}
		}
	}
}

// expectAsSaid looks for each thing by itself.
func expectAsSaid(s impl.Session, l []impl.Clause) impl.Answer {
	var ps [][]impl.Re
	places := map[int][]int{}
	for no, c := range l {
		places[c.Kind] = append(places[c.Kind], no)
		if c.Kind == impl.ClPat {
			ps = append(ps, c.Pat)
		}
	}
	full, eof := places[impl.ClFull], places[impl.ClEof]
	if hit, ok := firstAsSaid(ps, s.Buf.Runes); ok {
		longs := s.Buf.Longs[:hit.To]
		return impl.Answer{No: places[impl.ClPat][hit.No], From: hit.From, To: hit.To, Text: s.Buf.Runes[hit.From:hit.To], Byte: s.Buf.Gone + sumOf(longs)}
	}
	if full != nil && len(s.Buf.Runes) == s.Buf.Max {
		return impl.Answer{No: full[0]}
	}
	if eof != nil && s.Eof {
		return impl.Answer{No: eof[0]}
	}
	return impl.Answer{No: -1}
}

// checkAwaited: what is told, and what is taken.
func checkAwaited(t *testing.T, s impl.Session, l []impl.Clause) {
	t.Helper()
	want := expectAsSaid(s, l)
	checkExpect(t, s, l, want)
	taken := 0
	switch {
	case want.No < 0:
	case l[want.No].Kind == impl.ClPat:
		taken = want.To
	default:
		taken = len(s.Buf.Runes)
	}
	then := s
	buf, _, ok := takeAsSaid(s.Buf, taken)
	then.Buf = buf
	if !ok {
		checkNoTakeIn(t, s, l)
		return
	}
	checkTakeIn(t, s, l, then, want)
	if !impl.GoodSession(then) || bytesIn(then) != bytesIn(s) {
		t.Fatalf("TakeIn(%v, %v) leaves %v", s, l, then)
	}
}

func sessionOf(most int, runes []int, gone int, eof bool) impl.Session {
	b := impl.Buf{Max: most, Runes: runes, Gone: gone}
	for i := range runes {
		b.Longs = append(b.Longs, 1+i%4)
	}
	return impl.Session{Dec: impl.Decoder{En: utf8Bytes}, Buf: b, Eof: eof}
}

func TestExpectInByHand(t *testing.T) {
	ab := []int{97, 98, 97, 98}
	for _, c := range []struct {
		s       impl.Session
		clauses string
		want    impl.Answer
		left    []int
		gone    int
	}{
		{sessionOf(5, ab, 10, false), "", impl.Answer{No: -1}, ab, 10},
		{sessionOf(5, ab, 10, false), "c", impl.Answer{No: -1}, ab, 10},
		{sessionOf(5, ab, 10, false), "eof full", impl.Answer{No: -1}, ab, 10},
		{sessionOf(4, ab, 10, true), "c", impl.Answer{No: -1}, ab, 10},
		{sessionOf(5, nil, 0, false), "a", impl.Answer{No: -1}, nil, 0},
		// one begins first, or is first
		{sessionOf(5, ab, 10, false), "b a", impl.Answer{No: 1, To: 1, Text: ab[:1], Byte: 11}, ab[1:], 11},
		{sessionOf(5, ab, 10, false), "a (ab)", impl.Answer{No: 0, To: 1, Text: ab[:1], Byte: 11}, ab[1:], 11},
		{sessionOf(5, ab, 10, false), "(ab) a", impl.Answer{No: 0, To: 2, Text: ab[:2], Byte: 13}, ab[2:], 13},
		{sessionOf(5, ab, 10, false), "(ba)", impl.Answer{No: 0, From: 1, To: 3, Text: ab[1:3], Byte: 16}, ab[3:], 16},
		{sessionOf(5, ab, 10, false), ".*", impl.Answer{No: 0, To: 4, Text: ab, Byte: 20}, nil, 20},
		// by its number in the list of all
		{sessionOf(5, ab, 10, false), "eof c full b", impl.Answer{No: 3, From: 1, To: 2, Text: ab[1:2], Byte: 13}, ab[2:], 13},
		{sessionOf(5, ab, 10, false), "full eof full a", impl.Answer{No: 3, To: 1, Text: ab[:1], Byte: 11}, ab[1:], 11},
		{sessionOf(5, ab, 10, false), "eof b eof a a", impl.Answer{No: 3, To: 1, Text: ab[:1], Byte: 11}, ab[1:], 11},
		// the empty list is there, too
		{sessionOf(5, ab, 10, false), "c ()", impl.Answer{No: 1, Byte: 10}, ab, 10},
		{sessionOf(5, nil, 10, true), "eof ()", impl.Answer{No: 1, Byte: 10}, nil, 10},
		{sessionOf(5, ab, 10, false), "b*", impl.Answer{No: 0, Byte: 10}, ab, 10},
		// ahead of what is full, and of the end
		{sessionOf(4, ab, 10, true), "full eof b", impl.Answer{No: 2, From: 1, To: 2, Text: ab[1:2], Byte: 13}, ab[2:], 13},
		{sessionOf(4, ab, 10, true), "eof full c", impl.Answer{No: 1}, nil, 20},
		{sessionOf(4, ab, 10, true), "eof c eof", impl.Answer{No: 0}, nil, 20},
		{sessionOf(5, ab, 10, true), "full eof c", impl.Answer{No: 1}, nil, 20},
		{sessionOf(4, ab, 10, false), "eof c full full", impl.Answer{No: 2}, nil, 20},
		{sessionOf(4, ab, 10, false), "eof", impl.Answer{No: -1}, ab, 10},
		{sessionOf(5, nil, 10, true), "c eof", impl.Answer{No: 1}, nil, 10},
	} {
		l := clausesOf(t, c.clauses)
		checkExpect(t, c.s, l, c.want)
		then := c.s
		then.Buf.Runes, then.Buf.Gone = c.left, c.gone
		then.Buf.Longs = then.Buf.Longs[len(then.Buf.Longs)-len(c.left):]
		checkTakeIn(t, c.s, l, then, c.want)
		checkAwaited(t, c.s, l)
	}
}

// All lists of a few clauses, over all short lists of runes.
func TestExpectInOfAllSmallSessions(t *testing.T) {
	clauses := clausesOf(t, "a b () [] (ab) eof full")
	eachShortList(3, numbersFrom(0, len(clauses)), func(numbers []int) {
		var l []impl.Clause
		for _, i := range numbers {
			l = append(l, clauses[i])
		}
		eachShortList(3, []int{97, 98}, func(runes []int) {
			for most := max(1, len(runes)); most < len(runes)+2; most++ {
				checkAwaited(t, sessionOf(most, runes, 0, false), l)
				checkAwaited(t, sessionOf(most, runes, 5, true), l)
			}
		})
	})
}

func (c *chances) clauses(most int) []impl.Clause {
	l := make([]impl.Clause, c.next(most+1))
	for i := range l {
		switch c.next(5) {
		case 0:
			l[i].Kind = impl.ClEof
		case 1:
			l[i].Kind = impl.ClFull
		default:
			// few of them match the empty list, so that others are asked
			p := c.pattern(1+c.next(8), manyLeaves)
			if matchAsSaid(p, nil) {
				p = opRe(impl.ReCat, p, runeRe(99))
			}
			l[i] = patClause(p)
		}
	}
	return l
}

func TestExpectInOfChance(t *testing.T) {
	c := chances(71)
	told := map[int]int{}
	for range 4000 {
		runes := c.listOfChance(c.next(9))
		if c.next(40) == 0 {
			runes = c.listOfChance(c.next(mostInBuf + 1))
		}
		most := max(1, len(runes)) + c.next(2)
		if most > mostInBuf {
			most = mostInBuf
		}
		s, l := sessionOf(most, runes, c.next(1000), c.next(2) == 0), c.clauses(mostPatterns)
		checkAwaited(t, s, l)
		if a, _ := impl.ExpectIn(s, l); a.No >= 0 {
			told[l[a.No].Kind]++
		} else {
			told[0]++
		}
	}
	for kind := range 4 {
		if told[kind] < 100 {
			t.Errorf("kind %d was told %d times", kind, told[kind])
		}
	}
}

func TestExpectInAtMaxPatterns(t *testing.T) {
	s := sessionOf(4, []int{97, 98, 97, 98}, 10, true)
	b, nothing, eof := patClause(runeRe(98)), patClause(setRe()), impl.Clause{Kind: impl.ClEof}
	for _, first := range []impl.Clause{b, nothing, eof, {Kind: impl.ClFull}} {
		for _, other := range []impl.Clause{b, nothing, eof} {
			l := slices.Repeat([]impl.Clause{other}, mostPatterns)
			l[mostPatterns-1] = first
			checkAwaited(t, s, l)
			l[0] = first
			checkAwaited(t, s, l)
			checkNoExpect(t, s, append(l, first))
			checkNoExpect(t, s, append(l, other))
			checkNoExpect(t, s, slices.Repeat(l, 20))
		}
	}
	l := slices.Repeat([]impl.Clause{nothing}, mostPatterns)
	l[mostPatterns-1] = b
	checkExpect(t, s, l, impl.Answer{No: mostPatterns - 1, From: 1, To: 2, Text: []int{98}, Byte: 13})
}

func TestClausesThatAreNone(t *testing.T) {
	var none []impl.Clause
	for _, kind := range []int{0, 4, 5, -1, -3, math.MinInt, math.MaxInt} {
		none = append(none, impl.Clause{Kind: kind}, impl.Clause{Kind: kind, Pat: runeRe(97)})
	}
	for _, kind := range []int{impl.ClEof, impl.ClFull} {
		for _, p := range append([][]impl.Re{runeRe(97), emptyRe(), setRe()}, badPatterns()...) {
			if len(p) > 0 {
				none = append(none, impl.Clause{Kind: kind, Pat: p})
			}
		}
	}
	for _, p := range badPatterns() {
		none = append(none, patClause(p))
	}
	a, full, eof := patClause(runeRe(97)), impl.Clause{Kind: impl.ClFull}, impl.Clause{Kind: impl.ClEof, Pat: []impl.Re{}}
	for _, c := range none {
		for _, s := range []impl.Session{sessionOf(2, nil, 0, false), sessionOf(2, []int{97, 97}, 3, false), sessionOf(2, []int{98}, 3, true)} {
			for _, l := range [][]impl.Clause{{c}, {a, c}, {c, a}, {a, full, eof, c}, {eof, c, full}, {a, a, a, a, a, a, a, c}} {
				checkNoExpect(t, s, l)
			}
			checkAwaited(t, s, []impl.Clause{a, full, eof})
		}
	}
}

// A full buffer of as many runes as can be, and patterns of as many nodes.
func TestExpectInAtMaxBuf(t *testing.T) {
	s := sessionOf(mostInBuf, slices.Repeat([]int{97}, mostInBuf), mostGone-200, true)
	s.Buf.Runes[mostInBuf-1] = 98
	for _, text := range []string{"b", "(ab)", "(a*b)", "a*", "c", "(~(c|(.*b)))", "((.*b)&(a.*))", "((.*b)&(.*c))"} {
		checkAwaited(t, s, clausesOf(t, "eof "+text+" full"))
	}
	checkExpect(t, s, clausesOf(t, "eof (ab)"), impl.Answer{No: 1, From: mostInBuf - 2, To: mostInBuf, Text: []int{97, 98}, Byte: mostGone - 200 + sumOf(s.Buf.Longs)})
	for _, p := range [][]impl.Re{timesRe(impl.ReStar, mostNodes-1, runeRe(98)), timesRe(impl.ReNot, mostNodes-1, runeRe(98)), chainRe(impl.ReCat, 20, runeRe(97)), opRe(impl.ReNot, chainRe(impl.ReOr, 20, runeRe(97)))} {
		checkAwaited(t, s, slices.Repeat([]impl.Clause{patClause(p)}, mostPatterns))
	}
}

// Where what came is cut at Byte its runes end with the Text.
func TestByteIsAPlaceInAllThatCame(t *testing.T) {
	c := chances(73)
	clauses := clausesOf(t, "b (a.) full A あ eof")
	hits := 0
	for range 600 {
		en := allCodes[c.next(len(allCodes))]
		s := checkNewSession(t, en, 1+c.next(12))
		all, gone := "", 0
		for range 12 {
			if !s.Eof {
				piece := c.drawnBytes(en, c.next(12))
				next, went, ok := impl.FeedSession(s, piece)
				if !ok {
					t.Fatalf("FeedSession(%v, %q)", s, piece)
				}
				s, all, gone = next, all+piece, gone+len(went)
			}
			if !s.Eof && c.next(8) == 0 {
				next, went, _ := impl.EndSession(s)
				s, gone = next, gone+len(went)
			}
			then, a, ok := impl.TakeIn(s, clauses)
			if !ok || bytesIn(then) != len(all) {
				t.Fatalf("TakeIn(%v) = %v, %v, %v behind %d bytes", s, then, a, ok, len(all))
			}
			if a.No >= 0 && clauses[a.No].Kind == impl.ClPat {
				runes, _ := readWhole(en, all[:a.Byte])
				if len(runes) != gone+a.To || !slices.Equal(runes[gone+a.From:], a.Text) || then.Buf.Gone != a.Byte {
					t.Fatalf("code %d, %q: TakeIn(%v) = %v, %v", en, all, s, then, a)
				}
				hits++
			}
			gone += len(s.Buf.Runes) - len(then.Buf.Runes)
			s = then
		}
	}
	if hits < 500 {
		t.Errorf("only %d hits", hits)
	}
}

func spreadBuf(b impl.Buf) impl.Buf {
	b.Runes, b.Longs = withMore(b.Runes, 97, 98, -7), withMore(b.Longs, 1, 2, -7)
	return b
}

func spreadClauses(l []impl.Clause) (spread []impl.Clause, numbers [][]int) {
	for _, c := range l {
		p, sets := spreadRe(c.Pat)
		spread, numbers = append(spread, impl.Clause{Kind: c.Kind, Pat: p}), append(numbers, sets...)
	}
	return append(spread, impl.Clause{Kind: impl.ClPat, Pat: runeRe(97)}, impl.Clause{Kind: 77})[:len(l)], numbers
}

func TestBuffersAreNotWrittenIntoNorReadFurther(t *testing.T) {
	for most := 1; most < 5; most++ {
		for many := range 6 {
			for come := range 7 {
				plain := bufOf(most, many)
				plain.Gone = 4
				b, runes, longs := spreadBuf(plain), withMore(numbersFrom(100, come), 97, -7), withMore(onesOf(come), 1, -7)
				before := wholeOf(b.Runes, b.Longs, runes, longs)
				checkPutAsSaid(t, b, runes, longs)
				for n := -1; n <= many+1; n++ {
					checkTakeAsSaid(t, b, n)
					impl.ByteOf(b, n)
				}
				checkBuf(t, b)
				then, went, _ := impl.PutBuf(b, runes, longs)
				for _, l := range [][]int{then.Runes, then.Longs, went} {
					overwrite(l)
				}
				then, went, _ = impl.TakeBuf(b, many/2)
				for _, l := range [][]int{then.Runes, then.Longs, went} {
					overwrite(l)
				}
				if wholeOf(b.Runes, b.Longs, runes, longs) != before {
					t.Fatalf("%v, %v, %v were written into, or an answer shares their memory", plain, runes, longs)
				}
			}
		}
	}
}

func overwriteSession(s impl.Session) {
	overwrite(s.Buf.Runes)
	overwrite(s.Buf.Longs)
}

func TestSessionsAreNotWrittenIntoNorReadFurther(t *testing.T) {
	c := chances(79)
	for range 1500 {
		runes := c.listOfChance(c.next(6))
		s := sessionOf(max(1, len(runes))+c.next(2), runes, 5, c.next(2) == 0)
		s.Buf = spreadBuf(s.Buf)
		plain := c.clauses(3)
		l, numbers := spreadClauses(plain)
		before := wholeOf(s.Buf.Runes, s.Buf.Longs) + wholeOf(numbers...)
		checkAwaited(t, s, l)
		a, _ := impl.ExpectIn(s, l)
		overwrite(a.Text)
		then, a, _ := impl.TakeIn(s, l)
		overwrite(a.Text)
		overwriteSession(then)
		for _, bytes := range []string{"", "a", "abcdefgh", "\xe3\x81"} {
			then, went, _ := impl.FeedSession(s, bytes)
			overwriteSession(then)
			overwrite(went)
		}
		then, went, _ := impl.EndSession(s)
		overwriteSession(then)
		overwrite(went)
		if wholeOf(s.Buf.Runes, s.Buf.Longs)+wholeOf(numbers...) != before {
			t.Fatalf("%v, %v were written into, or an answer shares their memory", s, plain)
		}
		behind := l[:len(l)+2]
		if behind[len(l)].Kind != impl.ClPat || !isSameRe(behind[len(l)].Pat, runeRe(97)) || behind[len(l)+1].Kind != 77 {
			t.Fatalf("what lies behind %v was written into", plain)
		}
		for i := range l {
			if l[i].Kind != plain[i].Kind || !isSameRe(l[i].Pat, plain[i].Pat) {
				t.Fatalf("%v was written into", plain)
			}
		}
	}
}

func TestSessionsAreNewMemory(t *testing.T) {
	listsOf := func(b impl.Buf, other []int) [][]int { return [][]int{b.Runes, b.Longs, other} }
	for _, come := range []int{0, 1, 2, 3, 5, 9} {
		for turn := range 3 {
			b := bufOf(4, 3)
			runes, longs := numbersFrom(100, come), onesOf(come)
			then, went, _ := impl.PutBuf(b, runes, longs)
			lists := listsOf(then, went)
			slices.Reverse(lists[turn:])
			checkListsApart(t, "PutBuf", lists)
			checkPutAsSaid(t, b, runes, longs)
			then, went, _ = impl.TakeBuf(b, min(3, come))
			lists = listsOf(then, went)
			slices.Reverse(lists[turn:])
			checkListsApart(t, "TakeBuf", lists)
			s := sessionOf(4, []int{97, 98, 99}, 0, false)
			fed, went, _ := impl.FeedSession(s, strings.Repeat("x", come))
			lists = listsOf(fed.Buf, went)
			slices.Reverse(lists[turn:])
			checkListsApart(t, "FeedSession", lists)
			half := sessionOf(3, []int{97, 98, 99}, 0, false)
			half.Dec.Held = "\xf0\x90\x80"
			end, went, _ := impl.EndSession(half)
			lists = listsOf(end.Buf, went)
			slices.Reverse(lists[turn:])
			checkListsApart(t, "EndSession", lists)
			for _, clauses := range []string{"a", "b", "c", "()", "(ab)", "eof", ".*"} {
				left, a, _ := impl.TakeIn(s, clausesOf(t, clauses))
				lists = listsOf(left.Buf, a.Text)
				slices.Reverse(lists[turn:])
				checkListsApart(t, "TakeIn", lists)
				checkAwaited(t, s, clausesOf(t, clauses))
			}
		}
	}
}

func TestWhatASessionHoldsIsNewMemory(t *testing.T) {
	s := checkNewSession(t, utf8Bytes, 4)
	bytes := "a\xe3\x81"
	fed, _, _ := impl.FeedSession(s, bytes)
	if fed.Dec.Held != "\xe3\x81" || sharesBytes(fed.Dec.Held, bytes) {
		t.Errorf("held %q of the text itself", fed.Dec.Held)
	}
	for _, clauses := range []string{"", "a", "b", "eof"} {
		then, _, ok := impl.TakeIn(fed, clausesOf(t, clauses))
		if !ok || then.Dec.Held != "\xe3\x81" || sharesBytes(then.Dec.Held, fed.Dec.Held) {
			t.Errorf("held %q of the session itself", then.Dec.Held)
		}
	}
}
