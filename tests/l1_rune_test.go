package tests

import (
	"math"
	"slices"
	"strings"
	"testing"
	"unicode/utf8"

	"loop.example/g00692/impl"
)

type written struct {
	r int
	s string
}

// The bytes are written out by hand, so that nothing of Go's own coding is
// taken for granted here.
var edgeRunes = []written{
	{0, "\x00"},
	{1, "\x01"},
	{97, "\x61"},
	{127, "\x7f"},
	{128, "\xc2\x80"},
	{228, "\xc3\xa4"},
	{2047, "\xdf\xbf"},
	{2048, "\xe0\xa0\x80"},
	{4095, "\xe0\xbf\xbf"},
	{4096, "\xe1\x80\x80"},
	{12354, "\xe3\x81\x82"},
	{55295, "\xed\x9f\xbf"},
	{57344, "\xee\x80\x80"},
	{impl.BadRune, "\xef\xbf\xbd"},
	{65535, "\xef\xbf\xbf"},
	{65536, "\xf0\x90\x80\x80"},
	{262143, "\xf0\xbf\xbf\xbf"},
	{262144, "\xf1\x80\x80\x80"},
	{1048576, "\xf4\x80\x80\x80"},
	{impl.MaxRune, "\xf4\x8f\xbf\xbf"},
}

var noRunes = []int{
	-1, -55296, math.MinInt, 55296, 55297, 56319, 56320, 57342, 57343,
	impl.MaxRune + 1, 2097151, 2097152, math.MaxInt32, math.MaxInt32 + 1,
	1 << 32, 1<<32 + 97, math.MaxInt,
}

// What is no UTF-8, and the runes that stand in it.
type broken struct {
	s string
	l []int
}

const bad = impl.BadRune

var brokenTexts = []broken{
	// bytes that only go on
	{"\x80", []int{bad}},
	{"\xbf", []int{bad}},
	{"a\x80b", []int{97, bad, 98}},
	{"\xc3\xa4\xa4", []int{228, bad}},
	// bytes that begin nothing
	{"\xff", []int{bad}},
	{"\xfe\x80", []int{bad, bad}},
	{"\xf8\x88\x80\x80\x80", []int{bad, bad, bad, bad, bad}},
	{"\xf5\x80\x80\x80", []int{bad, bad, bad, bad}},
	{"\xf7\xbf\xbf\xbf", []int{bad, bad, bad, bad}},
	// forms that are too long
	{"\xc0\x80", []int{bad, bad}},
	{"\xc1\xbf", []int{bad, bad}},
	{"\xe0\x80\x80", []int{bad, bad, bad}},
	{"\xe0\x9f\xbf", []int{bad, bad, bad}},
	{"\xf0\x80\x80\x80", []int{bad, bad, bad, bad}},
	{"\xf0\x8f\xbf\xbf", []int{bad, bad, bad, bad}},
	// surrogates in three bytes
	{"\xed\xa0\x80", []int{bad, bad, bad}},
	{"\xed\xaf\xbf", []int{bad, bad, bad}},
	{"\xed\xb0\x80", []int{bad, bad, bad}},
	{"\xed\xbf\xbf", []int{bad, bad, bad}},
	{"\xed\xa0\x80\xed\xb0\x80", []int{bad, bad, bad, bad, bad, bad}},
	// four bytes above MaxRune
	{"\xf4\x90\x80\x80", []int{bad, bad, bad, bad}},
	{"\xf4\xbf\xbf\xbf", []int{bad, bad, bad, bad}},
	// forms that are cut off
	{"\xc3", []int{bad}},
	{"\xc3a", []int{bad, 97}},
	{"\xc3\xc3\xa4", []int{bad, 228}},
	{"\xe3\x81", []int{bad, bad}},
	{"\xe3\x81a", []int{bad, bad, 97}},
	{"\xe3\x81\xe3\x81\x82", []int{bad, bad, 12354}},
	{"\xf0\x90\x80", []int{bad, bad, bad}},
	{"\xf0\x90\x80a", []int{bad, bad, bad, 97}},
	{"\xf4\x8f\xbf\xc3\xa4", []int{bad, bad, bad, 228}},
	{"\xf1\x80", []int{bad, bad}},
	// BadRune written beside bytes that are none
	{"\xef\xbf\xbd\xef\xbf", []int{bad, bad, bad}},
	{"\xef\xbf\xbd\xef\xbf\xbd\x80", []int{bad, bad, bad}},
}

// Each first and last byte of those that are treated alike.
const edgeBytes = "\x00a\x7f\x80\x8f\x90\x9f\xa0\xbf\xc0\xc1\xc2\xdf\xe0\xe1\xec\xed\xee\xef\xf0\xf1\xf3\xf4\xf5\xf7\xf8\xff"

// eachShortText hands over all texts of at most n of the bytes.
func eachShortText(n int, bytes string, use func(string)) {
	var from func(string)
	from = func(s string) {
		use(s)
		if len(s) == n {
			return
		}
		for i := range len(bytes) {
			from(s + bytes[i:i+1])
		}
	}
	from("")
}

func allBytes() string {
	b := make([]byte, 256)
	for i := range b {
		b[i] = byte(i)
	}
	return string(b)
}

func rangedOver(s string) []int {
	var l []int
	for _, r := range s {
		l = append(l, int(r))
	}
	return l
}

func checkReadAt(t *testing.T, s string, at int, r int, n int) {
	t.Helper()
	if gr, gn, ok := impl.RuneAt(s, at); gr != r || gn != n || !ok {
		t.Errorf("RuneAt(%q, %d) = %d, %d, %v; not %d, %d, true", s, at, gr, gn, ok, r, n)
	}
}

func checkRunes(t *testing.T, s string, want []int) {
	t.Helper()
	if l, ok := impl.RunesOf(s); !ok || !slices.Equal(l, want) {
		t.Errorf("RunesOf(%q) = %v, %v; not %v, true", s, l, ok, want)
	}
}

func TestRuneEdgesReadBack(t *testing.T) {
	for _, e := range edgeRunes {
		if !impl.GoodRune(e.r) {
			t.Errorf("GoodRune(%d) is false", e.r)
		}
		if s, ok := impl.Utf8Of(e.r); s != e.s || !ok {
			t.Errorf("Utf8Of(%d) = %q, %v; not %q, true", e.r, s, ok, e.s)
		}
		if s, ok := impl.TextOf([]int{e.r}); s != e.s || !ok {
			t.Errorf("TextOf(%d) = %q, %v; not %q, true", e.r, s, ok, e.s)
		}
		checkReadAt(t, e.s, 0, e.r, len(e.s))
		checkReadAt(t, "a"+e.s, 1, e.r, len(e.s))
		checkReadAt(t, "\xe3"+e.s+"\x80", 1, e.r, len(e.s))
		checkRunes(t, e.s, []int{e.r})
		if !impl.IsWhole(e.s) || impl.IsBegun(e.s) {
			t.Errorf("%q is not whole, or is begun", e.s)
		}
	}
}

func TestPlacesWithinARuneReadAsBad(t *testing.T) {
	for _, e := range edgeRunes {
		for at := 1; at < len(e.s); at++ {
			checkReadAt(t, e.s, at, bad, 1)
			checkReadAt(t, e.s+"a", at, bad, 1)
		}
	}
}

func TestEdgePairsReadBack(t *testing.T) {
	for _, a := range edgeRunes {
		for _, b := range edgeRunes {
			l := []int{a.r, b.r}
			if s, ok := impl.TextOf(l); s != a.s+b.s || !ok {
				t.Errorf("TextOf(%v) = %q, %v", l, s, ok)
			}
			checkRunes(t, a.s+b.s, l)
			if !impl.IsWhole(a.s + b.s) {
				t.Errorf("IsWhole(%q) is false", a.s+b.s)
			}
		}
	}
}

func TestAllRunesReadBack(t *testing.T) {
	for r := -2; r <= impl.MaxRune+2; r++ {
		good := r >= 0 && r <= math.MaxInt32 && utf8.ValidRune(rune(r))
		s, ok := impl.Utf8Of(r)
		if impl.GoodRune(r) != good || ok != good {
			t.Fatalf("GoodRune(%d) is not %v, or Utf8Of tells %v", r, good, ok)
		}
		if !good {
			continue
		}
		if s != string(rune(r)) {
			t.Fatalf("Utf8Of(%d) = %q", r, s)
		}
		if got, n, ok := impl.RuneAt(s, 0); got != r || n != len(s) || !ok {
			t.Fatalf("RuneAt(%q, 0) = %d, %d, %v", s, got, n, ok)
		}
	}
}

func TestNoRunesGetTheZeroAnswer(t *testing.T) {
	for _, r := range noRunes {
		if impl.GoodRune(r) {
			t.Errorf("GoodRune(%d) is true", r)
		}
		if s, ok := impl.Utf8Of(r); s != "" || ok {
			t.Errorf("Utf8Of(%d) = %q, %v", r, s, ok)
		}
		for _, l := range [][]int{{r}, {97, r}, {r, 97}, {97, 12354, r, 97}} {
			if s, ok := impl.TextOf(l); s != "" || ok {
				t.Errorf("TextOf(%v) = %q, %v", l, s, ok)
			}
		}
	}
}

func TestBrokenTextsAreReadByteByByte(t *testing.T) {
	for _, b := range brokenTexts {
		checkRunes(t, b.s, b.l)
		if !slices.Equal(rangedOver(b.s), b.l) {
			t.Errorf("ranging over %q is not %v", b.s, b.l)
		}
		if impl.IsWhole(b.s) || impl.IsWhole("a"+b.s+"a") {
			t.Errorf("IsWhole(%q) is true", b.s)
		}
	}
}

func checkAsRanged(t *testing.T, s string) {
	want := rangedOver(s)
	l, ok := impl.RunesOf(s)
	if !ok || !slices.Equal(l, want) {
		t.Fatalf("RunesOf(%q) = %v, %v; ranging tells %v", s, l, ok, want)
	}
	at := 0
	for _, r := range l {
		got, n, ok := impl.RuneAt(s, at)
		if got != r || n < 1 || !ok {
			t.Fatalf("RuneAt(%q, %d) = %d, %d, %v; RunesOf has %d", s, at, got, n, ok, r)
		}
		at += n
	}
	if at != len(s) {
		t.Fatalf("the runes of %q have %d bytes", s, at)
	}
}

func TestRunesOfIsAsRangingOverTheText(t *testing.T) {
	each := func(s string) {
		checkAsRanged(t, s)
		if whole := utf8.ValidString(s); impl.IsWhole(s) != whole {
			t.Fatalf("IsWhole(%q) is not %v", s, whole)
		}
	}
	eachShortText(2, allBytes(), each)
	eachShortText(4, edgeBytes, each)
	for _, b := range brokenTexts {
		for _, e := range edgeRunes {
			each(e.s + b.s + e.s)
			each(b.s + e.s + b.s)
		}
	}
}

// beginnings: all texts that are shorter than the bytes of some rune and
// begin them, taken from the runes one by one.
func beginnings() map[string]bool {
	m := map[string]bool{}
	for r := rune(0); r <= impl.MaxRune; r++ {
		if !utf8.ValidRune(r) {
			continue
		}
		s := string(r)
		for n := 1; n < len(s); n++ {
			m[s[:n]] = true
		}
	}
	return m
}

func TestIsBegunIsEachBeginningOfARune(t *testing.T) {
	begun := beginnings()
	for s := range begun {
		if !impl.IsBegun(s) {
			t.Errorf("IsBegun(%q) is false", s)
		}
		if impl.IsWhole(s) {
			t.Errorf("IsWhole(%q) is true", s)
		}
	}
	each := func(s string) {
		if impl.IsBegun(s) != begun[s] {
			t.Fatalf("IsBegun(%q) is not %v", s, begun[s])
		}
	}
	eachShortText(2, allBytes(), each)
	eachShortText(4, edgeBytes, each)
}

func TestIsBegunAndIsWholeAtTheEdges(t *testing.T) {
	for _, s := range []string{
		"\xc2", "\xdf", "\xe0", "\xe0\xa0", "\xe0\xbf", "\xed", "\xed\x80", "\xed\x9f",
		"\xee\x80", "\xef\xbf", "\xf0", "\xf0\x90", "\xf0\x90\x80", "\xf0\xbf\xbf",
		"\xf4", "\xf4\x80", "\xf4\x8f", "\xf4\x8f\xbf",
	} {
		if !impl.IsBegun(s) || impl.IsWhole(s) || impl.IsWhole("a"+s) || impl.IsBegun("a"+s) || impl.IsBegun(s+"a") {
			t.Errorf("%q is a beginning, no more", s)
		}
	}
	for _, s := range []string{
		"\x80", "\xbf", "\xc0", "\xc1", "\xe0\x80", "\xe0\x9f", "\xe3\xc0", "\xed\xa0", "\xed\xbf",
		"\xf0\x80", "\xf0\x8f", "\xf0\x8f\xbf", "\xf4\x90", "\xf4\x90\x80", "\xf4\xbf\xbf",
		"\xf1\x80\x7f", "\xf5", "\xf5\x80\x80", "\xf7\xbf\xbf", "\xf8", "\xff",
	} {
		if impl.IsBegun(s) || impl.IsWhole(s) {
			t.Errorf("%q begins no rune and is none", s)
		}
	}
	if impl.IsBegun("") || !impl.IsWhole("") {
		t.Error("the empty text is whole, and not begun")
	}
	if impl.IsBegun("\xef\xbf\xbd") || !impl.IsWhole("\xef\xbf\xbd") {
		t.Error("BadRune that is written is whole, and not begun")
	}
}

func TestEmptyTextAndListAreAsSaid(t *testing.T) {
	checkRunes(t, "", nil)
	for _, l := range [][]int{nil, {}} {
		if s, ok := impl.TextOf(l); s != "" || !ok {
			t.Errorf("TextOf of none = %q, %v", s, ok)
		}
	}
}

func TestPlacesOutsideTheTextGetTheZeroAnswer(t *testing.T) {
	for _, s := range []string{"", "a", "a\xe3\x81\x82", "\xff", strings.Repeat("a", impl.MaxText)} {
		n := len(s)
		for _, at := range []int{-1, -n - 1, math.MinInt, n, n + 1, 2*n + 1, math.MaxInt} {
			if r, long, ok := impl.RuneAt(s, at); r != 0 || long != 0 || ok {
				t.Errorf("RuneAt of %d bytes at %d = %d, %d, %v", n, at, r, long, ok)
			}
		}
	}
}

func TestTextsOfMaxTextBytes(t *testing.T) {
	full := strings.Repeat("a", impl.MaxText)
	checkRunes(t, full, slices.Repeat([]int{97}, impl.MaxText))
	checkReadAt(t, full, 0, 97, 1)
	checkReadAt(t, full, impl.MaxText-1, 97, 1)
	if !impl.IsWhole(full) || impl.IsBegun(full) {
		t.Error("a whole text of MaxText bytes")
	}
	cut := full[:impl.MaxText-2] + "\xe3\x81"
	checkAsRanged(t, cut)
	checkReadAt(t, cut, impl.MaxText-2, bad, 1)
	none := strings.Repeat("\xff", impl.MaxText)
	checkRunes(t, none, slices.Repeat([]int{bad}, impl.MaxText))
	if impl.IsWhole(cut) || impl.IsWhole(none) || impl.IsBegun(none) {
		t.Error("texts of MaxText bytes that are not whole")
	}
	wide := strings.Repeat("\xf4\x8f\xbf\xbf", impl.MaxText/4)
	checkRunes(t, wide, slices.Repeat([]int{impl.MaxRune}, impl.MaxText/4))
	if !impl.IsWhole(wide) {
		t.Error("a whole text of wide runes")
	}
}

func TestLongerTextsGetTheZeroAnswer(t *testing.T) {
	for _, s := range []string{
		strings.Repeat("a", impl.MaxText+1),
		strings.Repeat("\xff", impl.MaxText+1),
		strings.Repeat("\xc3\xa4", impl.MaxText/2) + "\xc3",
		strings.Repeat("\xe3\x81\x82", impl.MaxText),
	} {
		if l, ok := impl.RunesOf(s); len(l) != 0 || ok {
			t.Errorf("RunesOf of %d bytes = %d runes, %v", len(s), len(l), ok)
		}
		for _, at := range []int{-1, 0, 1, impl.MaxText, len(s) - 1, len(s)} {
			if r, n, ok := impl.RuneAt(s, at); r != 0 || n != 0 || ok {
				t.Errorf("RuneAt of %d bytes at %d = %d, %d, %v", len(s), at, r, n, ok)
			}
		}
		if impl.IsWhole(s) || impl.IsBegun(s) {
			t.Errorf("%d bytes are whole or begun", len(s))
		}
	}
}

func TestTextOfAtMaxText(t *testing.T) {
	for _, e := range []written{{97, "a"}, {228, "\xc3\xa4"}, {12354, "\xe3\x81\x82"}, {65536, "\xf0\x90\x80\x80"}} {
		n := impl.MaxText / len(e.s)
		rest := impl.MaxText - n*len(e.s)
		l := append(slices.Repeat([]int{e.r}, n), slices.Repeat([]int{98}, rest)...)
		want := strings.Repeat(e.s, n) + strings.Repeat("b", rest)
		if s, ok := impl.TextOf(l); s != want || !ok {
			t.Errorf("TextOf of %d bytes tells %d bytes, %v", len(want), len(s), ok)
		}
		for _, one := range []int{0, 98, 2047, impl.MaxRune} {
			if s, ok := impl.TextOf(append(slices.Clone(l), one)); s != "" || ok {
				t.Errorf("TextOf of more than MaxText bytes tells %d bytes, %v", len(s), ok)
			}
		}
	}
	for _, r := range []int{0, 228, impl.MaxRune, -1} {
		for _, n := range []int{impl.MaxText, impl.MaxText + 1, 5 * impl.MaxText} {
			s, ok := impl.TextOf(slices.Repeat([]int{r}, n))
			if asSaid := r == 0 && n == impl.MaxText; ok != asSaid || !ok && s != "" {
				t.Errorf("TextOf of %d times %d tells %d bytes, %v", n, r, len(s), ok)
			}
		}
	}
}

func TestListsAreNotWrittenInto(t *testing.T) {
	for _, l := range [][]int{
		{97, 228, 12354, 65536, 7, 7},
		{97, -1, 55296, impl.MaxRune + 1, 7, 7},
		append(slices.Repeat([]int{impl.MaxRune}, impl.MaxText), 7, 7),
		append(slices.Repeat([]int{97}, impl.MaxText+1), 7, 7),
	} {
		before := slices.Clone(l)
		impl.TextOf(l[:len(l)-2])
		if !slices.Equal(l, before) {
			t.Errorf("TextOf wrote into a list of %d", len(l)-2)
		}
	}
}

func TestWhatStandsBehindAListIsNotRead(t *testing.T) {
	l := []int{97, 98, -1}
	if s, ok := impl.TextOf(l[:2]); s != "ab" || !ok {
		t.Errorf("TextOf = %q, %v", s, ok)
	}
}

func TestAnswersAreNewMemory(t *testing.T) {
	s := "a\xc3\xa4\xff"
	first, _ := impl.RunesOf(s)
	for i := range first {
		first[i] = -1
	}
	checkRunes(t, s, []int{97, 228, bad})
	l := []int{97, 98}
	text, _ := impl.TextOf(l)
	l[0] = 99
	if text != "ab" {
		t.Errorf("TextOf's answer became %q", text)
	}
}
