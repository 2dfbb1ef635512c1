package tests

import (
	"math"
	"slices"
	"strings"
	"testing"
	"unicode/utf16"
	"unsafe"

	"loop.example/g00692/impl"
)

const (
	utf8Bytes   = impl.EnUtf8
	bigUnits    = impl.EnBig
	littleUnits = impl.EnLittle
	latinBytes  = impl.EnLatin
	shiftBytes  = impl.EnShift
)

var allCodes = []int{utf8Bytes, bigUnits, littleUnits, latinBytes, shiftBytes}

var noCodes = []int{0, 6, 7, -1, -5, 255, math.MinInt, math.MaxInt}

// Of the bytes that a code treats alike, some from each edge.
var edgeBytesOf = map[int]string{
	utf8Bytes:   "a\x80\x90\xa0\xbf\xc2\xe0\xe3\xed\xf0\xf4\xff",
	bigUnits:    "\x00a\xd7\xd8\xdb\xdc\xdf\xe0\xff",
	littleUnits: "\x00a\xd7\xd8\xdb\xdc\xdf\xe0\xff",
	latinBytes:  "\x00a\x7f\x80\xff",
	shiftBytes:  "\x00\x0d\x0e\x0f\x10\x1f\x20a\x7e\x7f\x80\xff",
}

// readWhole: what a text is, all at once, by Go's own means where it has some.
func readWhole(en int, s string) (runes []int, sizes []int) {
	switch en {
	case utf8Bytes:
		return readRanged(s)
	case bigUnits, littleUnits:
		return readUnits(en, s)
	case latinBytes:
		for i := range len(s) {
			runes, sizes = append(runes, int(s[i])), append(sizes, 1)
		}
		return runes, sizes
	}
	runes, sizes, _, _ = readShifted(s, 0, 0)
	return runes, sizes
}

func readRanged(s string) (runes []int, sizes []int) {
	last := 0
	for i, r := range s {
		if i > 0 {
			sizes = append(sizes, i-last)
		}
		runes, last = append(runes, int(r)), i
	}
	if s != "" {
		sizes = append(sizes, len(s)-last)
	}
	return runes, sizes
}

func readUnits(en int, s string) (runes []int, sizes []int) {
	var units []uint16
	for i := 0; i+1 < len(s); i += 2 {
		upper, lower := s[i], s[i+1]
		if en == littleUnits {
			upper, lower = lower, upper
		}
		units = append(units, uint16(upper)<<8|uint16(lower))
	}
	for _, r := range utf16.Decode(units) {
		runes, sizes = append(runes, int(r)), append(sizes, 2*utf16.RuneLen(r))
	}
	if len(s)%2 == 1 {
		runes, sizes = append(runes, bad), append(sizes, 1)
	}
	return runes, sizes
}

func readShifted(s string, shift int, loose int) (runes []int, sizes []int, shiftThen int, looseThen int) {
	for i := range len(s) {
		b, r := int(s[i]), bad
		loose++
		switch {
		case b == 14 || b == 15:
			shift = 15 - b
			continue
		case b < 32, b < 128 && shift == 0:
			r = b
		case b < 127:
			r = b + 12320
		}
		runes, sizes, loose = append(runes, r), append(sizes, loose), 0
	}
	return runes, sizes, shift, loose
}

// writeWhole: the bytes of all runes, or the number of the first that has none.
func writeWhole(en int, l []int) (string, int) {
	var b []byte
	shift := false
	for i, r := range l {
		switch {
		case en == utf8Bytes:
			b = append(b, string(rune(r))...)
		case en == bigUnits:
			for _, u := range utf16.Encode([]rune{rune(r)}) {
				b = append(b, byte(u>>8), byte(u))
			}
		case en == littleUnits:
			for _, u := range utf16.Encode([]rune{rune(r)}) {
				b = append(b, byte(u), byte(u>>8))
			}
		case en == latinBytes && r < 256:
			b = append(b, byte(r))
		case en == shiftBytes && r < 32 && r != 14 && r != 15:
			b = append(b, byte(r))
		case en == shiftBytes && 32 <= r && r < 127:
			if shift {
				b = append(b, 15)
			}
			b, shift = append(b, byte(r)), false
		case en == shiftBytes && 12352 <= r && r < 12447:
			if !shift {
				b = append(b, 14)
			}
			b, shift = append(b, byte(r-12320)), true
		default:
			return "", i
		}
	}
	if shift {
		b = append(b, 15)
	}
	return string(b), -1
}

func newDecoder(t *testing.T, en int) impl.Decoder {
	t.Helper()
	d, ok := impl.NewDecoder(en)
	if want := (impl.Decoder{En: en}); d != want || !ok {
		t.Fatalf("NewDecoder(%d) = %#v, %v", en, d, ok)
	}
	return d
}

// readPieces feeds one piece after the other, and flushes.
func readPieces(t *testing.T, en int, pieces []string) (runes []int, sizes []int) {
	d := newDecoder(t, en)
	for _, p := range pieces {
		next, l, n, ok := impl.FeedDecoder(d, p)
		if !ok || len(l) != len(n) || !impl.GoodDecoder(next) {
			t.Fatalf("FeedDecoder(%#v, %q) = %#v, %v, %v, %v", d, p, next, l, n, ok)
		}
		d, runes, sizes = next, append(runes, l...), append(sizes, n...)
	}
	last, l, n, ok := impl.FlushDecoder(d)
	if want := (impl.Decoder{En: en, Shift: d.Shift, Loose: d.Loose}); last != want || !ok {
		t.Fatalf("FlushDecoder(%#v) = %#v, %v, %v, %v", d, last, l, n, ok)
	}
	return append(runes, l...), append(sizes, n...)
}

// eachCutting hands over a text cut at none, some, and all of its places.
func eachCutting(s string, use func([]string)) {
	for cuts := range 1 << max(0, len(s)-1) {
		var pieces []string
		from := 0
		for i := 1; i < len(s); i++ {
			if cuts>>(i-1)&1 == 1 {
				pieces, from = append(pieces, s[from:i]), i
			}
		}
		use(append(pieces, s[from:]))
	}
}

func checkDecoded(t *testing.T, en int, s string, runes []int, sizes []int) {
	t.Helper()
	l, n, ok := impl.DecodeAll(en, s)
	if !ok || !slices.Equal(l, runes) || !slices.Equal(n, sizes) {
		t.Fatalf("DecodeAll(%d, %q) = %v, %v, %v; not %v, %v, true", en, s, l, n, ok, runes, sizes)
	}
}

func checkPieces(t *testing.T, en int, pieces []string, runes []int, sizes []int) {
	t.Helper()
	l, n := readPieces(t, en, pieces)
	if !slices.Equal(l, runes) || !slices.Equal(n, sizes) {
		t.Fatalf("code %d, pieces %q: %v, %v; all at once %v, %v", en, pieces, l, n, runes, sizes)
	}
}

func checkAllCuttings(t *testing.T, en int, s string) {
	t.Helper()
	runes, sizes := readWhole(en, s)
	checkDecoded(t, en, s, runes, sizes)
	eachCutting(s, func(pieces []string) { checkPieces(t, en, pieces, runes, sizes) })
}

func TestPiecesOfShortTextsAreReadAsAllAtOnce(t *testing.T) {
	for _, en := range allCodes {
		longest := 4
		if en == bigUnits || en == littleUnits {
			longest = 5
		}
		eachShortText(longest, edgeBytesOf[en], func(s string) { checkAllCuttings(t, en, s) })
		eachShortText(2, allBytes(), func(s string) { checkAllCuttings(t, en, s) })
	}
}

// longTexts: each with many runes, and with broken ones among them.
func longTexts() []string {
	var all, pairs, broken, shifts strings.Builder
	for _, e := range edgeRunes {
		all.WriteString(e.s)
	}
	for _, r := range []int{97, 65535, 65536, 55295, 57344, 128512, impl.MaxRune} {
		s, _ := writeWhole(bigUnits, []int{r})
		pairs.WriteString(s)
	}
	for _, b := range brokenTexts {
		broken.WriteString(b.s)
	}
	for i := range 120 {
		shifts.WriteByte(byte(i * 37))
		shifts.WriteByte(byte(13 + i%4))
	}
	return []string{all.String(), pairs.String(), "\x00" + pairs.String(), broken.String(), shifts.String(), allBytes()}
}

func TestLongTextsCutAtEveryPlace(t *testing.T) {
	for _, s := range longTexts() {
		for _, en := range allCodes {
			runes, sizes := readWhole(en, s)
			checkDecoded(t, en, s, runes, sizes)
			for i := range len(s) + 1 {
				checkPieces(t, en, []string{s[:i], s[i:]}, runes, sizes)
				checkPieces(t, en, []string{s[:i/2], s[i/2 : i], "", s[i:]}, runes, sizes)
			}
			checkPieces(t, en, strings.Split(s, ""), runes, sizes)
			for n := 1; n < 8; n++ {
				var pieces []string
				for p := range slices.Chunk([]byte(s), n) {
					pieces = append(pieces, string(p))
				}
				checkPieces(t, en, pieces, runes, sizes)
			}
		}
	}
}

// A fed is one piece, the runes that it tells, and the decoder then.
type fed struct {
	s     string
	runes []int
	sizes []int
	then  impl.Decoder
}

func checkFeeds(t *testing.T, d impl.Decoder, feeds []fed) {
	t.Helper()
	for _, f := range feeds {
		next, l, n, ok := impl.FeedDecoder(d, f.s)
		if !ok || next != f.then || !slices.Equal(l, f.runes) || !slices.Equal(n, f.sizes) {
			t.Errorf("FeedDecoder(%#v, %q) = %#v, %v, %v, %v; not %#v, %v, %v, true",
				d, f.s, next, l, n, ok, f.then, f.runes, f.sizes)
			return
		}
		d = next
	}
}

func checkFlush(t *testing.T, d impl.Decoder, runes []int, sizes []int) {
	t.Helper()
	want := impl.Decoder{En: d.En, Shift: d.Shift, Loose: d.Loose}
	next, l, n, ok := impl.FlushDecoder(d)
	if !ok || next != want || !slices.Equal(l, runes) || !slices.Equal(n, sizes) {
		t.Errorf("FlushDecoder(%#v) = %#v, %v, %v, %v; not %#v, %v, %v, true", d, next, l, n, ok, want, runes, sizes)
	}
}

func TestUtf8ThatIsBroken(t *testing.T) {
	for _, b := range brokenTexts {
		l, n, ok := impl.DecodeAll(utf8Bytes, b.s)
		if !ok || !slices.Equal(l, b.l) || len(n) != len(l) {
			t.Errorf("DecodeAll(%q) = %v, %v, %v; not %v", b.s, l, n, ok, b.l)
		}
		checkAllCuttings(t, utf8Bytes, b.s)
		checkAllCuttings(t, utf8Bytes, "a"+b.s+"\xe3\x81\x82")
	}
}

func TestUtf8IsToldAsSoonAsItIsKnown(t *testing.T) {
	held := func(s string) impl.Decoder { return impl.Decoder{En: utf8Bytes, Held: s} }
	none := held("")
	for _, feeds := range [][]fed{
		{{"a", []int{97}, []int{1}, none}, {"", nil, nil, none}},
		{{"\xe3", nil, nil, held("\xe3")}, {"", nil, nil, held("\xe3")}, {"\x81", nil, nil, held("\xe3\x81")}, {"\x82", []int{12354}, []int{3}, none}},
		{{"\xf0\x9f\x98", nil, nil, held("\xf0\x9f\x98")}, {"\x80\xc3", []int{128512}, []int{4}, held("\xc3")}},
		// not ended by what comes next
		{{"\xe3\x81", nil, nil, held("\xe3\x81")}, {"a", []int{bad, bad, 97}, []int{1, 1, 1}, none}},
		{{"\xe3\x81", nil, nil, held("\xe3\x81")}, {"\xc3", []int{bad, bad}, []int{1, 1}, held("\xc3")}},
		{{"\xf4\x8f\xbf", nil, nil, held("\xf4\x8f\xbf")}, {"\xc0", []int{bad, bad, bad, bad}, []int{1, 1, 1, 1}, none}},
		// the second byte may say already that no rune comes of it
		{{"\xe0", nil, nil, held("\xe0")}, {"\x9f", []int{bad, bad}, []int{1, 1}, none}},
		{{"\xed", nil, nil, held("\xed")}, {"\xa0", []int{bad, bad}, []int{1, 1}, none}},
		{{"\xf0", nil, nil, held("\xf0")}, {"\x8f", []int{bad, bad}, []int{1, 1}, none}},
		{{"\xf4", nil, nil, held("\xf4")}, {"\x90", []int{bad, bad}, []int{1, 1}, none}},
		{{"\xc0", []int{bad}, []int{1}, none}, {"\x80", []int{bad}, []int{1}, none}},
		{{"\xf5", []int{bad}, []int{1}, none}, {"\xff", []int{bad}, []int{1}, none}},
		// BadRune itself, written
		{{"\xef\xbf", nil, nil, held("\xef\xbf")}, {"\xbd", []int{bad}, []int{3}, none}},
	} {
		checkFeeds(t, none, feeds)
	}
	checkFlush(t, none, nil, nil)
	checkFlush(t, held("\xe3"), []int{bad}, []int{1})
	checkFlush(t, held("\xe3\x81"), []int{bad, bad}, []int{1, 1})
	checkFlush(t, held("\xf4\x8f\xbf"), []int{bad, bad, bad}, []int{1, 1, 1})
}

// turned: the text with the two bytes of each unit the other way round.
func turned(s string) string {
	b := []byte(s)
	for i := 0; i+1 < len(b); i += 2 {
		b[i], b[i+1] = b[i+1], b[i]
	}
	return string(b)
}

func TestUnitsAtTheirEdges(t *testing.T) {
	for _, c := range []struct {
		s     string
		runes []int
		sizes []int
	}{
		{"", nil, nil},
		{"\x00", []int{bad}, []int{1}},
		{"\xd8", []int{bad}, []int{1}},
		{"\x00a", []int{97}, []int{2}},
		{"\x00a\x00", []int{97, bad}, []int{2, 1}},
		{"a\x00", []int{24832}, []int{2}},
		{"\xd7\xff", []int{55295}, []int{2}},
		{"\xe0\x00", []int{57344}, []int{2}},
		{"\xff\xfd", []int{bad}, []int{2}},
		{"\xff\xff", []int{65535}, []int{2}},
		{"\xd8\x00\xdc\x00", []int{65536}, []int{4}},
		{"\xd8\x00\xdf\xff", []int{66559}, []int{4}},
		{"\xd8\x01\xdc\x00", []int{66560}, []int{4}},
		{"\xd8\x3d\xde\x00", []int{128512}, []int{4}},
		{"\xdb\xff\xdf\xff", []int{impl.MaxRune}, []int{4}},
		// a high unit that no low one follows
		{"\xd8\x00", []int{bad}, []int{2}},
		{"\xdb\xff", []int{bad}, []int{2}},
		{"\xd8\x00\xdc", []int{bad, bad}, []int{2, 1}},
		{"\xd8\x00\x00", []int{bad, bad}, []int{2, 1}},
		{"\xd8\x00\x00a", []int{bad, 97}, []int{2, 2}},
		{"\xd8\x00\xe0\x00", []int{bad, 57344}, []int{2, 2}},
		{"\xd8\x00\xdb\xff", []int{bad, bad}, []int{2, 2}},
		{"\xd8\x00\xdb\xff\xdf\xff", []int{bad, impl.MaxRune}, []int{2, 4}},
		{"\xd8\x00\xd8\x00\xd8\x00\x00a", []int{bad, bad, bad, 97}, []int{2, 2, 2, 2}},
		{"\xd8\x00\xd8\x00\xdc\x00\xdc\x00", []int{bad, 65536, bad}, []int{2, 4, 2}},
		// a low unit that no high one is ahead of
		{"\xdc\x00", []int{bad}, []int{2}},
		{"\xdf\xff\x00a", []int{bad, 97}, []int{2, 2}},
		{"\x00a\xdc\x00\xd8\x00\xdc\x00", []int{97, bad, 65536}, []int{2, 2, 4}},
		{"\xdc\x00\xd8\x00", []int{bad, bad}, []int{2, 2}},
	} {
		checkDecoded(t, bigUnits, c.s, c.runes, c.sizes)
		checkDecoded(t, littleUnits, turned(c.s), c.runes, c.sizes)
		checkAllCuttings(t, bigUnits, c.s)
		checkAllCuttings(t, littleUnits, turned(c.s))
	}
}

func TestAHighUnitWaitsForTwoBytesMore(t *testing.T) {
	big := func(s string) impl.Decoder { return impl.Decoder{En: bigUnits, Held: s} }
	little := func(s string) impl.Decoder { return impl.Decoder{En: littleUnits, Held: s} }
	for _, feeds := range [][]fed{
		{{"\xd8", nil, nil, big("\xd8")}, {"\x3d", nil, nil, big("\xd8\x3d")}, {"\xde", nil, nil, big("\xd8\x3d\xde")}, {"\x00", []int{128512}, []int{4}, big("")}},
		// a third byte that begins no low unit waits all the same
		{{"\xd8\x3d\x00", nil, nil, big("\xd8\x3d\x00")}, {"", nil, nil, big("\xd8\x3d\x00")}, {"a", []int{bad, 97}, []int{2, 2}, big("")}},
		{{"\xd8\x00\xd8", nil, nil, big("\xd8\x00\xd8")}, {"\x3d", []int{bad}, []int{2}, big("\xd8\x3d")}, {"\xde\x00\x00", []int{128512}, []int{4}, big("\x00")}},
		{{"\xdc", nil, nil, big("\xdc")}, {"\x00", []int{bad}, []int{2}, big("")}},
		{{"\x00", nil, nil, big("\x00")}, {"a", []int{97}, []int{2}, big("")}},
	} {
		checkFeeds(t, big(""), feeds)
	}
	for _, feeds := range [][]fed{
		{{"\x3d", nil, nil, little("\x3d")}, {"\xd8", nil, nil, little("\x3d\xd8")}, {"\x00", nil, nil, little("\x3d\xd8\x00")}, {"\xde", []int{128512}, []int{4}, little("")}},
		{{"\x3d\xd8a", nil, nil, little("\x3d\xd8a")}, {"\x00", []int{bad, 97}, []int{2, 2}, little("")}},
		{{"\x00\xd8\x3d", nil, nil, little("\x00\xd8\x3d")}, {"\xd8", []int{bad}, []int{2}, little("\x3d\xd8")}},
		{{"\x00\xdc", []int{bad}, []int{2}, little("")}, {"\xd8", nil, nil, little("\xd8")}, {"\x00", []int{216}, []int{2}, little("")}},
	} {
		checkFeeds(t, little(""), feeds)
	}
	checkFlush(t, big(""), nil, nil)
	checkFlush(t, big("\x00"), []int{bad}, []int{1})
	checkFlush(t, big("\xd8\x3d"), []int{bad}, []int{2})
	checkFlush(t, big("\xd8\x3d\xde"), []int{bad, bad}, []int{2, 1})
	checkFlush(t, little("\xd8"), []int{bad}, []int{1})
	checkFlush(t, little("\x3d\xd8"), []int{bad}, []int{2})
	checkFlush(t, little("\x3d\xd8\x00"), []int{bad, bad}, []int{2, 1})
}

func TestLatinIsAByteARune(t *testing.T) {
	for i := range 256 {
		s := string([]byte{byte(i)})
		checkDecoded(t, latinBytes, s, []int{i}, []int{1})
		checkEncoded(t, latinBytes, []int{i}, s)
	}
	for _, r := range []int{256, 257, 12354, 65536, impl.MaxRune} {
		checkUnwritten(t, latinBytes, []int{r}, 0)
		checkUnwritten(t, latinBytes, []int{97, 255, r, 98, r}, 2)
	}
	checkFlush(t, newDecoder(t, latinBytes), nil, nil)
}

func TestShiftAtItsEdges(t *testing.T) {
	for _, c := range []struct {
		s     string
		runes []int
		sizes []int
	}{
		{"", nil, nil},
		{"a", []int{97}, []int{1}},
		{"\x0e", nil, nil},
		{"\x0f", nil, nil},
		{"\x0e\x0e\x0f\x0f", nil, nil},
		{"\x0ea", []int{12417}, []int{2}},
		{"\x0e\x0ea", []int{12417}, []int{3}},
		{"\x0e\x0fa", []int{97}, []int{3}},
		{"\x0f\x0fa", []int{97}, []int{3}},
		{"\x0e\x0f\x0ea", []int{12417}, []int{4}},
		{"a\x0e", []int{97}, []int{1}},
		{"a\x0e\x0e", []int{97}, []int{1}},
		{"a\x0f\x0f", []int{97}, []int{1}},
		{"a\x0e\"\x0fb", []int{97, 12354, 98}, []int{1, 2, 2}},
		{"\x0eab\x0fab", []int{12417, 12418, 97, 98}, []int{2, 1, 2, 1}},
		// below 32, with shift on and off
		{"\x00\x0d\x10\x1f", []int{0, 13, 16, 31}, []int{1, 1, 1, 1}},
		{"\x0e\x00\x0d\x10\x1f\x20", []int{0, 13, 16, 31, 12352}, []int{2, 1, 1, 1, 1}},
		{"\x0e\n\x0fa", []int{10, 97}, []int{2, 2}},
		// 32, 126, 127, 128, 255
		{"\x20\x7e\x7f\x80\xff", []int{32, 126, 127, bad, bad}, []int{1, 1, 1, 1, 1}},
		{"\x0e\x20\x7e\x7f\x80\xff", []int{12352, 12446, bad, bad, bad}, []int{2, 1, 1, 1, 1}},
		{"\x0e\x80\x0f\x7f", []int{bad, 127}, []int{2, 2}},
	} {
		checkDecoded(t, shiftBytes, c.s, c.runes, c.sizes)
		checkAllCuttings(t, shiftBytes, c.s)
	}
}

func TestEachByteWithShiftOnAndOff(t *testing.T) {
	for i := range 256 {
		s := string([]byte{byte(i)})
		for shift := range 2 {
			for _, loose := range []int{0, 1, impl.MaxText - 1} {
				d := impl.Decoder{En: shiftBytes, Shift: shift, Loose: loose}
				runes, sizes, shiftThen, looseThen := readShifted(s, shift, loose)
				then := impl.Decoder{En: shiftBytes, Shift: shiftThen, Loose: looseThen}
				checkFeeds(t, d, []fed{{s, runes, sizes, then}})
			}
		}
	}
}

func TestLooseGoesOnAcrossPieces(t *testing.T) {
	at := func(shift int, loose int) impl.Decoder {
		return impl.Decoder{En: shiftBytes, Shift: shift, Loose: loose}
	}
	for _, feeds := range [][]fed{
		{{"\x0e", nil, nil, at(1, 1)}, {"", nil, nil, at(1, 1)}, {"\x0f\x0e", nil, nil, at(1, 3)}, {"a", []int{12417}, []int{4}, at(1, 0)}, {"b", []int{12418}, []int{1}, at(1, 0)}, {"\x0f", nil, nil, at(0, 1)}},
		{{"a\x0e\x0e", []int{97}, []int{1}, at(1, 2)}, {"\x0f", nil, nil, at(0, 3)}, {"\x80", []int{bad}, []int{4}, at(0, 0)}},
		{{"\x0e\n\x0f", []int{10}, []int{2}, at(0, 1)}, {"\n", []int{10}, []int{2}, at(0, 0)}},
	} {
		checkFeeds(t, at(0, 0), feeds)
	}
	for _, d := range []impl.Decoder{at(0, 0), at(1, 0), at(0, 7), at(1, impl.MaxText)} {
		checkFlush(t, d, nil, nil)
		next, _, _, _ := impl.FlushDecoder(d)
		if next != d {
			t.Errorf("FlushDecoder(%#v) = %#v", d, next)
		}
	}
}

func TestLooseAtMaxText(t *testing.T) {
	at := func(shift int, loose int) impl.Decoder {
		return impl.Decoder{En: shiftBytes, Shift: shift, Loose: loose}
	}
	on, full := strings.Repeat("\x0e", impl.MaxText), impl.MaxText
	checkFeeds(t, at(0, 0), []fed{{on, nil, nil, at(1, full)}, {"", nil, nil, at(1, full)}, {"a", []int{12417}, []int{full + 1}, at(1, 0)}})
	checkFeeds(t, at(0, 1), []fed{{on[1:], nil, nil, at(1, full)}})
	checkFeeds(t, at(0, 0), []fed{{"a" + on[1:], []int{97}, []int{1}, at(1, full-1)}, {"\x0f", nil, nil, at(0, full)}})
	// more than MaxText on the way, but taken up by a rune
	checkFeeds(t, at(0, full), []fed{{"\x0ea", []int{12417}, []int{full + 2}, at(1, 0)}})
	checkFeeds(t, at(1, full), []fed{{on[1:] + "a", []int{12417}, []int{2 * full}, at(1, 0)}})
	for _, c := range []struct {
		d impl.Decoder
		s string
	}{
		{at(0, full), "\x0e"}, {at(1, full), "\x0f"}, {at(0, 1), on}, {at(1, full), on}, {at(0, full-1), "\x0e\x0e"},
	} {
		checkNotFed(t, c.d, c.s)
	}
	runes, sizes, ok := impl.DecodeAll(shiftBytes, on)
	if len(runes) != 0 || len(sizes) != 0 || !ok {
		t.Errorf("DecodeAll of shifts alone = %v, %v, %v", runes, sizes, ok)
	}
}

func checkNotFed(t *testing.T, d impl.Decoder, s string) {
	t.Helper()
	next, l, n, ok := impl.FeedDecoder(d, s)
	if next != (impl.Decoder{}) || len(l) != 0 || len(n) != 0 || ok {
		t.Errorf("FeedDecoder(%#v, %d bytes) = %#v, %v, %v, %v", d, len(s), next, l, n, ok)
	}
}

func checkEncoded(t *testing.T, en int, l []int, want string) {
	t.Helper()
	if s, at, ok := impl.EncodeAll(en, l); s != want || at != -1 || !ok {
		t.Fatalf("EncodeAll(%d, %v) = %q, %d, %v; not %q, -1, true", en, l, s, at, ok, want)
	}
}

func checkUnwritten(t *testing.T, en int, l []int, first int) {
	t.Helper()
	if s, at, ok := impl.EncodeAll(en, l); s != "" || at != first || !ok {
		t.Fatalf("EncodeAll(%d, %v) = %q, %d, %v; not none, %d, true", en, l, s, at, ok, first)
	}
}

func checkNotEncoded(t *testing.T, en int, l []int) {
	t.Helper()
	if s, at, ok := impl.EncodeAll(en, l); s != "" || at != 0 || ok {
		t.Errorf("EncodeAll(%d, %d runes) = %d bytes, %d, %v", en, len(l), len(s), at, ok)
	}
}

// checkReadBack: what is written is as it should be, and is read back.
func checkReadBack(t *testing.T, en int, l []int) {
	t.Helper()
	want, first := writeWhole(en, l)
	if first != -1 {
		checkUnwritten(t, en, l, first)
		return
	}
	checkEncoded(t, en, l, want)
	if got, _, ok := impl.DecodeAll(en, want); !ok || !slices.Equal(got, l) {
		t.Fatalf("DecodeAll(%d, %q) = %v, %v; not %v", en, want, got, ok, l)
	}
}

func TestAllRunesAreReadBackInEachCode(t *testing.T) {
	for _, en := range allCodes {
		for r := range impl.MaxRune + 1 {
			if impl.GoodRune(r) {
				checkReadBack(t, en, []int{r})
			}
		}
	}
}

func TestShortListsAreReadBackInEachCode(t *testing.T) {
	edges := []int{
		0, 10, 13, 14, 15, 16, 31, 32, 97, 126, 127, 128, 255, 256, 12351, 12352, 12354, 12446, 12447,
		55295, 57344, bad, 65535, 65536, impl.MaxRune,
	}
	for _, en := range allCodes {
		checkReadBack(t, en, nil)
		checkReadBack(t, en, []int{})
		for _, a := range edges {
			for _, b := range edges {
				checkReadBack(t, en, []int{a, b})
				for _, c := range edges {
					checkReadBack(t, en, []int{a, b, c})
					checkReadBack(t, en, []int{a, b, 12354, c})
				}
			}
		}
	}
}

func TestShiftIsTurnedJustAheadAndOffAtTheEnd(t *testing.T) {
	for _, c := range []struct {
		l []int
		s string
	}{
		{nil, ""},
		{[]int{10}, "\n"},
		{[]int{97, 98}, "ab"},
		{[]int{12352}, "\x0e\x20\x0f"},
		{[]int{12446}, "\x0e\x7e\x0f"},
		{[]int{126, 32}, "\x7e\x20"},
		{[]int{12417, 12418}, "\x0eab\x0f"},
		{[]int{97, 12354, 98}, "a\x0e\"\x0fb"},
		{[]int{12354, 10}, "\x0e\"\n\x0f"},
		{[]int{12354, 10, 12354}, "\x0e\"\n\"\x0f"},
		{[]int{12354, 10, 13, 98}, "\x0e\"\n\x0d\x0fb"},
		{[]int{97, 10, 12354, 0, 97, 31, 12354}, "a\n\x0e\"\x00\x0fa\x1f\x0e\"\x0f"},
	} {
		checkEncoded(t, shiftBytes, c.l, c.s)
		checkReadBack(t, shiftBytes, c.l)
	}
	for _, r := range []int{14, 15, 127, 128, 255, 12351, 12447, bad, impl.MaxRune} {
		checkUnwritten(t, shiftBytes, []int{r}, 0)
		checkUnwritten(t, shiftBytes, []int{12354, 97, r, 127}, 2)
	}
}

func TestEncodeAllAtMaxText(t *testing.T) {
	for _, c := range []struct {
		en, r, n int
	}{
		{utf8Bytes, 97, 1000}, {utf8Bytes, 228, 500}, {utf8Bytes, 12354, 333}, {utf8Bytes, impl.MaxRune, 250},
		{bigUnits, 97, 500}, {bigUnits, 65536, 250}, {littleUnits, 97, 500}, {littleUnits, 65536, 250},
		{latinBytes, 255, 1000}, {shiftBytes, 97, 1000}, {shiftBytes, 12354, 998}, {shiftBytes, 10, 1000},
	} {
		l := slices.Repeat([]int{c.r}, c.n)
		checkReadBack(t, c.en, l)
		checkNotEncoded(t, c.en, append(l, c.r))
		checkNotEncoded(t, c.en, append([]int{c.r}, l...))
	}
	// turned on and off at each rune
	turns := slices.Repeat([]int{12354, 97}, 250)
	checkReadBack(t, shiftBytes, turns)
	checkNotEncoded(t, shiftBytes, append(turns, 97))
	// only the turn at the end is too much
	checkReadBack(t, shiftBytes, append(slices.Repeat([]int{97}, 997), 12354))
	checkNotEncoded(t, shiftBytes, append(slices.Repeat([]int{97}, 998), 12354))
	// what can't be written is told, however long the rest would be
	checkUnwritten(t, shiftBytes, append(slices.Repeat([]int{12354, 97}, 499), 127), 998)
	checkUnwritten(t, shiftBytes, append(slices.Repeat([]int{12354}, 999), 14), 999)
	checkUnwritten(t, latinBytes, append(slices.Repeat([]int{97}, 999), 256), 999)
	for _, en := range allCodes {
		for _, r := range []int{10, 97, 300, impl.MaxRune} {
			checkNotEncoded(t, en, slices.Repeat([]int{r}, impl.MaxText+1))
			checkNotEncoded(t, en, slices.Repeat([]int{r}, 5*impl.MaxText))
		}
	}
	checkNotEncoded(t, utf8Bytes, slices.Repeat([]int{impl.MaxRune}, impl.MaxText))
	checkNotEncoded(t, bigUnits, slices.Repeat([]int{97}, impl.MaxText))
}

func TestListsWithWhatIsNoRuneAreNotEncoded(t *testing.T) {
	for _, en := range allCodes {
		for _, r := range noRunes {
			checkNotEncoded(t, en, []int{r})
			checkNotEncoded(t, en, []int{97, r})
			checkNotEncoded(t, en, []int{r, 97})
			checkNotEncoded(t, en, []int{300, 14, r})
			checkNotEncoded(t, en, []int{97, r, 300, 14})
		}
	}
}

// asSaid: whether a decoder is good, word by word; begun has all beginnings
// of runes.
func asSaid(d impl.Decoder, begun map[string]bool) bool {
	n := len(d.Held)
	switch d.En {
	case utf8Bytes:
		if n > 0 && !begun[d.Held] {
			return false
		}
	case bigUnits, littleUnits:
		upper := 0
		if d.En == littleUnits {
			upper = 1
		}
		if n > 3 || n >= 2 && (d.Held[upper] < 0xd8 || d.Held[upper] > 0xdb) {
			return false
		}
	case latinBytes, shiftBytes:
		if n > 0 {
			return false
		}
	default:
		return false
	}
	if d.En != shiftBytes {
		return d.Shift == 0 && d.Loose == 0
	}
	return d.Shift >= 0 && d.Shift <= 1 && d.Loose >= 0 && d.Loose <= impl.MaxText
}

func checkGood(t *testing.T, d impl.Decoder, good bool) {
	t.Helper()
	if impl.GoodDecoder(d) != good {
		t.Fatalf("GoodDecoder(%#v) is not %v", d, good)
	}
	if good {
		return
	}
	checkNotFed(t, d, "")
	checkNotFed(t, d, "a\x00\xdc\x00")
	next, l, n, ok := impl.FlushDecoder(d)
	if next != (impl.Decoder{}) || len(l) != 0 || len(n) != 0 || ok {
		t.Errorf("FlushDecoder(%#v) = %#v, %v, %v, %v", d, next, l, n, ok)
	}
}

func TestDecodersAreGoodJustWhereSaid(t *testing.T) {
	begun := beginnings()
	helds := []string{
		"", "a", "\x00", "\x80", "\xc0", "\xc3", "\xd8", "\xe3", "\xf4", "\xff", "\xc3\xa4", "\xd7\xff", "\xd8\x00",
		"\x00\xd8", "\xd8\xd8", "\xdb\xff", "\xff\xdb", "\xdc\x00", "\x00\xdc", "\xff\xd7", "\xe3\x81", "\xed\xa0",
		"\xe3\x81\x82", "\xd8\x00\x00", "\xd8\x00\xdc", "\x00\xd8\x00", "\x00\xd8\xdc", "\x00\xd7\xd8", "\xf0\x90\x80",
		"\xf0\x90\x80\x80", "\xd8\x00\xd8\x00", "\x00\xd8\x00\xd8", "\xd8\xd8\xd8\xd8", "\xd8\xd8\xd8\xd8\xd8",
		strings.Repeat("\xd8", impl.MaxText), strings.Repeat("\xc3", impl.MaxText+1),
	}
	for _, en := range append(slices.Clone(allCodes), noCodes...) {
		for _, shift := range []int{0, 1, 2, -1, math.MinInt, math.MaxInt} {
			for _, loose := range []int{0, 1, impl.MaxText - 1, impl.MaxText, impl.MaxText + 1, -1, math.MinInt, math.MaxInt} {
				for _, held := range helds {
					d := impl.Decoder{En: en, Shift: shift, Loose: loose, Held: held}
					checkGood(t, d, asSaid(d, begun))
				}
			}
		}
	}
	for _, en := range allCodes {
		each := func(s string) {
			d := impl.Decoder{En: en, Held: s}
			checkGood(t, d, asSaid(d, begun))
		}
		eachShortText(2, allBytes(), each)
		eachShortText(4, edgeBytesOf[en], each)
	}
}

func TestCodesThatAreNone(t *testing.T) {
	for _, en := range noCodes {
		if d, ok := impl.NewDecoder(en); d != (impl.Decoder{}) || ok {
			t.Errorf("NewDecoder(%d) = %#v, %v", en, d, ok)
		}
		for _, s := range []string{"", "a", "\xd8\x00"} {
			if l, n, ok := impl.DecodeAll(en, s); len(l) != 0 || len(n) != 0 || ok {
				t.Errorf("DecodeAll(%d, %q) = %v, %v, %v", en, s, l, n, ok)
			}
		}
		checkNotEncoded(t, en, nil)
		checkNotEncoded(t, en, []int{97, 300})
	}
}

func TestDecodingAtMaxText(t *testing.T) {
	for _, en := range allCodes {
		for _, b := range []string{"a", "\x00", "\x0f", "\xd8", "\xdc", "\xe3", "\xf0", "\xff"} {
			s := strings.Repeat(b, impl.MaxText)
			runes, sizes := readWhole(en, s)
			checkDecoded(t, en, s, runes, sizes)
			checkPieces(t, en, []string{s[:333], s[333:]}, runes, sizes)
			for _, long := range []string{s + "a", s + b, strings.Repeat(s, 3)} {
				checkNotFed(t, newDecoder(t, en), long)
				if l, n, ok := impl.DecodeAll(en, long); len(l) != 0 || len(n) != 0 || ok {
					t.Errorf("DecodeAll(%d, %d bytes) = %d, %d, %v", en, len(long), len(l), len(n), ok)
				}
			}
		}
	}
}

// What is held counts beside the MaxText bytes that come.
func TestMaxTextBytesBehindWhatIsHeld(t *testing.T) {
	ones := func(n int) []int { return slices.Repeat([]int{1}, n) }
	letters := strings.Repeat("a", impl.MaxText)
	checkFeeds(t, impl.Decoder{En: utf8Bytes, Held: "\xf0\x90\x80"}, []fed{
		{letters, append([]int{bad, bad, bad}, slices.Repeat([]int{97}, impl.MaxText)...), ones(impl.MaxText + 3), impl.Decoder{En: utf8Bytes}},
	})
	checkFeeds(t, impl.Decoder{En: utf8Bytes, Held: "\xf0\x90\x80"}, []fed{
		{"\x80" + letters[1:], append([]int{65536}, slices.Repeat([]int{97}, impl.MaxText-1)...), append([]int{4}, ones(impl.MaxText-1)...), impl.Decoder{En: utf8Bytes}},
	})
	twos := slices.Repeat([]int{2}, impl.MaxText/2)
	checkFeeds(t, impl.Decoder{En: bigUnits, Held: "\xd8\x00\xdc"}, []fed{
		{letters, append([]int{65536 + 97}, slices.Repeat([]int{24929}, impl.MaxText/2-1)...), append([]int{4}, twos[1:]...), impl.Decoder{En: bigUnits, Held: "a"}},
	})
	for _, d := range []impl.Decoder{{En: utf8Bytes, Held: "\xe3"}, {En: bigUnits, Held: "\xd8\x00\xdc"}, {En: littleUnits, Held: "a"}} {
		checkNotFed(t, d, letters+"a")
	}
}

func TestGuessCode(t *testing.T) {
	long := strings.Repeat("a", impl.MaxText)
	for _, c := range []struct {
		s     string
		en, n int
	}{
		{"\xfe\xff", bigUnits, 2}, {"\xfe\xff\x00a", bigUnits, 2}, {"\xfe\xff\xff\xfe", bigUnits, 2},
		{"\xff\xfe", littleUnits, 2}, {"\xff\xfea\x00", littleUnits, 2}, {"\xff\xfe\xfe\xff", littleUnits, 2},
		{"\xef\xbb\xbf", utf8Bytes, 3}, {"\xef\xbb\xbfa", utf8Bytes, 3}, {"\xef\xbb\xbf\xff", utf8Bytes, 3},
		{"\xef\xbb\xbf\xfe\xff", utf8Bytes, 3},
		// marks that are cut short, or not at the front
		{"\xfe", latinBytes, 0}, {"\xff", latinBytes, 0}, {"\xef", latinBytes, 0}, {"\xef\xbb", latinBytes, 0},
		{"\xfea\xff", latinBytes, 0}, {"\xff\xff", latinBytes, 0}, {"\xfe\xfe", latinBytes, 0}, {"\xef\xbba", latinBytes, 0},
		{"a\xfe\xff", latinBytes, 0}, {"a\xff\xfe", latinBytes, 0}, {"a\xef\xbb\xbf", utf8Bytes, 0}, {"\xef\xbb\xbe", utf8Bytes, 0},
		// whole and not
		{"", utf8Bytes, 0}, {"a", utf8Bytes, 0}, {"\x00", utf8Bytes, 0}, {"\xe3\x81\x82", utf8Bytes, 0}, {"\xef\xbf\xbd", utf8Bytes, 0},
		{"\xe3\x81", latinBytes, 0}, {"a\xe4", latinBytes, 0}, {"\xc0\x80", latinBytes, 0}, {"\xed\xa0\x80", latinBytes, 0},
		{"\xf4\x8f\xbf\xbf", utf8Bytes, 0}, {"\xf4\x90\x80\x80", latinBytes, 0}, {"\x80", latinBytes, 0},
		// MaxText bytes
		{long, utf8Bytes, 0}, {long[1:] + "\xe3", latinBytes, 0}, {"\xfe\xff" + long[2:], bigUnits, 2},
		{"\xff\xfe" + long[2:], littleUnits, 2}, {"\xef\xbb\xbf" + long[3:], utf8Bytes, 3},
	} {
		if en, n, ok := impl.GuessCode(c.s); en != c.en || n != c.n || !ok {
			t.Errorf("GuessCode(%q) = %d, %d, %v; not %d, %d, true", c.s, en, n, ok, c.en, c.n)
		}
	}
	for _, s := range []string{long + "a", "\xfe\xff" + long, "\xff\xfe" + long, "\xef\xbb\xbf" + long, "\xff" + long} {
		if en, n, ok := impl.GuessCode(s); en != 0 || n != 0 || ok {
			t.Errorf("GuessCode of %d bytes = %d, %d, %v", len(s), en, n, ok)
		}
	}
}

func TestEncodeAllWritesIntoNoList(t *testing.T) {
	for _, en := range append(slices.Clone(allCodes), 0, 6) {
		for _, l := range [][]int{
			{97, 98, 12354, 7, 7},
			{12354, 97, 228, 65536, 7, 7},
			{97, -1, 55296, impl.MaxRune + 1, 7, 7},
			append(slices.Repeat([]int{12354, 97}, impl.MaxText/2), -7, -7),
			append(slices.Repeat([]int{97}, impl.MaxText+1), -7, -7),
		} {
			before := slices.Clone(l)
			impl.EncodeAll(en, l[:len(l)-2])
			if !slices.Equal(l, before) {
				t.Errorf("EncodeAll(%d) wrote into a list of %d", en, len(l)-2)
			}
		}
	}
	l := []int{97, 98, -1}
	checkEncoded(t, latinBytes, l[:2], "ab")
}

// overwrite fills a list and all that lies behind it in its memory.
func overwrite(l []int) {
	l = l[:cap(l)]
	for i := range l {
		l[i] = -7
	}
}

func TestDecodedListsShareNoMemory(t *testing.T) {
	for _, en := range allCodes {
		s := "a\x00a\xd8\x00\xd8\x00\x0e"
		runes, sizes := readWhole(en, s)
		for _, first := range []bool{true, false} {
			l, n, _ := impl.DecodeAll(en, s)
			_, fedRunes, fedSizes, _ := impl.FeedDecoder(newDecoder(t, en), s)
			if first {
				overwrite(l)
				overwrite(fedRunes)
				l, fedRunes = runes, runes[:len(fedSizes)]
			} else {
				overwrite(n)
				overwrite(fedSizes)
				n, fedSizes = sizes, sizes[:len(fedRunes)]
			}
			if !slices.Equal(l, runes) || !slices.Equal(n, sizes) || !slices.Equal(fedRunes, runes[:len(fedRunes)]) || !slices.Equal(fedSizes, sizes[:len(fedSizes)]) {
				t.Errorf("code %d: the runes and how many bytes they have share memory", en)
			}
		}
		checkDecoded(t, en, s, runes, sizes)
	}
	d := impl.Decoder{En: bigUnits, Held: "\xd8\x00\xdc"}
	_, l, n, _ := impl.FlushDecoder(d)
	overwrite(l)
	if !slices.Equal(n, []int{2, 1}) {
		t.Error("FlushDecoder's lists share memory")
	}
	checkFlush(t, d, []int{bad, bad}, []int{2, 1})
}

func sharesBytes(a string, b string) bool {
	from, to := uintptr(unsafe.Pointer(unsafe.StringData(a))), uintptr(unsafe.Pointer(unsafe.StringData(b)))
	return a != "" && b != "" && from < to+uintptr(len(b)) && to < from+uintptr(len(a))
}

func TestWhatIsHeldIsNewMemory(t *testing.T) {
	s := "a\xe3\x81"
	next, _, _, _ := impl.FeedDecoder(newDecoder(t, utf8Bytes), s)
	if next.Held != "\xe3\x81" || sharesBytes(next.Held, s) {
		t.Errorf("held %q of the text itself", next.Held)
	}
	again, _, _, _ := impl.FeedDecoder(next, "")
	if again.Held != "\xe3\x81" || sharesBytes(again.Held, next.Held) {
		t.Errorf("held %q of the decoder itself", again.Held)
	}
}
