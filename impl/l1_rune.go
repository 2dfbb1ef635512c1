package impl

import "strings"

const MaxText = 1000
const BadRune = 65533
const MaxRune = 1114111

// A surrogate is half of a pair of units (chapter 2), never a rune by itself.
const firstSurrogate = 55296
const lastSurrogate = 57343

// formLeast and formLead have an entry for each form, the one with one byte
// first: the least rune that is written so, and what marks its first byte.
var formLeast = [4]int{0, 128, 2048, 65536}
var formLead = [4]int{0, 192, 224, 240}

// goOn marks a byte that goes on a rune with six bits more.
const goOn = 128
const sixBits = 64

func GoodRune(r int) bool {
	return 0 <= r && r <= MaxRune && (r < firstSurrogate || r > lastSurrogate)
}

func Utf8Of(r int) (string, bool) {
	if !GoodRune(r) {
		return "", false
	}
	form := formOfRune(r)
	b := make([]byte, form+1)
	for i := form; i > 0; i-- {
		b[i] = byte(goOn + r%sixBits)
		r /= sixBits
	}
	b[0] = byte(formLead[form] + r)
	return string(b), true
}

func RuneAt(s string, at int) (int, int, bool) {
	if len(s) > MaxText || at < 0 || at >= len(s) {
		return 0, 0, false
	}
	r := firstRune(s[at:])
	// BadRune may be told for what is no rune, or may itself be written there.
	t, _ := Utf8Of(r)
	if strings.HasPrefix(s[at:], t) {
		return r, len(t), true
	}
	return BadRune, 1, true
}

func RunesOf(s string) ([]int, bool) {
	if len(s) > MaxText {
		return nil, false
	}
	l := make([]int, 0, len(s))
	for _, r := range s {
		l = append(l, int(r))
	}
	return l, true
}

func TextOf(l []int) (string, bool) {
	if len(l) > MaxText {
		return "", false
	}
	b := make([]byte, 0, len(l))
	for _, r := range l {
		t, ok := Utf8Of(r)
		if !ok {
			return "", false
		}
		b = append(b, t...)
	}
	if len(b) > MaxText {
		return "", false
	}
	return string(b), true
}

func IsBegun(s string) bool {
	if s == "" {
		return false
	}
	form := formOfByte(s[0])
	if len(s) > form {
		return false
	}
	// The runes whose bits begin like those of s stand in a row; a surrogate,
	// or a number above MaxRune, is the least of them only where all are so.
	t, ok := Utf8Of(leastBegunBy(s, form))
	return ok && strings.HasPrefix(t, s)
}

func IsWhole(s string) bool {
	l, ok := RunesOf(s)
	if !ok {
		return false
	}
	// A byte that is no rune is written back as BadRune, in other bytes.
	t, ok := TextOf(l)
	return ok && t == s
}

// firstRune leaves the reading to the language, so that RuneAt and RunesOf
// can't come apart.
func firstRune(s string) int {
	for _, r := range s {
		return int(r)
	}
	return BadRune
}

func formOfRune(r int) int {
	form := len(formLeast) - 1
	for r < formLeast[form] {
		form--
	}
	return form
}

// formOfByte does not ask whether b may begin a rune at all: what it tells of
// others is written back in other bytes, or is no rune.
func formOfByte(b byte) int {
	form := len(formLead) - 1
	for int(b) < formLead[form] {
		form--
	}
	return form
}

// leastBegunBy takes 0 for all bits that have not come; a form is never
// written for a rune that a shorter one has, so some runes are out of reach.
func leastBegunBy(s string, form int) int {
	r := int(s[0]) - formLead[form]
	for i := 1; i <= form; i++ {
		r *= sixBits
		if i < len(s) {
			r += int(s[i]) % sixBits
		}
	}
	return max(r, formLeast[form])
}
