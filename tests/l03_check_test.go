package tests

import (
	"fmt"
	"math"
	"slices"
	"strings"
	"testing"
	"unsafe"

	"loop.example/g00223/impl"
)

const checkPlaces = 16

// plainCheck divides as one does on paper: the text's bits and sixteen 0s in a
// row, the seventeen bits of 116839 taken away under each 1 that is met, what is
// left in the last sixteen read as a number.
func plainCheck(s string) int64 {
	row := append(bitsOf(s), make([]int64, checkPlaces)...)
	for i := range len(row) - checkPlaces {
		if row[i] == 0 {
			continue
		}
		for j := range checkPlaces + 1 {
			row[i+j] ^= 116839 >> (checkPlaces - j) & 1
		}
	}
	check := int64(0)
	for _, bit := range row[len(row)-checkPlaces:] {
		check = 2*check + bit
	}
	return check
}

// plainSmeared turns one after the other those of the text's bits that stand
// under a 1 of mask.
func plainSmeared(s string, at int64, mask int64) string {
	bits := bitsOf(s)
	for i, turn := range bitsOf(string([]byte{byte(mask / 256), byte(mask % 256)})) {
		if place := int(at) + i; place < len(bits) && turn == 1 {
			bits[place] = 1 - bits[place]
		}
	}
	text := make([]byte, len(s))
	for i, bit := range bits {
		text[i/8] = 2*text[i/8] + byte(bit)
	}
	return string(text)
}

// checkTexts are of all kinds: tricky ones, ones with noughts ahead and behind,
// and ones longer than any that chapter 1 has bits of.
func checkTexts() []string {
	n := numbers(31)
	texts := trickyTexts()
	for count := range 70 {
		texts = append(texts, n.text(count), strings.Repeat("\x00", count), strings.Repeat("\xff", count))
		texts = append(texts, strings.Repeat("\x00", count)+"a", "a"+strings.Repeat("\x00", count))
	}
	for _, count := range []int{255, 256, 511, 512, 513, 514, 1000, 5000} {
		texts = append(texts, n.text(count), strings.Repeat("\x00", count), strings.Repeat("\xff", count))
	}
	return texts
}

// tellText tells a long text by its length.
func tellText(s string) string {
	if len(s) > 40 {
		return fmt.Sprintf("%d bytes, the first %q", len(s), s[:40])
	}
	return fmt.Sprintf("%q", s)
}

func TestCheckOfSome(t *testing.T) {
	for _, c := range []struct {
		text string
		want int64
	}{
		{"", 0}, {"\x00", 0}, {"\x00\x00", 0}, {strings.Repeat("\x00", 600), 0},
		{"\x02", 22697}, {"\x80", 24154}, {"\xff", 37996}, {"a", 5359}, {"b", 33825},
		{"ab", 18322}, {"ba", 56039}, {"\x00a", 5359}, {"a\x00", 50099}, {"abc", 53495},
		{"\xff\xff", 35461}, {"\x01\x00", 48308}, {"\x01\x00\x00", 40847},
		{"123456789", 58197}, {"\u20ac", 62760}, {"small squares that wear out", 41349},
		{"\x01\x17", 201}, {"\x01\xc8", 26368}, {"\x04\x11", 65535}, {"\xe4\x33", 32768}, {"\x0c\x32", 1}, {"\x29\x91", 256},
		{strings.Repeat("a", 512), 20100}, {strings.Repeat("a", 513), 64762},
		{strings.Repeat("\xff", 4096), 47684}, {strings.Repeat("ab", 50000), 55454},
	} {
		if got := impl.Check(c.text); got != c.want {
			t.Errorf("Check of %s: %d, not %d", tellText(c.text), got, c.want)
		}
	}
}

// The one bit of "\x01" comes to just 65536 with the last of the sixteen 0s: it
// is brought back there, and 65536 xored with 116839 is left.
func TestCheckBroughtBack(t *testing.T) {
	for count := range 5 {
		if got := impl.Check(strings.Repeat("\x00", count) + "\x01"); got != 51303 {
			t.Errorf("Check of a last bit behind %d noughts: %d, not 51303", count, got)
		}
	}
	// Divided by itself, the polynomial of 116839 leaves nothing: its seventeen
	// bits at the end of three bytes are brought back to 0.
	if got := impl.Check("\x01\xc8\x67"); got != 0 {
		t.Errorf("Check of the polynomial itself: %d", got)
	}
}

func TestCheckOfOneAndTwoBytes(t *testing.T) {
	for first := range 256 {
		one := string([]byte{byte(first)})
		if got, want := impl.Check(one), plainCheck(one); got != want {
			t.Fatalf("Check(%q): %d, not %d", one, got, want)
		}
		for second := range 256 {
			two := string([]byte{byte(first), byte(second)})
			if got, want := impl.Check(two), plainCheck(two); got != want {
				t.Fatalf("Check(%q): %d, not %d", two, got, want)
			}
		}
	}
}

func TestCheckIsTheRemainder(t *testing.T) {
	for _, s := range checkTexts() {
		got := impl.Check(s)
		if want := plainCheck(s); got != want {
			t.Errorf("Check of %s: %d, not %d", tellText(s), got, want)
		}
		if got < 0 || got > 65535 {
			t.Errorf("Check of %s is %d", tellText(s), got)
		}
	}
}

func TestCheckedOfSome(t *testing.T) {
	for _, c := range [][2]string{
		{"", "\x00\x00"},
		{"\x00", "\x00\x00\x00"},
		{"ab", "ab\x47\x92"},
		{"a", "a\x14\xef"},
		{"\x01", "\x01\xc8\x67"},
		{"\x01\x17", "\x01\x17\x00\xc9"}, // the first byte of the check is 0
		{"\x01\xc8", "\x01\xc8\x67\x00"}, // the last one is
		{"\x0c\x32", "\x0c\x32\x00\x01"},
		{"\x29\x91", "\x29\x91\x01\x00"},
		{"\x04\x11", "\x04\x11\xff\xff"},
		{"\xe4\x33", "\xe4\x33\x80\x00"},
		{"\u20ac", "\u20ac\xf5\x28"},
	} {
		if got := impl.Checked(c[0]); got != c[1] {
			t.Errorf("Checked(%q): %q, not %q", c[0], got, c[1])
		}
	}
}

func TestCheckedIsTheTextAndItsCheck(t *testing.T) {
	for _, s := range checkTexts() {
		check := impl.Check(s)
		if got, want := impl.Checked(s), s+string([]byte{byte(check / 256), byte(check % 256)}); got != want {
			t.Errorf("Checked of %s is wrong", tellText(s))
		}
		// With its own check behind it a text leaves nothing.
		if got := impl.Check(impl.Checked(s)); got != 0 {
			t.Errorf("Check of what is Checked of %s: %d", tellText(s), got)
		}
	}
}

func TestWholeOfLessThanThree(t *testing.T) {
	if impl.Whole("") {
		t.Error("no byte is Whole")
	}
	for first := range 256 {
		if one := string([]byte{byte(first)}); impl.Whole(one) {
			t.Errorf("%q is Whole", one)
		}
		for second := range 256 {
			two := string([]byte{byte(first), byte(second)})
			if got, want := impl.Whole(two), two == "\x00\x00"; got != want {
				t.Errorf("Whole(%q): %v", two, got)
			}
		}
	}
}

func TestWholeHasOneCheck(t *testing.T) {
	for _, s := range []string{"a", "ab", "\x01\x17", "\x01\xc8", "\u20ac"} {
		want := plainCheck(s)
		for check := range int64(65536) {
			with := s + string([]byte{byte(check / 256), byte(check % 256)})
			if got := impl.Whole(with); got != (check == want) {
				t.Fatalf("Whole of %s with the check %d: %v", tellText(s), check, got)
			}
		}
	}
}

func TestWholeNoMore(t *testing.T) {
	// None of these has a check that ends with a byte 0: such a one is Whole
	// without that byte, too.
	for _, s := range []string{"ab", "a\x00", "\u20ac", "123456789", "\x01\x17"} {
		whole := impl.Checked(s)
		end := len(whole)
		for _, broken := range []string{
			whole[:end-1], whole[:end-2], whole[1:], whole + "a", "a" + whole,
			s, s + "\x00\x00", s + whole[end-1:] + whole[end-2:end-1],
		} {
			if broken != whole && impl.Whole(broken) {
				t.Errorf("%q, of %q, is Whole", broken, s)
			}
		}
		for at := range end {
			for value := range 256 {
				other := whole[:at] + string([]byte{byte(value)}) + whole[at+1:]
				if got := impl.Whole(other); got != (other == whole) {
					t.Errorf("Whole(%q): %v", other, got)
				}
			}
		}
	}
}

func TestSmearedOfSome(t *testing.T) {
	for _, c := range []struct {
		text string
		at   int64
		mask int64
		want string
	}{
		{"ab", 0, 65535, "\x9e\x9d"}, {"ab", 0, 0, "ab"}, {"ab", 0, 1, "ac"}, {"ab", 0, 32768, "\xe1b"},
		{"ab", 0, 256, "`b"}, {"ab", 0, 128, "a\xe2"}, {"ab", 15, 32768, "ac"}, {"ab", 15, 65535, "ac"},
		{"ab", 15, 32767, "ab"}, {"ab", 15, 1, "ab"}, {"ab", 14, 65535, "aa"}, {"ab", 14, 16384, "ac"},
		{"ab", 1, 1, "ab"}, {"ab", 1, 2, "ac"}, {"ab", 8, 65535, "a\x9d"}, {"ab", 8, 255, "ab"}, {"ab", 8, 256, "ac"},
		{"ab", 7, 65535, "`\x9d"}, {"abc", 7, 65535, "`\x9d\x9d"}, {"abc", 8, 65535, "a\x9d\x9c"},
		{"abcd", 9, 32769, "a\x22c\xe4"}, {"abcd", 4, 65535, "n\x9d\x93d"},
		{"a", 0, 65535, "\x9e"}, {"a", 0, 255, "a"}, {"a", 7, 32768, "`"}, {"a", 7, 32767, "a"},
		{"\u20ac", 0, 65535, "\x1d\x7d\xac"}, {"\x00\x00\x00", 4, 65535, "\x0f\xff\xf0"},
	} {
		if got := impl.Smeared(c.text, c.at, c.mask); got != c.want {
			t.Errorf("Smeared(%q, %d, %d): %q, not %q", c.text, c.at, c.mask, got, c.want)
		}
	}
}

// edgeMasks have their 1s at the first place, the last one, in between, and
// everywhere.
func edgeMasks() []int64 {
	masks := []int64{0, 3, 255, 256, 257, 32767, 32769, 43690, 21845, 65280, 65534, 65535}
	for i := range checkPlaces {
		masks = append(masks, 1<<i)
	}
	return masks
}

func TestSmearedAtEveryPlace(t *testing.T) {
	n := numbers(32)
	for _, count := range []int{1, 2, 3, 4, 7, 20} {
		text := n.text(count)
		for at := range int64(8 * count) {
			for _, mask := range append(edgeMasks(), int64(n.below(65536)), int64(n.below(65536))) {
				got := impl.Smeared(text, at, mask)
				if want := plainSmeared(text, at, mask); got != want {
					t.Fatalf("Smeared(%q, %d, %d): %q, not %q", text, at, mask, got, want)
				}
				if impl.Smeared(got, at, mask) != text {
					t.Fatalf("%q, Smeared twice by %d, %d, is another one", text, at, mask)
				}
			}
		}
	}
}

func TestSmearedWithEveryMask(t *testing.T) {
	for mask := range int64(65536) {
		for _, at := range []int64{0, 3, 8, 17, 23} {
			if got, want := impl.Smeared("abc", at, mask), plainSmeared("abc", at, mask); got != want {
				t.Fatalf("Smeared(abc, %d, %d): %q, not %q", at, mask, got, want)
			}
		}
	}
}

func TestSmearedOfALongText(t *testing.T) {
	n := numbers(33)
	for _, count := range []int{512, 513, 5000, 100000} {
		text := n.text(count)
		for _, at := range []int64{0, 4095, 4096, int64(8*count) - 17, int64(8*count) - 16, int64(8*count) - 15, int64(8*count) - 1} {
			if at >= int64(8*count) {
				continue
			}
			for _, mask := range []int64{1, 32768, 65535} {
				if impl.Smeared(text, at, mask) != plainSmeared(text, at, mask) {
					t.Errorf("Smeared of %d bytes at %d by %d is wrong", count, at, mask)
				}
			}
		}
	}
}

// wrongPlaces are no places in a text of so many bytes.
func wrongPlaces(count int) []int64 {
	end := int64(8 * count)
	return []int64{
		-1, -2, -8, -15, -16, -17, -end - 1, end, end + 1, end + 7, end + 8, end + 16,
		1 << 31, 1 << 32, 1<<32 + 1, 1 << 61, 1 << 62, -1 << 32, -1<<32 + 1, -1 << 61, -1 << 62,
		math.MaxInt64, math.MaxInt64 - 7, math.MaxInt64 - 15, math.MinInt64, math.MinInt64 + 1, math.MinInt64 + 8,
	}
}

func wrongMasks() []int64 {
	return []int64{
		-1, -2, -32768, -65535, -65536, 65536, 65537, 98304, 131071, 1 << 17,
		1 << 31, 1<<31 - 1, 1 << 32, 1<<32 + 1, 1<<32 + 65535, 1 << 62, -1 << 32, -1<<32 + 1,
		math.MaxInt64, math.MaxInt64 - 1, math.MinInt64, math.MinInt64 + 1, math.MinInt64 + 65535,
	}
}

func TestSmearedOutOfRange(t *testing.T) {
	n := numbers(34)
	for _, count := range []int{0, 1, 2, 3, 16, 513} {
		text := n.text(count)
		same := func(at int64, mask int64) {
			t.Helper()
			neverPanics(t, "Smeared", func() {
				if got := impl.Smeared(text, at, mask); got != text {
					t.Errorf("Smeared of %d bytes at %d by %d is not as it was", count, at, mask)
				}
			})
		}
		for _, at := range wrongPlaces(count) {
			for _, mask := range slices.Concat(edgeMasks(), wrongMasks()) {
				same(at, mask)
			}
		}
		for _, mask := range wrongMasks() {
			for at := range int64(8 * count) {
				same(at, mask)
			}
		}
	}
}

func TestSmearedOfNoByte(t *testing.T) {
	for _, at := range []int64{-1, 0, 1, 7, 8, math.MaxInt64, math.MinInt64} {
		for _, mask := range []int64{-1, 0, 1, 65535, 65536} {
			if got := impl.Smeared("", at, mask); got != "" {
				t.Errorf("Smeared of no byte at %d by %d: %q", at, mask, got)
			}
		}
	}
}

func TestPromise3CheckedIsWhole(t *testing.T) {
	n := numbers(35)
	texts := checkTexts()
	for count := range 600 {
		texts = append(texts, n.text(count))
	}
	for _, s := range texts {
		if !impl.Whole(impl.Checked(s)) {
			t.Errorf("Checked of %s is not Whole", tellText(s))
		}
		if !impl.Whole(impl.Checked(impl.Checked(s))) {
			t.Errorf("Checked twice, %s is not Whole", tellText(s))
		}
	}
}

func TestPromise3CheckGoesWithXored(t *testing.T) {
	n := numbers(36)
	for count := range 600 {
		a, b := n.text(count), n.text(count)
		if impl.Check(impl.Xored(a, b)) != impl.Check(a)^impl.Check(b) {
			t.Errorf("the Check of %s Xored with %s is not the Checks xored", tellText(a), tellText(b))
		}
		if !impl.Whole(impl.Xored(impl.Checked(a), impl.Checked(b))) {
			t.Errorf("%s and %s Checked and then Xored are not Whole", tellText(a), tellText(b))
		}
	}
	for first := range 256 {
		for second := range 256 {
			a, b := string([]byte{byte(first)}), string([]byte{byte(second)})
			if impl.Check(impl.Xored(a, b)) != impl.Check(a)^impl.Check(b) {
				t.Fatalf("the Check of %q Xored with %q is not the Checks xored", a, b)
			}
		}
	}
}

func checkNoticed(t *testing.T, whole string, at int64, mask int64) {
	t.Helper()
	smeared := impl.Smeared(whole, at, mask)
	if got := impl.Whole(smeared); got != (smeared == whole) {
		t.Fatalf("%s, Smeared at %d by %d: Whole is %v", tellText(whole), at, mask, got)
	}
}

func TestPromise3WhatIsSmearedIsNoticed(t *testing.T) {
	n := numbers(37)
	texts := append(checkTexts(), n.text(9000))
	for _, s := range texts {
		whole := impl.Checked(s)
		last := 8*len(whole) - 1
		for _, at := range []int{0, 1, 7, 8, last / 2, last - 17, last - 16, last - 15, last - 14, last - 7, last, n.below(last + 1), n.below(last + 1)} {
			checkNoticed(t, whole, int64(at), int64(n.below(65536)))
			if at >= 0 && impl.Whole(impl.Smeared(whole, int64(at), 32768)) {
				t.Fatalf("one bit of %s, number %d, is turned and not noticed", tellText(whole), at)
			}
		}
	}
}

// All masks at all places, also of the two bytes that are the check.
func TestPromise3EverySmearIsNoticed(t *testing.T) {
	for _, s := range []string{"", "a", "\u00e9"} {
		whole := impl.Checked(s)
		for at := range int64(8 * len(whole)) {
			for mask := range int64(65536) {
				checkNoticed(t, whole, at, mask)
			}
		}
	}
}

// sharesMemory: does one text lie within the other's memory?
func sharesMemory(a string, b string) bool {
	fromA := uintptr(unsafe.Pointer(unsafe.StringData(a)))
	fromB := uintptr(unsafe.Pointer(unsafe.StringData(b)))
	return fromA < fromB+uintptr(len(b)) && fromB < fromA+uintptr(len(a))
}

func TestPromise21CheckAnswersAreNewMemory(t *testing.T) {
	n := numbers(38)
	for _, count := range []int{2, 3, 16, 40, 600} {
		text := n.text(count)
		if sharesMemory(impl.Checked(text), text) {
			t.Errorf("Checked of %d bytes shares memory with them", count)
		}
		for _, at := range []int64{-1, 0, 7, int64(8*count) - 1, int64(8 * count)} {
			for _, mask := range []int64{-1, 0, 1, 65535, 65536} {
				if sharesMemory(impl.Smeared(text, at, mask), text) {
					t.Errorf("Smeared of %d bytes at %d by %d shares memory with them", count, at, mask)
				}
			}
		}
	}
}

func TestPromise21CheckArgumentsStay(t *testing.T) {
	n := numbers(39)
	for _, count := range []int{1, 2, 3, 16, 40, 600} {
		text := n.text(count)
		before := strings.Clone(text)
		impl.Check(text)
		impl.Checked(text)
		impl.Whole(text)
		for _, at := range []int64{-1, 0, 7, int64(8*count) - 1, int64(8 * count)} {
			impl.Smeared(text, at, 65535)
		}
		if text != before {
			t.Errorf("a text of %d bytes was written to", count)
		}
	}
}

func TestPromise21CheckNeverPanics(t *testing.T) {
	texts := append(checkTexts(), strings.Repeat("\u20ac", 100000))
	for _, s := range texts {
		what := tellText(s)
		neverPanics(t, "Check of "+what, func() { impl.Check(s) })
		neverPanics(t, "Checked of "+what, func() { impl.Checked(s) })
		neverPanics(t, "Whole of "+what, func() { impl.Whole(s) })
		for _, at := range append(wrongPlaces(len(s)), 0, int64(8*len(s))-1, int64(8*len(s))-16) {
			for _, mask := range []int64{math.MinInt64, -1, 0, 65535, 65536, math.MaxInt64} {
				neverPanics(t, "Smeared of "+what, func() { impl.Smeared(s, at, mask) })
			}
		}
	}
}

// What one call reckons must not show in the next one.
func TestCheckAnswersAgainAlike(t *testing.T) {
	for range 3 {
		if impl.Check("ab") != 18322 || impl.Check("") != 0 || impl.Check("a") != 5359 || !impl.Whole("ab\x47\x92") || impl.Whole("ab\x47\x93") {
			t.Fatal("a later call answers otherwise")
		}
	}
}
