package tests

import (
	"fmt"
	"math"
	"math/bits"
	"strings"
	"testing"

	"loop.example/g00223/impl"
)

const (
	words     = 8192
	wordsBits = 13
)

// plainOdd counts, for each of 1, 2, 4, 8, the 1s among the bits whose number
// has it.
func plainOdd(word int64) int64 {
	odd := int64(0)
	for _, power := range []int{1, 2, 4, 8} {
		count := 0
		for i := range wordsBits {
			if i/power%2 == 1 && word>>i&1 == 1 {
				count++
			}
		}
		if count%2 == 1 {
			odd += int64(power)
		}
	}
	return odd
}

// plainByte takes the bits of a byte out of a word, one by one.
func plainByte(word int64) int64 {
	bit := func(i int) int64 { return word >> i & 1 }
	return bit(3) + 2*bit(5) + 4*bit(6) + 8*bit(7) + 16*bit(9) + 32*bit(10) + 64*bit(11) + 128*bit(12)
}

// plainWords looks among all words for those that are even by each of 1, 2, 4, 8
// and in all: there is one for each byte.
func plainWords(t *testing.T) [256]int64 {
	t.Helper()
	found := [256]int64{}
	count := 0
	for word := range int64(words) {
		if plainOdd(word) == 0 && onesOf(word)%2 == 0 {
			found[plainByte(word)] = word
			count++
		}
	}
	if count != 256 {
		t.Fatalf("%d words are even", count)
	}
	return found
}

func onesOf(word int64) int {
	return bits.OnesCount64(uint64(word))
}

// plainHealed asks for the byte whose word is this one, or unlike it at one bit.
func plainHealed(of [256]int64, word int64) (int64, int64) {
	for b, right := range of {
		switch onesOf(word ^ right) {
		case 0:
			return int64(b), impl.HmClean
		case 1:
			return int64(b), impl.HmFixed
		}
	}
	return -1, impl.HmLost
}

func noWords() []int64 {
	return []int64{
		-1, -2, -8191, -8192, 8192, 8193, 16383, 65535, 65536, 1 << 32, 1<<32 + 1, 1 << 62, -1 << 32, -1<<32 + 5,
		math.MinInt64, math.MinInt64 + 1, math.MinInt64 + 5198, math.MaxInt64, math.MaxInt64 - 8191,
	}
}

// wordText is the two bytes of what need not be a word.
func wordText(word int64) string {
	return string([]byte{byte(word / 256), byte(word % 256)})
}

func checkHealed(t *testing.T, word int64, wantByte int64, wantKind int64) {
	t.Helper()
	if b, kind := impl.Healed(word); b != wantByte || kind != wantKind {
		t.Fatalf("Healed(%d): %d and %d, not %d and %d", word, b, kind, wantByte, wantKind)
	}
}

func checkHealedAll(t *testing.T, s string, wantText string, wantFixed int64, wantIs bool) {
	t.Helper()
	text, fixed, is := impl.HealedAll(s)
	if text != wantText || fixed != wantFixed || is != wantIs {
		t.Fatalf("HealedAll of %s: %s, %d and %v, not %s, %d and %v", tellText(s), tellText(text), fixed, is, tellText(wantText), wantFixed, wantIs)
	}
}

func TestHammingConstants(t *testing.T) {
	if impl.HmClean != 0 || impl.HmFixed != 1 || impl.HmLost != 2 || impl.MaxText != 300 {
		t.Fatal(impl.HmClean, impl.HmFixed, impl.HmLost, impl.MaxText)
	}
}

func TestSpreadOfSome(t *testing.T) {
	for _, c := range [][2]int64{
		{0, 0}, {1, 15}, {2, 51}, {4, 85}, {8, 150}, {16, 771}, {32, 1285}, {64, 2310}, {128, 4369},
		{255, 7918}, {165, 5198}, {97, 3084},
	} {
		if got := impl.Spread(c[0]); got != c[1] {
			t.Errorf("Spread(%d): %d, not %d", c[0], got, c[1])
		}
	}
}

func TestSpreadIsTheEvenWord(t *testing.T) {
	for b, want := range plainWords(t) {
		if got := impl.Spread(int64(b)); got != want {
			t.Errorf("Spread(%d): %d, not %d", b, got, want)
		}
	}
}

func TestSpreadOfNoByte(t *testing.T) {
	for _, wrong := range wrongElements() {
		neverPanics(t, "Spread", func() {
			if got := impl.Spread(wrong); got != -1 {
				t.Errorf("Spread(%d): %d", wrong, got)
			}
		})
	}
}

func TestOddOfSome(t *testing.T) {
	for _, c := range [][2]int64{
		{0, 0}, {1, 0}, {2, 1}, {4, 2}, {8, 3}, {16, 4}, {128, 7}, {256, 8}, {4096, 12}, {4097, 12},
		{8191, 12}, {8190, 12}, {3, 1}, {6, 3}, {14, 0}, {4098, 13}, {4100, 14}, {4104, 15}, {4096 + 8 + 16, 11},
		{5198, 0}, {5198 ^ 64, 6}, {5198 ^ 1, 0}, {5198 ^ 3, 1},
	} {
		if got := impl.Odd(c[0]); got != c[1] {
			t.Errorf("Odd(%d): %d, not %d", c[0], got, c[1])
		}
	}
}

func TestOddOfEveryWord(t *testing.T) {
	seen := map[int64]bool{}
	for word := range int64(words) {
		got := impl.Odd(word)
		if want := plainOdd(word); got != want {
			t.Fatalf("Odd(%d): %d, not %d", word, got, want)
		}
		seen[got] = true
	}
	if len(seen) != 16 {
		t.Errorf("%d different sums, not 16", len(seen))
	}
}

func TestOddOfNoWord(t *testing.T) {
	for _, wrong := range noWords() {
		neverPanics(t, "Odd", func() {
			if got := impl.Odd(wrong); got != -1 {
				t.Errorf("Odd(%d): %d", wrong, got)
			}
		})
	}
}

func TestHealedAtTheEdges(t *testing.T) {
	for _, c := range []struct {
		word, odd, b, kind int64
		uneven             bool
	}{
		{0, 0, 0, impl.HmClean, false},
		{1, 0, 0, impl.HmFixed, true}, // only bit 0 was turned
		{7918, 0, 255, impl.HmClean, false},
		{7919, 0, 255, impl.HmFixed, true},
		{14, 0, 1, impl.HmFixed, true}, // an odd number of 1s, Odd 0
		{4096, 12, 0, impl.HmFixed, true},
		{8191, 12, 127, impl.HmFixed, true},
		{8190, 12, -1, impl.HmLost, false}, // an even number, Odd not 0
		{4097, 12, -1, impl.HmLost, false},
		{3, 1, -1, impl.HmLost, false},
		{4099, 13, -1, impl.HmLost, true}, // there is no bit 13, 14 or 15
		{4101, 14, -1, impl.HmLost, true},
		{4105, 15, -1, impl.HmLost, true},
		{4098, 13, -1, impl.HmLost, false},
		{2, 1, 0, impl.HmFixed, true},
		{256, 8, 0, impl.HmFixed, true},
		{8, 3, 0, impl.HmFixed, true},
	} {
		if impl.Odd(c.word) != c.odd || onesOf(c.word)%2 == 1 != c.uneven {
			t.Errorf("%d is no such word: Odd %d", c.word, impl.Odd(c.word))
		}
		checkHealed(t, c.word, c.b, c.kind)
	}
}

func TestHealedOfEveryWord(t *testing.T) {
	of := plainWords(t)
	counts := map[int64]int{}
	for word := range int64(words) {
		b, kind := plainHealed(of, word)
		checkHealed(t, word, b, kind)
		counts[kind]++
	}
	if counts[impl.HmClean] != 256 || counts[impl.HmFixed] != 13*256 || counts[impl.HmLost] != words-14*256 {
		t.Errorf("so many of each kind: %v", counts)
	}
}

func TestHealedOfNoWord(t *testing.T) {
	for _, wrong := range noWords() {
		neverPanics(t, "Healed", func() { checkHealed(t, wrong, -1, impl.HmLost) })
	}
}

func TestPromise4WordsAreFourApart(t *testing.T) {
	for a := range int64(256) {
		for b := range a {
			left, right := impl.Spread(a), impl.Spread(b)
			if apart := onesOf(left ^ right); apart < 4 {
				t.Errorf("the words of %d and %d are unlike at %d bits", a, b, apart)
			}
			if impl.Apart(impl.Bits(wordText(left)), impl.Bits(wordText(right))) < 4 {
				t.Errorf("the bytes of the words of %d and %d are not four apart", a, b)
			}
		}
	}
}

func TestPromise4OneIsMendedTwoAreNoticed(t *testing.T) {
	for b := range int64(256) {
		word := impl.Spread(b)
		checkHealed(t, word, b, impl.HmClean)
		for first := range wordsBits {
			one := word ^ 1<<first
			checkHealed(t, one, b, impl.HmFixed)
			for second := range first {
				checkHealed(t, one^1<<second, -1, impl.HmLost)
			}
		}
	}
}

func TestSpreadAllOfSome(t *testing.T) {
	for _, c := range [][2]string{
		{"", ""}, {"\x00", "\x00\x00"}, {"\xff", "\x1e\xee"}, {"\xa5", "\x14\x4e"}, {"a", "\x0c\x0c"},
		{"\x01\x00\x02", "\x00\x0f\x00\x00\x00\x33"}, {"\x10", "\x03\x03"}, {"\u00e9", "\x18\x2b\x14\x8d"},
	} {
		if got := impl.SpreadAll(c[0]); got != c[1] {
			t.Errorf("SpreadAll(%q): %q, not %q", c[0], got, c[1])
		}
	}
}

func TestSpreadAllIsTwoBytesAWord(t *testing.T) {
	of := plainWords(t)
	n := numbers(41)
	texts := trickyTexts()
	for _, count := range []int{1, 2, 3, 100, 255, 256, 299, 300} {
		texts = append(texts, n.text(count))
	}
	for _, s := range texts {
		want := ""
		for i := range len(s) {
			want += wordText(of[s[i]])
		}
		if got := impl.SpreadAll(s); got != want {
			t.Errorf("SpreadAll of %s is wrong", tellText(s))
		}
	}
}

func TestSpreadAllAtTheLimit(t *testing.T) {
	for _, fill := range []string{"\x00", "a", "\xff"} {
		if got := impl.SpreadAll(strings.Repeat(fill, 300)); got != strings.Repeat(impl.SpreadAll(fill), 300) || len(got) != 600 {
			t.Errorf("SpreadAll of 300 times %q has %d bytes", fill, len(got))
		}
		for _, count := range []int{301, 302, 600, 601, 5000} {
			if got := impl.SpreadAll(strings.Repeat(fill, count)); got != "" {
				t.Errorf("SpreadAll of %d times %q has %d bytes", count, fill, len(got))
			}
		}
	}
	// 151 runes, but 302 bytes: it is the bytes that count.
	if got := impl.SpreadAll(strings.Repeat("\u00e9", 151)); got != "" {
		t.Errorf("SpreadAll of 302 bytes has %d", len(got))
	}
}

func TestHealedAllOfSome(t *testing.T) {
	checkHealedAll(t, "", "", 0, true)
	checkHealedAll(t, "\x00\x00", "\x00", 0, true)
	checkHealedAll(t, "\x14\x4e", "\xa5", 0, true)
	checkHealedAll(t, "\x14\x4f", "\xa5", 1, true)
	checkHealedAll(t, "\x04\x4e", "\xa5", 1, true)
	checkHealedAll(t, "\x1e\xee\x0d\x0c\x1e\xef\x0c\x0c", "\xffa\xffa", 2, true)
	checkHealedAll(t, "\x1f\xff", "\x7f", 1, true)
	checkHealedAll(t, "\x10\x00", "\x00", 1, true)
}

func TestHealedAllRefuses(t *testing.T) {
	n := numbers(42)
	for _, s := range []string{
		"\x00", "\x0c", "\x0c\x0c\x00", "\x0c\x0c\x0c", impl.SpreadAll("abc")[:5], impl.SpreadAll("abc")[1:],
		"\x20\x00", "\x20\x0e", "\xff\xff", "\x34\x4e", "\x94\x4e", // two bytes that are no word
		"\x00\x03", "\x10\x03", "\x1f\xfe", // a lost one
	} {
		checkHealedAll(t, s, "", 0, false)
	}
	// One lost word among fixed and clean ones, wherever it stands.
	right := impl.SpreadAll(n.text(20))
	for at := 0; at < len(right); at += 2 {
		for _, turned := range []string{"\x00\x03", "\x03\x00", "\x10\x01", "\x20\x00", "\x40\x00", "\x80\x00", "\xff\xff"} {
			mask := []byte(strings.Repeat("\x00\x01", 20))
			copy(mask[at:], turned)
			checkHealedAll(t, impl.Xored(right, string(mask)), "", 0, false)
		}
	}
}

func TestHealedAllAtTheLimit(t *testing.T) {
	n := numbers(43)
	for _, count := range []int{299, 300} {
		text := n.text(count)
		checkHealedAll(t, impl.SpreadAll(text), text, 0, true)
		checkHealedAll(t, impl.Xored(impl.SpreadAll(text), strings.Repeat("\x02\x00", count)), text, int64(count), true)
	}
	for _, count := range []int{301, 302, 600, 2000} {
		checkHealedAll(t, strings.Repeat("\x0c\x0c", count), "", 0, false)
	}
	for _, count := range []int{599, 601, 603} {
		checkHealedAll(t, strings.Repeat("\x00", count), "", 0, false)
	}
}

func TestHealedAllOfEveryTwoBytes(t *testing.T) {
	for word := range int64(65536) {
		b, kind := impl.Healed(word)
		if kind == impl.HmLost {
			checkHealedAll(t, wordText(word), "", 0, false)
			continue
		}
		checkHealedAll(t, wordText(word), string([]byte{byte(b)}), kind, true)
	}
}

func TestPromise4HealedAllOfSpreadAllIsTheText(t *testing.T) {
	n := numbers(44)
	texts := trickyTexts()
	for count := range impl.MaxText + 1 {
		texts = append(texts, n.text(count))
	}
	for _, s := range texts {
		checkHealedAll(t, impl.SpreadAll(s), s, 0, true)
	}
}

func TestPromise4OneTurnedBitInSomeWords(t *testing.T) {
	n := numbers(45)
	for round := range 600 {
		text := n.text(round%impl.MaxText + 1)
		spread := []byte(impl.SpreadAll(text))
		fixed := int64(0)
		for i := range len(text) {
			if n.below(3) != 0 {
				continue
			}
			bit := n.below(wordsBits)
			spread[2*i+1-bit/8] ^= 1 << (bit % 8)
			fixed++
		}
		checkHealedAll(t, string(spread), text, fixed, true)
		// A second bit turned in one of its words is noticed.
		i := n.below(len(text))
		lost := []byte(impl.SpreadAll(text))
		first := n.below(wordsBits)
		second := (first + 1 + n.below(wordsBits-1)) % wordsBits
		lost[2*i+1-first/8] ^= 1 << (first % 8)
		lost[2*i+1-second/8] ^= 1 << (second % 8)
		checkHealedAll(t, string(lost), "", 0, false)
	}
}

func TestPromise21HammingTextsAreNewMemory(t *testing.T) {
	n := numbers(46)
	for _, count := range []int{1, 2, 40, 300} {
		text := n.text(count)
		before := strings.Clone(text)
		spread := impl.SpreadAll(text)
		spreadBefore := strings.Clone(spread)
		healed, _, _ := impl.HealedAll(spread)
		if sharesMemory(spread, text) || sharesMemory(healed, spread) {
			t.Errorf("an answer of %d bytes shares memory", count)
		}
		if text != before || spread != spreadBefore {
			t.Errorf("a text of %d bytes was written to", count)
		}
	}
}

func TestPromise21HammingNeverPanics(t *testing.T) {
	n := numbers(47)
	texts := append(checkTexts(), strings.Repeat("\u20ac", 100000))
	for range 300 {
		texts = append(texts, n.text(n.below(700)))
	}
	for _, s := range texts {
		neverPanics(t, "SpreadAll of "+tellText(s), func() { impl.SpreadAll(s) })
		neverPanics(t, "HealedAll of "+tellText(s), func() { impl.HealedAll(s) })
	}
	for _, number := range append(noWords(), wrongElements()...) {
		what := fmt.Sprint(number)
		neverPanics(t, "Spread of "+what, func() { impl.Spread(number) })
		neverPanics(t, "Odd of "+what, func() { impl.Odd(number) })
		neverPanics(t, "Healed of "+what, func() { impl.Healed(number) })
	}
}

func TestHammingAnswersAgainAlike(t *testing.T) {
	for range 3 {
		checkHealed(t, 5198^512, 165, impl.HmFixed)
		checkHealed(t, 5198, 165, impl.HmClean)
		checkHealed(t, 5198^3, -1, impl.HmLost)
		checkHealedAll(t, "\x14\x4f\x14\x4e", "\xa5\xa5", 1, true)
		checkHealedAll(t, "", "", 0, true)
	}
}
