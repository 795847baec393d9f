package tests

import (
	"fmt"
	"math"
	"slices"
	"strings"
	"testing"

	"loop.example/g00223/impl"
)

// noBits are numbers that are neither 0 nor 1, some of them so in no narrower kind.
var noBits = []int64{2, -1, 3, 10, 255, 256, 257, 1 << 32, 1<<32 + 1, math.MaxInt64, math.MinInt64, math.MinInt64 + 1}

// wrongBits are lists that are not BitsOk: a wrong number at the first place, in
// the middle, at the last place and alone, and one bit too many.
func wrongBits() [][]int64 {
	lists := [][]int64{make([]int64, impl.MaxBits+1), slices.Repeat([]int64{1}, impl.MaxBits+1), make([]int64, 2*impl.MaxBits)}
	for _, no := range noBits {
		right := []int64{1, 0, 1, 1, 0, 0, 1, 0, 1}
		lists = append(lists, []int64{no}, changed(right, 0, no), changed(right, 4, no), changed(right, 8, no))
		lists = append(lists, changed(make([]int64, impl.MaxBits), impl.MaxBits-1, no))
	}
	return lists
}

// rightBits are lists of all lengths about a byte's and MaxBits.
func rightBits() [][]int64 {
	n := numbers(1)
	lists := [][]int64{nil, {}, {0}, {1}}
	for _, count := range []int{1, 2, 7, 8, 9, 15, 16, 17, 63, 64, 65, 4095, 4096} {
		lists = append(lists, make([]int64, count), slices.Repeat([]int64{1}, count), n.bits(count))
	}
	return lists
}

// trickyTexts have bytes above 127 that are runes, parts of runes, and none.
func trickyTexts() []string {
	return []string{
		"", "a", "ab", "\x00", "\x00\x00a", "\x01", "\x7f", "\x80", "\xff", "\xff\xff", "\xff\x00\xff",
		"\u00e9", "a\u00e9b", "\u20ac", "\U0001f600", "x\U0001f600", "\U0001f600x",
		"\ufffd", "\xef\xbf", "\xef", "a\xef\xbf", "\xbf\xbd", "\xed\xa0\x80", "\xf4\x90\x80\x80", "\xc0\x80",
		"\u20ac"[:2] + "\u00e9", "\u00e9"[:1] + "a", "\n", "line\nline\n",
	}
}

// bitsOf works the bits of a text out by division.
func bitsOf(s string) []int64 {
	list := []int64{}
	for i := 0; i < len(s); i++ {
		rest := int64(s[i])
		for value := int64(128); value >= 1; value /= 2 {
			list = append(list, rest/value)
			rest %= value
		}
	}
	return list
}

func TestMaxBits(t *testing.T) {
	if impl.MaxBits != 4096 {
		t.Fatal(impl.MaxBits)
	}
}

func TestBitsOk(t *testing.T) {
	for _, list := range rightBits() {
		if !impl.BitsOk(list) {
			t.Errorf("%d bits are refused", len(list))
		}
	}
	for i, list := range wrongBits() {
		if impl.BitsOk(list) {
			t.Errorf("wrong list %d (of %d numbers) is accepted", i, len(list))
		}
	}
}

func TestBitsOfText(t *testing.T) {
	if got, want := impl.Bits("a\x80"), []int64{0, 1, 1, 0, 0, 0, 0, 1, 1, 0, 0, 0, 0, 0, 0, 0}; !slices.Equal(got, want) {
		t.Errorf("Bits: %v, not %v", got, want)
	}
	for _, s := range trickyTexts() {
		if got, want := impl.Bits(s), bitsOf(s); !slices.Equal(got, want) {
			t.Errorf("Bits(%q): %v, not %v", s, got, want)
		}
	}
	for first := range 256 {
		for second := range 256 {
			s := string([]byte{byte(first), byte(second)})
			if !slices.Equal(impl.Bits(s), bitsOf(s)) {
				t.Fatalf("Bits(%q): %v", s, impl.Bits(s))
			}
		}
	}
}

func TestBitsAtTheLimit(t *testing.T) {
	n := numbers(2)
	most := impl.MaxBits / 8
	for _, s := range []string{n.text(most - 1), n.text(most), strings.Repeat("\xff", most), strings.Repeat("\u00e9", most/2)} {
		if !slices.Equal(impl.Bits(s), bitsOf(s)) {
			t.Errorf("Bits of %d bytes are wrong", len(s))
		}
	}
	// Fewer runes than MaxBits / 8, but more bytes: it is the bytes that count.
	for _, s := range []string{n.text(most + 1), n.text(5 * most), strings.Repeat("\u00e9", most/2) + "a"} {
		if got := impl.Bits(s); len(got) != 0 {
			t.Errorf("Bits of %d bytes: %d of them", len(s), len(got))
		}
	}
}

func TestBytes(t *testing.T) {
	cases := []struct {
		bits []int64
		want string
	}{
		{nil, ""},
		{[]int64{}, ""},
		{[]int64{0}, "\x00"},
		{[]int64{1}, "\x80"},
		{[]int64{0, 1}, "\x40"},
		{[]int64{1, 1, 1, 1, 1, 1, 1}, "\xfe"},
		{[]int64{0, 1, 1, 0, 0, 0, 0, 1}, "a"},
		{[]int64{1, 1, 1, 1, 1, 1, 1, 1, 0}, "\xff\x00"},
		{[]int64{1, 1, 1, 1, 1, 1, 1, 1, 0, 1}, "\xff\x40"},
		{slices.Repeat([]int64{1}, 15), "\xff\xfe"},
		{slices.Repeat([]int64{1}, 17), "\xff\xff\x80"},
		{slices.Repeat([]int64{1}, impl.MaxBits), strings.Repeat("\xff", impl.MaxBits/8)},
		{slices.Repeat([]int64{1}, impl.MaxBits-7), strings.Repeat("\xff", impl.MaxBits/8-1) + "\x80"},
	}
	for _, c := range cases {
		if got := impl.Bytes(c.bits); got != c.want {
			t.Errorf("Bytes of %d bits: %q, not %q", len(c.bits), got, c.want)
		}
	}
	for i, list := range wrongBits() {
		if got := impl.Bytes(list); got != "" {
			t.Errorf("Bytes of wrong list %d: %q", i, got)
		}
	}
}

func TestPromise1BytesOfBitsAreTheBytes(t *testing.T) {
	n := numbers(3)
	texts := trickyTexts()
	for count := range impl.MaxBits/8 + 1 {
		texts = append(texts, n.text(count))
	}
	for _, s := range texts {
		if got := impl.Bytes(impl.Bits(s)); got != s {
			t.Errorf("Bytes of Bits of %q: %q", s, got)
		}
	}
}

func TestBitsOfBytesAreTheBitsAndZeros(t *testing.T) {
	for _, list := range rightBits() {
		want := slices.Clone(list)
		for len(want)%8 != 0 {
			want = append(want, 0)
		}
		if got := impl.Bits(impl.Bytes(list)); !slices.Equal(got, want) {
			t.Errorf("of %d bits: %v, not %v", len(list), got, want)
		}
	}
}

func TestWeight(t *testing.T) {
	for _, list := range rightBits() {
		want := int64(0)
		for _, bit := range list {
			if bit == 1 {
				want++
			}
		}
		if got := impl.Weight(list); got != want {
			t.Errorf("Weight of %d bits: %d, not %d", len(list), got, want)
		}
	}
	if got := impl.Weight(slices.Repeat([]int64{1}, impl.MaxBits)); got != impl.MaxBits {
		t.Errorf("Weight of MaxBits 1s: %d", got)
	}
	for i, list := range wrongBits() {
		if got := impl.Weight(list); got != -1 {
			t.Errorf("Weight of wrong list %d: %d", i, got)
		}
	}
}

func TestApart(t *testing.T) {
	n := numbers(4)
	for _, a := range rightBits() {
		b := n.bits(len(a))
		want := int64(0)
		for i := range a {
			if a[i] != b[i] {
				want++
			}
		}
		if got := impl.Apart(a, b); got != want {
			t.Errorf("Apart of %d bits: %d, not %d", len(a), got, want)
		}
	}
	if got := impl.Apart(make([]int64, impl.MaxBits), slices.Repeat([]int64{1}, impl.MaxBits)); got != impl.MaxBits {
		t.Errorf("MaxBits 0s and as many 1s are %d apart", got)
	}
	if got := impl.Apart(nil, []int64{}); got != 0 {
		t.Errorf("two empty lists are %d apart", got)
	}
}

func TestApartInTheLastBlock(t *testing.T) {
	// Where the first eight are unlike and few come behind them, nothing of the
	// first ones counts once more.
	for behind := range 9 {
		a := slices.Concat(slices.Repeat([]int64{1}, 8), make([]int64, behind))
		b := make([]int64, 8+behind)
		if got := impl.Apart(a, b); got != 8 {
			t.Errorf("with %d behind: %d apart", behind, got)
		}
	}
}

func TestApartRefuses(t *testing.T) {
	for i, wrong := range wrongBits() {
		right := make([]int64, len(wrong))
		if impl.Apart(wrong, right) != -1 || impl.Apart(right, wrong) != -1 || impl.Apart(wrong, wrong) != -1 {
			t.Errorf("wrong list %d is not refused", i)
		}
	}
	pairs := [][2][]int64{
		{nil, {0}}, {{0}, {}}, {{1}, {1, 0}}, {{1, 0}, {1}},
		{make([]int64, 8), make([]int64, 9)},
		{make([]int64, 4095), make([]int64, 4096)},
		{make([]int64, 4096), make([]int64, 4097)},
	}
	for _, p := range pairs {
		if impl.Apart(p[0], p[1]) != -1 || impl.Apart(p[1], p[0]) != -1 {
			t.Errorf("lists of %d and %d bits are not refused", len(p[0]), len(p[1]))
		}
	}
}

func TestPromise1ApartIsADistance(t *testing.T) {
	n := numbers(5)
	for _, count := range []int{0, 1, 2, 7, 8, 9, 16, 31, 4095, 4096} {
		for range 20 {
			a, b, c := n.bits(count), n.bits(count), n.bits(count)
			checkDistance(t, a, b, c)
		}
	}
	for i := range 8 { // all lists of three bits
		for j := range 8 {
			for k := range 8 {
				checkDistance(t, threeBits(i), threeBits(j), threeBits(k))
			}
		}
	}
}

func threeBits(i int) []int64 {
	return []int64{int64(i / 4), int64(i / 2 % 2), int64(i % 2)}
}

func checkDistance(t *testing.T, a, b, c []int64) {
	t.Helper()
	ab := impl.Apart(a, b)
	if impl.Apart(a, slices.Clone(a)) != 0 {
		t.Errorf("%v is not 0 apart from itself", a)
	}
	if ab < 0 || (ab == 0) != slices.Equal(a, b) {
		t.Errorf("%v and %v are %d apart", a, b, ab)
	}
	if impl.Apart(b, a) != ab {
		t.Errorf("%v and %v are not as far apart the other way", a, b)
	}
	if impl.Apart(a, c) > ab+impl.Apart(b, c) {
		t.Errorf("from %v to %v it is nearer by %v", a, c, b)
	}
}

func TestFlipped(t *testing.T) {
	for _, list := range rightBits() {
		for _, at := range []int{0, 1, 7, 8, len(list) / 2, len(list) - 1} {
			if at < 0 || at >= len(list) {
				continue
			}
			want := changed(list, at, 1-list[at])
			got := impl.Flipped(list, int64(at))
			if !slices.Equal(got, want) {
				t.Errorf("Flipped of %d bits at %d is wrong", len(list), at)
			}
			if !slices.Equal(impl.Flipped(got, int64(at)), list) {
				t.Errorf("Flipped twice of %d bits at %d is not the list", len(list), at)
			}
		}
	}
}

func TestFlippedRefuses(t *testing.T) {
	for _, list := range rightBits() {
		end := int64(len(list))
		for _, at := range []int64{-1, -end, -end - 1, end, end + 1, 1 << 32, -1 << 32, math.MaxInt64, math.MinInt64} {
			if end > 0 && at == 0 {
				continue
			}
			if got := impl.Flipped(list, at); len(got) != 0 {
				t.Errorf("Flipped of %d bits at %d: %d bits", end, at, len(got))
			}
		}
	}
	for i, list := range wrongBits() {
		for _, at := range []int64{-1, 0, 4, 8, int64(len(list)) - 1, int64(len(list))} {
			if got := impl.Flipped(list, at); len(got) != 0 {
				t.Errorf("Flipped of wrong list %d at %d: %v", i, at, got)
			}
		}
	}
}

func TestXored(t *testing.T) {
	cases := [][3]string{
		{"", "", ""},
		{"a", "a", "\x00"},
		{"ab", "\x01\x00", "\x60b"},
		{"\xff\x80", "\x0f\x80", "\xf0\x00"},
		{"\u00e9", "\x00\x00", "\u00e9"},
		{"\u20ac", "\xff\xff\xff", "\x1d\x7d\x53"},
		{"\x00\x00\xff", "\x00\x01\x00", "\x00\x01\xff"},
	}
	for _, c := range cases {
		if got := impl.Xored(c[0], c[1]); got != c[2] {
			t.Errorf("Xored(%q, %q): %q, not %q", c[0], c[1], got, c[2])
		}
	}
	n := numbers(6)
	for _, count := range []int{1, 2, 511, 512, 513, 5000} { // no limit is named
		a, b := n.text(count), n.text(count)
		sum := impl.Xored(a, b)
		if len(sum) != count || impl.Xored(sum, b) != a || impl.Xored(b, a) != sum || impl.Xored(a, a) != strings.Repeat("\x00", count) {
			t.Errorf("Xored of %d bytes is wrong", count)
		}
	}
}

func TestXoredGoesWithApart(t *testing.T) {
	n := numbers(7)
	for count := range impl.MaxBits/8 + 1 {
		a, b := n.text(count), n.text(count)
		if impl.Weight(impl.Bits(impl.Xored(a, b))) != impl.Apart(impl.Bits(a), impl.Bits(b)) {
			t.Errorf("of %d bytes: not as many 1s as places that are unlike", count)
		}
	}
}

func TestXoredRefuses(t *testing.T) {
	for _, c := range [][2]string{{"", "a"}, {"a", "ab"}, {"\u00e9", "e"}, {"\u00e9a", "ab"}, {strings.Repeat("a", 600), "a"}} {
		if got := impl.Xored(c[0], c[1]) + impl.Xored(c[1], c[0]); got != "" {
			t.Errorf("Xored of %d and %d bytes: %q", len(c[0]), len(c[1]), got)
		}
	}
}

func TestPromise21BitsArgumentsStay(t *testing.T) {
	for _, list := range append(rightBits(), wrongBits()...) {
		a, checkA := withSpareRoom(t, list)
		b, checkB := withSpareRoom(t, make([]int64, len(list)))
		impl.BitsOk(a)
		checkA("BitsOk")
		impl.Bytes(a)
		checkA("Bytes")
		impl.Weight(a)
		checkA("Weight")
		impl.Apart(a, b)
		checkA("Apart")
		checkB("Apart")
		for _, at := range []int64{-1, 0, int64(len(list)) - 1, int64(len(list))} {
			overwrite(impl.Flipped(a, at))
			checkA("Flipped")
		}
	}
}

func TestPromise21BitsAnswersAreNewMemory(t *testing.T) {
	for _, s := range []string{"a", "\u00e9", strings.Repeat("\xff", impl.MaxBits/8)} {
		overwrite(impl.Bits(s))
		if !slices.Equal(impl.Bits(s), bitsOf(s)) {
			t.Errorf("two answers of Bits(%q) share memory", s)
		}
	}
	list := []int64{1, 0, 1, 1, 0, 0, 1, 0, 1}
	first, second := impl.Flipped(list, 0), impl.Flipped(list, 0)
	overwrite(first)
	if !slices.Equal(second, changed(list, 0, 0)) {
		t.Error("two answers of Flipped share memory")
	}
	// An empty answer has no room of the argument behind it, either.
	a, check := withSpareRoom(t, list)
	overwrite(append(impl.Flipped(a, 9), 1))
	overwrite(append(impl.Flipped(a[:0], 0), 1))
	check("Flipped that tells nothing")
}

func TestPromise21BitsNeverPanic(t *testing.T) {
	lists := append(rightBits(), wrongBits()...)
	for i, a := range lists {
		what := fmt.Sprintf("list %d (of %d)", i, len(a))
		neverPanics(t, "BitsOk of "+what, func() { impl.BitsOk(a) })
		neverPanics(t, "Bytes of "+what, func() { impl.Bytes(a) })
		neverPanics(t, "Weight of "+what, func() { impl.Weight(a) })
		for _, b := range lists {
			neverPanics(t, "Apart of "+what, func() { impl.Apart(a, b) })
		}
		for _, at := range append([]int64{-1, 0, 1, int64(len(a)) - 1, int64(len(a))}, noBits...) {
			neverPanics(t, "Flipped of "+what, func() { impl.Flipped(a, at) })
		}
	}
	texts := append(trickyTexts(), strings.Repeat("\xff", 512), strings.Repeat("\u20ac", 171), strings.Repeat("a", 100000))
	for _, a := range texts {
		neverPanics(t, "Bits", func() { impl.Bits(a) })
		for _, b := range texts {
			neverPanics(t, "Xored", func() { impl.Xored(a, b) })
		}
	}
}
