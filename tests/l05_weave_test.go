package tests

import (
	"fmt"
	"math"
	"slices"
	"strings"
	"testing"

	"loop.example/g00223/impl"
)

const (
	deepest = 16
	longest = 600
)

// plainOrder sorts the numbers by what they leave when divided by depth: at each
// place stands the number whose byte comes there.
func plainOrder(size int, depth int64) []int64 {
	order := make([]int64, size)
	for i := range order {
		order[i] = int64(i)
	}
	slices.SortStableFunc(order, func(a int64, b int64) int {
		return int(a%depth - b%depth)
	})
	return order
}

func plainWoven(s string, depth int64) string {
	woven := ""
	for _, from := range plainOrder(len(s), depth) {
		woven += s[from : from+1]
	}
	return woven
}

// plainNearest holds every two of the numbers against each other.
func plainNearest(order []int64, at int, n int) int64 {
	least := int64(math.MaxInt64)
	for i, a := range order[at : at+n] {
		for _, b := range order[at : at+i] {
			least = min(least, max(a-b, b-a))
		}
	}
	return least
}

func wrongDepths() []int64 {
	return []int64{
		0, -1, -2, -15, -16, -17, 17, 18, 32, 255, 256, 257, 600, 601, 1 << 32, 1<<32 + 1, 1<<32 + 3, -1 << 32, -1<<32 + 3,
		1<<62 + 2, math.MinInt64, math.MinInt64 + 1, math.MinInt64 + 3, math.MaxInt64, math.MaxInt64 - 1,
	}
}

// weaveSizes has each length up to some that all depths divide or don't, and the
// last ones that are woven.
func weaveSizes() []int {
	sizes := []int{}
	for size := range 70 {
		sizes = append(sizes, size)
	}
	return append(sizes, 120, 127, 239, 240, 241, 256, 299, 300, 301, 359, 528, 590, 598, 599, 600)
}

func weaveTexts() []string {
	n := numbers(51)
	texts := []string{}
	for _, s := range trickyTexts() {
		if len(s) <= longest {
			texts = append(texts, s)
		}
	}
	for _, size := range weaveSizes() {
		texts = append(texts, n.text(size))
	}
	return append(texts, strings.Repeat("a", 100), strings.Repeat("ab", 300), strings.Repeat("\u20ac", 200))
}

func tellWeave(what string, s string, depth int64) string {
	return fmt.Sprintf("%s of %s by %d", what, tellText(s), depth)
}

func checkNearest(t *testing.T, s string, depth int64, at int64, n int64, want int64) {
	t.Helper()
	neverPanics(t, "Nearest", func() {
		t.Helper()
		if got := impl.Nearest(s, depth, at, n); got != want {
			t.Errorf("Nearest of %d bytes by %d, %d from %d on: %d, not %d", len(s), depth, n, at, got, want)
		}
	})
}

func TestWovenOfSome(t *testing.T) {
	for _, c := range []struct {
		s     string
		depth int64
		want  string
	}{
		{"", 1, ""}, {"", 2, ""}, {"", 16, ""},
		{"a", 1, "a"}, {"a", 2, "a"}, {"a", 16, "a"},
		{"ab", 1, "ab"}, {"ab", 2, "ab"}, {"abc", 2, "acb"}, {"abcd", 2, "acbd"},
		{"abcdefg", 1, "abcdefg"}, {"abcdefg", 2, "acegbdf"}, {"abcdefg", 3, "adgbecf"}, {"abcdefg", 4, "aebfcgd"},
		{"abcdefg", 5, "afbgcde"}, {"abcdefg", 6, "agbcdef"}, {"abcdefg", 7, "abcdefg"}, {"abcdefg", 16, "abcdefg"},
		{"abcdef", 2, "acebdf"}, {"abcdef", 3, "adbecf"}, {"abcdef", 6, "abcdef"},
		{"0123456789abcdefg", 16, "0g123456789abcdef"}, {"0123456789abcdef", 16, "0123456789abcdef"},
		{"0123456789abcdefghijklmnopqrstuv", 16, "0g1h2i3j4k5l6m7n8o9paqbrcsdteufv"},
		{"\xff\x00\x80", 2, "\xff\x80\x00"}, {"\u00e9", 1, "\u00e9"}, {"\u00e9\u00e9", 2, "\xc3\xc3\xa9\xa9"},
	} {
		if got := impl.Woven(c.s, c.depth); got != c.want {
			t.Errorf("Woven(%q, %d): %q, not %q", c.s, c.depth, got, c.want)
		}
		if got := impl.Unwoven(c.want, c.depth); got != c.s {
			t.Errorf("Unwoven(%q, %d): %q, not %q", c.want, c.depth, got, c.s)
		}
	}
}

func TestUnwovenOfSome(t *testing.T) {
	for _, c := range []struct {
		s     string
		depth int64
		want  string
	}{
		{"abcdefg", 2, "aebfcgd"}, {"abcdefg", 3, "adfbegc"}, {"abcdefg", 4, "acegbdf"}, {"abc", 2, "acb"},
		{"abcdefg", 1, "abcdefg"}, {"abcdefg", 7, "abcdefg"}, {"abcdefg", 8, "abcdefg"}, {"abcdef", 2, "adbecf"},
	} {
		if got := impl.Unwoven(c.s, c.depth); got != c.want {
			t.Errorf("Unwoven(%q, %d): %q, not %q", c.s, c.depth, got, c.want)
		}
	}
}

func TestWovenIsByWhatIsLeft(t *testing.T) {
	for _, s := range weaveTexts() {
		for depth := int64(1); depth <= deepest; depth++ {
			if got := impl.Woven(s, depth); got != plainWoven(s, depth) {
				t.Fatalf("%s: %q", tellWeave("Woven", s, depth), got)
			}
		}
	}
}

func TestWovenByOneOrByMoreThanThereAre(t *testing.T) {
	for _, s := range weaveTexts() {
		if impl.Woven(s, 1) != s || impl.Unwoven(s, 1) != s {
			t.Errorf("%s is not the text", tellWeave("Woven", s, 1))
		}
		for depth := int64(max(len(s), 1)); depth <= deepest; depth++ {
			if impl.Woven(s, depth) != s || impl.Unwoven(s, depth) != s {
				t.Errorf("%s is not the text", tellWeave("Woven", s, depth))
			}
		}
	}
}

func sortedText(text string) string {
	bytes := []byte(text)
	slices.Sort(bytes)
	return string(bytes)
}

func TestWovenHasTheSameBytes(t *testing.T) {
	for _, s := range weaveTexts() {
		for depth := int64(1); depth <= deepest; depth++ {
			if sortedText(impl.Woven(s, depth)) != sortedText(s) || sortedText(impl.Unwoven(s, depth)) != sortedText(s) {
				t.Fatalf("%s has other bytes", tellWeave("Woven", s, depth))
			}
		}
	}
}

func TestPromise5UnwovenOfWovenIsTheText(t *testing.T) {
	for _, s := range weaveTexts() {
		for depth := int64(1); depth <= deepest; depth++ {
			if got := impl.Unwoven(impl.Woven(s, depth), depth); got != s {
				t.Fatalf("%s: %q", tellWeave("Unwoven of Woven", s, depth), got)
			}
			if got := impl.Woven(impl.Unwoven(s, depth), depth); got != s {
				t.Fatalf("%s: %q", tellWeave("Woven of Unwoven", s, depth), got)
			}
		}
	}
}

func TestWovenByAWrongDepth(t *testing.T) {
	for _, depth := range wrongDepths() {
		for _, s := range []string{"", "a", "abcdefg", strings.Repeat("abc", 200), strings.Repeat("a", 601)} {
			neverPanics(t, tellWeave("Woven", s, depth), func() {
				if impl.Woven(s, depth) != "" || impl.Unwoven(s, depth) != "" {
					t.Errorf("%s is not empty", tellWeave("Woven", s, depth))
				}
			})
			checkNearest(t, s, depth, 0, 2, -1)
		}
	}
}

func TestWovenAtTheLimit(t *testing.T) {
	for depth := int64(1); depth <= deepest; depth++ {
		for _, fill := range []string{"\x00", "a", "\xff"} {
			for _, count := range []int{599, 600} {
				s := strings.Repeat(fill, count)
				if impl.Woven(s, depth) != s || impl.Unwoven(s, depth) != s {
					t.Errorf("%s is not the text", tellWeave("Woven", s, depth))
				}
			}
			for _, count := range []int{601, 602, 1200, 5000} {
				s := strings.Repeat(fill, count)
				if impl.Woven(s, depth) != "" || impl.Unwoven(s, depth) != "" {
					t.Errorf("%s is not empty", tellWeave("Woven", s, depth))
				}
				checkNearest(t, s, depth, 0, 2, -1)
				checkNearest(t, s, depth, 300, 10, -1)
			}
		}
		// 301 runes, but 602 bytes: it is the bytes that count.
		if impl.Woven(strings.Repeat("\u00e9", 301), depth) != "" {
			t.Errorf("Woven of 602 bytes by %d is not empty", depth)
		}
	}
}

func TestNearestOfSome(t *testing.T) {
	// By 3 the bytes come from 0 3 6 | 1 4 | 2 5.
	for _, c := range [][3]int64{
		{0, 2, 3}, {1, 2, 3}, {0, 3, 3}, {3, 2, 3}, {5, 2, 3}, // in one row
		{2, 2, 5}, {4, 2, 2}, // over the end of a row
		{1, 3, 2}, {2, 3, 2}, {1, 4, 1}, {2, 4, 1}, {3, 3, 1}, {4, 3, 1}, {3, 4, 1}, {0, 7, 1}, {0, 4, 1},
		{2, 5, 1}, {1, 6, 1},
	} {
		checkNearest(t, "abcdefg", 3, c[0], c[1], c[2])
	}
	// By 2, from 0 2 4 | 1 3 5; by 16, from 0 16 | 1 | 2 and so on.
	for _, c := range [][3]int64{{0, 2, 2}, {1, 2, 2}, {0, 3, 2}, {3, 3, 2}, {2, 2, 3}, {1, 3, 1}, {2, 3, 1}} {
		checkNearest(t, "abcdef", 2, c[0], c[1], c[2])
	}
	for _, c := range [][3]int64{{0, 2, 16}, {1, 2, 15}, {0, 3, 1}, {1, 3, 1}, {15, 2, 1}, {0, 17, 1}} {
		checkNearest(t, "0123456789abcdefg", 16, c[0], c[1], c[2])
	}
	checkNearest(t, "ab", 1, 0, 2, 1)
	checkNearest(t, "ab", 2, 0, 2, 1)
	checkNearest(t, "ab", 16, 0, 2, 1)
	checkNearest(t, "abc", 2, 0, 2, 2)
	checkNearest(t, "abc", 2, 1, 2, 1)
}

func TestNearestHangsOnTheLengthAlone(t *testing.T) {
	for _, s := range []string{"aaaaaaa", "gfedcba", "\x00\x00\x00\x00\x00\x00\xff", "\u20ac\u20ac\u007f"} {
		checkNearest(t, s, 3, 2, 2, 5)
		checkNearest(t, s, 3, 4, 2, 2)
	}
}

func TestNearestOfEveryWindow(t *testing.T) {
	for size := range 40 {
		s := strings.Repeat("x", size)
		for depth := int64(1); depth <= deepest; depth++ {
			order := plainOrder(size, depth)
			for at := range size {
				for n := 2; n <= size-at; n++ {
					checkNearest(t, s, depth, int64(at), int64(n), plainNearest(order, at, n))
				}
				checkNearest(t, s, depth, int64(at), int64(size-at+1), -1)
			}
		}
	}
}

func TestNearestOfLongTexts(t *testing.T) {
	for _, size := range []int{120, 301, 599, 600} {
		s := strings.Repeat("x", size)
		for depth := int64(1); depth <= deepest; depth++ {
			order := plainOrder(size, depth)
			for _, n := range []int{2, 3, size / int(depth), size/int(depth) + 1, size} {
				for _, at := range []int{0, 1, size/int(depth) - 1, (size - n) / 2, size - n} {
					if n >= 2 && at >= 0 && at+n <= size {
						checkNearest(t, s, depth, int64(at), int64(n), plainNearest(order, at, n))
					}
				}
			}
		}
	}
}

func TestPromise5WhatStoodBesideCameFromFarApart(t *testing.T) {
	for _, size := range weaveSizes() {
		s := strings.Repeat("x", size)
		for depth := int64(1); depth <= deepest; depth++ {
			most := int64(size) / depth
			for _, n := range []int64{2, 3, most / 2, most - 1, most} {
				for at := int64(0); n >= 2 && n <= most && at+n <= int64(size); at++ {
					if got := impl.Nearest(s, depth, at, n); got < depth-1 || got < 1 {
						t.Fatalf("%d bytes by %d, %d from %d on came from %d apart", size, depth, n, at, got)
					}
				}
			}
		}
	}
}

// What Nearest tells is what happens to the bytes: a smear over n of a woven text
// turns bytes of the text that lie so far apart.
func TestNearestIsWhatUnwovenTells(t *testing.T) {
	n := numbers(52)
	for range 2000 {
		size := 2 + n.below(longest-1)
		depth := int64(1 + n.below(deepest))
		count := 2 + n.below(min(size-1, 40))
		at := n.below(size - count + 1)
		smear := strings.Repeat("\x00", at) + strings.Repeat("\x01", count) + strings.Repeat("\x00", size-at-count)
		turned := impl.Unwoven(smear, depth)
		last, least := -1, size
		for i := range turned {
			if turned[i] == 1 {
				if last >= 0 {
					least = min(least, i-last)
				}
				last = i
			}
		}
		checkNearest(t, turned, depth, int64(at), int64(count), int64(least))
	}
}

func TestNearestOutOfRange(t *testing.T) {
	far := []int64{math.MinInt64, math.MinInt64 + 1, -1 << 32, -1<<32 + 1, -601, -2, -1, 601, 1 << 32, 1<<32 + 2, math.MaxInt64 - 1, math.MaxInt64}
	for _, s := range []string{"", "a", "ab", "abcdefg", strings.Repeat("x", 599), strings.Repeat("x", 600)} {
		size := int64(len(s))
		for _, depth := range []int64{1, 2, 3, 16} {
			for _, n := range append(far, 0, 1, size+1, size+2, math.MaxInt64-size) {
				for _, at := range append(far, 0, 1, size-1, size, size+1, math.MaxInt64-n) {
					checkNearest(t, s, depth, at, n, -1)
				}
			}
			for _, at := range append(far, size-1, size, size+1) {
				checkNearest(t, s, depth, at, 2, -1)
				checkNearest(t, s, depth, at, max(size, 2), -1)
			}
		}
	}
}

func TestNearestAtTheLastPlace(t *testing.T) {
	for _, size := range []int64{2, 3, 7, 16, 17, 600} {
		s := strings.Repeat("x", int(size))
		for depth := int64(1); depth <= deepest; depth++ {
			for n := int64(2); n <= size; n += 1 + size/7 {
				if impl.Nearest(s, depth, size-n, n) < 1 {
					t.Errorf("%d of %d bytes by %d have no distance", n, size, depth)
				}
				checkNearest(t, s, depth, size-n+1, n, -1)
			}
			checkNearest(t, s, depth, 0, size, 1)
			checkNearest(t, s, depth, 0, size+1, -1)
			checkNearest(t, s, depth, 0, 1, -1)
			checkNearest(t, s, depth, size-1, 1, -1)
		}
	}
}

func TestPromise21WeaveTextsAreNewMemory(t *testing.T) {
	n := numbers(53)
	for _, size := range []int{1, 2, 40, 600} {
		for depth := int64(1); depth <= deepest; depth++ {
			text := n.text(size)
			before := strings.Clone(text)
			woven, unwoven := impl.Woven(text, depth), impl.Unwoven(text, depth)
			impl.Nearest(text, depth, 0, int64(size))
			// The library itself keeps texts of one byte once for all.
			if size > 1 && (sharesMemory(woven, text) || sharesMemory(unwoven, text) || sharesMemory(woven, unwoven)) {
				t.Errorf("an answer of %d bytes by %d shares memory", size, depth)
			}
			if text != before {
				t.Errorf("a text of %d bytes was written to", size)
			}
		}
	}
}

func TestPromise21WeaveNeverPanics(t *testing.T) {
	n := numbers(54)
	texts := append(checkTexts(), strings.Repeat("\u20ac", 100000))
	for range 100 {
		texts = append(texts, n.text(n.below(700)))
	}
	for _, s := range texts {
		for _, depth := range append(wrongDepths(), 1, 2, 3, 15, 16) {
			neverPanics(t, tellWeave("Woven", s, depth), func() { impl.Woven(s, depth) })
			neverPanics(t, tellWeave("Unwoven", s, depth), func() { impl.Unwoven(s, depth) })
			for _, other := range wrongDepths() {
				neverPanics(t, tellWeave("Nearest", s, depth), func() {
					impl.Nearest(s, depth, other, 2)
					impl.Nearest(s, depth, 0, other)
					impl.Nearest(s, depth, other, other)
				})
			}
		}
	}
}

func TestWeaveAnswersAgainAlike(t *testing.T) {
	for range 3 {
		if got := impl.Woven("abcdefg", 3); got != "adgbecf" {
			t.Error(got)
		}
		checkNearest(t, "abcdefg", 3, 2, 2, 5)
		checkNearest(t, "abcdefg", 3, 0, 1, -1)
		if got := impl.Unwoven("adgbecf", 3); got != "abcdefg" {
			t.Error(got)
		}
	}
}
