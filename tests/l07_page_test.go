package tests

import (
	"fmt"
	"math"
	"slices"
	"strings"
	"testing"

	"loop.example/g00223/impl"
)

const (
	leastBody = 8
	byteTurns = 16
)

// plainPages lays and reads pages by words that were found by looking among all.
type plainPages struct {
	of     [256]int64
	byteOf [words]int64
	kindOf [words]int64
}

func newPlainPages(t *testing.T) *plainPages {
	t.Helper()
	plain := &plainPages{of: plainWords(t)}
	for word := range int64(words) {
		plain.byteOf[word], plain.kindOf[word] = plainHealed(plain.of, word)
	}
	return plain
}

// plainChecked is the text and its check behind it.
func plainChecked(s string) string {
	return s + wordText(plainCheck(s))
}

// plainHead is a body ahead of its check, whatever the numbers are.
func plainHead(kind int64, at int64, stamp int64, count int, text string) string {
	return string([]byte{byte(kind), byte(at), byte(stamp / 65536), byte(stamp / 256 % 256), byte(stamp % 256), byte(count)}) + text
}

func plainBody(p impl.Page) string {
	return plainChecked(plainHead(p.Kind, p.At, p.Stamp, len(p.Text), p.Text))
}

// lay lays any body behind any number that tells its size.
func (plain *plainPages) lay(size int, body string) string {
	highs, lows := "", ""
	for i := range len(body) {
		word := wordText(plain.of[body[i]])
		highs, lows = highs+word[:1], lows+word[1:]
	}
	return wordText(plain.of[size]) + highs + lows
}

func (plain *plainPages) laid(p impl.Page) string {
	body := plainBody(p)
	return plain.lay(len(body), body)
}

// healed is the byte of each word, the size first, and how many were fixed.
func (plain *plainPages) healed(s string) ([]byte, int64, bool) {
	if len(s)%2 == 1 {
		return nil, 0, false
	}
	text, fixed := []byte{}, int64(0)
	for i := range len(s) / 2 {
		high, low := wordPlaces(s, i)
		word := 256*int64(s[high]) + int64(s[low])
		if word >= words || plain.kindOf[word] == impl.HmLost {
			return nil, 0, false
		}
		text = append(text, byte(plain.byteOf[word]))
		fixed += plain.kindOf[word]
	}
	return text, fixed, true
}

// lying makes a Page of the healed bytes, and asks whether it is laid so.
func (plain *plainPages) lying(s string) (impl.Page, int64) {
	none := impl.Page{}
	if s == "" {
		return none, impl.LyBlank
	}
	text, fixed, is := plain.healed(s)
	if !is || len(text) < 1+leastBody {
		return none, impl.LyTorn
	}
	p := impl.Page{
		Kind: int64(text[1]), At: int64(text[2]), Stamp: 65536*int64(text[3]) + 256*int64(text[4]) + int64(text[5]),
		Text: string(text[7 : len(text)-2]),
	}
	if !plainPageOk(p) || plain.laid(p) != plain.lay(int(text[0]), string(text[1:])) {
		return none, impl.LyTorn
	}
	if fixed > 0 {
		return p, impl.LyMended
	}
	return p, impl.LyGood
}

func plainPageOk(p impl.Page) bool {
	kinds := p.Kind == 1 || p.Kind == 2 && p.Text == ""
	return kinds && 0 <= p.At && p.At <= 63 && 1 <= p.Stamp && p.Stamp <= 1000000 && len(p.Text) <= 24
}

// wordPlaces are the numbers of the two bytes of a word in what is laid: the
// first one's stand beside each other, those of the body are woven.
func wordPlaces(s string, word int) (int, int) {
	if word == 0 {
		return 0, 1
	}
	half := len(s)/2 - 1
	return 1 + word, 1 + half + word
}

// turned is s with these bits of a word turned; of the bits 13 to 15 a word has
// none.
func turned(s string, word int, bits ...int) string {
	text := []byte(s)
	high, low := wordPlaces(s, word)
	for _, bit := range bits {
		if bit < 8 {
			text[low] ^= 1 << bit
		} else {
			text[high] ^= 1 << (bit - 8)
		}
	}
	return string(text)
}

func turnedInEach(n *numbers, s string) string {
	for word := range len(s) / 2 {
		s = turned(s, word, n.below(wordsBits))
	}
	return s
}

func (n *numbers) page() impl.Page {
	p := impl.Page{Kind: impl.PgData, At: int64(n.below(64)), Stamp: int64(n.below(1000000)) + 1}
	if n.below(6) == 0 {
		p.Kind = impl.PgTrim
	} else {
		p.Text = n.text(n.below(25))
	}
	return p
}

// edgePages are Pages at and about every limit, and of all kinds of text.
func edgePages() []impl.Page {
	n := numbers(71)
	texts := []string{n.text(22), n.text(23), n.text(24), noughtText(24), strings.Repeat("\xff", 24), strings.Repeat("\u20ac", 8), noughtText(1)}
	texts = append(texts, trickyTexts()...)
	pages := []impl.Page{}
	for _, at := range []int64{0, 1, 31, 62, 63} {
		for _, stamp := range []int64{1, 2, 255, 256, 257, 65535, 65536, 65537, 999999, 1000000} {
			pages = append(pages, impl.Page{Kind: impl.PgTrim, At: at, Stamp: stamp})
			pages = append(pages, impl.Page{Kind: impl.PgData, At: at, Stamp: stamp})
			pages = append(pages, impl.Page{Kind: impl.PgData, At: at, Stamp: stamp, Text: texts[n.below(len(texts))]})
		}
	}
	for _, text := range texts {
		pages = append(pages, impl.Page{Kind: impl.PgData, At: 9, Stamp: 300, Text: text})
	}
	for at := range int64(64) {
		pages = append(pages, impl.Page{Kind: impl.PgData, At: at, Stamp: 15624*at + 1, Text: n.text(int(at) % 25)})
	}
	return pages
}

// wrongNumbers are no Kind, no At and no Stamp.
func wrongNumbers() []int64 {
	return []int64{
		-1, -2, -255, -256, -65536, -1 << 24, -1 << 32, -1<<32 + 1, 1000001, 1000002, 1 << 24, 1<<24 + 1, 1 << 32, 1<<32 + 1, 1<<32 + 2, 1<<32 + 63,
		1 << 62, math.MinInt64, math.MinInt64 + 1, math.MinInt64 + 2, math.MaxInt64, math.MaxInt64 - 1,
	}
}

// wrongPages are each wrong in one thing, or in more.
func wrongPages() []impl.Page {
	pages := []impl.Page{{}, {Text: "a"}, {Kind: impl.PgData}, {Kind: impl.PgTrim, At: 64, Stamp: 0, Text: "a"}}
	for _, kind := range []int64{impl.PgData, impl.PgTrim} {
		for _, at := range append(wrongNumbers(), 64, 65, 128, 255, 256, 257, 319) {
			pages = append(pages, impl.Page{Kind: kind, At: at, Stamp: 7})
		}
		for _, stamp := range append(wrongNumbers(), 0) {
			pages = append(pages, impl.Page{Kind: kind, At: 7, Stamp: stamp})
		}
		for _, count := range []int{25, 26, 48, 255, 256, 257, 280, 300, 301, 5000} {
			pages = append(pages, impl.Page{Kind: kind, At: 7, Stamp: 7, Text: noughtText(count)})
		}
		// 9 runes, but 27 bytes: it is the bytes that count.
		pages = append(pages, impl.Page{Kind: kind, At: 7, Stamp: 7, Text: strings.Repeat("\u20ac", 9)})
	}
	for _, kind := range append(wrongNumbers(), 0, 3, 4, 255, 256, 257, 258) {
		pages = append(pages, impl.Page{Kind: kind, At: 7, Stamp: 7}, impl.Page{Kind: kind, At: 7, Stamp: 7, Text: "hey"})
	}
	for _, text := range []string{"a", "\x00", " ", noughtText(24)} {
		pages = append(pages, impl.Page{Kind: impl.PgTrim, At: 7, Stamp: 7, Text: text})
	}
	return pages
}

// wrongBodies have a right check and are no Page's.
func wrongBodies() []string {
	heads := []string{
		plainHead(0, 7, 7, 3, "hey"), plainHead(3, 7, 7, 3, "hey"), plainHead(255, 7, 7, 3, "hey"), plainHead(0, 7, 7, 0, ""), plainHead(3, 7, 7, 0, ""),
		plainHead(1, 64, 7, 3, "hey"), plainHead(1, 65, 7, 3, "hey"), plainHead(1, 255, 7, 3, "hey"), plainHead(2, 64, 7, 0, ""),
		plainHead(1, 7, 0, 3, "hey"), plainHead(1, 7, 1000001, 3, "hey"), plainHead(1, 7, 1<<24-1, 3, "hey"), plainHead(2, 7, 0, 0, ""), plainHead(2, 7, 1000001, 0, ""),
		plainHead(2, 7, 7, 1, "a"), plainHead(2, 7, 7, 3, "hey"), plainHead(2, 7, 7, 24, noughtText(24)),
		plainHead(1, 7, 7, 2, "hey"), plainHead(1, 7, 7, 4, "hey"), plainHead(1, 7, 7, 0, "hey"), plainHead(1, 7, 7, 255, "hey"),
		plainHead(1, 7, 7, 1, ""), plainHead(2, 7, 7, 1, ""), plainHead(2, 7, 7, 0, "a"), plainHead(1, 7, 7, 24, noughtText(25)), plainHead(1, 7, 7, 25, noughtText(24)),
		plainHead(1, 7, 7, 5, "hey"), plainHead(1, 7, 7, 9, "hey"), plainHead(1, 7, 7, 11, "hey"),
		plainHead(1, 7, 7, 25, noughtText(25)), plainHead(1, 7, 7, 26, noughtText(26)), plainHead(1, 7, 7, 247, noughtText(247)),
		noughtText(6), noughtText(20), strings.Repeat("\x01", 6),
	}
	// Too few bytes for a Page ahead of the check.
	for count := range 6 {
		heads = append(heads, plainHead(1, 7, 7, 0, "")[:count], noughtText(count), strings.Repeat("\x01", count))
	}
	bodies := []string{}
	for _, head := range heads {
		bodies = append(bodies, plainChecked(head))
	}
	return bodies
}

func tellPage(p impl.Page) string {
	return fmt.Sprintf("{%d %d %d %s}", p.Kind, p.At, p.Stamp, tellText(p.Text))
}

func checkPageOk(t *testing.T, p impl.Page, want bool) {
	t.Helper()
	neverPanics(t, "PageOk", func() {
		t.Helper()
		if got := impl.PageOk(p); got != want {
			t.Errorf("PageOk(%s): %v", tellPage(p), got)
		}
	})
}

func checkLaid(t *testing.T, p impl.Page, want string) {
	t.Helper()
	neverPanics(t, "Laid", func() {
		t.Helper()
		if got := impl.Laid(p); got != want {
			t.Errorf("Laid(%s): %q, not %q", tellPage(p), got, want)
		}
	})
}

func checkLying(t *testing.T, s string, want impl.Page, wantKind int64) {
	t.Helper()
	neverPanics(t, "Lying", func() {
		t.Helper()
		if p, kind := impl.Lying(s); p != want || kind != wantKind {
			t.Errorf("Lying(%q): %s and %d, not %s and %d", s, tellPage(p), kind, tellPage(want), wantKind)
		}
	})
}

func checkTorn(t *testing.T, s string) {
	t.Helper()
	checkLying(t, s, impl.Page{}, impl.LyTorn)
}

func TestPageConstants(t *testing.T) {
	if impl.PgData != 1 || impl.PgTrim != 2 || impl.MaxAt != 64 || impl.MaxStamp != 1000000 || impl.MaxPage != 24 {
		t.Fatal(impl.PgData, impl.PgTrim, impl.MaxAt, impl.MaxStamp, impl.MaxPage)
	}
	if impl.LyBlank != 0 || impl.LyGood != 1 || impl.LyMended != 2 || impl.LyTorn != 3 {
		t.Fatal(impl.LyBlank, impl.LyGood, impl.LyMended, impl.LyTorn)
	}
}

func TestPageOkAtTheEdges(t *testing.T) {
	for _, c := range []struct {
		kind, at, stamp int64
		text            string
		want            bool
	}{
		{1, 7, 7, "hey", true}, {1, 7, 7, "", true}, {2, 7, 7, "", true}, {2, 7, 7, "h", false}, {2, 7, 7, "\x00", false},
		{0, 7, 7, "", false}, {0, 7, 7, "hey", false}, {3, 7, 7, "", false}, {3, 7, 7, "hey", false}, {-1, 7, 7, "", false},
		{1, 0, 7, "hey", true}, {1, 63, 7, "hey", true}, {1, -1, 7, "hey", false}, {1, 64, 7, "hey", false},
		{2, 0, 7, "", true}, {2, 63, 7, "", true}, {2, -1, 7, "", false}, {2, 64, 7, "", false},
		{1, 7, 1, "hey", true}, {1, 7, 1000000, "hey", true}, {1, 7, 0, "hey", false}, {1, 7, 1000001, "hey", false}, {1, 7, -1, "hey", false},
		{2, 7, 1, "", true}, {2, 7, 1000000, "", true}, {2, 7, 0, "", false}, {2, 7, 1000001, "", false},
		{1, 7, 7, noughtText(23), true}, {1, 7, 7, noughtText(24), true}, {1, 7, 7, noughtText(25), false}, {2, 7, 7, noughtText(24), false}, {2, 7, 7, noughtText(25), false},
		{1, 7, 7, strings.Repeat("\u20ac", 8), true}, {1, 7, 7, strings.Repeat("\u20ac", 9), false},
		{1, 0, 1, "", true}, {1, 63, 1000000, noughtText(24), true}, {1, 64, 1000001, noughtText(25), false}, {0, 0, 0, "", false},
	} {
		checkPageOk(t, impl.Page{Kind: c.kind, At: c.at, Stamp: c.stamp, Text: c.text}, c.want)
	}
}

func TestPageOkOfMany(t *testing.T) {
	n := numbers(72)
	for _, p := range edgePages() {
		checkPageOk(t, p, true)
	}
	for range 2000 {
		p := n.page()
		checkPageOk(t, p, true)
		p.Kind, p.At = int64(n.below(5))-1, int64(n.below(70))-3
		checkPageOk(t, p, plainPageOk(p))
	}
}

func TestWrongPages(t *testing.T) {
	for _, p := range wrongPages() {
		checkPageOk(t, p, false)
		checkLaid(t, p, "")
	}
}

// somePages were worked out apart from the program, by a script of its own.
func somePages() map[string]impl.Page {
	return map[string]impl.Page{
		"\x00\xaa\x00\x00\x00\x00\x05\x00\x0c\x0c\x0f\x17\x17\x0f\x5a\x00\x0f\xc6\x3c\x95\x59\x99\xe7\xe8": {Kind: 1, At: 5, Stamp: 300, Text: "hey"},
		"\x00\x96\x00\x00\x00\x00\x00\x00\x1b\x1e\x0f\x00\x00\x00\x0f\x00\x72\x87":                         {Kind: 1, At: 0, Stamp: 1},
		"\x00\x96\x00\x06\x00\x09\x09\x00\x09\x1b\x33\xf9\xff\x35\x06\x00\x3a\x8d":                         {Kind: 2, At: 63, Stamp: 1000000},
		"\x00\x96\x00\x00\x00\x00\x00\x00\x09\x03\x33\x00\x00\x0f\x00\x00\xac\x6a":                         {Kind: 2, At: 0, Stamp: 256},
		"\x00\xa5\x00\x06\x00\x09\x09\x00\x1e\x00\x12\x11\x0f\xf9\xff\x35\x06\x33\xee\x00\x48\x11":         {Kind: 1, At: 63, Stamp: 1000000, Text: "\xff\x00"},
		"\x00\x99\x00\x00\x00\x00\x00\x00\x0c\x14\x1b\x0f\x69\x0f\x00\x00\x0f\x0c\x1b\x1b":                 {Kind: 1, At: 7, Stamp: 65536, Text: "a"},
		"\x00\xa5\x00\x00\x00\x00\x1e\x00\x18\x14\x1b\x0a\x0f\x99\x00\x00\xee\x33\x2b\x8d\xe4\x36":         {Kind: 1, At: 9, Stamp: 255, Text: "\u00e9"},
		"\x05\x05\x00\x06\x00\x09\x06\x03\x0f\x0c\x0c\x0c\x0c\x05\x0f\x0f\x0f\x0c\x0f\x0c\x0f\x05\x05\x0f\x0c\x0f\x0c\x05\x0c\x0f\x0f\x05\x14\x09" +
			"\x0f\xf9\xff\x35\xf9\x95\x3c\xcf\x0c\xc0\xc0\x05\x3c\x0f\x5a\x0c\x33\x59\x3c\xc6\x05\x69\xfc\x33\xf3\x05\xfc\x5a\x55\xf5\xd7\x60": {Kind: 1, At: 63, Stamp: 999999, Text: "small squares, worn out."},
	}
}

func TestLaidAndLyingOfSome(t *testing.T) {
	for s, p := range somePages() {
		checkLaid(t, p, s)
		checkLying(t, s, p, impl.LyGood)
	}
}

func TestLaidIsAsTold(t *testing.T) {
	plain := newPlainPages(t)
	n := numbers(73)
	pages := edgePages()
	for range 3000 {
		pages = append(pages, n.page())
	}
	for _, p := range pages {
		checkLaid(t, p, plain.laid(p))
		if got := len(impl.Laid(p)); got != 2+2*(leastBody+len(p.Text)) {
			t.Errorf("Laid(%s) has %d bytes", tellPage(p), got)
		}
	}
}

func TestLaidIsByTheChaptersAhead(t *testing.T) {
	for _, p := range edgePages() {
		body := impl.Checked(plainHead(p.Kind, p.At, p.Stamp, len(p.Text), p.Text))
		checkLaid(t, p, impl.SpreadAll(string([]byte{byte(len(body))}))+impl.Woven(impl.SpreadAll(body), 2))
	}
}

func TestLaidOfUnlikePagesIsUnlike(t *testing.T) {
	n := numbers(74)
	seen := map[string]impl.Page{}
	pages := edgePages()
	for range 3000 {
		pages = append(pages, n.page())
	}
	for _, p := range pages {
		s := impl.Laid(p)
		if other, is := seen[s]; is && other != p {
			t.Errorf("Laid of %s and of %s are alike", tellPage(p), tellPage(other))
		}
		seen[s] = p
	}
}

func TestLyingOfNoByte(t *testing.T) {
	checkLying(t, "", impl.Page{}, impl.LyBlank)
	checkLying(t, impl.Laid(impl.Page{}), impl.Page{}, impl.LyBlank)
}

func TestPromise7WhatIsLaidLiesWell(t *testing.T) {
	n := numbers(75)
	for _, p := range edgePages() {
		checkLying(t, impl.Laid(p), p, impl.LyGood)
	}
	for range 5000 {
		p := n.page()
		checkLying(t, impl.Laid(p), p, impl.LyGood)
	}
	for stamp := int64(1); stamp <= impl.MaxStamp; stamp += 97 {
		p := impl.Page{Kind: impl.PgTrim, At: stamp % 64, Stamp: stamp}
		checkLying(t, impl.Laid(p), p, impl.LyGood)
	}
}

func TestPromise7OneTurnedBitIsMended(t *testing.T) {
	for _, p := range edgePages() {
		s := impl.Laid(p)
		for word := range len(s) / 2 {
			for bit := range byteTurns {
				if bit < wordsBits {
					checkLying(t, turned(s, word, bit), p, impl.LyMended)
				} else {
					checkTorn(t, turned(s, word, bit)) // it is no word any more
				}
			}
		}
	}
}

func TestPromise7OneTurnedBitInEachWordIsMended(t *testing.T) {
	n := numbers(76)
	for _, p := range edgePages() {
		s := impl.Laid(p)
		for bit := range wordsBits {
			all := s
			for word := range len(s) / 2 {
				all = turned(all, word, bit)
			}
			checkLying(t, all, p, impl.LyMended)
		}
		for range 5 {
			checkLying(t, turnedInEach(&n, s), p, impl.LyMended)
		}
	}
}

func TestPromise7OneTurnedBitInSomeWordsIsMended(t *testing.T) {
	n := numbers(77)
	for range 5000 {
		p := n.page()
		s, fixed := impl.Laid(p), 0
		for word := range len(s) / 2 {
			if n.below(4) == 0 {
				s = turned(s, word, n.below(wordsBits))
				fixed++
			}
		}
		want := int64(impl.LyMended)
		if fixed == 0 {
			want = impl.LyGood
		}
		checkLying(t, s, p, want)
	}
}

func TestPromise7APartIsTornOrBlank(t *testing.T) {
	n := numbers(78)
	pages := edgePages()
	for range 1000 {
		pages = append(pages, n.page())
	}
	for _, p := range pages {
		s := impl.Laid(p)
		mended := turnedInEach(&n, s)
		checkLying(t, s[:0], impl.Page{}, impl.LyBlank)
		for count := 1; count < len(s); count++ {
			checkTorn(t, s[:count])
			checkTorn(t, mended[:count])
		}
	}
}

func TestLyingWithBytesMoreOrLess(t *testing.T) {
	n := numbers(79)
	for _, p := range edgePages() {
		s := impl.Laid(p)
		for _, more := range []string{"\x00", "\x00\x00", "\xff", "a", "\x00\x00\x00", "\x00\x00\x00\x00", s, s[:2], s[2:], n.text(30), noughtText(600), noughtText(5000)} {
			checkTorn(t, s+more)
		}
		for _, ahead := range []string{"\x00", "\x00\x00", "\xff", "a", s[:1], s[:2]} {
			checkTorn(t, ahead+s)
		}
		for count := 1; count < len(s); count++ {
			checkTorn(t, s[count:])
			checkTorn(t, s[:count]+"\x00"+s[count:])
			checkTorn(t, s[:count]+s[count+1:])
		}
	}
}

func TestLyingWithTwoTurnedBits(t *testing.T) {
	for s := range somePages() {
		for word := range len(s) / 2 {
			for first := range byteTurns {
				for second := range first {
					checkTorn(t, turned(s, word, first, second))
				}
			}
		}
	}
}

func TestLyingWithTwoTurnedBitsAmongMendedWords(t *testing.T) {
	n := numbers(80)
	for range 3000 {
		s := impl.Laid(n.page())
		lost := n.below(len(s) / 2)
		first := n.below(wordsBits)
		second := (first + 1 + n.below(wordsBits-1)) % wordsBits
		for word := range len(s) / 2 {
			if word == lost {
				s = turned(s, word, first, second)
			} else {
				s = turned(s, word, n.below(wordsBits))
			}
		}
		checkTorn(t, s)
	}
}

// Three turned bits may be healed to another byte: then it is the check that
// tells.
func TestLyingWithThreeTurnedBits(t *testing.T) {
	plain := newPlainPages(t)
	for s := range somePages() {
		for word := range len(s) / 2 {
			for first := range wordsBits {
				for second := range first {
					for third := range second {
						other := turned(s, word, first, second, third)
						p, kind := plain.lying(other)
						checkLying(t, other, p, kind)
					}
				}
			}
		}
	}
}

func TestLyingWithAnotherSize(t *testing.T) {
	plain := newPlainPages(t)
	for s := range somePages() {
		right := (len(s) - 2) / 2
		for size := range 256 {
			if size == right {
				continue
			}
			other := wordText(plain.of[size]) + s[2:]
			checkTorn(t, other)
			for bit := range wordsBits {
				checkTorn(t, turned(other, 0, bit))
			}
		}
	}
}

// The size word turned to any two bytes: it tells the size where it is healed to
// it, and all else is torn.
func TestLyingWithEverySizeWord(t *testing.T) {
	plain := newPlainPages(t)
	p := impl.Page{Kind: impl.PgData, At: 5, Stamp: 300, Text: "hey"}
	rest := plain.laid(p)[2:]
	for word := range int64(65536) {
		s := wordText(word) + rest
		switch {
		case word < words && plain.byteOf[word] == 11 && plain.kindOf[word] == impl.HmClean:
			checkLying(t, s, p, impl.LyGood)
		case word < words && plain.byteOf[word] == 11:
			checkLying(t, s, p, impl.LyMended)
		default:
			checkTorn(t, s)
		}
	}
}

// A size that counts other than the body's bytes is wrong even where a shorter
// body with a right check lies there.
func TestLyingOfABodyOfAnotherSize(t *testing.T) {
	plain := newPlainPages(t)
	for _, p := range edgePages()[:60] {
		body := plainBody(p)
		for size := range 256 {
			if size != len(body) {
				checkTorn(t, plain.lay(size, body))
			}
		}
		for more := range 40 {
			if more > 0 {
				checkTorn(t, plain.lay(len(body), body+noughtText(more)))
				checkTorn(t, plain.lay(len(body)+more, body+noughtText(more)))
			}
		}
	}
}

func TestLyingOfBodiesThatAreNoPage(t *testing.T) {
	plain := newPlainPages(t)
	n := numbers(81)
	for _, body := range wrongBodies() {
		if !impl.Whole(body) {
			t.Fatalf("%q has no right check", body)
		}
		s := plain.lay(len(body), body)
		checkTorn(t, s)
		checkTorn(t, turnedInEach(&n, s))
	}
}

func TestLyingOfAWrongCheck(t *testing.T) {
	plain := newPlainPages(t)
	for _, p := range somePages() {
		body := plainBody(p)
		for at := range len(body) {
			for value := range 256 {
				other := body[:at] + string([]byte{byte(value)}) + body[at+1:]
				if other == body {
					checkLying(t, plain.lay(len(other), other), p, impl.LyGood)
				} else {
					checkTorn(t, plain.lay(len(other), other))
				}
			}
		}
		head := body[:len(body)-2]
		for _, other := range []string{head, head + "\x00\x00", head + body[len(body)-1:] + body[len(body)-2:len(body)-1], body + "\x00\x00", body + body[len(body)-2:]} {
			if other != body {
				checkTorn(t, plain.lay(len(other), other))
			}
		}
	}
}

// Woven by another depth, or not at all, it is no page.
func TestLyingOfWhatIsWovenOtherwise(t *testing.T) {
	for _, p := range edgePages() {
		body := plainBody(p)
		right := impl.Laid(p)
		spread := impl.SpreadAll(body)
		for _, depth := range []int64{1, 3, 4, 5, 16} {
			if s := right[:2] + impl.Woven(spread, depth); s != right {
				checkTorn(t, s)
			}
		}
		// The size is not woven among the body.
		checkTorn(t, impl.Woven(right[:2]+spread, 2))
	}
}

func TestLyingOfOneWord(t *testing.T) {
	for first := range 256 {
		checkTorn(t, string([]byte{byte(first)}))
		for second := range 256 {
			checkTorn(t, string([]byte{byte(first), byte(second)}))
		}
	}
}

func TestLyingOfTwoWords(t *testing.T) {
	plain := newPlainPages(t)
	n := numbers(82)
	for b := range 256 {
		body := string([]byte{byte(b)})
		for size := range 256 {
			checkTorn(t, plain.lay(size, body))
		}
		for range 20 {
			checkTorn(t, plain.lay(1, body)[:2]+n.text(2))
			checkTorn(t, n.text(3))
			checkTorn(t, n.text(4))
		}
	}
}

// Every number of bytes that a size can tell, and texts that are longer than any
// of these.
func TestLyingOfLongTexts(t *testing.T) {
	plain := newPlainPages(t)
	n := numbers(83)
	for size := range 256 {
		body := noughtText(size)
		if size >= 2 {
			body = plainChecked(n.text(size - 2))
		}
		s := plain.lay(size, body)
		p, kind := plain.lying(s)
		checkLying(t, s, p, kind)
		checkTorn(t, plain.lay(size, noughtText(size)))
	}
	for _, count := range []int{512, 513, 598, 599, 600, 601, 602, 603, 604, 1024, 5000, 100000} {
		checkTorn(t, noughtText(count))
		checkTorn(t, strings.Repeat("\xff", count))
		checkTorn(t, "\x1e\xee"+noughtText(count))
	}
}

func TestLyingOfTextsNearPages(t *testing.T) {
	plain := newPlainPages(t)
	n := numbers(84)
	for range 20000 {
		text := []byte(impl.Laid(n.page()))
		for range n.below(4) {
			text[n.below(len(text))] ^= byte(1 << n.below(8))
		}
		if n.below(5) == 0 {
			text[n.below(len(text))] = byte(n.below(256))
		}
		if n.below(8) == 0 {
			text = text[:n.below(len(text)+1)]
		}
		p, kind := plain.lying(string(text))
		checkLying(t, string(text), p, kind)
	}
}

func TestLyingOfBodiesNearPages(t *testing.T) {
	plain := newPlainPages(t)
	n := numbers(85)
	found := map[int64]int{}
	stamps := []int64{0, 1, 2, 255, 256, 65535, 65536, 999999, 1000000, 1000001, 1 << 20, 1<<24 - 1}
	for range 20000 {
		text := n.text(n.below(4) * n.below(10))
		count := len(text)
		if n.below(4) == 0 {
			count += n.below(3) - 1
		}
		head := plainHead(int64(n.below(4)), int64(n.below(70)), stamps[n.below(len(stamps))], count, text)
		body := plainChecked(head)
		s := plain.lay(len(body), body)
		if n.below(3) == 0 {
			s = turned(s, n.below(len(s)/2), n.below(wordsBits))
		}
		p, kind := plain.lying(s)
		checkLying(t, s, p, kind)
		found[kind]++
	}
	if found[impl.LyGood] < 500 || found[impl.LyMended] < 500 || found[impl.LyTorn] < 500 {
		t.Errorf("so many of each kind: %v", found)
	}
}

func TestLyingOfAnyTexts(t *testing.T) {
	plain := newPlainPages(t)
	n := numbers(86)
	texts := checkTexts()
	for range 20000 {
		texts = append(texts, n.text(n.below(80)))
	}
	for _, s := range texts {
		p, kind := plain.lying(s)
		checkLying(t, s, p, kind)
	}
}

// What lies well, Laid again, is the same but for the bits that were turned.
func TestLaidOfLying(t *testing.T) {
	n := numbers(87)
	for range 3000 {
		s := impl.Laid(n.page())
		other := turnedInEach(&n, s)
		if p, _ := impl.Lying(other); impl.Laid(p) != s {
			t.Errorf("Laid of Lying(%q) is %q", other, impl.Laid(p))
		}
		if apart := impl.Apart(impl.Bits(s), impl.Bits(other)); apart != int64(len(s)/2) {
			t.Errorf("%d bits of %d words are turned", apart, len(s)/2)
		}
	}
}

func checkNewer(t *testing.T, a impl.Page, b impl.Page, want bool) {
	t.Helper()
	neverPanics(t, "Newer", func() {
		t.Helper()
		if got := impl.Newer(a, b); got != want {
			t.Errorf("Newer(%s, %s): %v", tellPage(a), tellPage(b), got)
		}
	})
}

func TestNewerGoesByTheStamp(t *testing.T) {
	stamps := append(wrongNumbers(), 0, 1, 2, 3, 255, 256, 999999, 1000000)
	for _, a := range stamps {
		for _, b := range stamps {
			// Pages that are not PageOk have Stamps, too.
			for _, kind := range []int64{0, impl.PgData, impl.PgTrim, 3} {
				checkNewer(t, impl.Page{Kind: kind, At: 1, Stamp: a}, impl.Page{Kind: kind, At: 1, Stamp: b}, a > b)
			}
			// What else they have does not count.
			checkNewer(t, impl.Page{Kind: 1, At: 0, Stamp: a, Text: "a"}, impl.Page{Kind: 2, At: 63, Stamp: b}, a > b)
			checkNewer(t, impl.Page{Kind: 2, At: 63, Stamp: a}, impl.Page{Kind: 1, At: 0, Stamp: b, Text: "zzz"}, a > b)
			checkNewer(t, impl.Page{Stamp: a, Text: noughtText(99)}, impl.Page{Kind: -5, At: math.MaxInt64, Stamp: b}, a > b)
		}
	}
}

func TestNewerOfSome(t *testing.T) {
	a, b := impl.Page{Kind: 1, At: 3, Stamp: 8, Text: "b"}, impl.Page{Kind: 1, At: 3, Stamp: 7, Text: "a"}
	checkNewer(t, a, b, true)
	checkNewer(t, b, a, false)
	checkNewer(t, a, a, false)
	checkNewer(t, impl.Page{}, impl.Page{}, false)
	checkNewer(t, impl.Page{}, b, false)
	checkNewer(t, b, impl.Page{}, true)
	checkNewer(t, impl.Page{Stamp: math.MaxInt64}, impl.Page{Stamp: math.MinInt64}, true)
	checkNewer(t, impl.Page{Stamp: math.MinInt64}, impl.Page{Stamp: math.MaxInt64}, false)
}

func TestPromise21PageTextsAreNewMemory(t *testing.T) {
	n := numbers(88)
	for _, p := range edgePages() {
		if p.Text == "" {
			continue
		}
		s := impl.Laid(p)
		if sharesMemory(s, p.Text) {
			t.Errorf("Laid(%s) shares memory with its Text", tellPage(p))
		}
		for _, lies := range []string{s, turnedInEach(&n, s)} {
			if q, _ := impl.Lying(lies); sharesMemory(q.Text, lies) {
				t.Errorf("the Text of Lying(%q) shares memory with it", lies)
			}
		}
		again, _ := impl.Lying(s)
		if q, _ := impl.Lying(s); sharesMemory(q.Text, again.Text) {
			t.Errorf("two Texts of Lying(%q) share memory", s)
		}
	}
}

func TestPromise21PageArgumentsStay(t *testing.T) {
	n := numbers(89)
	for _, p := range slices.Concat(edgePages(), wrongPages()) {
		before := p
		before.Text = strings.Clone(p.Text)
		impl.PageOk(p)
		s := impl.Laid(p)
		impl.Newer(p, before)
		for _, lies := range []string{s, turnedInEach(&n, s), s + "a", p.Text} {
			liesBefore := strings.Clone(lies)
			impl.Lying(lies)
			if lies != liesBefore {
				t.Errorf("what lies there was written to: %q", lies)
			}
		}
		if p != before {
			t.Errorf("%s was written to", tellPage(before))
		}
	}
}

func TestPromise21PagesNeverPanic(t *testing.T) {
	texts := append(checkTexts(), strings.Repeat("\u20ac", 100000))
	kinds := append(wrongNumbers(), 0, 1, 2, 3)
	ats := append(wrongNumbers(), 0, 63, 64)
	for _, s := range texts {
		neverPanics(t, "Lying of "+tellText(s), func() { impl.Lying(s) })
	}
	for _, kind := range kinds {
		for _, at := range ats {
			for _, stamp := range append(wrongNumbers(), 0, 1, 1000000) {
				for _, text := range []string{"", "a", noughtText(24), noughtText(25), noughtText(400)} {
					p := impl.Page{Kind: kind, At: at, Stamp: stamp, Text: text}
					checkPageOk(t, p, plainPageOk(p))
					neverPanics(t, "Laid of "+tellPage(p), func() {
						if got := impl.Laid(p); (got != "") != plainPageOk(p) {
							t.Errorf("Laid(%s): %q", tellPage(p), got)
						}
					})
				}
			}
		}
	}
}

// What one call reads must not show in the next one.
func TestPagesAnswerAgainAlike(t *testing.T) {
	p := impl.Page{Kind: impl.PgData, At: 5, Stamp: 300, Text: "hey"}
	s := impl.Laid(p)
	for range 3 {
		checkLying(t, s, p, impl.LyGood)
		checkTorn(t, s[:9])
		checkLying(t, "", impl.Page{}, impl.LyBlank)
		checkLying(t, turned(s, 3, 4), p, impl.LyMended)
		checkLying(t, s, p, impl.LyGood)
		checkTorn(t, turned(s, 3, 4, 5))
		checkLaid(t, p, s)
		checkLaid(t, impl.Page{}, "")
	}
}
