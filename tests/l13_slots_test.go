package tests

import (
	"fmt"
	"math"
	"slices"
	"strconv"
	"strings"
	"testing"

	"loop.example/g00223/impl"
)

const mostSlot = 40

func mark(epoch int64, seq int64) impl.Mark {
	return impl.Mark{Epoch: epoch, Seq: seq}
}

func inSync(epoch int64, seq int64) impl.Mark {
	return impl.Mark{Epoch: epoch, Seq: seq, Sync: true}
}

// rankOf is the greater the newer a Mark is, and the same where Sync alone differs.
func rankOf(m impl.Mark) int64 {
	return m.Epoch*(mostStamp+1) + m.Seq
}

func plainShowMark(m impl.Mark) string {
	if min(m.Epoch, m.Seq) < 0 || max(m.Epoch, m.Seq) > mostStamp {
		return ""
	}
	sync := map[bool]string{true: "1", false: "0"}[m.Sync]
	return plainChecked(fmt.Sprintf("%d %d %s", m.Epoch, m.Seq, sync))
}

// plainReadMark guesses a Mark by the words ahead of the check, and asks whether
// the text is what is shown of it.
func plainReadMark(s string) (impl.Mark, bool) {
	words := strings.Split(s[:max(0, len(s)-2)], " ")
	if len(words) != 3 {
		return impl.Mark{}, false
	}
	epoch, _ := strconv.ParseInt(words[0], 10, 64)
	seq, _ := strconv.ParseInt(words[1], 10, 64)
	m := impl.Mark{Epoch: epoch, Seq: seq, Sync: words[2] == "1"}
	if plainShowMark(m) != s {
		return impl.Mark{}, false
	}
	return m, true
}

func plainSlots(slots []string) bool {
	return len(slots) == 2 && len(slots[0]) <= 40 && len(slots[1]) <= 40
}

func plainNewest(slots []string) (impl.Mark, int64) {
	if !plainSlots(slots) {
		return impl.Mark{}, -1
	}
	first, isFirst := plainReadMark(slots[0])
	second, isSecond := plainReadMark(slots[1])
	switch {
	case isSecond && (!isFirst || rankOf(second) > rankOf(first)):
		return second, 1
	case isFirst:
		return first, 0
	}
	return impl.Mark{}, -1
}

func plainMarked(slots []string, m impl.Mark) ([]string, bool) {
	if !plainSlots(slots) {
		return nil, false
	}
	newest, number := plainNewest(slots)
	text := plainShowMark(m)
	switch {
	case text == "" || rankOf(m) < rankOf(newest):
		return slots, false
	case number == 0:
		return []string{slots[0], text}, true
	}
	return []string{text, slots[1]}, true
}

func plainMarkCut(slots []string, m impl.Mark, bytes int64) []string {
	marked, is := plainMarked(slots, m)
	if !is {
		return slots
	}
	_, newest := plainNewest(slots)
	written := 0
	if newest == 0 {
		written = 1
	}
	text := []byte{}
	for i, b := range []byte(marked[written]) {
		if int64(i) < bytes {
			text = append(text, b)
		}
	}
	marked[written] = string(text)
	return marked
}

func tellTexts(list []string) string {
	told := []string{}
	for _, text := range list {
		told = append(told, tellText(text))
	}
	return "[" + strings.Join(told, ", ") + "]"
}

func checkShowMark(t *testing.T, m impl.Mark, want string) {
	t.Helper()
	if got := impl.ShowMark(m); got != want {
		t.Errorf("ShowMark of %+v: %s, not %s", m, tellText(got), tellText(want))
	}
}

func checkReadMark(t *testing.T, s string, want impl.Mark, wantIs bool) {
	t.Helper()
	if got, is := impl.ReadMark(s); got != want || is != wantIs {
		t.Errorf("ReadMark of %s: %+v and %v, not %+v and %v", tellText(s), got, is, want, wantIs)
	}
}

func checkNoMark(t *testing.T, s string) {
	t.Helper()
	checkReadMark(t, s, impl.Mark{}, false)
}

func checkNewest(t *testing.T, slots []string, want impl.Mark, wantNumber int64) {
	t.Helper()
	if got, number := impl.Newest(slots); got != want || number != wantNumber {
		t.Errorf("Newest of %s: %+v and %d, not %+v and %d", tellTexts(slots), got, number, want, wantNumber)
	}
}

func checkMarked(t *testing.T, slots []string, m impl.Mark, want []string, wantIs bool) {
	t.Helper()
	if got, is := impl.Marked(slots, m); !slices.Equal(got, want) || is != wantIs {
		t.Errorf("Marked of %s, %+v: %s and %v, not %s and %v", tellTexts(slots), m, tellTexts(got), is, tellTexts(want), wantIs)
	}
}

func checkMarkCut(t *testing.T, slots []string, m impl.Mark, bytes int64, want []string) {
	t.Helper()
	if got := impl.MarkCut(slots, m, bytes); !slices.Equal(got, want) {
		t.Errorf("MarkCut of %s, %+v at %d: %s, not %s", tellTexts(slots), m, bytes, tellTexts(got), tellTexts(want))
	}
}

// checkSlots holds every function of slots against the plain ones.
func checkSlots(t *testing.T, slots []string, m impl.Mark, cuts []int64) {
	t.Helper()
	newest, number := plainNewest(slots)
	checkNewest(t, slots, newest, number)
	want, is := plainMarked(slots, m)
	checkMarked(t, slots, m, want, is)
	for _, bytes := range cuts {
		checkMarkCut(t, slots, m, bytes, plainMarkCut(slots, m, bytes))
	}
}

// edgeStamps are in range, at its limits and about each number of digits.
func edgeStamps() []int64 {
	return []int64{0, 1, 2, 7, 9, 10, 11, 19, 20, 99, 100, 101, 109, 110, 255, 256, 999, 1000, 1001, 9999, 10000, 65536, 99999, 100000, 999998, 999999, 1000000}
}

// edgeCuts are about both ends of a text, and far from it.
func edgeCuts(size int64) []int64 {
	return []int64{math.MinInt64, math.MinInt64 + 1, -1 << 32, -2, -1, 0, 1, 2, size - 3, size - 2, size - 1, size, size + 1, 39, 40, 41, 1 << 32, 1<<32 + 1, math.MaxInt64}
}

func (n *numbers) stamp() int64 {
	edges := edgeStamps()
	switch n.below(4) {
	case 0:
		return edges[n.below(len(edges))]
	case 1:
		return int64(n.below(12))
	}
	return int64(n.below(mostStamp + 1))
}

func (n *numbers) mark() impl.Mark {
	return impl.Mark{Epoch: n.stamp(), Seq: n.stamp(), Sync: n.below(2) == 0}
}

// slot is a Mark, a part of one, one that was changed, or any text.
func (n *numbers) slot() string {
	text := plainShowMark(n.mark())
	switch n.below(8) {
	case 0:
		return ""
	case 1:
		return n.text(n.below(mostSlot + 1))
	case 2:
		return text[:n.below(len(text))]
	case 3:
		return plainSmeared(text, int64(n.below(8*len(text))), int64(n.below(65536)))
	}
	return text
}

func (n *numbers) slots() []string {
	return []string{n.slot(), n.slot()}
}

// wrongSlots are too few, too many, or one of them is too long.
func wrongSlots() [][]string {
	a, b := plainShowMark(mark(3, 7)), plainShowMark(inSync(4, 0))
	n := numbers(180)
	lists := [][]string{nil, {}, {""}, {a}, {"", "", ""}, {a, b, ""}, {"", a, b}, {a, b, a}, {a, "", "", b}, slices.Repeat([]string{a}, 300), slices.Repeat([]string{""}, 256+2)}
	for _, long := range []string{
		n.text(41), noughtText(41), n.text(42), n.text(80), n.text(255 + 41), n.text(256), noughtText(5000), strings.Repeat("\u20ac", 14),
		a + noughtText(41), plainChecked(strings.Repeat("1", 39)), plainChecked(strings.Repeat(" ", 39)),
	} {
		lists = append(lists, []string{long, ""}, []string{"", long}, []string{long, b}, []string{a, long}, []string{long, long}, []string{long})
	}
	return lists
}

// wrongMarks have a number that is out of range, or two.
func wrongMarks() []impl.Mark {
	list := []impl.Mark{}
	for _, wrong := range append(wrongNumbers(), farNumbers()...) {
		for _, sync := range []bool{false, true} {
			for _, right := range []int64{0, 5, mostStamp} {
				list = append(list, impl.Mark{Epoch: wrong, Seq: right, Sync: sync}, impl.Mark{Epoch: right, Seq: wrong, Sync: sync})
			}
			list = append(list, impl.Mark{Epoch: wrong, Seq: wrong, Sync: sync}, impl.Mark{Epoch: wrong, Seq: -wrong, Sync: sync})
		}
	}
	return list
}

// someMarks are shown with a check that was worked out apart from the program.
// Those of the last ones end with noughts, or look like digits of the flag.
func someMarks() map[string]impl.Mark {
	return map[string]impl.Mark{
		"0 0 0\x74\x47":             mark(0, 0),
		"0 0 1\xbc\x20":             inSync(0, 0),
		"3 7 1\xe7\x19":             inSync(3, 7),
		"3 7 0\x2f\x7e":             mark(3, 7),
		"7 3 1\x4a\x89":             inSync(7, 3),
		"9 10 0\xdd\x60":            mark(9, 10),
		"10 9 1\xd3\x84":            inSync(10, 9),
		"99 100 1\x01\xe7":          inSync(99, 100),
		"123456 654321 1\x01\x51":   inSync(123456, 654321),
		"999999 999999 0\x5b\x7a":   mark(999999, 999999),
		"1000000 0 0\xee\x2a":       mark(1000000, 0),
		"0 1000000 1\x5f\x79":       inSync(0, 1000000),
		"1000000 1000000 0\xef\x08": mark(1000000, 1000000),
		"1000000 1000000 1\x27\x6f": inSync(1000000, 1000000),
		"2 3 0\xbd\x00":             mark(2, 3),
		"4 56 1\x82\x00":            inSync(4, 56),
		"2 167 140":                 inSync(2, 167),
		"3 114 111":                 inSync(3, 114),
		"5 30 096":                  mark(5, 30),
	}
}

func TestSomeMarks(t *testing.T) {
	for text, m := range someMarks() {
		checkShowMark(t, m, text)
		checkReadMark(t, text, m, true)
	}
}

func TestShowMarkAtTheEdges(t *testing.T) {
	texts := map[string]bool{}
	for _, epoch := range edgeStamps() {
		for _, seq := range edgeStamps() {
			for _, m := range []impl.Mark{mark(epoch, seq), inSync(epoch, seq)} {
				text := plainShowMark(m)
				checkShowMark(t, m, text)
				checkReadMark(t, text, m, true)
				if len(text) > mostSlot || texts[text] {
					t.Errorf("%s of %+v is too long, or another Mark's", tellText(text), m)
				}
				texts[text] = true
			}
		}
	}
}

func TestShowMarkOutOfRange(t *testing.T) {
	for _, m := range append(wrongMarks(), mark(-1, 0), mark(0, -1), inSync(mostStamp+1, 0), inSync(0, mostStamp+1), mark(-1, mostStamp+1)) {
		checkShowMark(t, m, "")
	}
}

func TestPromise13ReadMarkOfShowMarkIsTheMark(t *testing.T) {
	for epoch := range int64(112) {
		for seq := range int64(112) {
			for _, m := range []impl.Mark{mark(epoch, seq), inSync(epoch, seq)} {
				checkReadMark(t, impl.ShowMark(m), m, true)
			}
		}
	}
	n := numbers(181)
	for range 20000 {
		m := n.mark()
		text := impl.ShowMark(m)
		checkReadMark(t, text, m, true)
		if !impl.Whole(text) || len(text) > mostSlot {
			t.Errorf("ShowMark of %+v is %s", m, tellText(text))
		}
	}
}

// wrongWords come close to what a Mark is shown by.
func wrongWords() []string {
	return []string{
		"", " ", "  ", "   ", "0", "1", "3", "3 ", "3 7", "3 7 ", " 3", " 3 7", "371", "37 1", "3 71", " 7 1", "3  1", "3 7  ",
		"3  7 1", "3 7  1", " 3 7 1", "3 7 1 ", "  3 7 1", "3 7 1  ", "3 7 1 1", "3 7 1 0", "3 7 0 1", "3 7 1 7 1", "3 7 1\n", "\n3 7 1", "3 7\n1", "3\n7\n1",
		"03 7 1", "3 07 1", "3 7 01", "3 7 00", "00 7 1", "3 00 1", "000 0 0", "0 00 0", "0 0 00", "01 0 0", "0 01 0", "003 7 1", "0000003 7 1", "3 0000007 1",
		"+3 7 1", "3 +7 1", "3 7 +1", "-3 7 1", "3 -7 1", "3 7 -1", "-0 7 1", "3 -0 1", "3 7 -0", "+0 0 0", "-1 0 0", "0 -1 0", "- 7 1", "3 - 1", "+ 7 1",
		"3 7 2", "3 7 3", "3 7 9", "3 7 10", "3 7 11", "3 7 a", "3 7 true", "3 7 false", "3 7 /", "3 7 :", "3 7 \x00", "3 7 \x01",
		"a 7 1", "3 a 1", "3a 7 1", "3 7a 1", "a3 7 1", "3 a7 1", "3 7 1a", "3 7 a1", "/ 7 1", "3 / 1", ": 7 1", "3 : 1", "3/ 7 1", "3 7/ 1", "3: 7 1", "3 7: 1",
		"\x003 7 1", "3\x00 7 1", "3 7\x00 1", "3 7 1\x00", "3 7 \x001", "3\x007\x001", "\x00 7 1", "3 \x00 1", "0\x000\x000", "\x03 \x07 \x01",
		"3\t7\t1", "3 7\t1", "3\t7 1", "3\r7 1", "3,7,1", "3.7 1", "3. 7 1", "3 7. 1", "1e3 7 1", "0x3 7 1", "0b1 7 1", "1_0 7 1", "3_ 7 1", "\"3\" 7 1",
		"\u0663 7 1", "\uff13 \uff17 \uff11", "3\u00a07\u00a01", "3\u20077 1", "3 7 \u00b9", "\xff 7 1", "3\xff 7 1", "3 7 \xb1", "\xb3 7 1", "3\xa07\xa01",
		"1000001 7 1", "3 1000001 1", "1000002 7 1", "1000010 7 1", "2000000 7 1", "3 2000000 0", "9999999 7 1", "10000000 7 1", "3 10000000 1", "01000000 7 1", "3 01000000 1",
		"99999999 0 0", "999999999 0 0", "9999999999 0 0", "0 999999999 0", "0 10000000000 0", "4294967296 0 0", "4294967299 7 1", "3 4294967303 1",
		"9223372036854775807 7 1", "9223372036854775808 7 1", "18446744073709551615 7 1", "18446744073709551616 7 1", "18446744073709551619 7 1", "3 18446744073709551623 1",
		"3 7 18446744073709551617", "340282366920938463463374607431768211459 7 1", "3" + strings.Repeat("0", 64) + " 7 1", "3 " + strings.Repeat("7", 500) + " 1",
		strings.Repeat("0", 500) + " 7 1", strings.Repeat("1", 5000) + " 7 1", "3 7 " + strings.Repeat("1", 500), strings.Repeat("3 7 1 ", 50), strings.Repeat(" ", 400),
	}
}

func TestReadMarkOfWhatIsNone(t *testing.T) {
	for _, words := range wrongWords() {
		// With the right check it is the words alone that are wrong.
		checkNoMark(t, impl.Checked(words))
		checkNoMark(t, words)
		checkNoMark(t, words+"\x00\x00")
	}
	for _, s := range append(append(trickyTexts(), edgeTexts()...), wrongTexts()...) {
		checkNoMark(t, s)
		checkNoMark(t, impl.Checked(s))
	}
}

// Every body of few bytes of these, with its check behind it.
func TestReadMarkOfAllShortBodies(t *testing.T) {
	found := 0
	bodies := []string{""}
	for len(bodies[0]) <= 6 {
		next := []string{}
		for _, body := range bodies {
			s := plainChecked(body)
			m, is := plainReadMark(s)
			checkReadMark(t, s, m, is)
			if is {
				found++
			}
			for _, b := range []string{"0", "1", "2", " ", "-"} {
				next = append(next, body+b)
			}
		}
		bodies = next
	}
	// Of five bytes 3*3*2, of six (with a number of two digits) 6*3*2, twice.
	if found != 18+2*36 {
		t.Errorf("%d bodies are Marks", found)
	}
}

// Each byte of a body is any other one, and the check is right again.
func TestReadMarkOfEveryOtherByte(t *testing.T) {
	found := 0
	for _, m := range []impl.Mark{mark(0, 0), inSync(3, 7), mark(10, 9), inSync(907, 130), inSync(mostStamp, mostStamp), mark(1, mostStamp)} {
		text := impl.ShowMark(m)
		for i := range len(text) - 2 {
			for b := range 256 {
				body := []byte(text[:len(text)-2])
				body[i] = byte(b)
				s := plainChecked(string(body))
				want, is := plainReadMark(s)
				checkReadMark(t, s, want, is)
				if is {
					found++
				}
			}
		}
	}
	if found < 100 {
		t.Errorf("only %d are Marks", found)
	}
}

// Each byte of a body is left out, and any byte stands between any two.
func TestReadMarkOfOneByteLessAndMore(t *testing.T) {
	found := 0
	for _, m := range []impl.Mark{mark(0, 0), inSync(3, 7), mark(10, 9), inSync(907, 130), mark(99999, mostStamp)} {
		text := impl.ShowMark(m)
		body := text[:len(text)-2]
		bodies := []string{}
		for i := range body {
			bodies = append(bodies, body[:i]+body[i+1:])
			for b := range 256 {
				bodies = append(bodies, body[:i]+string([]byte{byte(b)})+body[i:])
			}
		}
		for _, body := range bodies {
			s := plainChecked(body)
			want, is := plainReadMark(s)
			checkReadMark(t, s, want, is)
			if is {
				found++
			}
		}
	}
	if found < 50 {
		t.Errorf("only %d are Marks", found)
	}
}

func TestReadMarkOfEveryOtherCheck(t *testing.T) {
	for _, m := range []impl.Mark{mark(0, 0), inSync(3, 7), inSync(mostStamp, mostStamp)} {
		text := impl.ShowMark(m)
		body := text[:len(text)-2]
		for check := range int64(65536) {
			s := body + wordText(check)
			if got, is := impl.ReadMark(s); is != (s == text) || !is && got != mark(0, 0) || is && got != m {
				t.Errorf("ReadMark of %s: %+v and %v", tellText(s), got, is)
			}
		}
	}
}

func TestReadMarkOfEveryTurnedBit(t *testing.T) {
	n := numbers(182)
	marks := []impl.Mark{}
	for _, m := range someMarks() {
		marks = append(marks, m)
	}
	for range 300 {
		marks = append(marks, n.mark())
	}
	for _, m := range marks {
		text := impl.ShowMark(m)
		for at := range int64(8 * len(text)) {
			checkNoMark(t, plainSmeared(text, at, 32768))
			checkNoMark(t, plainSmeared(text, at, 32768+int64(n.below(32768))))
		}
	}
}

// One byte less and one more, at either end, also where the text stays Whole.
func TestReadMarkOfLongerAndShorter(t *testing.T) {
	whole := 0
	for text := range someMarks() {
		for size := range len(text) {
			checkNoMark(t, text[:size])
			checkNoMark(t, text[len(text)-size:])
		}
		for b := range 256 {
			one := string([]byte{byte(b)})
			for _, s := range []string{text + one, one + text, text + one + one, one + one + text} {
				checkNoMark(t, s)
				if impl.Whole(s) {
					whole++
				}
			}
		}
		if impl.Whole(text[:len(text)-1]) {
			whole++
		}
		checkNoMark(t, text+text)
		checkNoMark(t, plainChecked(text))
	}
	// A nought or two at either end of each, and two that end with one.
	if want := 4*len(someMarks()) + 2; whole != want {
		t.Errorf("%d of them are Whole, not %d", whole, want)
	}
}

func TestReadMarkAgainstAPlainOne(t *testing.T) {
	n := numbers(183)
	words := append(wrongWords(), "0", "1", "3", "1000000", "999999")
	found := 0
	for range 20000 {
		s := n.slot()
		switch n.below(3) {
		case 0:
			parts := []string{}
			for range 2 + n.below(3) {
				parts = append(parts, words[len(words)-1-n.below(min(len(words), 40))])
			}
			s = plainChecked(strings.Join(parts, " "))
		case 1:
			s = plainChecked(changedText(&n, fmt.Sprintf("%d %d %d", n.stamp(), n.stamp(), n.below(2))))
		}
		m, is := plainReadMark(s)
		checkReadMark(t, s, m, is)
		if is {
			found++
		}
	}
	if found < 3000 || found > 15000 {
		t.Errorf("%d of them are Marks", found)
	}
}

func TestNewestOfSome(t *testing.T) {
	show := impl.ShowMark
	for _, c := range []struct {
		slots  []string
		want   impl.Mark
		number int64
	}{
		{[]string{"", ""}, mark(0, 0), -1},
		{[]string{"a", "3 7 1"}, mark(0, 0), -1},
		{[]string{show(mark(0, 0)), ""}, mark(0, 0), 0},
		{[]string{"", show(mark(0, 0))}, mark(0, 0), 1},
		{[]string{show(inSync(3, 7)), "3 7 1\xe7"}, inSync(3, 7), 0},
		{[]string{"3 7 1\xe7", show(inSync(3, 7))}, inSync(3, 7), 1},
		// The Epoch goes ahead of the Seq.
		{[]string{show(mark(4, 0)), show(mark(3, 9))}, mark(4, 0), 0},
		{[]string{show(mark(3, 9)), show(mark(4, 0))}, mark(4, 0), 1},
		{[]string{show(mark(3, mostStamp)), show(mark(4, 0))}, mark(4, 0), 1},
		{[]string{show(mark(3, 8)), show(mark(3, 9))}, mark(3, 9), 1},
		{[]string{show(mark(3, 9)), show(mark(3, 8))}, mark(3, 9), 0},
		// It is numbers that are greater, not texts.
		{[]string{show(mark(9, 0)), show(mark(10, 0))}, mark(10, 0), 1},
		{[]string{show(mark(3, 10)), show(mark(3, 9))}, mark(3, 10), 0},
		{[]string{show(mark(999999, 1)), show(mark(mostStamp, 0))}, mark(mostStamp, 0), 1},
		// Of alike ones it is slot 0, whatever Sync is.
		{[]string{show(mark(3, 7)), show(mark(3, 7))}, mark(3, 7), 0},
		{[]string{show(mark(3, 7)), show(inSync(3, 7))}, mark(3, 7), 0},
		{[]string{show(inSync(3, 7)), show(mark(3, 7))}, inSync(3, 7), 0},
		{[]string{show(mark(0, 0)), show(inSync(0, 0))}, mark(0, 0), 0},
		// Sync is no greater number.
		{[]string{show(inSync(3, 7)), show(mark(3, 8))}, mark(3, 8), 1},
		{[]string{show(mark(3, 8)), show(inSync(3, 7))}, mark(3, 8), 0},
		{[]string{noughtText(40), show(mark(1, 1))}, mark(1, 1), 1},
		{[]string{show(mark(1, 1)), noughtText(40)}, mark(1, 1), 0},
		{[]string{noughtText(41), show(mark(1, 1))}, mark(0, 0), -1},
		{[]string{show(mark(1, 1)), noughtText(41)}, mark(0, 0), -1},
		{[]string{show(mark(1, 1))}, mark(0, 0), -1},
		{[]string{show(mark(1, 1)), show(mark(2, 1)), ""}, mark(0, 0), -1},
		{[]string{show(mark(1, 1)), show(mark(2, 1)), show(mark(3, 1))}, mark(0, 0), -1},
		{nil, mark(0, 0), -1},
	} {
		checkNewest(t, c.slots, c.want, c.number)
	}
}

func TestNewestOfWrongSlots(t *testing.T) {
	for _, slots := range wrongSlots() {
		checkNewest(t, slots, mark(0, 0), -1)
	}
}

func TestMarkedOfSome(t *testing.T) {
	show := impl.ShowMark
	a, b := show(inSync(3, 7)), show(mark(3, 6))
	for _, c := range []struct {
		slots []string
		m     impl.Mark
		want  []string
		is    bool
	}{
		{[]string{"", ""}, mark(0, 0), []string{show(mark(0, 0)), ""}, true},
		{[]string{"", ""}, inSync(mostStamp, mostStamp), []string{"1000000 1000000 1\x27\x6f", ""}, true},
		{[]string{"left", "right"}, mark(3, 7), []string{show(mark(3, 7)), "right"}, true},
		{[]string{a, ""}, mark(3, 8), []string{a, show(mark(3, 8))}, true},
		{[]string{"", a}, mark(3, 8), []string{show(mark(3, 8)), a}, true},
		{[]string{a, "torn"}, mark(4, 0), []string{a, show(mark(4, 0))}, true},
		{[]string{"torn", a}, mark(4, 0), []string{show(mark(4, 0)), a}, true},
		{[]string{a, b}, mark(3, 8), []string{a, show(mark(3, 8))}, true},
		{[]string{b, a}, mark(3, 8), []string{show(mark(3, 8)), a}, true},
		{[]string{a, a}, mark(5, 0), []string{a, show(mark(5, 0))}, true},
		// Alike it may be, and Sync does not count.
		{[]string{a, b}, inSync(3, 7), []string{a, a}, true},
		{[]string{b, a}, inSync(3, 7), []string{a, a}, true},
		{[]string{a, b}, mark(3, 7), []string{a, show(mark(3, 7))}, true},
		{[]string{b, a}, mark(3, 7), []string{show(mark(3, 7)), a}, true},
		{[]string{a, a}, mark(3, 7), []string{a, show(mark(3, 7))}, true},
		// Less it may not be, by the Epoch first.
		{[]string{a, b}, inSync(3, 6), []string{a, b}, false},
		{[]string{b, a}, inSync(3, 6), []string{b, a}, false},
		{[]string{a, b}, inSync(2, 7), []string{a, b}, false},
		{[]string{a, b}, inSync(2, mostStamp), []string{a, b}, false},
		{[]string{a, b}, mark(4, 0), []string{a, show(mark(4, 0))}, true},
		{[]string{"", show(mark(0, 1))}, mark(0, 0), []string{"", show(mark(0, 1))}, false},
		{[]string{show(mark(10, 0)), ""}, mark(9, 5), []string{show(mark(10, 0)), ""}, false},
		// It is Newest that counts, not what it would come in the place of.
		{[]string{a, show(mark(9, 9))}, mark(9, 8), []string{a, show(mark(9, 9))}, false},
		{[]string{a, b}, mark(-1, 0), []string{a, b}, false},
		{[]string{a, b}, mark(4, -1), []string{a, b}, false},
		{[]string{a, b}, mark(mostStamp+1, 0), []string{a, b}, false},
		{[]string{a, b}, mark(4, mostStamp+1), []string{a, b}, false},
		{[]string{"", ""}, mark(0, -1), []string{"", ""}, false},
		{[]string{"left", "right"}, mark(math.MaxInt64, math.MaxInt64), []string{"left", "right"}, false},
		{[]string{noughtText(40), noughtText(40)}, mark(1, 2), []string{show(mark(1, 2)), noughtText(40)}, true},
		{[]string{noughtText(41), ""}, mark(1, 2), nil, false},
		{[]string{"", noughtText(41)}, mark(1, 2), nil, false},
		{[]string{a}, mark(4, 2), nil, false},
		{[]string{a, b, ""}, mark(4, 2), nil, false},
		{nil, mark(4, 2), nil, false},
		{[]string{a, b, ""}, mark(-1, 2), nil, false},
		{[]string{a, b, ""}, mark(1, 2), nil, false},
	} {
		checkMarked(t, c.slots, c.m, c.want, c.is)
	}
}

func TestMarkCutOfSome(t *testing.T) {
	a, b := impl.ShowMark(inSync(3, 7)), impl.ShowMark(mark(3, 6))
	next := inSync(12, 345)
	text := impl.ShowMark(next)
	size := int64(len(text))
	for bytes, left := range map[int64]string{
		math.MinInt64: "", -2: "", -1: "", 0: "", 1: "1", 2: "12", 3: "12 ", size - 3: "12 345 ", size - 2: "12 345 1",
		size - 1: text[:size-1], size: text, size + 1: text, 40: text, 41: text, 1 << 32: text, math.MaxInt64: text,
	} {
		checkMarkCut(t, []string{"", ""}, next, bytes, []string{left, ""})
		checkMarkCut(t, []string{"left", "right"}, next, bytes, []string{left, "right"})
		checkMarkCut(t, []string{a, b}, next, bytes, []string{a, left})
		checkMarkCut(t, []string{b, a}, next, bytes, []string{left, a})
		checkMarkCut(t, []string{a, ""}, next, bytes, []string{a, left})
		checkMarkCut(t, []string{"", a}, next, bytes, []string{left, a})
		checkMarkCut(t, []string{a, a}, next, bytes, []string{a, left})
		// As they are where Marked says false: less, none, slots that are not as told.
		for _, m := range []impl.Mark{mark(3, 6), inSync(2, 9), mark(0, 0), mark(-1, 0), mark(3, -1), mark(mostStamp+1, 0), mark(4, mostStamp+1), mark(math.MinInt64, math.MaxInt64)} {
			checkMarkCut(t, []string{a, b}, m, bytes, []string{a, b})
			checkMarkCut(t, []string{"torn", a}, m, bytes, []string{"torn", a})
		}
		checkMarkCut(t, []string{"", ""}, mark(0, mostStamp+1), bytes, []string{"", ""})
		for _, slots := range [][]string{nil, {a}, {a, b, ""}, {"", "", ""}, {a, noughtText(41)}, {noughtText(41), ""}} {
			checkMarkCut(t, slots, next, bytes, slots)
			checkMarkCut(t, slots, mark(-1, 0), bytes, slots)
		}
	}
}

// Any two slots of these, and any of these Marks.
func TestSlotsOfManyAgainstPlainOnes(t *testing.T) {
	n := numbers(184)
	show := plainShowMark
	pool := []string{
		"", "3 7 1", noughtText(40), n.text(40), show(mark(0, 0)), show(inSync(0, 0)), show(mark(0, 1)), show(mark(1, 0)), show(inSync(1, 0)), show(mark(9, 1)),
		show(mark(10, 0)), show(mark(mostStamp, mostStamp)), show(mark(mostStamp, 0)), show(mark(1, 0))[:6], plainChecked("01 0 1"), plainChecked("1000001 0 1"), show(mark(1, 1)) + "\x00",
	}
	marks := []impl.Mark{
		mark(0, 0), inSync(0, 0), mark(0, 1), inSync(1, 0), mark(1, 1), mark(9, 1), inSync(10, 0), mark(9, 2), mark(10, 1), mark(0, mostStamp), mark(mostStamp, 0),
		mark(mostStamp, 1), mark(mostStamp, mostStamp), inSync(mostStamp, mostStamp), mark(mostStamp, mostStamp-1), mark(-1, 3), mark(3, mostStamp+1),
	}
	done, refused := 0, 0
	for _, first := range pool {
		for _, second := range pool {
			slots := []string{first, second}
			for _, m := range marks {
				size := int64(len(show(m)))
				checkSlots(t, slots, m, []int64{-1, 0, 1, size - 1, size, size + 1})
				if _, is := impl.Marked(slots, m); is {
					done++
				} else {
					refused++
				}
			}
		}
	}
	if done < 1000 || refused < 1000 {
		t.Errorf("%d were done, %d refused", done, refused)
	}
}

func TestSlotsAgainstPlainOnes(t *testing.T) {
	n := numbers(185)
	for range 6000 {
		slots, m := n.slots(), n.mark()
		if newest, _ := plainNewest(slots); n.below(2) == 0 {
			m.Epoch = newest.Epoch
		}
		edges := edgeCuts(int64(len(plainShowMark(m))))
		checkSlots(t, slots, m, []int64{edges[n.below(len(edges))], int64(n.below(24))})
	}
}

func TestSlotsOfWrongInputs(t *testing.T) {
	a, b := plainShowMark(mark(3, 7)), plainShowMark(inSync(4, 0))
	for _, m := range wrongMarks() {
		for _, slots := range [][]string{{"", ""}, {a, b}, {b, a}, {a, "torn"}, {"", b}} {
			checkMarked(t, slots, m, slots, false)
			for _, bytes := range []int64{math.MinInt64, -1, 0, 1, 7, math.MaxInt64} {
				checkMarkCut(t, slots, m, bytes, slots)
			}
		}
	}
	for _, slots := range wrongSlots() {
		for _, m := range []impl.Mark{mark(0, 0), inSync(3, 8), mark(5, 0), mark(mostStamp, mostStamp), mark(-1, 0), mark(math.MinInt64, math.MaxInt64)} {
			checkMarked(t, slots, m, nil, false)
			for _, bytes := range edgeCuts(int64(len(plainShowMark(m)))) {
				checkMarkCut(t, slots, m, bytes, slots)
			}
		}
	}
}

// checkForward writes m, of which so many bytes come to be there, and asks that
// Newest does not go back; it tells what the slots are then.
func checkForward(t *testing.T, slots []string, m impl.Mark, bytes int64) []string {
	t.Helper()
	before, number := impl.Newest(slots)
	marked, is := impl.Marked(slots, m)
	got := impl.MarkCut(slots, m, bytes)
	after, numberThen := impl.Newest(got)
	what := fmt.Sprintf("%+v, %d bytes of it, to %s", m, bytes, tellTexts(slots))
	if number >= 0 && (numberThen < 0 || rankOf(after) < rankOf(before)) {
		t.Fatalf("%s: Newest goes back to %+v", what, after)
	}
	if is != (number < 0 || rankOf(m) >= rankOf(before)) {
		t.Fatalf("%s: Marked says %v", what, is)
	}
	whole := bytes >= int64(len(impl.ShowMark(m)))
	switch {
	case !is && (!slices.Equal(got, slots) || !slices.Equal(marked, slots)):
		t.Fatalf("%s: refused, and they became %s", what, tellTexts(got))
	case is && whole && !slices.Equal(got, marked):
		t.Fatalf("%s: %s, not %s", what, tellTexts(got), tellTexts(marked))
	case is && whole && (rankOf(after) != rankOf(m) || rankOf(m) > rankOf(before) && after != m):
		t.Fatalf("%s: Newest is %+v", what, after)
	case !whole && (after != before || numberThen != number):
		t.Fatalf("%s: Newest is %+v, though it was not written", what, after)
	}
	return got
}

// All short scripts of few Marks, cut at each byte or not.
func TestPromise13AllShortScripts(t *testing.T) {
	marks := []impl.Mark{}
	for i := range int64(8) {
		marks = append(marks, impl.Mark{Epoch: i / 4, Seq: i / 2 % 2, Sync: i%2 == 1})
	}
	seen := map[[2]string]bool{}
	var follow func(slots []string, left int)
	follow = func(slots []string, left int) {
		seen[[2]string(slots)] = true
		if left == 0 {
			return
		}
		for _, m := range marks {
			for _, bytes := range []int64{0, 4, 6, 7} {
				follow(checkForward(t, slots, m, bytes), left-1)
			}
		}
	}
	follow([]string{"", ""}, 3)
	// Each slots that are met, with every cut, once more.
	met := 0
	for slots := range seen {
		for _, m := range marks {
			for bytes := range int64(9) {
				checkForward(t, slots[:], m, bytes)
			}
		}
		met++
	}
	if met < 100 {
		t.Errorf("only %d slots are met", met)
	}
}

// nextMark is a little newer than Newest, or alike, or less, or any.
func (n *numbers) nextMark(newest impl.Mark) impl.Mark {
	m := impl.Mark{Epoch: newest.Epoch, Seq: newest.Seq, Sync: n.below(2) == 0}
	switch n.below(8) {
	case 0:
		m.Epoch += int64(n.below(3)) - 1
	case 1:
		m.Epoch++
		m.Seq = int64(n.below(3))
	case 2:
		m.Seq -= int64(n.below(3))
	case 3:
		m = n.mark()
	case 4:
		m.Seq += int64(n.below(1000))
	case 5, 6, 7:
		m.Seq++
	}
	m.Epoch, m.Seq = max(0, min(m.Epoch, mostStamp)), max(0, min(m.Seq, mostStamp))
	return m
}

func TestPromise13NewestNeverGoesBack(t *testing.T) {
	n := numbers(186)
	for script := range 300 {
		slots := []string{"", ""}
		greatest := int64(-1)
		for range 40 {
			newest, number := impl.Newest(slots)
			if number >= 0 && rankOf(newest) < greatest || number < 0 && greatest >= 0 {
				t.Fatalf("script %d: Newest of %s is %+v", script, tellTexts(slots), newest)
			}
			if number >= 0 {
				greatest = rankOf(newest)
			}
			m := n.nextMark(newest)
			if script%3 == 0 && n.below(4) > 0 {
				m.Epoch = newest.Epoch
			}
			switch n.below(3) {
			case 0:
				slots = checkForward(t, slots, m, int64(n.below(22))-1)
			case 1:
				slots = checkForward(t, slots, m, math.MaxInt64)
			case 2:
				before := slots
				slots, _ = impl.Marked(slots, m)
				if want := checkForward(t, before, m, math.MaxInt64); !slices.Equal(slots, want) {
					t.Fatalf("Marked and MarkCut of all of %+v to %s: %s and %s", m, tellTexts(before), tellTexts(slots), tellTexts(want))
				}
			}
		}
	}
}

// Wherever a text is cut, again and again, the Mark can be written all the same.
func TestPromise13EveryCutOfEachStep(t *testing.T) {
	n := numbers(187)
	for range 40 {
		slots := []string{"", ""}
		for range 20 {
			newest, _ := impl.Newest(slots)
			m := n.nextMark(newest)
			torn := slots
			for bytes := range int64(len(impl.ShowMark(m)) + 2) {
				cut := checkForward(t, slots, m, bytes)
				checkForward(t, cut, m, math.MaxInt64)
				if bytes < int64(len(impl.ShowMark(m))) {
					torn = checkForward(t, torn, m, bytes)
				}
			}
			slots = checkForward(t, torn, m, math.MaxInt64)
		}
	}
}

// No first bytes of a Mark's text are a Mark, whatever its check is.
func TestPromise13NoPartOfAMarkIsOne(t *testing.T) {
	n := numbers(188)
	for range 3000 {
		text := impl.ShowMark(n.mark())
		for size := range len(text) {
			checkNoMark(t, text[:size])
		}
	}
}

// It holds of all slots that are as told, whatever stands in them.
func TestPromise13FromAnySlots(t *testing.T) {
	n := numbers(189)
	for range 4000 {
		slots := n.slots()
		for range 3 {
			newest, _ := impl.Newest(slots)
			slots = checkForward(t, slots, n.nextMark(newest), int64(n.below(26))-1)
		}
	}
}

// With the greatest numbers nothing but the same may come.
func TestPromise13AtTheEnd(t *testing.T) {
	last := inSync(mostStamp, mostStamp)
	slots := checkForward(t, []string{"", ""}, last, 40)
	for _, m := range []impl.Mark{mark(mostStamp, mostStamp-1), mark(mostStamp-1, mostStamp), mark(0, 0), mark(mostStamp, mostStamp+1), mark(mostStamp+1, mostStamp), mark(mostStamp+1, 0)} {
		checkMarked(t, slots, m, slots, false)
	}
	checkMarked(t, slots, last, []string{slots[0], slots[0]}, true)
	checkMarked(t, slots, mark(mostStamp, mostStamp), []string{slots[0], "1000000 1000000 0\xef\x08"}, true)
}

// checkOwnTexts asks whether an answer shares memory with what was handed in, or
// within itself, and writes to all of it.
func checkOwnTexts(t *testing.T, what string, answer []string, slots []string) {
	t.Helper()
	for i, text := range answer {
		for _, other := range slices.Concat(slots, answer[:i]) {
			if sharesMemory(text, other) {
				t.Errorf("%s: %s shares memory with another text", what, tellText(text))
			}
		}
	}
	overwriteTexts(answer)
}

// ownTexts are copies, of which no two share memory.
func ownTexts(list []string) []string {
	own := []string{}
	for _, text := range list {
		own = append(own, strings.Clone(text))
	}
	return own
}

func TestPromise21SlotsAreNewMemory(t *testing.T) {
	n := numbers(190)
	wrong := wrongSlots()
	for trial := range 3000 {
		list := n.slots()
		if trial%4 == 0 {
			list = wrong[n.below(len(wrong))]
		}
		newest, _ := impl.Newest(list)
		m := n.nextMark(newest)
		if trial%5 == 0 {
			m = mark(-1, 0)
		}
		before := ownTexts(list)
		slots, check := withRoomBehind(t, ownTexts(list), "mark")
		bytes := int64(n.below(26)) - 1
		again, _ := impl.Marked(slots, m)
		want := slices.Clone(again)
		got, _ := impl.Marked(slots, m)
		checkOwnTexts(t, "Marked", got, slots)
		check("Marked")
		if !slices.Equal(again, want) {
			t.Error("Marked: two answers share memory")
		}
		checkOwnTexts(t, "MarkCut", impl.MarkCut(slots, m, bytes), slots)
		check("MarkCut")
		impl.Newest(slots)
		check("Newest")
		if !slices.Equal(slots, before) {
			t.Errorf("%s became %s", tellTexts(before), tellTexts(slots))
		}
	}
}

// Slots grow in two ways, and neither is seen in the other one.
func TestPromise21TwoSlotsThatGrowFromOne(t *testing.T) {
	slots := []string{"", ""}
	for seq := range int64(100) {
		before := ownTexts(slots)
		left, _ := impl.Marked(slots, mark(1, seq))
		leftWas := ownTexts(left)
		right, _ := impl.Marked(slots, inSync(2, seq))
		impl.Marked(left, mark(1, seq+1))
		impl.MarkCut(left, mark(1, seq+1), 4)
		if !slices.Equal(slots, before) || !slices.Equal(left, leftWas) {
			t.Fatalf("%s became %s, or %s became %s", tellTexts(before), tellTexts(slots), tellTexts(leftWas), tellTexts(left))
		}
		if newest, _ := impl.Newest(left); newest != mark(1, seq) {
			t.Fatalf("Newest of %s is %+v", tellTexts(left), newest)
		}
		if newest, _ := impl.Newest(right); newest != inSync(2, seq) {
			t.Fatalf("Newest of %s is %+v", tellTexts(right), newest)
		}
		slots = left
	}
}

func TestPromise21SlotsNeverPanic(t *testing.T) {
	n := numbers(191)
	texts := append(append(append(trickyTexts(), edgeTexts()...), wrongTexts()...), wrongWords()...)
	for _, words := range wrongWords() {
		texts = append(texts, impl.Checked(words))
	}
	far := append(append(farNumbers(), edgeStamps()...), 39, 40, 41)
	pick := func() int64 { return far[n.below(len(far))] }
	for _, s := range texts {
		neverPanics(t, "ReadMark of "+tellText(s), func() { impl.ReadMark(s) })
	}
	for range 5000 {
		slots := n.slots()
		if n.below(3) == 0 {
			slots = []string{}
			for range n.below(5) {
				slots = append(slots, texts[n.below(len(texts))])
			}
		}
		m := impl.Mark{Epoch: pick(), Seq: pick(), Sync: n.below(2) == 0}
		bytes := pick()
		neverPanics(t, fmt.Sprintf("a call of %s, %+v, %d", tellTexts(slots), m, bytes), func() {
			impl.ShowMark(m)
			impl.Newest(slots)
			impl.Marked(slots, m)
			impl.MarkCut(slots, m, bytes)
		})
	}
}

// What one call does must not show in the next one.
func TestSlotsAnswerAgainAlike(t *testing.T) {
	a, b := "3 7 1\xe7\x19", "9 10 0\xdd\x60"
	for range 3 {
		checkShowMark(t, inSync(3, 7), a)
		checkShowMark(t, mark(-1, 7), "")
		checkReadMark(t, b, mark(9, 10), true)
		checkNoMark(t, "9 10 1\xdd\x60")
		checkNewest(t, []string{a, b}, mark(9, 10), 1)
		checkNewest(t, []string{a}, mark(0, 0), -1)
		checkMarked(t, []string{a, ""}, mark(9, 10), []string{a, b}, true)
		checkMarked(t, []string{"", b}, inSync(3, 7), []string{"", b}, false)
		checkMarkCut(t, []string{a, ""}, mark(9, 10), 4, []string{a, "9 10"})
		checkMarkCut(t, []string{a, b}, inSync(3, 7), 4, []string{a, b})
	}
}
