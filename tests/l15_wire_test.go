package tests

import (
	"fmt"
	"math"
	"regexp"
	"slices"
	"strconv"
	"strings"
	"testing"

	"loop.example/g00223/impl"
)

func putNote(to int64, epoch int64, seq int64, number int64, text string) impl.Note {
	return impl.Note{Kind: impl.NtPut, To: to, Epoch: epoch, Seq: seq, At: number, Text: text}
}

func copyNote(to int64, epoch int64, seq int64, values ...string) impl.Note {
	return impl.Note{Kind: impl.NtCopy, To: to, Epoch: epoch, Seq: seq, Values: values}
}

func haveNote(to int64, epoch int64, seq int64) impl.Note {
	return impl.Note{Kind: impl.NtHave, To: to, Epoch: epoch, Seq: seq}
}

func plainNoteOk(n impl.Note) bool {
	if n.To*n.To != n.To || min(n.Epoch, n.Seq) < 0 || max(n.Epoch, n.Seq) > mostStamp {
		return false
	}
	if !plainPutOk(put(1, n.At, n.Text)) || !plainValuesOk(n.Values) {
		return false
	}
	noPut, noValues := n.At == 0 && n.Text == "", len(n.Values) == 0
	return n.Kind == 1 && noValues || n.Kind == 2 && noPut || n.Kind == 3 && noPut && noValues
}

// plainNoteBody is what stands ahead of the check, whatever the Note is.
func plainNoteBody(n impl.Note) string {
	head := fmt.Sprintf("%d %d %d %d %d %d %d", n.Kind, n.To, n.Epoch, n.Seq, n.At, len(n.Text), len(n.Values))
	tail := n.Text
	for _, value := range n.Values {
		head += fmt.Sprintf(" %d", len(value))
		tail += value
	}
	return head + "\n" + tail
}

func plainShowNote(n impl.Note) string {
	if !plainNoteOk(n) {
		return ""
	}
	return plainChecked(plainNoteBody(n))
}

var plainNumber = regexp.MustCompile(`^(0|[1-9][0-9]{0,8})$`)

// plainReadNote takes s to pieces and asks of each one whether it is right.
func plainReadNote(s string) (impl.Note, bool) {
	if len(s) < 2 || plainChecked(s[:len(s)-2]) != s {
		return impl.Note{}, false
	}
	lines := strings.SplitN(s[:len(s)-2], "\n", 2)
	told := []int64{}
	for _, word := range strings.Split(lines[0], " ") {
		if !plainNumber.MatchString(word) {
			return impl.Note{}, false
		}
		value, _ := strconv.ParseInt(word, 10, 64)
		told = append(told, value)
	}
	if len(lines) < 2 || len(told) < 7 || int64(len(told)) != 7+told[6] {
		return impl.Note{}, false
	}
	texts, left := []string{}, lines[1]
	for _, size := range append([]int64{told[5]}, told[7:]...) {
		if size > int64(len(left)) {
			return impl.Note{}, false
		}
		texts, left = append(texts, left[:size]), left[size:]
	}
	n := impl.Note{Kind: told[0], To: told[1], Epoch: told[2], Seq: told[3], At: told[4], Text: texts[0], Values: texts[1:]}
	if left != "" || !plainNoteOk(n) {
		return impl.Note{}, false
	}
	return n, true
}

func sameNote(a impl.Note, b impl.Note) bool {
	return a.Kind == b.Kind && a.To == b.To && a.Epoch == b.Epoch && a.Seq == b.Seq && a.At == b.At && a.Text == b.Text && slices.Equal(a.Values, b.Values)
}

func tellNote(n impl.Note) string {
	return fmt.Sprintf("{%d %d %d %d %d %s %s}", n.Kind, n.To, n.Epoch, n.Seq, n.At, tellText(n.Text), tellTexts(n.Values))
}

// guardedNote is a copy of n with room behind its Values, and a check that
// nothing of it was written to.
func guardedNote(t *testing.T, n impl.Note) (impl.Note, func(what string)) {
	t.Helper()
	values, check := withRoomBehind(t, n.Values, "mark")
	n.Values = values
	return n, check
}

func checkNoteOk(t *testing.T, n impl.Note, want bool) {
	t.Helper()
	n, check := guardedNote(t, n)
	if got := impl.NoteOk(n); got != want {
		t.Errorf("NoteOk of %s: %v, not %v", tellNote(n), got, want)
	}
	check("NoteOk")
}

func checkShowNote(t *testing.T, n impl.Note, want string) {
	t.Helper()
	n, check := guardedNote(t, n)
	if got := impl.ShowNote(n); got != want {
		t.Errorf("ShowNote of %s: %s, not %s", tellNote(n), tellText(got), tellText(want))
	}
	check("ShowNote")
}

func checkReadNote(t *testing.T, s string, want impl.Note, wantIs bool) {
	t.Helper()
	if got, is := impl.ReadNote(s); !sameNote(got, want) || is != wantIs {
		t.Errorf("ReadNote of %s: %s and %v, not %s and %v", tellText(s), tellNote(got), is, tellNote(want), wantIs)
	}
}

func checkNoNote(t *testing.T, s string) {
	t.Helper()
	checkReadNote(t, s, impl.Note{}, false)
}

// checkRead holds ReadNote against the plain one, and tells whether it is a Note.
func checkRead(t *testing.T, s string) bool {
	t.Helper()
	want, is := plainReadNote(s)
	checkReadNote(t, s, want, is)
	return is
}

// checkNote holds all functions against the plain ones, and tells whether n is
// right. What would be shown of one that is not must not be read as one.
func checkNote(t *testing.T, n impl.Note) bool {
	t.Helper()
	is := plainNoteOk(n)
	checkNoteOk(t, n, is)
	text := plainShowNote(n)
	checkShowNote(t, n, text)
	if is {
		checkReadNote(t, text, n, true)
		return true
	}
	checkNoNote(t, text)
	checkNoNote(t, impl.Checked(plainNoteBody(n)))
	return false
}

// noteTexts are Texts and Values that look like what stands about them, too.
func noteTexts() []string {
	return append(edgeTextsOfPuts(), "0", "00", "1", "12", " 1", "1 ", "  ", "\n\n", "\n1", "1\n", "a\nb c", "3 0 0 0 0 0 0\n", "3 0 0 0 0 0 0\n;\xb3", "\x00\x00", "\xff\xff", "-1", strings.Repeat("\n", 24), strings.Repeat("7", 24), strings.Repeat(" ", 24), strings.Repeat("\xff", 24))
}

// edgeNotes are right ones at every limit.
func edgeNotes() []impl.Note {
	notes := []impl.Note{}
	full := slices.Repeat([]string{noughtText(24)}, 64)
	stamps := []int64{0, 1, 9, 10, 999999, mostStamp}
	for to := range int64(2) {
		for _, epoch := range stamps {
			for _, seq := range stamps {
				notes = append(notes, haveNote(to, epoch, seq), putNote(to, epoch, seq, 0, ""), putNote(to, epoch, seq, 63, "hey"), copyNote(to, epoch, seq), copyNote(to, epoch, seq, "a", "", "bc"))
			}
		}
		for _, text := range noteTexts() {
			for _, number := range []int64{0, 1, 9, 10, 62, 63} {
				notes = append(notes, putNote(to, 3, 4, number, text))
			}
			notes = append(notes, copyNote(to, 3, 4, text), copyNote(to, 3, 4, text, text), copyNote(to, 3, 4, "", text), copyNote(to, 3, 4, text, "", "1"), copyNote(to, 3, 4, slices.Repeat([]string{text}, 64)...))
		}
		for _, count := range []int{0, 1, 2, 9, 10, 63, 64} {
			notes = append(notes, copyNote(to, mostStamp, mostStamp, make([]string, count)...), copyNote(to, mostStamp, mostStamp, full[:count]...))
		}
	}
	return notes
}

// wrongNotes are each wrong in one thing, or in more.
func wrongNotes() []impl.Note {
	notes := []impl.Note{{}, {Text: "a"}, {Values: []string{"a"}}, {To: 1, Epoch: 3, Seq: 4}, {At: 3}}
	right := []impl.Note{putNote(1, 3, 4, 5, "hey"), putNote(0, 0, 0, 0, ""), copyNote(1, 3, 4, "a", "", "bc"), copyNote(0, 0, 0), haveNote(1, 3, 4), haveNote(0, 0, 0)}
	numbers := append(wrongNumbers(), farNumbers()...)
	for _, n := range right {
		for _, wrong := range numbers {
			kind, to, epoch, seq, number, all := n, n, n, n, n, n
			kind.Kind, to.To, epoch.Epoch, seq.Seq, number.At = wrong, wrong, wrong, wrong, wrong
			all.To, all.Epoch, all.Seq, all.At = wrong, wrong, wrong, wrong
			notes = append(notes, kind, to, epoch, seq, number, all)
		}
		for _, wrong := range []int64{0, 4, 5, 255, 256, 257, 258, 259} {
			kind := n
			kind.Kind = wrong
			notes = append(notes, kind)
		}
		for _, wrong := range []int64{2, 3, 4, 63, 255, 256, 257} {
			to := n
			to.To = wrong
			notes = append(notes, to)
		}
		for _, wrong := range []int64{64, 65, 127, 128, 255, 256, 257, mostStamp} {
			number := n
			number.At = wrong
			notes = append(notes, number)
		}
		for _, long := range longTexts() {
			text := n
			text.Text = long
			notes = append(notes, text)
		}
		for _, wrong := range wrongValues() {
			values := n
			values.Values = wrong
			notes = append(notes, values)
		}
	}
	return append(notes, untoldNotes()...)
}

// untoldNotes are right but for a field that their Kind does not tell.
func untoldNotes() []impl.Note {
	notes := []impl.Note{}
	for _, values := range [][]string{{""}, {"", ""}, {"a"}, {"a", "", "bc"}, make([]string, 64), slices.Repeat([]string{noughtText(24)}, 64)} {
		for _, n := range []impl.Note{putNote(1, 3, 4, 5, "hey"), putNote(0, 0, 0, 0, ""), putNote(0, 7, 1, 63, ""), putNote(0, 7, 1, 0, noughtText(24)), haveNote(1, 3, 4), haveNote(0, 0, 0)} {
			n.Values = values
			notes = append(notes, n)
		}
	}
	for _, n := range []impl.Note{copyNote(1, 3, 4, "a", "", "bc"), copyNote(0, 0, 0), copyNote(1, 0, 0, ""), copyNote(0, 7, 1, make([]string, 64)...), haveNote(1, 3, 4), haveNote(0, 0, 0)} {
		for _, number := range []int64{1, 2, 5, 62, 63} {
			wrong := n
			wrong.At = number
			notes = append(notes, wrong)
		}
		for _, text := range noteTexts() {
			for _, number := range []int64{0, 1, 63} {
				wrong := n
				wrong.At, wrong.Text = number, text
				if number > 0 || text != "" {
					notes = append(notes, wrong)
				}
			}
		}
		if n.Kind == impl.NtHave {
			n.At, n.Text, n.Values = 5, "hey", []string{"a"}
			notes = append(notes, n)
		}
	}
	return notes
}

// noteValues are mostly few and short, and at times as many as may be.
func (n *numbers) noteValues() []string {
	if n.below(6) == 0 {
		return n.values()
	}
	texts, values := noteTexts(), []string{}
	for range n.below(6) {
		switch n.below(3) {
		case 0:
			values = append(values, texts[n.below(len(texts))])
		case 1:
			values = append(values, n.text(n.below(4)))
		case 2:
			values = append(values, strconv.Itoa(n.below(300)))
		}
	}
	return values
}

func (n *numbers) note() impl.Note {
	to, epoch, seq := int64(n.below(2)), n.stamp(), n.stamp()
	switch n.below(5) {
	case 0:
		return haveNote(to, epoch, seq)
	case 1, 2:
		p := n.put(1)
		texts := noteTexts()
		if n.below(3) == 0 {
			p.Text = texts[n.below(len(texts))]
		}
		return putNote(to, epoch, seq, p.At, p.Text)
	}
	return copyNote(to, epoch, seq, n.noteValues()...)
}

// wrongNote is one with a field changed, mostly so that it is not right any more.
func (n *numbers) wrongNote(note impl.Note) impl.Note {
	far := append(farNumbers(), wrongNumbers()...)
	wrong := far[n.below(len(far))]
	if n.below(2) == 0 {
		wrong = int64(n.below(8)) - 2
	}
	switch n.below(7) {
	case 0:
		note.Kind = wrong
	case 1:
		note.To = wrong
	case 2:
		note.Epoch = wrong
	case 3:
		note.Seq = wrong
	case 4:
		note.At = wrong
	case 5:
		note.Text = n.text(n.below(30))
	case 6:
		note.Values = append(slices.Clone(note.Values), n.text(n.below(30)))
	}
	return note
}

// someNotes are shown with checks that were worked out apart from the program;
// those of the last ones are, or have, a byte 10, a blank, digits or noughts.
func someNotes() map[string]impl.Note {
	return map[string]impl.Note{
		"2 1 3 4 0 0 3 1 0 2\nabc\xb1\x97":                            copyNote(1, 3, 4, "a", "", "bc"),
		"1 0 0 0 0 0 0\n\xee\x92":                                     putNote(0, 0, 0, 0, ""),
		"1 1 0 0 0 0 0\n\xd1\xa2":                                     putNote(1, 0, 0, 0, ""),
		"1 0 5 6 7 3 0\nhey\x67\xcd":                                  putNote(0, 5, 6, 7, "hey"),
		"1 0 1 2 3 4 0\n 4\n5\xcb\x80":                                putNote(0, 1, 2, 3, " 4\n5"),
		"1 1 10 9 12 2 0\n\xff\x00\xb5\x01":                           putNote(1, 10, 9, 12, "\xff\x00"),
		"1 0 0 1 0 14 0\n3 0 0 0 0 0 0\n\xf7\x25":                     putNote(0, 0, 1, 0, "3 0 0 0 0 0 0\n"),
		"1 1 1000000 1000000 63 24 0\n" + noughtText(24) + "\x99\xc9": putNote(1, mostStamp, mostStamp, 63, noughtText(24)),
		"2 0 0 0 0 0 0\n\xb5\x10":                                     copyNote(0, 0, 0),
		"2 0 1 2 0 0 1 0\n\xd3\x9c":                                   copyNote(0, 1, 2, ""),
		"2 0 1 2 0 0 2 0 0\n\x0b\x40":                                 copyNote(0, 1, 2, "", ""),
		"2 1 99 100 0 0 2 1 1\nab\x9d\xa6":                            copyNote(1, 99, 100, "a", "b"),
		"2 1 99 100 0 0 1 2\nab\x73\x5d":                              copyNote(1, 99, 100, "ab"),
		"2 1 99 100 0 0 2 0 2\nab\x77\xa1":                            copyNote(1, 99, 100, "", "ab"),
		"2 0 1000000 0 0 0 5 1 1 1 1 1\n\n 0\x00\xff\x29\x25":         copyNote(0, mostStamp, 0, "\n", " ", "0", "\x00", "\xff"),
		"3 0 0 0 0 0 0\n\x3b\xb3":                                     haveNote(0, 0, 0),
		"3 1 0 0 0 0 0\n\x04\x83":                                     haveNote(1, 0, 0),
		"3 0 12 34 0 0 0\n\x05\xae":                                   haveNote(0, 12, 34),
		"3 1 999999 1000000 0 0 0\n\x72\xf7":                          haveNote(1, 999999, mostStamp),
		"3 0 35 7 0 0 0\n \x22":                                       haveNote(0, 35, 7),
		"3 0 73 7 0 0 0\n[\n":                                         haveNote(0, 73, 7),
		"3 0 231 7 0 0 0\n\nz":                                        haveNote(0, 231, 7),
		"3 0 383 7 0 0 0\n84":                                         haveNote(0, 383, 7),
		"3 0 456 7 0 0 0\nq\x00":                                      haveNote(0, 456, 7),
		"3 0 2865 7 0 0 0\n \n":                                       haveNote(0, 2865, 7),
	}
}

func TestSomeNotes(t *testing.T) {
	if impl.NtPut != 1 || impl.NtCopy != 2 || impl.NtHave != 3 {
		t.Fatal(impl.NtPut, impl.NtCopy, impl.NtHave)
	}
	for text, n := range someNotes() {
		checkNoteOk(t, n, true)
		checkShowNote(t, n, text)
		checkReadNote(t, text, n, true)
	}
}

func TestNoteOkAtTheEdges(t *testing.T) {
	for kind, is := range map[int64]bool{math.MinInt64: false, -1: false, 0: false, 1: true, 2: true, 3: true, 4: false, math.MaxInt64: false} {
		checkNoteOk(t, impl.Note{Kind: kind, To: 1, Epoch: 3, Seq: 4}, is)
		checkNoteOk(t, impl.Note{Kind: kind}, is)
	}
	full := noughtText(24)
	for kind := int64(1); kind <= 3; kind++ {
		for to, is := range map[int64]bool{math.MinInt64: false, -1: false, 0: true, 1: true, 2: false, math.MaxInt64: false} {
			checkNoteOk(t, impl.Note{Kind: kind, To: to}, is)
		}
		for stamp, is := range map[int64]bool{math.MinInt64: false, -1: false, 0: true, 1: true, 1000000: true, 1000001: false, math.MaxInt64: false} {
			checkNoteOk(t, impl.Note{Kind: kind, Epoch: stamp}, is)
			checkNoteOk(t, impl.Note{Kind: kind, Seq: stamp}, is)
			checkNoteOk(t, impl.Note{Kind: kind, Epoch: stamp, Seq: stamp}, is)
		}
		for number, is := range map[int64]bool{math.MinInt64: false, -1: false, 0: true, 1: true, 63: true, 64: false, math.MaxInt64: false} {
			checkNoteOk(t, impl.Note{Kind: kind, At: number}, is && (kind == 1 || number == 0))
		}
		for text, is := range map[string]bool{"": true, "a": true, full: true, full + "a": false} {
			checkNoteOk(t, impl.Note{Kind: kind, Text: text}, is && (kind == 1 || text == ""))
		}
		for count, is := range map[int]bool{0: true, 1: true, 63: true, 64: true, 65: false} {
			checkNoteOk(t, impl.Note{Kind: kind, Values: make([]string, count)}, is && (kind == 2 || count == 0))
			checkNoteOk(t, impl.Note{Kind: kind, Values: slices.Repeat([]string{full}, count)}, is && (kind == 2 || count == 0))
		}
		for value, is := range map[string]bool{"": true, "a": true, full: true, full + "a": false} {
			checkNoteOk(t, impl.Note{Kind: kind, Values: []string{value}}, is && kind == 2)
			checkNoteOk(t, impl.Note{Kind: kind, Values: []string{"a", value, "b"}}, is && kind == 2)
		}
	}
}

// A list that is there but has nothing in it is as good as none.
func TestNotesWithAnEmptyListOfValues(t *testing.T) {
	for _, n := range []impl.Note{putNote(0, 5, 6, 7, "hey"), copyNote(1, 3, 4), haveNote(0, 12, 34)} {
		n.Values = nil
		text := impl.ShowNote(n)
		for _, values := range [][]string{{}, make([]string, 0, 9), []string{"a"}[:0]} {
			n.Values = values
			if got := impl.ShowNote(n); !impl.NoteOk(n) || got != text || got == "" {
				t.Errorf("ShowNote of %s: %s, not %s", tellNote(n), tellText(got), tellText(text))
			}
		}
	}
}

func TestNotesAtTheEdges(t *testing.T) {
	for _, n := range edgeNotes() {
		if !checkNote(t, n) {
			t.Errorf("%s is not right", tellNote(n))
		}
	}
}

func TestNotesThatAreNotAsTold(t *testing.T) {
	for _, n := range wrongNotes() {
		checkNoteOk(t, n, false)
		checkShowNote(t, n, "")
		checkNoNote(t, impl.Checked(plainNoteBody(n)))
	}
}

// Every choice of one of these for each field.
func TestNotesOfEveryChoiceOfEdges(t *testing.T) {
	right := 0
	for kind := int64(-1); kind <= 4; kind++ {
		for to := int64(-1); to <= 2; to++ {
			for _, epoch := range []int64{-1, 0, 7, mostStamp, mostStamp + 1} {
				for _, seq := range []int64{-1, 0, mostStamp, mostStamp + 1} {
					for _, number := range []int64{-1, 0, 63, 64} {
						for _, text := range []string{"", "a", noughtText(24), noughtText(25)} {
							for _, values := range [][]string{nil, {""}, {"a", "b"}, {noughtText(25)}} {
								if checkNote(t, impl.Note{Kind: kind, To: to, Epoch: epoch, Seq: seq, At: number, Text: text, Values: values}) {
									right++
								}
							}
						}
					}
				}
			}
		}
	}
	// Two Tos, three Epochs and two Seqs; Puts with two Ats and three Texts.
	if right != 2*3*2*(2*3+3+1) {
		t.Errorf("%d Notes are right", right)
	}
}

func TestNotesAgainstPlainOnes(t *testing.T) {
	n := numbers(220)
	right := 0
	for trial := range 8000 {
		note := n.note()
		if trial%2 == 0 {
			note = n.wrongNote(note)
		}
		if checkNote(t, note) {
			right++
		}
	}
	if right < 4200 || right > 6500 {
		t.Errorf("%d Notes are right", right)
	}
}

// wrongNoteBodies come close to what is ahead of a Note's check.
func wrongNoteBodies() []string {
	bodies := []string{
		"", "\n", "\n\n", " ", " \n", "3", "3\n", "3 0", "3 0 0 0 0 0\n", "3 0 0 0 0 0 0", "3 0 0 0 0 0 0 ", "3 0 0 0 0 0 0 \n", " 3 0 0 0 0 0 0\n", "3 0 0 0 0 0 0\n\n", "\n3 0 0 0 0 0 0\n",
		"3  0 0 0 0 0 0\n", "3 0 0 0 0 0  0\n", "3 0 0  0 0 0 0\n", "3 0 0 0 0 00\n", "30 0 0 0 0 0\n", "3000000\n", "3 0 0 0 0 0\n0\n", "3 0 0\n0 0 0 0\n", "3\n0\n0\n0\n0\n0\n0\n", "3 0 0 0 0 0 0 0\n", "3 0 0 0 0 0 0 0 0\n",
		"03 0 0 0 0 0 0\n", "3 00 0 0 0 0 0\n", "3 0 00 0 0 0 0\n", "3 0 0 00 0 0 0\n", "3 0 0 0 00 0 0\n", "3 0 0 0 0 00 0\n", "3 0 0 0 0 0 00\n", "3 01 0 0 0 0 0\n", "3 0 07 0 0 0 0\n", "3 0 0 07 0 0 0\n",
		"+3 0 0 0 0 0 0\n", "3 +0 0 0 0 0 0\n", "3 -0 0 0 0 0 0\n", "3 0 +7 0 0 0 0\n", "3 0 -7 0 0 0 0\n", "3 0 0 -0 0 0 0\n", "3 0 0 0 -0 0 0\n", "3 0 0 0 0 -0 0\n", "3 0 0 0 0 0 -0\n", "3 0 0 0 0 0 +0\n", "-3 0 0 0 0 0 0\n", "3 0 0 0 0 -1 0\n", "3 0 0 0 0 0 -1\n", "3 - 0 0 0 0 0\n",
		"a 0 0 0 0 0 0\n", "3 a 0 0 0 0 0\n", "3 0 7a 0 0 0 0\n", "3 0 a7 0 0 0 0\n", "3 0 0 0 a 0 0\n", "3 0 0 0 0 a 0\n", "3 0 0 0 0 0 a\n", "3 0 : 0 0 0 0\n", "3 0 / 0 0 0 0\n", "\x003 0 0 0 0 0 0\n", "3\x00 0 0 0 0 0 0\n", "3 0 0 0 0 0 0\x00\n", "\x03 \x00 \x00 \x00 \x00 \x00 \x00\n", "\x00\x00\x00\x00\x00\x00\x00\n",
		"3 0 0x7 0 0 0 0\n", "3 0 1_0 0 0 0 0\n", "3 0 1e3 0 0 0 0\n", "3 0 7.0 0 0 0 0\n", "\u0663 0 0 0 0 0 0\n", "3\u00a00 0 0 0 0 0\n", "3\t0 0 0 0 0 0\n", "3,0,0,0,0,0,0\n", "3 0 0 0 0 0 0\r\n", "3 0 0 0 0 0 0\r", "3 0 0 0 0 0 0\x0b", "\xff 0 0 0 0 0 0\n", "3 0 0 0 0 0\xff0\n",
		"0 0 0 0 0 0 0\n", "4 0 0 0 0 0 0\n", "9 0 0 0 0 0 0\n", "10 0 0 0 0 0 0\n", "13 0 0 0 0 0 0\n", "33 0 0 0 0 0 0\n", "259 0 0 0 0 0 0\n", "4294967299 0 0 0 0 0 0\n", "18446744073709551619 0 0 0 0 0 0\n", "3 2 0 0 0 0 0\n", "3 10 0 0 0 0 0\n", "3 4294967296 0 0 0 0 0\n", "3 18446744073709551617 0 0 0 0 0\n",
		"3 0 1000001 0 0 0 0\n", "3 0 0 1000001 0 0 0\n", "3 0 10000000 0 0 0 0\n", "3 0 999999999 0 0 0 0\n", "3 0 9999999999 0 0 0 0\n", "3 0 01000000 0 0 0 0\n", "3 0 4294967296 0 0 0 0\n", "3 0 18446744073709551616 0 0 0 0\n", "3 0 9223372036854775808 0 0 0 0\n", "3 0 " + strings.Repeat("1", 500) + " 0 0 0 0\n", "3 0 " + strings.Repeat("0", 500) + " 0 0 0 0\n",
		"3 0 0 0 1 0 0\n", "3 0 0 0 63 0 0\n", "3 0 0 0 64 0 0\n", "3 0 0 0 0 1 0\na", "3 0 0 0 0 1 0\n", "3 0 0 0 0 0 0\na", "3 0 0 0 0 0 1 0\n", "3 0 0 0 0 0 1 1\na", "3 0 0 0 0 0 1\n", "3 0 0 0 0 0 1\na",
		"2 0 0 0 1 0 0\n", "2 0 0 0 0 1 0\na", "2 0 0 0 0 0 0\na", "2 0 0 0 0 0 1\n", "2 0 0 0 0 0 1\na", "2 0 0 0 0 0 0 1\na", "2 0 0 0 0 0 2 1\na", "2 0 0 0 0 0 1 1 1\nab", "2 0 0 0 0 0 1 1 0\na", "2 0 0 0 0 0 1 0 1\na", "2 0 0 0 0 0 1 1\n", "2 0 0 0 0 0 1 1\nab", "2 0 0 0 0 0 1 0\na", "2 0 0 0 0 0 1 2\na", "2 0 0 0 0 0 1 01\na", "2 0 0 0 0 0 1 +1\na", "2 0 0 0 0 0 01 1\na", "2 0 0 0 0 0 1  1\na", "2 0 0 0 0 0 1 1 \na", "2 0 0 0 0 0 1 -1\na", "2 0 0 0 0 0 2 2 -1\na", "2 0 0 0 0 0 2 -1 2\na", "2 0 0 0 0 0 1 x\na",
		"2 0 0 0 0 0 1 25\n" + strings.Repeat("a", 25), "2 0 0 0 0 0 2 3 25\nabc" + strings.Repeat("a", 25), "2 0 0 0 0 0 65" + strings.Repeat(" 0", 65) + "\n", "2 0 0 0 0 0 64" + strings.Repeat(" 0", 65) + "\n", "2 0 0 0 0 0 65" + strings.Repeat(" 0", 64) + "\n", "2 0 0 0 0 0 64" + strings.Repeat(" 0", 63) + "\n", "2 0 0 0 0 0 63" + strings.Repeat(" 0", 64) + "\n", "2 0 0 0 0 0 320" + strings.Repeat(" 0", 64) + "\n",
		"2 0 0 0 0 0 999999999\n", "2 0 0 0 0 0 9223372036854775807\n", "2 0 0 0 0 0 -9223372036854775808\n", "2 0 0 0 0 0 18446744073709551617 1\na", "2 0 0 0 0 0 1 9223372036854775807\na", "2 0 0 0 0 0 1 18446744073709551617\na", "2 0 0 0 0 0 1 4294967297\na", "2 0 0 0 0 0 2 9223372036854775807 9223372036854775807\na", "2 0 0 0 0 0 2 9223372036854775807 -9223372036854775806\na",
		"1 0 0 0 64 0 0\n", "1 0 0 0 -1 0 0\n", "1 0 0 0 0 1 0\n", "1 0 0 0 0 0 0\na", "1 0 0 0 0 1 0\nab", "1 0 0 0 0 2 0\na", "1 0 0 0 0 25 0\n" + strings.Repeat("a", 25), "1 0 0 0 0 24 0\n" + strings.Repeat("a", 25), "1 0 0 0 0 25 0\n" + strings.Repeat("a", 24), "1 0 0 0 0 1 1 0\na", "1 0 0 0 0 1 1 1\nab", "1 0 0 0 0 0 1 1\na", "1 0 0 0 0 9223372036854775807 0\na", "1 0 0 0 0 -9223372036854775808 0\na", "1 0 0 0 0 4294967297 0\na", "1 0 0 0 0 257 0\na", "1 0 0 0 0 01 0\na", "1 0 0 0 05 1 0\na", "1 0 0 0 0 1 0 0\na", "1 0 0 0 0 1\na", "1 0 0 0 0 0\n",
		strings.Repeat("3 ", 500) + "\n", strings.Repeat("0 ", 70) + "0\n", strings.Repeat("\n", 300), strings.Repeat(" ", 300), strings.Repeat("2", 5000), "2 0 0 0 0 0 64" + strings.Repeat(" 24", 64) + "\n" + strings.Repeat("a", 64*24+1), "2 0 0 0 0 0 64" + strings.Repeat(" 24", 64) + "\n" + strings.Repeat("a", 64*24-1), "3 0 0 0 0 0 0\n" + noughtText(70000),
	}
	return bodies
}

func TestReadNoteOfWhatIsNone(t *testing.T) {
	for _, body := range append(wrongNoteBodies(), wrongWords()...) {
		// With the right check it is the body alone that is wrong.
		checkNoNote(t, impl.Checked(body))
		checkNoNote(t, body)
		checkNoNote(t, body+"\x00\x00")
		checkNoNote(t, body+"ab")
	}
	for _, s := range append(append(trickyTexts(), edgeTexts()...), wrongTexts()...) {
		checkNoNote(t, s)
		checkNoNote(t, impl.Checked(s))
		checkNoNote(t, impl.Checked("3 0 0 0 0 0 0"+s+"x\n"))
	}
}

// Every choice of words, with every end of the head and some bytes behind it.
func TestReadNoteOfManyHeads(t *testing.T) {
	found := 0
	words := [][]string{{"1", "2", "3", "0", "01"}, {"0", "1", "2", ""}, {"7", "-1", "00"}, {"0", "1000001"}, {"0", "5", ""}, {"0", "1", "2"}, {"0", "1", "2", "01"}}
	heads := []string{""}
	for i, choices := range words {
		longer := []string{}
		for _, head := range heads {
			for _, word := range choices {
				if i > 0 {
					word = " " + word
				}
				longer = append(longer, head+word)
			}
		}
		heads = longer
	}
	for _, head := range heads {
		for _, behind := range []string{"\n", "", " 0\n", " 1\na", "\na", "\nab", " 1 1\nab"} {
			if checkRead(t, impl.Checked(head+behind)) {
				found++
			}
		}
	}
	// Of each To: a Have; no Values, one of no or one byte, two; Puts at two Ats
	// with no, one or two bytes.
	if found != 2*(1+4+6) {
		t.Errorf("%d of them are Notes", found)
	}
}

func somePlainNotes() []impl.Note {
	return []impl.Note{haveNote(0, 0, 0), haveNote(1, 12, 345), putNote(0, 5, 6, 7, "hey"), putNote(1, 1000000, 9, 63, "1 2\n3"), copyNote(1, 3, 4, "a", "", "bc"), copyNote(0, 10, 0, "", "\n", " 1"), copyNote(0, 0, 1)}
}

// bodyOf is what ShowNote has ahead of the check.
func bodyOf(n impl.Note) string {
	text := impl.ShowNote(n)
	return text[:len(text)-2]
}

// Each byte of a body is any other one, and the check is right again.
func TestReadNoteOfEveryOtherByte(t *testing.T) {
	found := 0
	for _, n := range somePlainNotes() {
		for i := range bodyOf(n) {
			for b := range 256 {
				body := []byte(bodyOf(n))
				body[i] = byte(b)
				if checkRead(t, impl.Checked(string(body))) {
					found++
				}
			}
		}
	}
	if found < 2000 {
		t.Errorf("only %d are Notes", found)
	}
}

// Each byte of a body is left out, and any byte stands between any two.
func TestReadNoteOfOneByteLessAndMore(t *testing.T) {
	found := 0
	for _, n := range somePlainNotes() {
		body := bodyOf(n)
		for i := range len(body) + 1 {
			bodies := []string{}
			if i < len(body) {
				bodies = append(bodies, body[:i]+body[i+1:])
			}
			for b := range 256 {
				bodies = append(bodies, body[:i]+string([]byte{byte(b)})+body[i:])
			}
			for _, body := range bodies {
				if checkRead(t, impl.Checked(body)) {
					found++
				}
			}
		}
	}
	if found < 50 {
		t.Errorf("only %d are Notes", found)
	}
}

// The numbers of a head are one more and one less, each for itself and two at a
// time: where a byte goes from one text to another it is another Note.
func TestReadNoteOfNumbersBesideTheRightOnes(t *testing.T) {
	found := 0
	for _, n := range append(somePlainNotes(), copyNote(0, 3, 4, "ab", "cd"), copyNote(0, 3, 4, "", "x", "")) {
		head, tail, _ := strings.Cut(bodyOf(n), "\n")
		words := strings.Split(head, " ")
		change := func(i int, more int) func() {
			was := words[i]
			value, _ := strconv.Atoi(was)
			words[i] = strconv.Itoa(value + more)
			return func() { words[i] = was }
		}
		for i := range words {
			for j := range words {
				for more := range 9 {
					undo := change(i, more/3-1)
					undoOther := change(j, more%3-1)
					if checkRead(t, impl.Checked(strings.Join(words, " ")+"\n"+tail)) {
						found++
					}
					undoOther()
					undo()
				}
			}
		}
	}
	if found < 500 {
		t.Errorf("only %d are Notes", found)
	}
}

// A length counts bytes of the check, too: whoever takes them for a text finds
// no check behind them.
func TestReadNoteOfAHeadThatCountsTheCheck(t *testing.T) {
	for more := 1; more <= 4; more++ {
		for seq := range int64(500) {
			checkNoNote(t, impl.Checked(fmt.Sprintf("1 0 7 %d 5 %d 0\nhey", seq, 3+more)))
			checkNoNote(t, impl.Checked(fmt.Sprintf("2 0 7 %d 0 0 2 1 %d\nhey", seq, 2+more)))
			checkNoNote(t, impl.Checked(fmt.Sprintf("2 0 7 %d 0 0 2 3 %d\nhey", seq, more)))
		}
	}
	// The byte 10 that is lacking may be one of the check's.
	inCheck := [2]int{}
	for epoch := range int64(3000) {
		s := impl.Checked(fmt.Sprintf("3 0 %d 7 0 0 0", epoch))
		checkNoNote(t, s)
		for i := range inCheck {
			if s[len(s)-2+i] == '\n' {
				inCheck[i]++
			}
		}
	}
	if inCheck[0] == 0 || inCheck[1] == 0 {
		t.Errorf("a check has a byte 10 %v times", inCheck)
	}
}

func TestReadNoteOfEveryOtherCheck(t *testing.T) {
	for _, n := range []impl.Note{haveNote(0, 456, 7), putNote(0, 5, 6, 7, "hey"), copyNote(1, 3, 4, "a", "", "bc")} {
		text, body := impl.ShowNote(n), bodyOf(n)
		for check := range int64(65536) {
			if s := body + wordText(check); s != text {
				checkNoNote(t, s)
			}
		}
	}
}

// A byte 0 ahead of a Whole text or behind it leaves it Whole.
func TestReadNoteOfLongerAndShorter(t *testing.T) {
	n := numbers(221)
	notes := append(somePlainNotes(), haveNote(0, 456, 7), haveNote(0, 515, 7))
	for range 100 {
		notes = append(notes, n.note())
	}
	for _, note := range notes {
		text := impl.ShowNote(note)
		for b := range 256 {
			s := string([]byte{byte(b)})
			checkNoNote(t, s+text)
			checkNoNote(t, text+s)
		}
		for _, noughts := range []int{1, 2, 3, 16} {
			if s := noughtText(noughts); !impl.Whole(s+text) || !impl.Whole(text+s) {
				t.Errorf("%s is not Whole with noughts about it", tellText(text))
			}
			checkNoNote(t, noughtText(noughts)+text)
			checkNoNote(t, text+noughtText(noughts))
		}
		checkNoNote(t, text+text)
		checkNoNote(t, text[1:])
		checkNoNote(t, text[:len(text)-1])
		checkNoNote(t, impl.Checked(text))
	}
}

func TestPromise15NoPartOfANoteIsOne(t *testing.T) {
	n := numbers(222)
	notes := append(somePlainNotes(), copyNote(1, mostStamp, mostStamp, slices.Repeat([]string{noughtText(24)}, 64)...))
	for _, note := range someNotes() {
		notes = append(notes, note)
	}
	for range 400 {
		notes = append(notes, n.note())
	}
	for _, note := range notes {
		text := impl.ShowNote(note)
		for end := range text {
			checkNoNote(t, text[:end])
		}
		for from := 1; from <= min(len(text), 60); from++ {
			checkNoNote(t, text[from:])
		}
	}
}

func TestPromise15ReadNoteOfShowNoteIsTheNote(t *testing.T) {
	n := numbers(223)
	kinds := [4]int{}
	for range 20000 {
		note := n.note()
		text := impl.ShowNote(note)
		checkReadNote(t, text, note, true)
		if !impl.NoteOk(note) || !impl.Whole(text) {
			t.Errorf("ShowNote of %s is %s", tellNote(note), tellText(text))
		}
		kinds[note.Kind]++
	}
	if slices.Min(kinds[1:]) < 3000 {
		t.Errorf("of each Kind there are %v", kinds)
	}
}

// listsOf are all of at most so many of these texts.
func listsOf(most int, texts ...string) [][]string {
	lists := [][]string{{}}
	for place := 0; place < len(lists); place++ {
		if len(lists[place]) == most {
			continue
		}
		for _, text := range texts {
			lists = append(lists, append(slices.Clone(lists[place]), text))
		}
	}
	return lists
}

// manyNotes are all that have these small things.
func manyNotes() []impl.Note {
	notes := []impl.Note{}
	stamps := []int64{0, 1, 2, 11, 12, 112}
	for to := range int64(2) {
		for _, epoch := range stamps {
			for _, seq := range stamps {
				notes = append(notes, haveNote(to, epoch, seq))
				for _, number := range []int64{0, 1, 2, 11, 12} {
					for _, text := range []string{"", "a", "b", "ab", "ba", "1", "0", " ", "\n", "\x00", "\x00\x00", " 1", "\n1", "\xff"} {
						notes = append(notes, putNote(to, epoch, seq, number, text))
					}
				}
			}
		}
		for _, values := range listsOf(5, "", "a", "b", "ab") {
			notes = append(notes, copyNote(to, 0, 1, values...))
		}
		for _, values := range listsOf(3, "", "0", "1", "\n", " ", "\x00", "0\n", " 1", "\x00\x00") {
			notes = append(notes, copyNote(to, 1, 0, values...))
		}
	}
	return notes
}

func TestPromise15NotesThatAreUnlikeAreShownUnlike(t *testing.T) {
	notes := manyNotes()
	texts := map[string]int{}
	for i, n := range notes {
		text := impl.ShowNote(n)
		if other, is := texts[text]; is {
			t.Errorf("%s and %s are both shown as %s", tellNote(n), tellNote(notes[other]), tellText(text))
		}
		texts[text] = i
		checkReadNote(t, text, n, true)
	}
	if len(texts) != len(notes) || len(notes) < 8000 {
		t.Errorf("%d texts of %d Notes", len(texts), len(notes))
	}
	// Each field is another one, and all else as it was.
	n := numbers(224)
	unlike := 0
	for range 3000 {
		a := n.note()
		b := n.wrongNote(a)
		if impl.NoteOk(b) && !sameNote(a, b) {
			unlike++
			if impl.ShowNote(a) == impl.ShowNote(b) {
				t.Errorf("%s and %s are shown alike", tellNote(a), tellNote(b))
			}
		}
	}
	if unlike < 300 {
		t.Errorf("only %d were unlike", unlike)
	}
}

// The bytes of all Values are the same; where each one ends is not.
func TestPromise15ValuesThatAreOneTextTogether(t *testing.T) {
	texts := map[string]bool{}
	count := 0
	var split func(values []string, left string, most int)
	split = func(values []string, left string, most int) {
		if most == 0 {
			n := copyNote(0, 3, 4, append(slices.Clone(values), left)...)
			text := impl.ShowNote(n)
			checkReadNote(t, text, n, true)
			texts[text] = true
			count++
			return
		}
		for end := range len(left) + 1 {
			split(append(slices.Clone(values), left[:end]), left[end:], most-1)
		}
	}
	for parts := range 5 {
		split(nil, "1 \n0a\x00b", parts)
	}
	// Of 7 bytes with as many ends among them, in any of 8 places, in order.
	if count != 1+8+36+120+330 || len(texts) != count {
		t.Errorf("%d lists, %d texts", count, len(texts))
	}
}

func TestPromise15OneTurnedBit(t *testing.T) {
	n := numbers(225)
	notes := append(somePlainNotes(), copyNote(1, mostStamp, mostStamp, n.texts(64, 24)...))
	for _, note := range someNotes() {
		notes = append(notes, note)
	}
	for range 200 {
		notes = append(notes, n.note())
	}
	for _, note := range notes {
		text := impl.ShowNote(note)
		for place := range 8 * len(text) {
			bytes := []byte(text)
			bytes[place/8] ^= 128 >> (place % 8)
			checkNoNote(t, string(bytes))
		}
	}
}

// Any bits of sixteen that stand beside one another are turned.
func TestPromise15ANoteThatWasSmearedIsNone(t *testing.T) {
	n := numbers(226)
	edges := edgeMasks()
	notes := somePlainNotes()
	for range 80 {
		notes = append(notes, n.note())
	}
	for _, note := range notes {
		text := impl.ShowNote(note)
		places := 8 * len(text)
		for place := range places {
			masks := []int64{edges[n.below(len(edges))], int64(n.below(65536))}
			for range min(24, 4000/places) {
				masks = append(masks, int64(n.below(65536)))
			}
			for _, mask := range masks {
				s := impl.Smeared(text, int64(place), mask)
				// As it was where all 1s of the mask stand behind the last bit.
				if s == text {
					checkReadNote(t, s, note, true)
				} else {
					checkNoNote(t, s)
				}
			}
			if places < 400 {
				checkNoNote(t, plainSmeared(text, int64(place), 32768+int64(n.below(32768))))
			}
		}
	}
}

// Every mask, at every eleventh place and at both ends.
func TestPromise15EveryMask(t *testing.T) {
	for _, note := range []impl.Note{haveNote(0, 0, 0), putNote(1, 5, 6, 7, "h"), copyNote(1, 3, 4, "a", "")} {
		text := impl.ShowNote(note)
		last := int64(8*len(text)) - 16
		for place := int64(0); place <= last; place++ {
			if place%11 != 0 && place != last {
				continue
			}
			for mask := int64(1); mask < 65536; mask++ {
				if _, is := impl.ReadNote(impl.Smeared(text, place, mask)); is {
					t.Errorf("%s smeared at %d by %d is a Note", tellText(text), place, mask)
				}
			}
		}
	}
}

// checkOwnNote asks whether a Note shares memory with what was handed in, or
// within itself, and writes to all of it.
func checkOwnNote(t *testing.T, what string, n impl.Note, texts ...string) {
	t.Helper()
	checkOwnTexts(t, what, []string{n.Text}, texts)
	checkOwnTexts(t, what, n.Values, append(texts, n.Text))
}

func TestPromise21NotesAreNewMemory(t *testing.T) {
	n := numbers(227)
	for range 2000 {
		made := n.note()
		note, check := guardedNote(t, made)
		handed := append(slices.Clone(note.Values), note.Text)
		before := ownTexts(handed)
		text := impl.ShowNote(note)
		check("ShowNote")
		checkOwnTexts(t, "ShowNote", []string{text}, handed)
		if again := impl.ShowNote(note); sharesMemory(again, text) || again != text {
			t.Errorf("ShowNote of %s: two answers share memory, or are unlike", tellNote(note))
		}
		was := strings.Clone(text)
		again, _ := impl.ReadNote(text)
		got, is := impl.ReadNote(text)
		if !is || !sameNote(got, made) {
			t.Fatalf("ReadNote of %s: %s and %v", tellText(text), tellNote(got), is)
		}
		checkOwnNote(t, "ReadNote", got, append(handed, text)...)
		if text != was || !slices.Equal(handed, before) || !sameNote(again, made) {
			t.Errorf("ReadNote: %s became %s, or two answers share memory", tellText(was), tellText(text))
		}
	}
}

// What was handed in may share one Text; what is answered must not.
func TestPromise21NotesThatShareTheirTexts(t *testing.T) {
	text := strings.Clone("one text for all of them")
	for _, n := range []impl.Note{putNote(0, 1, 2, 3, text), copyNote(0, 1, 2, text, text, text[3:9])} {
		shown := impl.ShowNote(n)
		checkOwnTexts(t, "ShowNote", []string{shown}, []string{text})
		got, is := impl.ReadNote(shown)
		if !is {
			t.Fatalf("ReadNote of %s says false", tellText(shown))
		}
		checkOwnNote(t, "ReadNote", got, text, shown)
	}
}

func TestPromise21NoteArgumentsStay(t *testing.T) {
	n := numbers(228)
	wrong := wrongNotes()
	for trial := range 4000 {
		note := n.note()
		switch trial % 3 {
		case 0:
			note = n.wrongNote(note)
		case 1:
			note = wrong[n.below(len(wrong))]
		}
		note, check := guardedNote(t, note)
		values := ownTexts(note.Values)
		text := strings.Clone(note.Text)
		neverPanics(t, "NoteOk", func() { impl.NoteOk(note) })
		check("NoteOk")
		neverPanics(t, "ShowNote", func() { impl.ShowNote(note) })
		check("ShowNote")
		if note.Text != text || !slices.Equal(note.Values, values) {
			t.Errorf("a text of %s was written to", tellNote(note))
		}
	}
}

func TestPromise21NotesNeverPanic(t *testing.T) {
	n := numbers(229)
	far := append(append(farNumbers(), edgeStamps()...), 3, 4, 24, 25, 63, 64, 65)
	texts := append(append(longTexts()[:9], noteTexts()...), trickyTexts()...)
	pick := func() int64 { return far[n.below(len(far))] }
	for range 6000 {
		note := impl.Note{Kind: int64(n.below(5)), To: int64(n.below(3)), Epoch: pick(), Seq: pick(), At: pick(), Text: texts[n.below(len(texts))]}
		for range n.below(4) * n.below(24) {
			note.Values = append(note.Values, texts[n.below(len(texts))])
		}
		neverPanics(t, "a call of "+tellNote(note), func() {
			impl.NoteOk(note)
			impl.ShowNote(note)
		})
	}
	words := []string{"", "0", "1", "2", "3", "7", "00", "-1", "+1", "24", "25", "64", "65", "a", "\x00", "1000000", "1000001", "9223372036854775807", "-9223372036854775808", "9223372036854775808", "99999999999999999999999999", "\n"}
	for range 30000 {
		told := []string{}
		for range n.below(12) {
			told = append(told, words[n.below(len(words))])
		}
		body := strings.Join(told, " ") + []string{"\n", "", "\n\n", " "}[n.below(4)] + n.text(n.below(6))
		neverPanics(t, "ReadNote of "+tellText(body), func() {
			checkRead(t, body)
			checkRead(t, impl.Checked(body))
		})
	}
	for size := range 300 {
		neverPanics(t, "ReadNote of any text", func() {
			checkRead(t, n.text(size))
			checkRead(t, impl.Checked(n.text(size)))
		})
	}
}

// What one call does must not show in the next one.
func TestNotesAnswerAgainAlike(t *testing.T) {
	for range 3 {
		for text, n := range someNotes() {
			checkNoteOk(t, n, true)
			checkShowNote(t, n, text)
			checkReadNote(t, text, n, true)
			checkNoNote(t, text[:len(text)-1])
		}
		checkNoteOk(t, impl.Note{}, false)
		checkShowNote(t, impl.Note{}, "")
		checkNoNote(t, "")
	}
}
