package tests

import (
	"fmt"
	"math"
	"regexp"
	"slices"
	"strconv"
	"strings"
	"sync"
	"testing"

	"loop.example/g00223/impl"
)

const (
	mostBench = 20000
	mostLines = 200
)

// chapters are functions that a bench goes by.
type chapters struct {
	enter  func(f impl.Ftl, p impl.Page) (impl.Ftl, bool)
	get    func(f impl.Ftl, number int64) (string, bool)
	jobs   func(f impl.Ftl, p impl.Page) (int64, bool)
	broken func(f impl.Ftl, p impl.Page, jobs int64, bytes int64) impl.Chip
	mount  func(c impl.Chip, count int64) impl.Ftl
	level  func(f impl.Ftl) int64
	happen func(p impl.Pair, a impl.Act) (impl.Pair, string, int64)
	steady func(p impl.Pair) bool
}

func ownChapters() chapters {
	jobs := func(f impl.Ftl, p impl.Page) (int64, bool) {
		list, is := impl.Plan(f, p)
		return int64(len(list)), is
	}
	return chapters{impl.Enter, impl.Get, jobs, impl.Broken, impl.Mount, impl.Level, impl.Happen, impl.Steady}
}

func plainChapters(plain *plainPages) chapters {
	enter := func(f impl.Ftl, p impl.Page) (impl.Ftl, bool) {
		_, got, how := plain.entered(f, p)
		return got, strings.HasPrefix(how, "room")
	}
	jobs := func(f impl.Ftl, p impl.Page) (int64, bool) {
		list, _, how := plain.entered(f, p)
		return int64(len(list)), strings.HasPrefix(how, "room")
	}
	return chapters{enter, plain.get, jobs, plain.broken, plain.mounted, plain.level, plainHappen, plainSteady}
}

// lineForms are the lines of the table: N stands for a number, T for a text.
func lineForms() []string {
	return []string{
		"put N T", "trim N", "get N", "cut N T N N", "level", "grant N", "send N", "drop N", "readmit N", "deliver N", "lose N", "twice N",
		"write N N T", "read N N", "told", "steady",
	}
}

var linePatterns = patternsOf(lineForms())

func patternsOf(forms []string) []*regexp.Regexp {
	list := []*regexp.Regexp{}
	parts := strings.NewReplacer("N", "(0|-?[1-9][0-9]{0,8})", "T", "([^ ]+)")
	for _, form := range forms {
		word, _, _ := strings.Cut(form, " ")
		list = append(list, regexp.MustCompile("^("+word+")"+parts.Replace(strings.TrimPrefix(form, word))+"$"))
	}
	return list
}

// takenApart is a line's word, its numbers and its text; all are nothing where
// it is no line of the table.
func takenApart(line string) (string, []int64, string) {
	for i, pattern := range linePatterns {
		found := pattern.FindStringSubmatch(line)
		if found == nil {
			continue
		}
		numbers, text := []int64{}, ""
		for k, name := range strings.Split(lineForms()[i], " ")[1:] {
			number, _ := strconv.ParseInt(found[k+2], 10, 64)
			if name == "N" {
				numbers = append(numbers, number)
			} else {
				text = found[k+2]
			}
		}
		return found[1], numbers, text
	}
	return "", nil, ""
}

// ledger is a keeper and a pair on which the lines are done by calls.
type ledger struct {
	chapters
	f impl.Ftl
	p impl.Pair
}

func newLedger(t *testing.T, by chapters) *ledger {
	return &ledger{by, newFtl(t, 6, 4, 12), impl.NewPair()}
}

// answered is what, where that is done.
func answered(is bool, what any) string {
	if !is {
		return "error"
	}
	return fmt.Sprint(what)
}

func (l *ledger) answer(line string) string {
	word, n, text := takenApart(line)
	switch word {
	case "put":
		return l.entered(dataPage(n[0], text))
	case "trim":
		return l.entered(trimPage(n[0]))
	case "get":
		got, is := l.get(l.f, n[0])
		if !is {
			got = "none"
		}
		return answered(0 <= n[0] && n[0] <= 11, got)
	case "cut":
		return l.cut(dataPage(n[0], text), n[1], n[2])
	case "level":
		return answered(true, l.level(l.f))
	case "told":
		return answered(true, len(l.p.Told))
	case "steady":
		return map[bool]string{true: "yes", false: "no"}[l.steady(l.p)]
	}
	return l.answerOfPair(word, n, text)
}

func (l *ledger) answerOfPair(word string, n []int64, text string) string {
	acts := map[string]func() impl.Act{
		"grant":   func() impl.Act { return granting(n[0]) },
		"send":    func() impl.Act { return sending(n[0]) },
		"drop":    func() impl.Act { return dropping(n[0]) },
		"readmit": func() impl.Act { return readmitting(n[0]) },
		"deliver": func() impl.Act { return delivering(n[0]) },
		"lose":    func() impl.Act { return losing(n[0]) },
		"twice":   func() impl.Act { return doubling(n[0]) },
		"write":   func() impl.Act { return writing(n[0], n[1], text) },
		"read":    func() impl.Act { return reading(n[0], n[1]) },
	}
	act := acts[word]
	if act == nil {
		return "error"
	}
	p, value, code := l.happen(l.p, act())
	l.p = p
	switch word {
	case "read":
		return answered(code == 0, "."+value)
	case "write":
		return answered(code == 0, len(p.Told))
	}
	return answered(code == 0, len(p.Net))
}

func (l *ledger) entered(p impl.Page) string {
	f, is := l.enter(l.f, p)
	l.f = f
	return answered(is, f.Stamp)
}

func (l *ledger) cut(p impl.Page, jobs int64, bytes int64) string {
	if _, is := l.jobs(l.f, p); !is || jobs < 0 || bytes < 0 {
		return "error"
	}
	l.f = l.mount(l.broken(l.f, p, jobs, bytes), 12)
	return answered(true, l.f.Stamp)
}

// linesOf are those of a text, without their bytes 10.
func linesOf(text string) []string {
	list := strings.Split(text, "\n")
	if list[len(list)-1] == "" {
		list = list[:len(list)-1]
	}
	return list
}

// joined ends each line.
func joined(lines []string) string {
	text := ""
	for _, line := range lines {
		text += line + "\n"
	}
	return text
}

func (l *ledger) answers(text string) []string {
	list := []string{}
	if len(text) > mostBench || len(linesOf(text)) > mostLines {
		return list
	}
	for _, line := range linesOf(text) {
		if line != "" {
			list = append(list, l.answer(line))
		}
	}
	return list
}

func checkBench(t *testing.T, text string, want ...string) {
	t.Helper()
	got := impl.Bench(text)
	if got == joined(want) {
		return
	}
	lines := slices.DeleteFunc(linesOf(text), func(line string) bool { return line == "" })
	for i, answer := range linesOf(got) {
		if i < len(lines) && i < len(want) && answer != want[i] {
			t.Errorf("Bench of %s: answer %d, of the line %s, is %s, not %s, behind\n%s", tellText(text), i, tellText(lines[i]), tellText(answer), tellText(want[i]), joined(lines[:i]))
			return
		}
	}
	t.Errorf("Bench of %s is %s, not %s", tellText(text), tellText(got), tellText(joined(want)))
}

// checkByCalls holds Bench against calls of the program's own chapters.
func checkByCalls(t *testing.T, text string) {
	t.Helper()
	checkBench(t, text, newLedger(t, ownChapters()).answers(text)...)
}

func TestBenchConstants(t *testing.T) {
	if impl.MaxBench != mostBench || impl.MaxLines != mostLines {
		t.Errorf("%d and %d", impl.MaxBench, impl.MaxLines)
	}
}

// checkRows takes lines, each with its answer behind an arrow.
func checkRows(t *testing.T, rows ...string) {
	t.Helper()
	lines, want := []string{}, []string{}
	for _, row := range rows {
		line, answer, is := strings.Cut(row, " -> ")
		if !is {
			t.Fatalf("no answer: %s", row)
		}
		lines, want = append(lines, line), append(want, answer)
	}
	checkBench(t, joined(lines), want...)
	checkByCalls(t, joined(lines))
}

func TestBenchOfAKeeper(t *testing.T) {
	checkRows(t, "get 0 -> none", "level -> 0", "put 0 a -> 1", "put 11 b -> 2", "put 0 c -> 3", "get 0 -> c", "get 11 -> b", "get 1 -> none",
		"trim 0 -> 4", "get 0 -> none", "trim 1 -> 5", "get 1 -> none", "get 11 -> b", "put 1 none -> 6", "get 1 -> none", "put 0 error -> 7", "get 0 -> error")
	rows := []string{}
	for turn := range 24 {
		rows = append(rows, fmt.Sprintf("put 3 t%d -> %d", turn, turn+1))
	}
	// Five squares are full by the 20th, and the first one is wiped for the 21st.
	checkRows(t, append(slices.Clone(rows[:20]), "level -> 0", "get 3 -> t19")...)
	checkRows(t, append(slices.Clone(rows[:21]), "level -> 1", "get 3 -> t20")...)
	checkRows(t, append(slices.Clone(rows[:24]), "level -> 1", "get 3 -> t23", "get 4 -> none")...)
}

func TestBenchOfCuts(t *testing.T) {
	checkRows(t, "cut 4 yo 0 7 -> 0", "get 4 -> none", "cut 4 yo 0 0 -> 0", "get 4 -> none", "cut 4 yo 0 999999999 -> 1", "get 4 -> yo",
		"cut 4 no 0 9 -> 1", "get 4 -> yo", "cut 4 no 1 0 -> 2", "get 4 -> no", "cut 4 so 999999999 0 -> 3", "get 4 -> so", "trim 4 -> 4",
		"cut 4 go 0 3 -> 4", "get 4 -> none", "put 5 a -> 5", "get 5 -> a", "cut 12 yo 0 0 -> error", "cut -1 yo 0 0 -> error",
		"cut 4 go -1 0 -> error", "cut 4 go 0 -1 -> error", "cut 4 go -1 -1 -> error", "get 4 -> none", "put 4 go -> 6", "get 4 -> go")
}

func TestBenchOfAPair(t *testing.T) {
	checkRows(t, "told -> 0", "steady -> yes", "send 0 -> error", "read 0 0 -> error", "write 0 0 a -> error", "deliver 0 -> error", "grant 0 -> 0",
		"read 0 0 -> error", "write 0 0 a -> error", "send 0 -> 1", "send 0 -> 2", "lose 1 -> 1", "deliver 0 -> 1", "twice 0 -> 2", "deliver 0 -> 1",
		"read 0 0 -> .", "write 0 2 hi -> 0", "read 0 2 -> error", "steady -> no", "told -> 0", "deliver 0 -> 1", "deliver 0 -> 1", "read 0 2 -> error",
		"deliver 0 -> 0", "told -> 1", "read 0 2 -> .hi", "read 1 2 -> error", "steady -> yes", "drop 1 -> error", "drop 0 -> 0", "steady -> no",
		"write 0 2 yo -> 2", "told -> 2", "read 0 2 -> .yo", "grant 1 -> error", "readmit 0 -> error", "send 0 -> 1", "deliver 0 -> 1", "deliver 0 -> 0",
		"steady -> no", "readmit 0 -> 0", "steady -> yes", "grant 1 -> 0", "read 0 2 -> error", "read 1 2 -> error", "send 1 -> 1", "deliver 0 -> 1",
		"deliver 0 -> 0", "read 1 2 -> .yo", "read 1 0 -> .", "write 1 0 . -> 2", "deliver 0 -> 1", "deliver 0 -> 0", "told -> 3", "read 1 0 -> ..")
}

// A keeper and a pair do not touch each other.
func TestBenchOfBoth(t *testing.T) {
	checkRows(t, "grant 0 -> 0", "put 0 a -> 1", "drop 0 -> 0", "write 0 0 b -> 1", "get 0 -> a", "read 0 0 -> .b", "cut 0 c 0 5 -> 1", "read 0 0 -> .b",
		"send 0 -> 1", "trim 0 -> 2", "get 0 -> none", "read 0 0 -> .b", "write 0 1 d -> 2", "get 1 -> none", "told -> 2", "level -> 0")
}

func TestBenchOfNoLines(t *testing.T) {
	checkBench(t, "")
	for _, count := range []int{1, 2, 3, mostLines - 1, mostLines, mostLines + 1, mostBench, mostBench + 1} {
		checkBench(t, strings.Repeat("\n", count))
	}
}

func TestBenchOfLinesWithoutAByte(t *testing.T) {
	for _, text := range []string{
		"put 0 a\nput 1 b\nget 0\n", "put 0 a\nput 1 b\nget 0", "\nput 0 a\nput 1 b\nget 0", "\n\n\nput 0 a\nput 1 b\nget 0\n", "put 0 a\n\nput 1 b\nget 0",
		"put 0 a\n\n\n\nput 1 b\n\nget 0\n", "put 0 a\nput 1 b\nget 0\n\n", "put 0 a\nput 1 b\nget 0\n\n\n\n", "\n\nput 0 a\n\nput 1 b\n\n\nget 0\n\n",
	} {
		checkBench(t, text, "1", "2", "a")
	}
	checkBench(t, "told", "0")
	checkBench(t, "told\n", "0")
	checkBench(t, "\ntold", "0")
	checkBench(t, "put 0 a", "1")
	// These have one.
	for _, text := range []string{" ", " \n", "  ", "\r", "\r\n", "\x00", "\t\n", "\v", "\xff"} {
		checkBench(t, text, "error")
	}
	checkBench(t, "told\n \ntold\n\r\ntold", "0", "error", "0", "error", "0")
}

func TestBenchOfMostBytes(t *testing.T) {
	start := "put 0 a\nget 0\ntold\n"
	fill := func(head string, size int, lines int) string {
		text := head
		for left := lines; left > 1; left-- {
			text += strings.Repeat("x", (size-len(text))/left-1) + "\n"
		}
		return text + strings.Repeat("x", size-len(text))
	}
	for _, lines := range []int{1, 2, 7, 100, mostLines - 3} {
		errors := slices.Repeat([]string{"error"}, lines)
		want := append([]string{"1", "a", "0"}, errors...)
		for _, size := range []int{mostBench - 1, mostBench} {
			text := fill(start, size, lines)
			checkBench(t, text, want...)
			checkBench(t, text[:size-1]+"\n", want...)
		}
		for _, size := range []int{mostBench + 1, mostBench + 2, 2 * mostBench, 65536, 1 << 20} {
			text := fill(start, size, lines)
			checkBench(t, text)
			checkBench(t, text[:size-1]+"\n")
		}
	}
	for _, one := range []string{"x", " ", "\x00", "\xff", "put ", "0"} {
		checkBench(t, strings.Repeat(one, mostBench)[:mostBench], "error")
		checkBench(t, strings.Repeat(one, mostBench+1)[:mostBench+1])
	}
	// It is bytes that are counted, not runes.
	checkBench(t, strings.Repeat("\u20ac", mostBench/3), "error")
	checkBench(t, strings.Repeat("\u20ac", mostBench/3+1))
	checkBench(t, "put 0 "+strings.Repeat("a", mostBench-6), "error")
}

func TestBenchOfMostLines(t *testing.T) {
	for _, empty := range []int{0, 1, 7, 100, mostLines - 2, mostLines - 1} {
		told := strings.Repeat("told\n", mostLines-empty)
		none := strings.Repeat("\n", empty)
		want := slices.Repeat([]string{"0"}, mostLines-empty)
		for _, text := range []string{told + none, none + told, "told\n" + none + told[5:]} {
			checkBench(t, text, want...)
			checkBench(t, text+"\n")
			checkBench(t, "\n"+text)
			checkBench(t, "told\n"+text)
			checkBench(t, text+"told")
			checkBench(t, text+"x")
			checkBench(t, text+" \n")
			checkBench(t, text+strings.Repeat("told\n", 100))
		}
		// A last line without its byte 10 counts as well.
		checkBench(t, strings.TrimSuffix(none+told, "\n"), want...)
		checkBench(t, strings.TrimSuffix(none+"told\n"+told, "\n"))
	}
	checkBench(t, strings.Repeat("\n", mostLines-1)+"told", "0")
	checkBench(t, strings.Repeat("\n", mostLines)+"told")
	checkBench(t, "told"+strings.Repeat("\n", mostLines), "0")
	checkBench(t, "told"+strings.Repeat("\n", mostLines+1))
	checkBench(t, strings.Repeat("what\n", mostLines), slices.Repeat([]string{"error"}, mostLines)...)
	checkBench(t, strings.Repeat("what\n", mostLines+1))
	for _, count := range []int{255, 256, 257, 1000, 1 << 16} {
		checkBench(t, strings.Repeat("\n", count)+"told")
		checkBench(t, "told\n"+strings.Repeat("\n", count))
	}
}

// aStart is one in which each line of the table may be done with 0 as each of
// its numbers.
func aStart() []string {
	return []string{"put 0 a", "put 1 b", "trim 0", "put 0 c", "grant 0", "drop 0", "write 0 0 d", "send 0", "deliver 0", "deliver 0", "send 0"}
}

// lineWith is that form with these numbers, and this text.
func lineWith(form string, numbers []string, text string) string {
	words := strings.Split(form, " ")
	for i, word := range words {
		switch word {
		case "N":
			words[i], numbers = numbers[0], numbers[1:]
		case "T":
			words[i] = text
		}
	}
	return strings.Join(words, " ")
}

// noughts are as many as a form has numbers.
func noughts(form string) []string {
	return slices.Repeat([]string{"0"}, strings.Count(form, "N"))
}

func rightLines() []string {
	list := []string{}
	for _, form := range lineForms() {
		list = append(list, lineWith(form, noughts(form), "t"))
	}
	return list
}

// looks show all that may be seen of a keeper and a pair.
func looks() []string {
	list := []string{}
	for number := range 12 {
		list = append(list, fmt.Sprintf("get %d", number))
	}
	list = append(list, "level", "told", "steady")
	for who := range 2 {
		for number := range 3 {
			list = append(list, fmt.Sprintf("read %d %d", who, number))
		}
	}
	return list
}

// afterwards goes on with all that may have changed.
func afterwards() []string {
	list := append(looks(), "twice 0", "put 7 x", "write 0 1 y", "deliver 0", "send 0", "deliver 0", "readmit 0", "write 0 2 z", "deliver 1", "deliver 1", "grant 1", "send 1")
	for turn := range 24 {
		list = append(list, fmt.Sprintf("put %d q%d", turn%5, turn))
	}
	return append(append(list, "cut 3 w 2 9", "level", "deliver 0", "deliver 0"), looks()...)
}

// checkRefused asks that a line's answer is error, and that all is as if it was
// not there.
func checkRefused(t *testing.T, ahead []string, line string, behind []string) {
	t.Helper()
	without := linesOf(impl.Bench(joined(slices.Concat(ahead, behind))))
	if len(without) != len(ahead)+len(behind) {
		t.Fatalf("%d answers of %d lines", len(without), len(ahead)+len(behind))
	}
	want := slices.Insert(without, len(ahead), "error")
	checkBench(t, joined(slices.Concat(ahead, []string{line}, behind)), want...)
}

func TestBenchOfRightLines(t *testing.T) {
	for i, want := range []string{"5", "5", "c", "4", "0", "1", "2", "1", "1", "1", "0", "2", "2", ".d", "1", "no"} {
		line := rightLines()[i]
		text := joined(append(aStart(), line))
		if got := linesOf(impl.Bench(text)); got[len(got)-1] != want {
			t.Errorf("%s: %s, not %s", line, got[len(got)-1], want)
		}
		checkByCalls(t, joined(slices.Concat(aStart(), []string{line}, afterwards())))
		for _, next := range rightLines() {
			checkByCalls(t, joined(slices.Concat(aStart(), []string{line, next}, looks())))
		}
	}
}

// edge is what a form's number at that place may be, and what it may not.
type edge struct {
	form  string
	place int
	may   string
	not   string
}

func benchEdges() []edge {
	list := []edge{
		{"cut N T N N", 1, "0 1 2 3 999999999", "-1"}, {"cut N T N N", 2, "0 1 2 500 999999999", "-1"},
		{"write N N T", 1, "0 2", "-1 3"}, {"read N N", 1, "0 2", "-1 3"},
	}
	for _, form := range []string{"put N T", "trim N", "get N", "cut N T N N"} {
		list = append(list, edge{form, 0, "0 11", "-1 12"})
	}
	// Number 1 is not in Sync there.
	for _, form := range []string{"grant N", "send N", "drop N", "readmit N", "write N N T", "read N N"} {
		list = append(list, edge{form, 0, "0", "-1 1 2"})
	}
	for _, form := range []string{"deliver N", "lose N", "twice N"} {
		list = append(list, edge{form, 0, "0", "-1 1"})
	}
	return list
}

func TestBenchAtTheEdges(t *testing.T) {
	for _, e := range benchEdges() {
		lineOf := func(number string) string {
			numbers := noughts(e.form)
			numbers[e.place] = number
			return lineWith(e.form, numbers, "t")
		}
		for _, number := range strings.Split(e.may, " ") {
			line := lineOf(number)
			if got := answersOf(append(aStart(), line), 1); got[0] == "error" {
				t.Errorf("%s is refused", line)
			}
			checkByCalls(t, joined(slices.Concat(aStart(), []string{line}, afterwards())))
		}
		for _, number := range strings.Split(e.not, " ") {
			checkRefused(t, aStart(), lineOf(number), afterwards())
		}
	}
}

// Each one of a pair may do what the other one may.
func TestBenchOfEachOfAPair(t *testing.T) {
	for who := range 2 {
		w := strconv.Itoa(who)
		checkRows(t, "grant "+w+" -> 0", "drop "+w+" -> 0", "write "+w+" 1 a -> 1", "read "+w+" 1 -> .a", "send "+w+" -> 1", "deliver 0 -> 1", "deliver 0 -> 0",
			"readmit "+w+" -> 0", "steady -> yes", "read "+strconv.Itoa(1-who)+" 1 -> error", "grant "+strconv.Itoa(1-who)+" -> 0")
	}
}

func TestBenchOfEveryNoteUnderWay(t *testing.T) {
	for count := 1; count <= 12; count++ {
		ahead := []string{"grant 0", "drop 0"}
		for number := range count {
			ahead = append(ahead, fmt.Sprintf("write 0 0 t%d", number), "send 0")
		}
		for number := range count {
			for _, word := range []string{"deliver", "lose", "twice"} {
				line := fmt.Sprintf("%s %d", word, number)
				got := linesOf(impl.Bench(joined(append(slices.Clone(ahead), line))))
				want := map[string]int{"deliver": count, "lose": count - 1, "twice": count + 1}[word]
				if got[len(got)-1] != strconv.Itoa(want) {
					t.Errorf("%s of %d: %s", line, count, got[len(got)-1])
				}
				behind := append(slices.Repeat([]string{"deliver 0", "steady"}, count+1), looks()...)
				checkByCalls(t, joined(slices.Concat(ahead, []string{line}, behind)))
			}
		}
		for _, number := range []int{-1, count, count + 1, 60, 999999999} {
			for _, word := range []string{"deliver", "lose", "twice"} {
				checkRefused(t, ahead, fmt.Sprintf("%s %d", word, number), looks())
			}
		}
	}
}

func TestBenchWhereNoMoreNotesHaveRoom(t *testing.T) {
	rows := []string{"grant 0 -> 0", "drop 0 -> 0"}
	for number := range mostNet {
		rows = append(rows, fmt.Sprintf("send 0 -> %d", number+1))
	}
	rows = append(rows, "send 0 -> 60", "twice 0 -> 60", "twice 59 -> 60", "twice 60 -> error", "deliver 60 -> error", "lose 60 -> error", "deliver 59 -> 60")
	checkRows(t, append(rows, "lose 59 -> 59", "twice 58 -> 60", "lose 0 -> 59", "lose 58 -> 58", "lose 58 -> error")...)
}

func TestBenchOfAsMuchToldAsThereAreLines(t *testing.T) {
	rows := []string{"grant 0 -> 0", "drop 0 -> 0"}
	for number := range 196 {
		rows = append(rows, fmt.Sprintf("write 0 %d t%d -> %d", number%3, number, number+1))
	}
	checkRows(t, append(rows, "told -> 196", "read 0 0 -> .t195")...)
}

// keeperStates are lines behind which the next put takes one Job, several, or
// has no room.
func keeperStates() map[string][]string {
	all := []string{}
	for number := range 12 {
		all = append(all, fmt.Sprintf("put %d a%d", number, number))
	}
	again := func(count int, below int) []string {
		list := slices.Clone(all)
		for turn := range count {
			list = append(list, fmt.Sprintf("put %d b%d", turn%below, turn))
		}
		return list
	}
	return map[string][]string{
		"new":          {},
		"one":          {"put 4 a"},
		"trimmed":      {"put 4 a", "trim 4"},
		"all":          all,
		"a wipe":       again(8, 12),
		"moves":        again(16, 7),
		"more moves":   again(60, 5),
		"two moves":    append(slices.Clone(all), "put 0 b", "put 4 b", "put 8 b", "put 0 c", "put 1 b", "put 5 b", "put 9 b", "put 1 c"),
		"a torn page":  append(again(8, 5), "cut 3 c 0 9"),
		"a torn wipe":  append(again(8, 12), "cut 3 c 0 3"),
		"without room": withoutRoom(),
	}
}

// withoutRoom are puts and cuts behind which a keeper has no room any more.
func withoutRoom() []string {
	return []string{
		"put 11 a", "cut 5 b 2 15", "put 0 a", "put 4 a", "put 10 a", "cut 5 b 4 25", "put 2 a", "put 3 a", "cut 2 b 2 60", "put 9 a", "put 11 a",
		"cut 10 b 1 45", "put 5 a", "cut 1 b 4 25", "cut 11 b 0 13", "put 11 a", "cut 8 b 4 60", "cut 10 b 0 50",
	}
}

func TestBenchWithoutRoom(t *testing.T) {
	l := newLedger(t, ownChapters())
	if got := l.answers(joined(withoutRoom())); slices.Contains(got, "error") {
		t.Fatalf("refused too early: %v", got)
	}
	for number := range int64(12) {
		if _, is := impl.Plan(l.f, dataPage(number, "x")); is {
			t.Fatalf("there is room for number %d", number)
		}
		for _, line := range []string{"put %d x", "trim %d", "cut %d x 0 0", "cut %d x 1 0", "cut %d x 0 1", "cut %d x 999999999 999999999", "cut %d x -1 0"} {
			checkRefused(t, withoutRoom(), fmt.Sprintf(line, number), looks())
		}
	}
}

func TestBenchOfEveryCut(t *testing.T) {
	plain := newPlainPages(t)
	most := int64(0)
	for name, ahead := range keeperStates() {
		for _, number := range []int64{0, 11} {
			l := newLedger(t, ownChapters())
			l.answers(joined(ahead))
			count, is := impl.Plan(l.f, dataPage(number, "new"))
			if !is && name != "without room" {
				t.Errorf("%s: there is no Plan", name)
			}
			jobs := int64(len(count))
			most = max(most, jobs)
			size := int64(len(plain.laid(impl.Page{Kind: 1, At: number, Stamp: l.f.Stamp + 1, Text: "new"})))
			for done := int64(-1); done <= jobs+1; done++ {
				for _, bytes := range []int64{-1, 0, 1, 2, size / 2, size - 1, size, size + 1, 999999999} {
					line := fmt.Sprintf("cut %d new %d %d", number, done, bytes)
					checkByCalls(t, joined(slices.Concat(ahead, []string{line}, looks(), []string{"put 6 x", "level"}, looks())))
				}
			}
		}
	}
	if most < 4 {
		t.Errorf("there are %d Jobs at most", most)
	}
}

// Whatever a cut does, each number has what it had, or, of that one, the new text.
func TestBenchBehindCuts(t *testing.T) {
	n := numbers(272)
	was, is := 0, 0
	for script := range 120 {
		lines := n.puts(40+n.below(80), 1+script%12)
		before := answersOf(append(lines, looks()[:12]...), 12)
		stamp := len(lines)
		for range 8 {
			number := n.below(12)
			cut := fmt.Sprintf("cut %d new %d %d", number, n.below(6), n.below(60))
			after := answersOf(append(append(slices.Clone(lines), cut), looks()[:12]...), 13)
			want := append([]string{strconv.Itoa(stamp)}, before...)
			if after[number+1] == "new" {
				want[0], want[number+1] = strconv.Itoa(stamp+1), "new"
				is++
			} else {
				was++
			}
			if !slices.Equal(after, want) {
				t.Fatalf("%s: %v, not %v, behind\n%s", cut, after, want, joined(lines))
			}
		}
	}
	if was < 100 || is < 100 {
		t.Errorf("%d times as it was, %d times new", was, is)
	}
}

// answersOf are the last ones.
func answersOf(lines []string, count int) []string {
	list := linesOf(impl.Bench(joined(lines)))
	return list[max(len(list)-count, 0):]
}

func (n *numbers) puts(count int, below int) []string {
	lines := []string{}
	for turn := range count {
		line := fmt.Sprintf("put %d t%d", n.below(below), turn)
		if n.below(8) == 0 {
			line = fmt.Sprintf("trim %d", n.below(below))
		}
		lines = append(lines, line)
	}
	return lines
}

func TestBenchOfUnknownWords(t *testing.T) {
	for _, word := range []string{
		"what", "x", "0", "-1", "PUT", "Put", "puts", "pu", "put\r", "\tput", "put\x00", "ge", "gett", "GET", "cuts", "levels", "grants", "write.", "reads",
		"tolds", "tell", "Steady", "steady\r", "enter", "flush", "spoil", "wipe", "none", "error", "yes", "AT", "TEXT", "\xff", "\u20ac", "put\u00a0", "told\x00",
	} {
		for _, rest := range []string{"", " 0", " 0 a", " 0 0", " 0 0 a", " 0 a 0 0", " a", " 0 0 0 0 0"} {
			checkRefused(t, aStart(), word+rest, looks())
		}
		checkRefused(t, aStart(), word, afterwards())
	}
}

func TestBenchOfEmptyWords(t *testing.T) {
	for _, line := range rightLines() {
		checkRefused(t, aStart(), " "+line, afterwards())
		checkRefused(t, aStart(), line+" ", afterwards())
		checkRefused(t, aStart(), line+"  ", looks())
		checkRefused(t, aStart(), " "+line+" ", looks())
		for i, b := range []byte(line) {
			if b != ' ' {
				continue
			}
			for _, other := range []string{"  ", "   ", "", "\t", "\r", "\x00", "\xa0", "\u00a0", "\u2003", ",", "_"} {
				checkRefused(t, aStart(), line[:i]+other+line[i+1:], looks())
			}
		}
	}
	for _, line := range []string{
		" ", "  ", "    ", "put 0 ", "put  t", "put  0 t", "put 0  t", "put 0 t ", "put", "put ", "write 0 0 ", "write 0  t", "write  0 t", "cut 0  0 0", "cut 0  0 0 ",
		"cut 0 t 0 ", "cut 0 t  0", "cut  t 0 0", "trim ", "get ", "grant ", "read 0 ", "read  0", " told", "told ", "level ", " steady",
	} {
		checkRefused(t, aStart(), line, afterwards())
	}
}

func TestBenchOfWordsTooFewAndTooMany(t *testing.T) {
	for _, line := range rightLines() {
		words := strings.Split(line, " ")
		for i := range words {
			if few := slices.Delete(slices.Clone(words), i, i+1); len(few) > 0 {
				checkRefused(t, aStart(), strings.Join(few, " "), afterwards())
			}
			for _, more := range []string{"0", "t", "-1", line} {
				checkRefused(t, aStart(), strings.Join(slices.Insert(slices.Clone(words), i+1, more), " "), afterwards())
			}
		}
		checkRefused(t, aStart(), line+" "+line, looks())
		checkRefused(t, aStart(), line+strings.Repeat(" 0", 50), looks())
		if len(words) > 1 {
			checkRefused(t, aStart(), words[0], looks())
		}
	}
}

// noNumbers are not of the form of a number, though some may be read as one.
func noNumbers() []string {
	list := []string{
		"+0", "+1", "-0", "00", "01", "-01", "000", "0000000000", "1000000000", "-1000000000", "9999999999", "00000000000000000001", "0.0", "0.", ".0", "1e0",
		"0x0", "0b0", "0o0", "0_0", "1_0", "a", "-", "--0", "--1", "0-", "-a", "0a", "a0", "0\r", "\r0", "0\t", "\t0", "0\x00", "\x000", "\x00", "'0'",
		"\u0660", "\uff10", "\u00b2", "-\u0661", "\u22121", "\u00a00", "NaN", "Inf", "zero", "nil", "AT", "0\xff", "\xff",
		"4294967296", "4294967297", "2147483648", "18446744073709551616", "18446744073709551617", "-18446744073709551616", "-4294967296", "340282366920938463463374607431768211456",
		"9223372036854775807", "9223372036854775808", "-9223372036854775808", "-9223372036854775809", "10000000000000000000", strings.Repeat("0", 100), strings.Repeat("9", 100),
	}
	for _, number := range farNumbers() {
		if number > 999999999 || number < -999999999 {
			list = append(list, strconv.FormatInt(number, 10))
		}
	}
	return list
}

func TestBenchOfWrongNumbers(t *testing.T) {
	for _, form := range lineForms() {
		for place := range strings.Count(form, "N") {
			for i, wrong := range noNumbers() {
				numbers := noughts(form)
				numbers[place] = wrong
				behind := looks()
				if i%8 == 0 {
					behind = afterwards()
				}
				checkRefused(t, aStart(), lineWith(form, numbers, "t"), behind)
			}
			// These are numbers, but not in range.
			for _, far := range []string{"999999999", "-999999999", "-1", "100000000", "-100000000", "13", "256"} {
				numbers := noughts(form)
				numbers[place] = far
				line := lineWith(form, numbers, "t")
				if place == 0 || far[0] == '-' || !strings.HasPrefix(form, "cut") {
					checkRefused(t, aStart(), line, looks())
				} else {
					checkByCalls(t, joined(slices.Concat(aStart(), []string{line}, afterwards())))
				}
			}
		}
	}
	checkRows(t, "cut 0 a 999999999 0 -> 1", "cut 0 b 1000000000 0 -> error", "cut 0 b 0 1000000000 -> error", "cut 0 b 0 999999999 -> 2", "get 0 -> b")
}

// Where a line has several faults, the answer is error all the same.
func TestBenchOfLinesWithSeveralFaults(t *testing.T) {
	for _, line := range []string{
		"put 12 " + strings.Repeat("a", mostText+1), "put a", "put 01 a b", "what 12", "cut 12 a -1 -1", "cut a a a a", "cut -1 " + strings.Repeat("a", 30) + " -1 -1",
		"write 2 3 " + strings.Repeat("a", mostText+1), "read 2 3", "read a b", "get a b", "level a", "told -1 0", " what", "grant 2 ", "deliver x y",
	} {
		checkRefused(t, aStart(), line, afterwards())
	}
}

// lineBytes are all that may stand within a word.
func lineBytes() []byte {
	list := []byte{}
	for b := range 256 {
		if b != '\n' && b != ' ' {
			list = append(list, byte(b))
		}
	}
	return list
}

// word has that many bytes of any kind.
func (n *numbers) word(count int) string {
	bytes, list := lineBytes(), []byte{}
	for range count {
		list = append(list, bytes[n.below(len(bytes))])
	}
	return string(list)
}

func checkText(t *testing.T, text string) {
	t.Helper()
	checkBench(t, "put 5 "+text+"\nget 5\ncut 6 "+text+" 1 0\nget 6\nget 5", "1", text, "2", text, text)
	checkBench(t, "grant 1\ndrop 1\nwrite 1 2 "+text+"\nread 1 2\nread 1 1", "0", "0", "1", "."+text, ".")
	checkBench(t, "grant 0\nsend 0\ndeliver 0\ndeliver 0\nwrite 0 0 "+text+"\ndeliver 0\ndeliver 0\ngrant 1\nsend 1\ndeliver 0\ndeliver 0\nread 1 0",
		"0", "1", "1", "0", "0", "1", "0", "0", "1", "1", "0", "."+text)
}

func TestBenchOfTextsOfEveryByte(t *testing.T) {
	n := numbers(273)
	for _, b := range lineBytes() {
		one := string([]byte{b})
		for _, text := range []string{one, "a" + one, one + "a", one + one, strings.Repeat(one, mostText), n.word(11) + one + n.word(12)} {
			checkText(t, text)
		}
	}
	for count := 1; count <= mostText; count++ {
		for range 10 {
			checkText(t, n.word(count))
		}
	}
	for _, text := range []string{
		"a\u0085b", "a\u00a0b", "\u2003", "\u3000a", "a\tb", "\v\f\r\x1c\x1d\x1e\x1f", "\ufeff", "\ufffd", "\xef\xbf", "\u20ac\u20ac\u20ac\u20ac\u20ac\u20ac\u20ac\u20ac",
		"0", "-1", "007", "none", "error", "put", ".", "..", "yes", "TEXT", "\"a\"", "%d", "\\n", "\r", "\x00\x00",
	} {
		checkText(t, text)
	}
}

func TestBenchOfTextsThatAreTooLong(t *testing.T) {
	for _, text := range longTexts() {
		text = strings.NewReplacer(" ", "_", "\n", "_").Replace(text)
		if len(text) > mostBench-2000 {
			text = text[:mostBench-2000]
		}
		for _, line := range []string{"put 0 ", "write 0 0 "} {
			checkRefused(t, aStart(), line+text, afterwards())
		}
		for _, rest := range []string{" 0 0", " 1 0", " 0 5", " 999999999 999999999"} {
			checkRefused(t, aStart(), "cut 0 "+text+rest, afterwards())
		}
	}
}

// Lines with bytes of any kind, of which few are lines of the table.
func TestBenchOfLinesOfAnyBytes(t *testing.T) {
	n := numbers(274)
	for _, b := range lineBytes() {
		one := string([]byte{b})
		checkRefused(t, aStart(), one, looks())
		for _, line := range []string{"get 0" + one, "get " + one, one + "get 0", "told" + one, "ge" + one + " 0", "cut 0 t 0" + one + " 0", "grant" + one + "0"} {
			if _, numbers, _ := takenApart(line); numbers == nil {
				checkRefused(t, aStart(), line, looks())
			} else {
				checkByCalls(t, joined(append(aStart(), line)))
			}
		}
	}
	for range 300 {
		lines := aStart()
		for range 60 {
			line := n.word(1 + n.below(12))
			if n.below(3) == 0 {
				line += " " + n.word(1+n.below(3))
			}
			lines = append(lines, line)
		}
		checkByCalls(t, joined(lines))
	}
}

// benchNumber is one of below mostly, or one near that.
func (n *numbers) benchNumber(below int) string {
	switch n.below(40) {
	case 0:
		return noNumbers()[n.below(len(noNumbers()))]
	case 1:
		return strconv.Itoa(below)
	case 2:
		return "-1"
	}
	return strconv.Itoa(n.below(max(below, 1)))
}

func (n *numbers) benchText() string {
	switch n.below(24) {
	case 0:
		return n.word(mostText + 1 + n.below(40))
	case 1:
		return n.word(mostText)
	case 2:
		return ""
	case 3, 4, 5:
		return n.word(1 + n.below(mostText))
	}
	return fmt.Sprintf("t%d", n.below(1000))
}

// who is the Holder mostly.
func (n *numbers) who(l *ledger) string {
	if l.p.Witness.Holder < 0 || n.below(4) == 0 {
		return n.benchNumber(2)
	}
	return strconv.FormatInt(l.p.Witness.Holder, 10)
}

// underWay is the last Note mostly.
func (n *numbers) underWay(l *ledger) string {
	if len(l.p.Net) == 0 || n.below(3) == 0 {
		return n.benchNumber(len(l.p.Net))
	}
	return strconv.Itoa(len(l.p.Net) - 1)
}

func (n *numbers) benchLine(l *ledger, forms []string) string {
	form := forms[n.below(len(forms))]
	list := []string{}
	for place := range strings.Count(form, "N") {
		number := n.benchNumber(12)
		switch word, _, _ := strings.Cut(form, " "); {
		case word == "cut" && place == 1:
			number = n.benchNumber(6)
		case word == "cut" && place == 2:
			number = n.benchNumber(70)
		case word == "deliver" || word == "lose" || word == "twice":
			number = n.underWay(l)
		case word == "write" || word == "read":
			number = n.benchNumber(3)
			if place == 0 {
				number = n.who(l)
			}
		case word == "grant" || word == "send" || word == "drop" || word == "readmit":
			number = n.who(l)
		}
		list = append(list, number)
	}
	line := lineWith(form, list, n.benchText())
	switch n.below(50) {
	case 0:
		return ""
	case 1:
		at := n.below(len(line) + 1)
		return line[:at] + " " + line[at:]
	case 2:
		at := n.below(len(line))
		return strings.ReplaceAll(line[:at]+line[at+1:], "\n", "")
	case 3:
		return line + " " + n.benchNumber(12)
	}
	return line
}

// scriptForms are how often each form comes: a keeper alone, one whose power
// fails often, a pair alone, a wild one, and all of them.
func scriptForms() [][]string {
	forms := lineForms()
	often := func(counts ...int) []string {
		list := []string{}
		for i, count := range counts {
			list = append(list, slices.Repeat(forms[i:i+1], count)...)
		}
		return list
	}
	return [][]string{
		often(10, 2, 3, 1, 1),
		often(4, 1, 2, 6, 1),
		often(0, 0, 0, 0, 0, 1, 3, 1, 3, 14, 1, 1, 6, 6, 1, 1),
		often(0, 0, 0, 0, 0, 4, 5, 2, 4, 14, 2, 3, 6, 6, 1, 1),
		often(3, 1, 2, 2, 1, 2, 3, 1, 2, 9, 1, 1, 4, 4, 1, 1),
		often(1, 1, 1, 1, 1, 1, 1, 1, 1, 1, 1, 1, 1, 1, 1, 1),
	}
}

// benchScript is a text of so many lines, made while it is done by calls, and
// its answers.
func (n *numbers) benchScript(l *ledger, count int, forms []string) (string, []string) {
	lines, answers, size := []string{}, []string{}, 0
	for range count {
		line := n.benchLine(l, forms)
		if size += len(line) + 1; size > mostBench {
			break
		}
		lines = append(lines, line)
		if line != "" {
			answers = append(answers, l.answer(line))
		}
	}
	text := joined(lines)
	if n.below(2) == 0 && len(lines) > 0 && lines[len(lines)-1] != "" {
		text = strings.TrimSuffix(text, "\n")
	}
	return text, answers
}

func TestPromise20BenchTellsWhatTheChaptersTell(t *testing.T) {
	n := numbers(275)
	done, refused := map[string]int{}, map[string]int{}
	for script := range 600 {
		l := newLedger(t, ownChapters())
		count := mostLines
		if script%3 > 0 {
			count = n.below(mostLines)
		}
		text, answers := n.benchScript(l, count, scriptForms()[script%len(scriptForms())])
		checkBench(t, text, answers...)
		i := 0
		for _, line := range linesOf(text) {
			if line == "" {
				continue
			}
			word, _, _ := strings.Cut(line, " ")
			if answers[i] == "error" {
				refused[word]++
			} else {
				done[word]++
			}
			i++
		}
	}
	for _, form := range lineForms() {
		word, _, _ := strings.Cut(form, " ")
		if done[word] < 120 || refused[word] < 20 {
			t.Errorf("%s was done %d times and refused %d times", word, done[word], refused[word])
		}
	}
}

func TestPromise20BenchGoesByPlainChapters(t *testing.T) {
	plain := plainChapters(newPlainPages(t))
	n := numbers(276)
	for script := range 30 {
		text, answers := n.benchScript(newLedger(t, plain), 120, scriptForms()[script%len(scriptForms())])
		checkBench(t, text, answers...)
	}
	checkBench(t, joined(withoutRoom())+"put 0 x", newLedger(t, plain).answers(joined(withoutRoom())+"put 0 x")...)
}

// The answers of a text begin with those of any of its first lines, and there is
// one of each line with a byte.
func TestPromise20AnswersComeLineByLine(t *testing.T) {
	n := numbers(277)
	for script := range 18 {
		l := newLedger(t, ownChapters())
		text, _ := n.benchScript(l, n.below(mostLines+1), scriptForms()[script%len(scriptForms())])
		lines, whole := linesOf(text), impl.Bench(text)
		for count := range len(lines) + 1 {
			first := impl.Bench(joined(lines[:count]))
			if !strings.HasPrefix(whole, first) {
				t.Fatalf("the first %d lines of %q: %q, not as %q begins", count, text, first, whole)
			}
			with := slices.DeleteFunc(slices.Clone(lines[:count]), func(line string) bool { return line == "" })
			if strings.Count(first, "\n") != len(with) || first != "" && !strings.HasSuffix(first, "\n") {
				t.Fatalf("%d lines with a byte: %q", len(with), first)
			}
			if first != impl.Bench(strings.TrimSuffix(joined(lines[:count]), "\n")) {
				t.Fatalf("the last one of %d lines needs its byte 10", count)
			}
		}
	}
}

// A line that is refused changes nothing, wherever it stands.
func TestPromise20WhatIsRefusedChangesNothing(t *testing.T) {
	n := numbers(278)
	taken := 0
	for script := range 40 {
		l := newLedger(t, ownChapters())
		text, answers := n.benchScript(l, mostLines, scriptForms()[script%len(scriptForms())])
		lines := slices.DeleteFunc(linesOf(text), func(line string) bool { return line == "" })
		calm, want := []string{}, []string{}
		for i, line := range lines {
			if answers[i] != "error" {
				calm, want = append(calm, line), append(want, answers[i])
			} else {
				taken++
			}
		}
		checkBench(t, joined(calm), want...)
	}
	if taken < 500 {
		t.Errorf("only %d were refused", taken)
	}
}

// Texts are put and got until squares were wiped many times, and power fails
// within many a put.
func TestPromise20ALongRunOfAKeeper(t *testing.T) {
	n := numbers(279)
	for script := range 40 {
		below := 1 + script%12
		a, lines, want := newArray(12), []string{}, []string{}
		stamp := 0
		for len(lines) < mostLines-2 {
			number := n.below(below)
			switch n.below(8) {
			case 0:
				lines = append(lines, fmt.Sprintf("trim %d", number))
				a.enter(trimPage(int64(number)))
				stamp++
				want = append(want, strconv.Itoa(stamp))
			case 1:
				got := "none"
				if a.has[number] {
					got = a.texts[number]
				}
				lines, want = append(lines, fmt.Sprintf("get %d", number)), append(want, got)
			default:
				text := n.word(1 + n.below(mostText))
				lines = append(lines, fmt.Sprintf("put %d %s", number, text))
				a.enter(dataPage(int64(number), text))
				stamp++
				want = append(want, strconv.Itoa(stamp))
			}
		}
		checkBench(t, joined(lines), want...)
		l := newLedger(t, ownChapters())
		l.answers(joined(lines))
		if wipesOf(l.f.Chip) < 30 {
			t.Errorf("only %d wipes", wipesOf(l.f.Chip))
		}
		checkBench(t, joined(append(lines, "level", "told")), append(want, strconv.FormatInt(impl.Level(l.f), 10), "0")...)
	}
}

// Power fails again and again: what is got is what was put, or what a cut came to.
func TestPromise20ALongRunOfCuts(t *testing.T) {
	n := numbers(280)
	old, fresh := 0, 0
	for range 60 {
		a, lines := newArray(3), []string{}
		asked := []int{}
		for turn := range 49 {
			number := n.below(3)
			line := fmt.Sprintf("put %d t%d", number, turn)
			if n.below(3) == 0 {
				line = fmt.Sprintf("cut %d t%d %d %d", number, turn, n.below(5), n.below(60))
			}
			asked = append(asked, number)
			lines = append(lines, line, "get 0", "get 1", "get 2")
		}
		got := linesOf(impl.Bench(joined(lines)))
		for turn, number := range asked {
			text := fmt.Sprintf("t%d", turn)
			seen := got[4*turn+1 : 4*turn+4]
			if got[4*turn] == "error" {
				continue
			}
			if strings.HasPrefix(lines[4*turn], "put") || seen[number] == text {
				a.enter(dataPage(int64(number), text))
				fresh++
			} else {
				old++
			}
			for k, one := range seen {
				if one != a.texts[k] && (a.has[k] || one != "none") {
					t.Fatalf("get %d is %s, not %q, behind\n%s", k, one, a.texts[k], joined(lines[:4*turn+1]))
				}
			}
		}
	}
	if old < 100 || fresh < 1000 {
		t.Errorf("%d times as it was, %d times new", old, fresh)
	}
}

// What was told is read of the other one, once the witness asks that to serve.
func TestPromise20ALongRunOfAPair(t *testing.T) {
	n := numbers(281)
	for range 60 {
		who, told := n.below(2), 0
		values := [3]string{}
		rows := []string{}
		say := func(answer any, format string, words ...any) {
			rows = append(rows, fmt.Sprintf(format, words...)+" -> "+fmt.Sprint(answer))
		}
		for len(rows) < 160 {
			say(0, "grant %d", who)
			say("error", "read %d 0", who)
			say(1, "send %d", who)
			say(1, "deliver 0")
			say(0, "deliver 0")
			for number, text := range values {
				say("."+text, "read %d %d", who, number)
				say("error", "read %d %d", 1-who, number)
			}
			for range n.below(4) {
				number, text := n.below(3), fmt.Sprintf("t%d", len(rows))
				say(told, "write %d %d %s", who, number, text)
				say("error", "read %d %d", who, number)
				if n.below(3) == 0 {
					say(2, "twice 0")
					say(1, "lose %d", n.below(2))
				}
				say(1, "deliver 0")
				say(told, "told")
				say(0, "deliver 0")
				told++
				values[number] = text
				say("."+text, "read %d %d", who, number)
			}
			if n.below(2) == 0 {
				say(0, "drop %d", who)
				number, text := n.below(3), fmt.Sprintf("u%d", len(rows))
				told++
				say(told, "write %d %d %s", who, number, text)
				values[number] = text
				say("error", "grant %d", 1-who)
				say("error", "readmit %d", who)
				say(1, "send %d", who)
				say(1, "deliver 0")
				say(0, "deliver 0")
				say(0, "readmit %d", who)
			}
			say(told, "told")
			say("yes", "steady")
			who = 1 - who
		}
		checkRows(t, rows...)
	}
}

func TestPromise21BenchAnswersAreNewMemory(t *testing.T) {
	n := numbers(282)
	texts := []string{"told", "put 0 a\nget 0", "what", "a", "error\n", "error", "0\n", "put 0 " + strings.Repeat("a", mostText) + "\nget 0\n"}
	for script := range 30 {
		text, _ := n.benchScript(newLedger(t, ownChapters()), 60, scriptForms()[script%len(scriptForms())])
		texts = append(texts, text)
	}
	for _, text := range texts {
		text = strings.Clone(text)
		got, again := impl.Bench(text), impl.Bench(text)
		if sharesMemory(got, text) || sharesMemory(again, text) {
			t.Errorf("the answers of %q share memory with it", text)
		}
		if sharesMemory(got, again) {
			t.Errorf("two answers of %q share memory", text)
		}
	}
}

func TestPromise21BenchArgumentsStay(t *testing.T) {
	n := numbers(283)
	for script := range 60 {
		text, _ := n.benchScript(newLedger(t, ownChapters()), 80, scriptForms()[script%len(scriptForms())])
		text = strings.Clone(text)
		before := strings.Clone(text)
		impl.Bench(text)
		if text != before {
			t.Errorf("%q was written to", before)
		}
	}
}

func TestPromise21BenchNeverPanics(t *testing.T) {
	n := numbers(284)
	texts := append(checkTexts(), trickyTexts()...)
	for _, count := range []int{mostBench - 1, mostBench, mostBench + 1, 1 << 20} {
		texts = append(texts, n.text(count), strings.Repeat("put 0 a\n", count/8), strings.Repeat(" ", count), strings.Repeat("0", count))
	}
	for _, text := range texts {
		neverPanics(t, fmt.Sprintf("Bench of %s", tellText(text)), func() { checkByCalls(t, text) })
	}
	words := []string{"", " ", "0", "1", "2", "11", "12", "-1", "a", "999999999", strconv.Itoa(math.MaxInt64), strconv.Itoa(math.MinInt64), "\x00", "\xff", "01"}
	for _, form := range lineForms() {
		word, _, _ := strings.Cut(form, " ")
		words = append(words, word)
	}
	for range 300 {
		text := ""
		for range n.below(mostLines + 4) {
			line := []string{}
			for range n.below(6) {
				line = append(line, words[n.below(len(words))])
			}
			text += strings.Join(line, " ") + "\n"
		}
		neverPanics(t, fmt.Sprintf("Bench of %q", text), func() { checkByCalls(t, text) })
	}
}

// Nothing is kept from call to call, also of those that run beside one another.
func TestBenchesAnswerAgainAlike(t *testing.T) {
	n := numbers(285)
	texts, answers := []string{}, [][]string{}
	for _, forms := range scriptForms() {
		text, answer := n.benchScript(newLedger(t, ownChapters()), 100, forms)
		texts, answers = append(texts, text), append(answers, answer)
	}
	var callers sync.WaitGroup
	for range 8 {
		callers.Go(func() {
			for range 10 {
				for i, text := range texts {
					checkBench(t, text, answers[i]...)
				}
			}
		})
	}
	callers.Wait()
}
