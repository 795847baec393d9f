package tests

import (
	"fmt"
	"math"
	"slices"
	"strings"
	"testing"

	"loop.example/g00223/impl"
)

const mostLogged = 20

func put(seq int64, number int64, text string) impl.Put {
	return impl.Put{Seq: seq, At: number, Text: text}
}

func logOf(room int64, items ...impl.Put) impl.Log {
	return impl.Log{Room: room, Items: items}
}

// putsFrom have that first Seq, and each one after it; no two Texts are alike.
func putsFrom(first int64, count int) []impl.Put {
	list := []impl.Put{}
	for i := range int64(count) {
		list = append(list, put(first+i, i%4, fmt.Sprintf("t%d", first+i)))
	}
	return list
}

func plainPutOk(p impl.Put) bool {
	return 0 < p.Seq && p.Seq <= 1000000 && -1 < p.At && p.At <= 63 && len(p.Text) < 25
}

func plainPutsOk(list []impl.Put) bool {
	return !slices.ContainsFunc(list, func(p impl.Put) bool { return !plainPutOk(p) })
}

func plainValuesOk(values []string) bool {
	return len(values) <= 64 && !slices.ContainsFunc(values, func(text string) bool { return len(text) > 24 })
}

// plainLogOk counts on from the first Seq.
func plainLogOk(l impl.Log) bool {
	if !slices.Contains([]int64{1, 2, 3, 4, 5, 6, 7, 8, 9, 10, 11, 12, 13, 14, 15, 16, 17, 18, 19, 20}, l.Room) || len(l.Items) > int(l.Room) {
		return false
	}
	for i, p := range l.Items {
		if p.Seq != l.Items[0].Seq+int64(i) {
			return false
		}
	}
	return plainPutsOk(l.Items)
}

func plainAdded(l impl.Log, p impl.Put) (impl.Log, bool) {
	if !plainLogOk(l) || !plainPutOk(p) || len(l.Items) > 0 && p.Seq != l.Items[0].Seq+int64(len(l.Items)) {
		return impl.Log{}, false
	}
	items := append(slices.Clone(l.Items), p)
	for int64(len(items)) > l.Room {
		items = items[1:]
	}
	return impl.Log{Room: l.Room, Items: items}, true
}

// plainSince goes on from the Item that has this Seq, or from ahead of all.
func plainSince(l impl.Log, seq int64) ([]impl.Put, bool) {
	if !plainLogOk(l) || len(l.Items) == 0 {
		return nil, false
	}
	if l.Items[0].Seq-1 == seq {
		return l.Items, true
	}
	for i, p := range l.Items {
		if p.Seq == seq {
			return l.Items[i+1:], true
		}
	}
	return nil, false
}

// plainPlayed looks for each number's last Put.
func plainPlayed(values []string, list []impl.Put) ([]string, bool) {
	if !plainValuesOk(values) || !plainPutsOk(list) {
		return nil, false
	}
	for _, p := range list {
		if p.At >= int64(len(values)) {
			return nil, false
		}
	}
	played := []string{}
	for i, text := range values {
		for _, p := range slices.Backward(list) {
			if p.At == int64(i) {
				text = p.Text
				break
			}
		}
		played = append(played, text)
	}
	return played, true
}

func plainCaught(l impl.Log, values []string, seq int64) ([]string, int64, bool) {
	list, is := plainSince(l, seq)
	played, isPlayed := plainPlayed(values, list)
	if !is || !isPlayed {
		return nil, -1, false
	}
	return played, l.Items[0].Seq + int64(len(l.Items)) - 1, true
}

func logCopy(l impl.Log) impl.Log {
	return impl.Log{Room: l.Room, Items: slices.Clone(l.Items)}
}

func sameLog(a impl.Log, b impl.Log) bool {
	return a.Room == b.Room && slices.Equal(a.Items, b.Items)
}

func tellPuts(list []impl.Put) string {
	told := []string{}
	for _, p := range list {
		told = append(told, fmt.Sprintf("{%d %d %s}", p.Seq, p.At, tellText(p.Text)))
	}
	return "[" + strings.Join(told, ", ") + "]"
}

func tellLog(l impl.Log) string {
	return fmt.Sprintf("{%d %s}", l.Room, tellPuts(l.Items))
}

// sparePut stands in the room behind Puts that are handed in.
func sparePut() impl.Put {
	return impl.Put{Seq: spareMark, Text: "mark"}
}

// guardedLog is a copy of l with room behind its Items, and a check that nothing
// of it was written to.
func guardedLog(t *testing.T, l impl.Log) (impl.Log, func(what string)) {
	t.Helper()
	items, check := withRoomBehind(t, l.Items, sparePut())
	return impl.Log{Room: l.Room, Items: items}, check
}

func checkLogOk(t *testing.T, l impl.Log, want bool) {
	t.Helper()
	l, check := guardedLog(t, l)
	if got := impl.LogOk(l); got != want {
		t.Errorf("LogOk(%s): %v, not %v", tellLog(l), got, want)
	}
	check("LogOk")
}

func checkAdded(t *testing.T, l impl.Log, p impl.Put, want impl.Log, wantIs bool) {
	t.Helper()
	l, check := guardedLog(t, l)
	if got, is := impl.Added(l, p); !sameLog(got, want) || is != wantIs {
		t.Errorf("Added(%s, %s): %s and %v, not %s and %v", tellLog(l), tellPuts([]impl.Put{p}), tellLog(got), is, tellLog(want), wantIs)
	}
	check("Added")
}

func checkNotAdded(t *testing.T, l impl.Log, p impl.Put) {
	t.Helper()
	checkAdded(t, l, p, impl.Log{}, false)
}

// checkSince asks Behind too: it counts what Since tells.
func checkSince(t *testing.T, l impl.Log, seq int64, want []impl.Put, wantIs bool) {
	t.Helper()
	l, check := guardedLog(t, l)
	if got, is := impl.Since(l, seq); !slices.Equal(got, want) || is != wantIs {
		t.Errorf("Since(%s, %d): %s and %v, not %s and %v", tellLog(l), seq, tellPuts(got), is, tellPuts(want), wantIs)
	}
	check("Since")
	count := int64(-1)
	if wantIs {
		count = int64(len(want))
	}
	if got := impl.Behind(l, seq); got != count {
		t.Errorf("Behind(%s, %d): %d, not %d", tellLog(l), seq, got, count)
	}
	check("Behind")
}

func checkNotSince(t *testing.T, l impl.Log, seq int64) {
	t.Helper()
	checkSince(t, l, seq, nil, false)
}

func checkPlayed(t *testing.T, values []string, list []impl.Put, want []string, wantIs bool) {
	t.Helper()
	values, check := withRoomBehind(t, values, "mark")
	list, checkList := withRoomBehind(t, list, sparePut())
	if got, is := impl.Played(values, list); !slices.Equal(got, want) || is != wantIs {
		t.Errorf("Played(%s, %s): %s and %v, not %s and %v", tellTexts(values), tellPuts(list), tellTexts(got), is, tellTexts(want), wantIs)
	}
	check("Played")
	checkList("Played")
}

func checkNotPlayed(t *testing.T, values []string, list []impl.Put) {
	t.Helper()
	checkPlayed(t, values, list, nil, false)
}

func checkCaught(t *testing.T, l impl.Log, values []string, seq int64, want []string, wantSeq int64, wantIs bool) {
	t.Helper()
	l, check := guardedLog(t, l)
	values, checkValues := withRoomBehind(t, values, "mark")
	if got, gotSeq, is := impl.Caught(l, values, seq); !slices.Equal(got, want) || gotSeq != wantSeq || is != wantIs {
		t.Errorf("Caught(%s, %s, %d): %s, %d and %v, not %s, %d and %v", tellLog(l), tellTexts(values), seq, tellTexts(got), gotSeq, is, tellTexts(want), wantSeq, wantIs)
	}
	check("Caught")
	checkValues("Caught")
}

func checkNotCaught(t *testing.T, l impl.Log, values []string, seq int64) {
	t.Helper()
	checkCaught(t, l, values, seq, nil, -1, false)
}

// checkLog holds every function of a Log against the plain ones; it tells which
// of Added, Since and Caught were done.
func checkLog(t *testing.T, l impl.Log, p impl.Put, values []string, seq int64) [3]bool {
	t.Helper()
	checkLogOk(t, l, plainLogOk(l))
	added, isAdded := plainAdded(l, p)
	checkAdded(t, l, p, added, isAdded)
	since, isSince := plainSince(l, seq)
	checkSince(t, l, seq, since, isSince)
	played, isPlayed := plainPlayed(values, l.Items)
	checkPlayed(t, values, l.Items, played, isPlayed)
	caught, last, isCaught := plainCaught(l, values, seq)
	checkCaught(t, l, values, seq, caught, last, isCaught)
	return [3]bool{isAdded, isSince, isCaught}
}

// checkWrongLog asks of a Log that is not as told what every function says there.
func checkWrongLog(t *testing.T, l impl.Log) {
	t.Helper()
	checkLogOk(t, l, false)
	last := int64(0)
	if len(l.Items) > 0 {
		last = l.Items[len(l.Items)-1].Seq
	}
	for _, seq := range []int64{math.MinInt64, -1, 0, 1, last - 1, last, last + 1, mostStamp, math.MaxInt64} {
		checkNotAdded(t, l, put(seq, 0, "a"))
		checkNotSince(t, l, seq)
		checkNotCaught(t, l, make([]string, mostPlaces), seq)
		checkNotCaught(t, l, nil, seq)
	}
}

// edgeTextsOfPuts are Texts that a Put may have.
func edgeTextsOfPuts() []string {
	n := numbers(200)
	return []string{"", "a", "\x00", "\xff", "\n", " ", "\u20ac", "\u20ac"[:2], n.text(23), n.text(24), noughtText(24), strings.Repeat("\u20ac", 8)}
}

// longTexts are too long for a Put and for a Value; the third is of 9 runes.
func longTexts() []string {
	n := numbers(201)
	return []string{n.text(25), noughtText(25), strings.Repeat("\u20ac", 9), n.text(26), n.text(48), n.text(200), n.text(255), n.text(256), n.text(257), n.text(256 + 24), noughtText(70000)}
}

// wrongPuts are each wrong in one thing, or in more.
func wrongPuts() []impl.Put {
	list := []impl.Put{{}, {Text: "a"}, {At: 3, Text: "a"}, put(0, 64, noughtText(25)), put(mostStamp+1, -1, "a")}
	for _, wrong := range append(wrongNumbers(), farNumbers()...) {
		list = append(list, put(wrong, 0, "a"), put(wrong, 63, ""), put(7, wrong, "a"), put(1, wrong, ""), put(wrong, wrong, "a"))
	}
	for _, number := range []int64{64, 65, 127, 128, 255, 256, 257, 1000, mostStamp} {
		list = append(list, put(7, number, "a"))
	}
	for _, text := range longTexts() {
		list = append(list, put(7, 3, text), put(1, 0, text), put(mostStamp, 63, text))
	}
	return append(list, put(0, 0, ""))
}

func wrongRooms() []int64 {
	return append(append(wrongNumbers(), farNumbers()...), 0, 21, 22, 24, 64, 255, 256, 257, 256+20, mostStamp)
}

// wrongLogs are each wrong in one thing, or in more.
func wrongLogs() []impl.Log {
	logs := []impl.Log{{}, {Items: putsFrom(1, 1)}, logOf(21, putsFrom(1, 21)...), logOf(300, putsFrom(1, 300)...)}
	for _, room := range wrongRooms() {
		logs = append(logs, logOf(room), logOf(room, putsFrom(1, 1)...), logOf(room, putsFrom(5, 20)...))
	}
	for _, room := range []int64{1, 2, 3, 19, 20} {
		for _, more := range []int{1, 2, 40, 256} {
			logs = append(logs, logOf(room, putsFrom(1, int(room)+more)...))
		}
	}
	for _, p := range wrongPuts() {
		logs = append(logs, logOf(1, p), logOf(20, p))
		// At each place among right ones, with the Seq that it ought to have.
		for place := range 3 {
			items := putsFrom(7, 3)
			p.Seq = items[place].Seq
			items[place] = p
			if !plainPutOk(p) {
				logs = append(logs, logOf(3, items...))
			}
		}
	}
	for _, seqs := range wrongRows() {
		items := []impl.Put{}
		for _, seq := range seqs {
			items = append(items, put(seq, 0, "a"))
		}
		logs = append(logs, logOf(20, items...), logOf(int64(len(items)), items...))
	}
	return logs
}

// wrongRows are Seqs that don't go up by 1, or go out of range.
func wrongRows() [][]int64 {
	return [][]int64{
		{1, 3}, {1, 1}, {2, 1}, {1, 0}, {0, 1}, {0, 1, 2}, {-1, 0}, {-1, 0, 1}, {1, -2}, {1, 4}, {5, 7}, {5, 5}, {5, 4}, {5, 3}, {5, -6}, {5, 1}, {5, 5 + 1<<32},
		{1, 2, 4}, {1, 2, 2}, {1, 2, 1}, {1, 3, 4}, {1, 1, 2}, {2, 1, 2}, {1, 3, 2}, {3, 2, 1}, {1, 3, 5}, {1, 2, 3, 5}, {1, 3, 4, 5}, {2, 2, 3, 4}, {4, 5, 6, 6}, {4, 5, 5, 6}, {4, 5, 6, 5}, {7, 7, 7, 7},
		{mostStamp, mostStamp + 1}, {mostStamp - 1, mostStamp, mostStamp + 1}, {mostStamp, 1}, {mostStamp, 0}, {mostStamp, mostStamp}, {mostStamp - 2, mostStamp}, {mostStamp, mostStamp - 1},
		{math.MaxInt64, math.MinInt64}, {math.MinInt64, math.MinInt64 + 1}, {math.MaxInt64 - 1, math.MaxInt64}, {1, math.MinInt64}, {1, math.MaxInt64}, {math.MinInt64, 1},
	}
}

// wrongValues are too many, or one of them is too long.
func wrongValues() [][]string {
	lists := [][]string{make([]string, 65), make([]string, 66), make([]string, 128), make([]string, 256), make([]string, 256+64), make([]string, 5000), slices.Repeat([]string{"a"}, 65), slices.Repeat([]string{noughtText(24)}, 65)}
	for _, long := range longTexts() {
		lists = append(lists, []string{long}, []string{"a", long, "b"}, []string{long, "a"}, []string{"a", "b", long}, append(make([]string, 63), long), append([]string{long}, make([]string, 63)...), append(make([]string, 64), long))
	}
	return lists
}

// put has a Seq, and is right.
func (n *numbers) put(seq int64) impl.Put {
	edges := edgeTextsOfPuts()
	number, text := int64(n.below(4)), n.text(n.below(25))
	if n.below(4) == 0 {
		number = int64(n.below(mostPlaces))
	}
	if n.below(4) == 0 {
		text = edges[n.below(len(edges))]
	}
	return put(seq, number, text)
}

// log is a right one, whose Puts have small numbers or any.
func (n *numbers) log() impl.Log {
	room := int64(n.below(mostLogged)) + 1
	count := n.below(int(room) + 1)
	if n.below(3) == 0 {
		count = int(room)
	}
	first := int64(n.below(5)) + 1
	switch n.below(4) {
	case 0:
		first = int64(n.below(mostStamp-mostLogged)) + 1
	case 1:
		first = mostStamp - int64(count) + 1
	}
	l := impl.Log{Room: room}
	for i := range int64(count) {
		l.Items = append(l.Items, n.put(first+i))
	}
	return l
}

// wrongLog is l with one thing changed, mostly so that it is not right any more.
func (n *numbers) wrongLog(l impl.Log) impl.Log {
	l = logCopy(l)
	if len(l.Items) == 0 || n.below(4) == 0 {
		rooms := wrongRooms()
		l.Room = rooms[n.below(len(rooms))]
		return l
	}
	place := n.below(len(l.Items))
	far := farNumbers()
	switch n.below(6) {
	case 0:
		l.Items[place].Seq += int64(n.below(5)) - 2
	case 1:
		l.Items[place].Seq = far[n.below(len(far))]
	case 2:
		l.Items[place].At = far[n.below(len(far))]
	case 3:
		l.Items[place].Text = n.text(25 + n.below(3))
	case 4:
		l.Items = slices.Delete(l.Items, place, place+1)
	case 5:
		l.Room = int64(place)
	}
	return l
}

func (n *numbers) values() []string {
	values := []string{}
	count := []int{0, 1, 3, 4, 5, 63, 64, 64, 64, n.below(65)}[n.below(10)]
	for range count {
		values = append(values, n.text(n.below(25)))
	}
	return values
}

// seqNear is about the Log's ends, within it, or far.
func (n *numbers) seqNear(l impl.Log) int64 {
	far := append(farNumbers(), -1, 0, 1, mostStamp, mostStamp+1)
	if len(l.Items) == 0 || n.below(8) == 0 {
		return far[n.below(len(far))]
	}
	return l.Items[0].Seq - 3 + int64(n.below(len(l.Items)+6))
}

func TestLogOkAtTheEdges(t *testing.T) {
	for room := int64(1); room <= mostLogged; room++ {
		for count := range int(room) + 1 {
			for _, first := range []int64{1, 2, 500, mostStamp - int64(max(count, 1)) + 1} {
				checkLogOk(t, logOf(room, putsFrom(first, count)...), true)
			}
		}
		checkLogOk(t, logOf(room, putsFrom(1, int(room)+1)...), false)
		checkLogOk(t, logOf(room, putsFrom(mostStamp-int64(room)+2, int(room))...), false)
		checkLogOk(t, logOf(room, putsFrom(0, int(room))...), false)
		checkLogOk(t, impl.Log{Room: room, Items: []impl.Put{}}, true)
	}
	for _, room := range []int64{-1, 0, 21} {
		checkLogOk(t, logOf(room), false)
		checkLogOk(t, logOf(room, put(1, 0, "")), false)
	}
	for seq, want := range map[int64]bool{-1: false, 0: false, 1: true, 2: true, mostStamp - 1: true, mostStamp: true, mostStamp + 1: false} {
		checkLogOk(t, logOf(1, put(seq, 0, "")), want)
		checkLogOk(t, logOf(20, put(seq, 63, noughtText(24))), want)
	}
	for number, want := range map[int64]bool{-1: false, 0: true, 1: true, 62: true, 63: true, 64: false, 65: false} {
		checkLogOk(t, logOf(1, put(1, number, "")), want)
		checkLogOk(t, logOf(3, put(1, 0, ""), put(2, number, "a"), put(3, 0, "")), want)
		checkLogOk(t, logOf(3, put(1, 0, ""), put(2, 0, ""), put(3, number, "a")), want)
	}
	for size := range 30 {
		checkLogOk(t, logOf(1, put(1, 0, noughtText(size))), size <= 24)
		checkLogOk(t, logOf(2, put(1, 0, ""), put(2, 0, noughtText(size))), size <= 24)
	}
	for _, text := range edgeTextsOfPuts() {
		checkLogOk(t, logOf(1, put(1, 0, text)), true)
	}
}

// Neighbours may have one At and one Text: it is the Seq that counts.
func TestLogOkOfNeighbours(t *testing.T) {
	for _, c := range []struct {
		seqs []int64
		want bool
	}{
		{[]int64{1}, true}, {[]int64{1, 2}, true}, {[]int64{5, 6, 7}, true}, {[]int64{mostStamp - 1, mostStamp}, true}, {[]int64{9, 10, 11, 12}, true},
		{[]int64{1, 3}, false}, {[]int64{2, 1}, false}, {[]int64{1, 1}, false}, {[]int64{5, 6, 8}, false}, {[]int64{5, 7, 8}, false}, {[]int64{5, 6, 5}, false}, {[]int64{5, 4, 5}, false}, {[]int64{5, 6, 6}, false},
		{[]int64{5, 5, 6}, false}, {[]int64{7, 6, 5}, false}, {[]int64{5, 8}, false}, {[]int64{mostStamp, mostStamp + 1}, false}, {[]int64{0, 1}, false}, {[]int64{mostStamp, 1}, false},
	} {
		items := []impl.Put{}
		for _, seq := range c.seqs {
			items = append(items, put(seq, 2, "same"))
		}
		checkLogOk(t, logOf(4, items...), c.want)
	}
}

func TestLogsThatAreNotAsTold(t *testing.T) {
	for _, l := range wrongLogs() {
		checkWrongLog(t, l)
	}
}

func TestAddedOfSome(t *testing.T) {
	a, b, c := put(4, 0, "a"), put(5, 63, "b"), put(6, 0, "")
	for _, some := range []struct {
		l    impl.Log
		p    impl.Put
		want impl.Log
		is   bool
	}{
		{logOf(1), a, logOf(1, a), true},
		{logOf(3), a, logOf(3, a), true},
		{logOf(3, a), b, logOf(3, a, b), true},
		{logOf(3, a, b), c, logOf(3, a, b, c), true},
		// It is full: the first one goes.
		{logOf(2, a, b), c, logOf(2, b, c), true},
		{logOf(1, a), b, logOf(1, b), true},
		{logOf(1, b), c, logOf(1, c), true},
		// It is not the next one.
		{logOf(3, a), c, impl.Log{}, false},
		{logOf(3, a), a, impl.Log{}, false},
		{logOf(3, b), a, impl.Log{}, false},
		{logOf(1, a), c, impl.Log{}, false},
		{logOf(1, a), a, impl.Log{}, false},
		{logOf(1, b), a, impl.Log{}, false},
		{logOf(2, a, b), b, impl.Log{}, false},
		{logOf(2, a, b), a, impl.Log{}, false},
		{logOf(2, a, b), put(7, 0, "a"), impl.Log{}, false},
		{logOf(2, a, b), put(1, 0, "a"), impl.Log{}, false},
		{logOf(3, a, b), put(7, 0, "a"), impl.Log{}, false},
		// It is the next one, but no right Put.
		{logOf(3, a), put(5, 64, ""), impl.Log{}, false},
		{logOf(3, a), put(5, -1, ""), impl.Log{}, false},
		{logOf(3, a), put(5, 0, noughtText(25)), impl.Log{}, false},
		{logOf(3, a), put(5, 0, noughtText(24)), logOf(3, a, put(5, 0, noughtText(24))), true},
		// The Log is not right.
		{logOf(0), a, impl.Log{}, false},
		{logOf(21), a, impl.Log{}, false},
		{logOf(21, a), b, impl.Log{}, false},
		{logOf(1, a, b), c, impl.Log{}, false},
		{logOf(3, a, c), put(7, 0, ""), impl.Log{}, false},
		{logOf(3, put(4, 64, "")), b, impl.Log{}, false},
	} {
		checkAdded(t, some.l, some.p, some.want, some.is)
	}
}

func TestAddedToAnEmptyLog(t *testing.T) {
	for _, room := range []int64{1, 2, 19, 20} {
		for _, seq := range append(edgeStamps(), 1, 2) {
			if seq >= 1 {
				checkAdded(t, logOf(room), put(seq, 3, "a"), logOf(room, put(seq, 3, "a")), true)
			}
		}
		for _, p := range wrongPuts() {
			checkNotAdded(t, logOf(room), p)
		}
	}
}

// Every number of Items in every Room, with Seqs about the next one.
func TestAddedAtEveryRoom(t *testing.T) {
	for room := int64(1); room <= mostLogged; room++ {
		for count := 1; count <= int(room); count++ {
			for _, first := range []int64{1, 77, mostStamp - int64(count) + 1, mostStamp - int64(count)} {
				items := putsFrom(first, count)
				l := logOf(room, items...)
				last := items[count-1].Seq
				for _, seq := range append(farNumbers(), -1, 0, 1, first-1, first, last-1, last, last+1, last+2, last+3, -last-1, last+1+1<<32, mostStamp, mostStamp+1) {
					p := put(seq, 5, "new")
					want, is := plainAdded(l, p)
					checkAdded(t, l, p, want, is)
					if is != (seq == last+1 && seq <= mostStamp) {
						t.Errorf("Added(%s, Seq %d): %v", tellLog(l), seq, is)
					}
				}
			}
		}
	}
}

func TestAddedAtTheEnd(t *testing.T) {
	for _, room := range []int64{1, 2, 20} {
		l := logOf(room, put(mostStamp-1, 0, "a"))
		l, _ = impl.Added(l, put(mostStamp, 1, "b"))
		checkLogOk(t, l, true)
		for _, seq := range []int64{math.MinInt64, -mostStamp, -1, 0, 1, mostStamp - 1, mostStamp, mostStamp + 1, mostStamp + 2, math.MaxInt64} {
			checkNotAdded(t, l, put(seq, 1, "b"))
		}
		checkSince(t, l, mostStamp, nil, true)
		checkSince(t, l, mostStamp-1, []impl.Put{put(mostStamp, 1, "b")}, true)
		checkNotSince(t, l, mostStamp+1)
		checkCaught(t, l, []string{"x", "y"}, mostStamp, []string{"x", "y"}, mostStamp, true)
		checkCaught(t, l, []string{"x", "y"}, mostStamp-1, []string{"x", "b"}, mostStamp, true)
	}
}

func TestAddedOfWrongPuts(t *testing.T) {
	for _, p := range wrongPuts() {
		for _, l := range []impl.Log{logOf(1), logOf(20), logOf(1, putsFrom(6, 1)...), logOf(3, putsFrom(4, 3)...), logOf(4, putsFrom(4, 3)...), logOf(2, putsFrom(mostStamp-1, 2)...), logOf(20, putsFrom(1, 6)...)} {
			checkNotAdded(t, l, p)
			// With the right Seq it is the rest that is wrong, where that is so.
			if count := len(l.Items); count > 0 {
				next := put(l.Items[count-1].Seq+1, p.At, p.Text)
				want, is := plainAdded(l, next)
				checkAdded(t, l, next, want, is)
			}
		}
	}
}

func TestSinceOfSome(t *testing.T) {
	l := logOf(5, putsFrom(4, 3)...)
	for seq, from := range map[int64]int{3: 0, 4: 1, 5: 2, 6: 3} {
		checkSince(t, l, seq, l.Items[from:], true)
	}
	for _, seq := range []int64{math.MinInt64, math.MinInt64 + 3, -4, -1, 0, 1, 2, 7, 8, 9, 1<<32 + 5, math.MaxInt64 - 1, math.MaxInt64} {
		checkNotSince(t, l, seq)
	}
	one := logOf(1, put(1, 0, "a"))
	checkNotSince(t, one, -1)
	checkSince(t, one, 0, one.Items, true)
	checkSince(t, one, 1, nil, true)
	checkNotSince(t, one, 2)
	checkNotSince(t, one, math.MaxInt64)
}

// An empty Log has no first Item whose Seq is at most anything.
func TestSinceOfTheEmptyLog(t *testing.T) {
	for _, room := range []int64{1, 2, 20} {
		for _, seq := range append(append(farNumbers(), edgeStamps()...), -1, 0, 1, mostStamp) {
			checkNotSince(t, logOf(room), seq)
			checkNotSince(t, impl.Log{Room: room, Items: []impl.Put{}}, seq)
			checkNotCaught(t, logOf(room), []string{"a"}, seq)
			checkNotCaught(t, logOf(room), nil, seq)
		}
	}
}

func TestSinceAtEverySeq(t *testing.T) {
	for room := int64(1); room <= mostLogged; room++ {
		for count := 1; count <= int(room); count++ {
			for _, first := range []int64{1, 2, 90, mostStamp - int64(count) + 1} {
				l := logOf(room, putsFrom(first, count)...)
				for _, seq := range append(farNumbers(), -1, 0, mostStamp, mostStamp+1) {
					want, is := plainSince(l, seq)
					checkSince(t, l, seq, want, is)
				}
				for seq := first - 4; seq <= first+int64(count)+3; seq++ {
					want, is := plainSince(l, seq)
					checkSince(t, l, seq, want, is)
					if is != (first <= seq+1 && seq <= first+int64(count)-1) {
						t.Errorf("Since(%s, %d): %v", tellLog(l), seq, is)
					}
				}
			}
		}
	}
}

func TestPlayedOfSome(t *testing.T) {
	long := noughtText(24)
	for _, c := range []struct {
		values []string
		list   []impl.Put
		want   []string
		is     bool
	}{
		{nil, nil, nil, true},
		{[]string{}, []impl.Put{}, nil, true},
		{[]string{"a"}, nil, []string{"a"}, true},
		{[]string{"a", "", "b"}, nil, []string{"a", "", "b"}, true},
		{nil, []impl.Put{put(1, 0, "x")}, nil, false},
		{[]string{""}, []impl.Put{put(1, 0, "x")}, []string{"x"}, true},
		{[]string{"a", "b"}, []impl.Put{put(1, 0, "x")}, []string{"x", "b"}, true},
		{[]string{"a", "b"}, []impl.Put{put(1, 1, "x")}, []string{"a", "x"}, true},
		{[]string{"a", "b"}, []impl.Put{put(1, 1, "")}, []string{"a", ""}, true},
		{[]string{"a", "b"}, []impl.Put{put(1, 2, "x")}, nil, false},
		{[]string{"a", "b"}, []impl.Put{put(1, 63, "x")}, nil, false},
		// Of several with one At it is the last one.
		{[]string{"a"}, []impl.Put{put(1, 0, "x"), put(2, 0, "y")}, []string{"y"}, true},
		{[]string{"a", "b"}, []impl.Put{put(1, 0, "x"), put(2, 1, "z"), put(3, 0, "y")}, []string{"y", "z"}, true},
		{[]string{"a", "b"}, []impl.Put{put(1, 0, "x"), put(2, 0, "y"), put(3, 0, "a")}, []string{"a", "b"}, true},
		// In the order of the list, whatever the Seqs are.
		{[]string{"a"}, []impl.Put{put(2, 0, "x"), put(1, 0, "y")}, []string{"y"}, true},
		{[]string{"a"}, []impl.Put{put(9, 0, "x"), put(9, 0, "y"), put(2, 0, "z")}, []string{"z"}, true},
		{[]string{"a", "b"}, []impl.Put{put(mostStamp, 1, "x"), put(1, 0, "y"), put(500, 1, "z")}, []string{"y", "z"}, true},
		// All or nothing, wherever the wrong one stands.
		{[]string{"a", "b"}, []impl.Put{put(1, 0, "x"), put(2, 2, "y")}, nil, false},
		{[]string{"a", "b"}, []impl.Put{put(1, 2, "x"), put(2, 1, "y")}, nil, false},
		{[]string{"a", "b"}, []impl.Put{put(1, 0, "x"), put(0, 1, "y")}, nil, false},
		{[]string{"a", "b"}, []impl.Put{put(1, 0, "x"), put(mostStamp+1, 1, "y")}, nil, false},
		{[]string{"a", "b"}, []impl.Put{put(1, -1, "x")}, nil, false},
		{[]string{"a", "b"}, []impl.Put{put(1, 0, long), put(1, 1, long)}, []string{long, long}, true},
		{[]string{"a", "b"}, []impl.Put{put(1, 0, long+"a")}, nil, false},
		// A wrong Text counts also where another one comes over it.
		{[]string{"a", "b"}, []impl.Put{put(1, 0, long+"a"), put(2, 0, "x")}, nil, false},
		{[]string{long}, nil, []string{long}, true},
		{[]string{long + "a"}, nil, nil, false},
		{[]string{long + "a"}, []impl.Put{put(1, 0, "x")}, nil, false},
		{[]string{"a", long + "a"}, []impl.Put{put(1, 0, "x")}, nil, false},
	} {
		checkPlayed(t, c.values, c.list, c.want, c.is)
	}
}

// As many Values as there may be, and every At that they have, and one more.
func TestPlayedAtEveryNumber(t *testing.T) {
	n := numbers(202)
	for count := range mostPlaces + 1 {
		values := []string{}
		for range count {
			values = append(values, n.text(n.below(25)))
		}
		for number := int64(-1); number <= mostPlaces+1; number++ {
			list := []impl.Put{put(3, number, "new")}
			want, is := plainPlayed(values, list)
			checkPlayed(t, values, list, want, is)
			if is != (number >= 0 && number < int64(count)) {
				t.Errorf("Played of %d Values at number %d: %v", count, number, is)
			}
		}
		checkPlayed(t, values, nil, values, true)
	}
	checkPlayed(t, make([]string, 64), []impl.Put{put(1, 63, "x")}, append(make([]string, 63), "x"), true)
	checkNotPlayed(t, make([]string, 65), []impl.Put{put(1, 63, "x")})
	checkNotPlayed(t, make([]string, 65), []impl.Put{put(1, 64, "x")})
	checkNotPlayed(t, make([]string, 65), nil)
}

func TestPlayedOfWrongInputs(t *testing.T) {
	right := []impl.Put{put(1, 0, "x")}
	for _, values := range wrongValues() {
		checkNotPlayed(t, values, nil)
		checkNotPlayed(t, values, right)
		for _, seq := range []int64{math.MinInt64, -1, 0, 1, 2, math.MaxInt64} {
			checkNotCaught(t, logOf(1, right...), values, seq)
			checkNotCaught(t, logOf(2, putsFrom(1, 2)...), values, seq)
		}
	}
	for _, p := range wrongPuts() {
		for _, values := range [][]string{nil, {"a", "b", "c", "d"}, make([]string, 64), make([]string, 65)} {
			checkNotPlayed(t, values, []impl.Put{p})
			checkNotPlayed(t, values, []impl.Put{put(1, 0, "x"), p})
			checkNotPlayed(t, values, []impl.Put{p, put(1, 0, "x")})
			checkNotPlayed(t, values, append(putsFrom(1, 30), p))
		}
	}
}

// More Puts than any Log has room for may be Played: no limit is named.
func TestPlayedOfManyPuts(t *testing.T) {
	n := numbers(203)
	for _, count := range []int{20, 21, 64, 65, 256, 3000} {
		list := []impl.Put{}
		for range count {
			list = append(list, n.put(int64(n.below(mostStamp))+1))
		}
		values := make([]string, 64)
		want, _ := plainPlayed(values, list)
		checkPlayed(t, values, list, want, true)
	}
}

func TestCaughtOfSome(t *testing.T) {
	l := logOf(4, put(4, 0, "a"), put(5, 1, "b"), put(6, 0, "c"))
	values := []string{"x", "y", "z"}
	checkCaught(t, l, values, 3, []string{"c", "b", "z"}, 6, true)
	checkCaught(t, l, values, 4, []string{"c", "b", "z"}, 6, true)
	checkCaught(t, l, values, 5, []string{"c", "y", "z"}, 6, true)
	checkCaught(t, l, values, 6, []string{"x", "y", "z"}, 6, true)
	for _, seq := range []int64{math.MinInt64, -1, 0, 1, 2, 7, 8, math.MaxInt64} {
		checkNotCaught(t, l, values, seq)
	}
	// What is not Played need not fit: number 1 comes only behind 4.
	checkNotCaught(t, l, []string{"x"}, 3)
	checkNotCaught(t, l, []string{"x"}, 4)
	checkCaught(t, l, []string{"x"}, 5, []string{"c"}, 6, true)
	checkCaught(t, l, []string{"x"}, 6, []string{"x"}, 6, true)
	checkNotCaught(t, l, nil, 5)
	checkCaught(t, l, nil, 6, nil, 6, true)
	// Values are asked also where nothing is Played.
	checkCaught(t, l, make([]string, 64), 6, make([]string, 64), 6, true)
	checkNotCaught(t, l, make([]string, 65), 6)
	checkCaught(t, l, []string{noughtText(24)}, 6, []string{noughtText(24)}, 6, true)
	checkNotCaught(t, l, []string{noughtText(25)}, 6)
	checkNotCaught(t, l, []string{noughtText(25), "y"}, 3)
	checkCaught(t, logOf(1, put(1, 63, "a")), make([]string, 64), 0, append(make([]string, 63), "a"), 1, true)
	checkNotCaught(t, logOf(1, put(1, 63, "a")), make([]string, 63), 0)
	checkCaught(t, logOf(1, put(1, 63, "a")), make([]string, 63), 1, make([]string, 63), 1, true)
	// Of a Log that is not right nothing is told, also where no wrong Put is Played.
	checkNotCaught(t, logOf(4, put(4, 64, "a"), put(5, 1, "b")), values, 4)
	checkNotCaught(t, logOf(4, put(4, 0, "a"), put(6, 1, "b")), values, 6)
	checkNotCaught(t, logOf(1, put(4, 0, "a"), put(5, 1, "b")), values, 4)
	checkNotCaught(t, logOf(0), values, 0)
	checkNotCaught(t, logOf(21, put(4, 0, "a")), values, 4)
	checkNotCaught(t, impl.Log{}, values, 0)
}

// Every Log of few Items with few Seqs, at both ends of their range.
func TestLogsOfAllShortRowsAgainstPlainOnes(t *testing.T) {
	right := 0
	for _, base := range []int64{-1, mostStamp - 3} {
		rows := [][]int64{{}}
		for place := 0; place < len(rows); place++ {
			row := rows[place]
			if len(row) < 4 {
				for more := range int64(5) {
					rows = append(rows, append(slices.Clone(row), base+more))
				}
			}
			l := impl.Log{}
			for i, seq := range row {
				l.Items = append(l.Items, put(seq, int64(i)%2, fmt.Sprintf("t%d", i)))
			}
			for l.Room = range 6 {
				for more := int64(-1); more <= 6; more++ {
					if done := checkLog(t, l, put(base+more, 1, "new"), []string{"a", "b"}, base+more); done[1] {
						right++
					}
				}
			}
		}
	}
	// A row of k has k + 1 Seqs to go on from, and fits 6 - k Rooms: at the lower
	// end there are 3, 2 and 1 right rows of 1, 2 and 3, at the upper end one more.
	if right != 3*5*2+2*4*3+3*4+4*5*2+3*4*3+2*3*4+2*5 {
		t.Errorf("%d times Since said true", right)
	}
}

func TestLogsAgainstPlainOnes(t *testing.T) {
	n := numbers(204)
	done := [3]int{}
	for range 12000 {
		l := n.log()
		p := n.put(int64(n.below(mostStamp)) + 1)
		if count := len(l.Items); count > 0 && n.below(4) > 0 {
			p.Seq = l.Items[count-1].Seq + 1
		}
		if n.below(4) == 0 {
			l = n.wrongLog(l)
		}
		for i, is := range checkLog(t, l, p, n.values(), n.seqNear(l)) {
			if is {
				done[i]++
			}
		}
	}
	for _, count := range done {
		if count < 2000 || count > 10000 {
			t.Errorf("of all calls %d were done", done)
		}
	}
}

// diary is what one has who was told all: values[i] behind i Puts, the first of
// which has that Seq.
type diary struct {
	first  int64
	values [][]string
}

func newDiary(first int64, values []string) *diary {
	return &diary{first: first, values: [][]string{values}}
}

// last is the Seq of the last Put, or the one ahead of the first.
func (d *diary) last() int64 {
	return d.first + int64(len(d.values)) - 2
}

func (d *diary) behind(seq int64) []string {
	return d.values[seq-d.first+1]
}

func (d *diary) hear(p impl.Put) {
	values := slices.Clone(d.behind(d.last()))
	values[p.At] = p.Text
	d.values = append(d.values, values)
}

// hold asks of every Seq up to now, and of some more, what the Log tells there.
func (d *diary) hold(t *testing.T, l impl.Log, what string) {
	t.Helper()
	last := d.last()
	for seq := d.first - 3; seq <= last+3; seq++ {
		lacks := last - seq
		if seq < d.first-1 || lacks < 0 || lacks > l.Room || last < d.first {
			if got := impl.Behind(l, seq); got != -1 {
				t.Fatalf("%s: Behind(%s, %d) is %d, not -1", what, tellLog(l), seq, got)
			}
			values := d.behind(max(d.first-1, min(seq, last)))
			if got, gotSeq, is := impl.Caught(l, values, seq); is || gotSeq != -1 || len(got) > 0 {
				t.Fatalf("%s: Caught(%s, %s, %d) is %s, %d and %v", what, tellLog(l), tellTexts(values), seq, tellTexts(got), gotSeq, is)
			}
			continue
		}
		if got := impl.Behind(l, seq); got != lacks {
			t.Fatalf("%s: Behind(%s, %d) is %d, not %d", what, tellLog(l), seq, got, lacks)
		}
		values, all := d.behind(seq), d.behind(last)
		if got, gotSeq, is := impl.Caught(l, values, seq); !is || gotSeq != last || !slices.Equal(got, all) {
			t.Fatalf("%s: Caught(%s, %s, %d) is %s, %d and %v, not %s", what, tellLog(l), tellTexts(values), seq, tellTexts(got), gotSeq, is, tellTexts(all))
		}
	}
}

// scriptPut is the next one, for so many Values, the fewer the more often.
func (n *numbers) scriptPut(seq int64, values int) impl.Put {
	p := n.put(seq)
	p.At = int64(n.below(n.below(values) + 1))
	return p
}

func TestPromise14CaughtTellsWhatOneHasWhoWasToldAll(t *testing.T) {
	n := numbers(205)
	for script := range 200 {
		room := int64(script%mostLogged) + 1
		count := []int{1, 2, 3, 12, mostPlaces}[script%5]
		first := []int64{1, 1, 40, mostStamp - 30}[script/mostLogged%4]
		values := []string{}
		for range count {
			values = append(values, n.text(n.below(3)))
		}
		d := newDiary(first, values)
		l := logOf(room)
		for turn := range 50 {
			what := fmt.Sprintf("script %d, turn %d", script, turn)
			p := n.scriptPut(d.last()+1, count)
			if n.below(5) == 0 {
				// It is refused, and all goes on with the Log as it was.
				wrong := []int64{d.last(), d.last() + 2, d.last() - 1, 0, mostStamp + 1}[n.below(5)]
				if len(l.Items) == 0 {
					wrong = 0
				}
				checkNotAdded(t, l, put(wrong, 0, "wrong"))
			}
			next, is := impl.Added(l, p)
			if is != (p.Seq <= mostStamp) {
				t.Fatalf("%s: Added(%s, Seq %d): %v", what, tellLog(l), p.Seq, is)
			}
			if !is {
				continue
			}
			d.hear(p)
			l = next
			d.hold(t, l, what)
			if !impl.LogOk(l) || int64(len(l.Items)) != min(room, p.Seq-first+1) || l.Items[len(l.Items)-1] != p {
				t.Fatalf("%s: the Log is %s", what, tellLog(l))
			}
		}
	}
}

// One hears now and then; what it lacks goes from the Log now and then, too, and
// it takes all the Values.
func TestPromise14OneThatCatchesUpNowAndThen(t *testing.T) {
	n := numbers(206)
	caught, lost := 0, 0
	for script := range 300 {
		room := int64(script%mostLogged) + 1
		d := newDiary(1, []string{"", "", "", ""})
		l := logOf(room)
		has, seq := d.behind(0), int64(0)
		for range 80 {
			p := n.scriptPut(d.last()+1, 4)
			l, _ = impl.Added(l, p)
			d.hear(p)
			if n.below(int(room)) > 0 {
				continue
			}
			behind := impl.Behind(l, seq)
			if behind < 0 {
				has, seq = d.behind(d.last()), d.last()
				lost++
				continue
			}
			values, last, is := impl.Caught(l, has, seq)
			if !is || last != seq+behind || last != d.last() || !slices.Equal(values, d.behind(last)) {
				t.Fatalf("Caught(%s, %s, %d) is %s, %d and %v, not %s", tellLog(l), tellTexts(has), seq, tellTexts(values), last, is, tellTexts(d.behind(d.last())))
			}
			if impl.Behind(l, last) != 0 {
				t.Fatalf("Behind(%s, %d) is %d", tellLog(l), last, impl.Behind(l, last))
			}
			has, seq = values, last
			caught++
		}
	}
	if caught < 1000 || lost < 100 {
		t.Errorf("it caught up %d times, and %d times it lacked too much", caught, lost)
	}
}

func TestPromise14BehindGoesWithWhatIsAdded(t *testing.T) {
	n := numbers(207)
	for trial := range 3000 {
		l := n.log()
		last := int64(n.below(mostStamp-1)) + 1
		if count := len(l.Items); count > 0 {
			last = l.Items[count-1].Seq
		}
		added, is := impl.Added(l, n.put(last+1))
		if is != (last < mostStamp) {
			t.Fatalf("Added(%s, Seq %d): %v", tellLog(l), last+1, is)
		}
		if !is {
			continue
		}
		for seq := last - 24; seq <= last+3; seq++ {
			before, after := impl.Behind(l, seq), impl.Behind(added, seq)
			want := int64(-1)
			switch {
			case seq == last+1:
				want = 0
			case len(l.Items) == 0 && seq == last:
				want = 1
			case before >= 0 && before < l.Room:
				want = before + 1
			}
			if after != want {
				t.Fatalf("trial %d: Behind %d is %d of %s, and %d of %s", trial, seq, before, tellLog(l), after, tellLog(added))
			}
			since, _ := impl.Since(added, seq)
			if after >= 0 && int64(len(since)) != after {
				t.Fatalf("trial %d: Since(%s, %d) is %s", trial, tellLog(added), seq, tellPuts(since))
			}
		}
	}
}

// In two steps one has what one has in one.
func TestPromise14CaughtInTwoSteps(t *testing.T) {
	n := numbers(208)
	for range 400 {
		room := int64(n.below(mostLogged)) + 1
		d := newDiary(int64(n.below(50))+1, []string{"a", "b", "c"})
		logs := []impl.Log{logOf(room)}
		for range room {
			p := n.scriptPut(d.last()+1, 3)
			l, _ := impl.Added(logs[len(logs)-1], p)
			d.hear(p)
			logs = append(logs, l)
		}
		last := logs[room]
		for _, middle := range logs[1:] {
			values, seq, is := impl.Caught(middle, d.values[0], d.first-1)
			if !is || !slices.Equal(values, d.behind(seq)) {
				t.Fatalf("Caught(%s, .., %d) is %s, %d and %v", tellLog(middle), d.first-1, tellTexts(values), seq, is)
			}
			checkCaught(t, last, values, seq, d.behind(d.last()), d.last(), true)
		}
	}
}

// All short scripts of two numbers and two texts, in small Rooms.
func TestPromise14AllShortScripts(t *testing.T) {
	scripts := 0
	var follow func(l impl.Log, d *diary, left int)
	follow = func(l impl.Log, d *diary, left int) {
		scripts++
		d.hold(t, l, "a short script")
		if left == 0 {
			return
		}
		for way := range int64(4) {
			p := put(d.last()+1, way/2, string([]byte{byte('x' + way%2)}))
			next, _ := impl.Added(l, p)
			longer := &diary{first: d.first, values: slices.Clone(d.values)}
			longer.hear(p)
			follow(next, longer, left-1)
		}
	}
	for room := int64(1); room <= 4; room++ {
		follow(logOf(room), newDiary(1, []string{"", "a"}), 5)
	}
	if scripts != 4*(1+4+16+64+256+1024) {
		t.Errorf("%d scripts", scripts)
	}
}

// textsOfPuts are the Texts that a list has.
func textsOfPuts(list []impl.Put) []string {
	texts := []string{}
	for _, p := range list {
		texts = append(texts, p.Text)
	}
	return texts
}

// checkOwnPuts asks whether an answer shares memory with what was handed in, or
// within itself, and writes to all of it.
func checkOwnPuts(t *testing.T, what string, answer []impl.Put, texts []string) {
	t.Helper()
	checkOwnTexts(t, what, textsOfPuts(answer), texts)
	list := answer[:cap(answer)]
	for i := range list {
		list[i] = impl.Put{Seq: spareMark - 1, Text: "overwritten"}
	}
}

// ownPuts are copies, of which no two Texts share memory.
func ownPuts(list []impl.Put) []impl.Put {
	own := []impl.Put{}
	for _, p := range list {
		p.Text = strings.Clone(p.Text)
		own = append(own, p)
	}
	return own
}

func TestPromise21LogsAreNewMemory(t *testing.T) {
	n := numbers(209)
	for range 3000 {
		l, check := guardedLog(t, n.log())
		p := n.put(int64(n.below(mostStamp)) + 1)
		if count := len(l.Items); count > 0 {
			p.Seq = l.Items[count-1].Seq + 1
		}
		values, checkValues := withRoomBehind(t, n.values(), "mark")
		texts := slices.Concat(textsOfPuts(l.Items), []string{p.Text}, values)
		before, textsBefore := ownPuts(l.Items), ownTexts(texts)
		seq := n.seqNear(l)
		again, _ := impl.Added(l, p)
		want := logCopy(again)
		got, _ := impl.Added(l, p)
		checkOwnPuts(t, "Added", got.Items, texts)
		check("Added")
		if !sameLog(again, want) {
			t.Error("Added: two answers share memory")
		}
		since, _ := impl.Since(l, seq)
		checkOwnPuts(t, "Since", since, texts)
		check("Since")
		played, _ := impl.Played(values, l.Items)
		checkOwnTexts(t, "Played", played, texts)
		check("Played")
		checkValues("Played")
		caught, _, _ := impl.Caught(l, values, seq)
		checkOwnTexts(t, "Caught", caught, texts)
		check("Caught")
		checkValues("Caught")
		if !slices.Equal(l.Items, before) || !slices.Equal(texts, textsBefore) {
			t.Errorf("%s became %s", tellPuts(before), tellPuts(l.Items))
		}
	}
}

// What was handed in may share one Text; what is answered must not.
func TestPromise21PutsThatShareTheirTexts(t *testing.T) {
	text := strings.Clone("one text for all of them")
	items := []impl.Put{put(1, 0, text), put(2, 1, text), put(3, 0, text[:9])}
	values := []string{text, text[4:], text}
	texts := slices.Concat(textsOfPuts(items), values)
	for _, room := range []int64{3, 4} {
		l := logOf(room, items...)
		added, is := impl.Added(l, put(4, 2, text))
		if !is {
			t.Fatal("it is not Added")
		}
		checkOwnPuts(t, "Added", added.Items, texts)
		for seq := range int64(4) {
			since, _ := impl.Since(l, seq)
			checkOwnPuts(t, "Since", since, texts)
			caught, _, is := impl.Caught(l, values, seq)
			if !is {
				t.Fatal("it is not Caught")
			}
			checkOwnTexts(t, "Caught", caught, texts)
		}
		played, _ := impl.Played(values, items[:1])
		checkOwnTexts(t, "Played", played, texts)
		played, _ = impl.Played(values, nil)
		checkOwnTexts(t, "Played", played, texts)
	}
}

// One Log grows in two ways, and neither is seen in the other one.
func TestPromise21TwoLogsThatGrowFromOne(t *testing.T) {
	for room := int64(1); room <= mostLogged; room++ {
		l := logOf(room)
		for seq := int64(1); seq <= 50; seq++ {
			before := logCopy(l)
			left, _ := impl.Added(l, put(seq, 0, "left"))
			leftWas := logCopy(left)
			right, _ := impl.Added(l, put(seq, 0, "right"))
			further, _ := impl.Added(left, put(seq+1, 0, "further"))
			impl.Added(left, put(seq+1, 0, "other"))
			since, _ := impl.Since(left, seq-1)
			impl.Caught(left, []string{"a"}, seq-1)
			if !sameLog(l, before) || !sameLog(left, leftWas) {
				t.Fatalf("%s became %s, or %s became %s", tellLog(before), tellLog(l), tellLog(leftWas), tellLog(left))
			}
			if last := right.Items[len(right.Items)-1]; last != put(seq, 0, "right") || !slices.Equal(since, []impl.Put{put(seq, 0, "left")}) {
				t.Fatalf("the last one of %s, or Since: %s", tellLog(right), tellPuts(since))
			}
			if last := further.Items[len(further.Items)-1]; last != put(seq+1, 0, "further") {
				t.Fatalf("the last one of %s", tellLog(further))
			}
			l = left
			if seq%3 == 0 {
				l = right
			}
		}
	}
}

func TestPromise21LogArgumentsStay(t *testing.T) {
	n := numbers(210)
	wrong := wrongValues()
	for trial := range 3000 {
		l := n.log()
		values := n.values()
		switch trial % 4 {
		case 0:
			l = n.wrongLog(l)
		case 1:
			values = wrong[n.below(len(wrong))]
		}
		l, check := guardedLog(t, l)
		values, checkValues := withRoomBehind(t, values, "mark")
		seq := n.seqNear(l)
		for what, call := range map[string]func(){
			"LogOk": func() { impl.LogOk(l) }, "Added": func() { impl.Added(l, put(seq, 3, "a")) }, "Since": func() { impl.Since(l, seq) },
			"Behind": func() { impl.Behind(l, seq) }, "Played": func() { impl.Played(values, l.Items) }, "Caught": func() { impl.Caught(l, values, seq) },
		} {
			neverPanics(t, what, call)
			check(what)
			checkValues(what)
		}
	}
}

func TestPromise21LogsNeverPanic(t *testing.T) {
	n := numbers(211)
	far := append(append(farNumbers(), edgeStamps()...), 19, 20, 21, 63, 64, 65)
	texts := append(append(longTexts()[:9], edgeTextsOfPuts()...), trickyTexts()...)
	pick := func() int64 { return far[n.below(len(far))] }
	anyPut := func() impl.Put { return put(pick(), pick(), texts[n.below(len(texts))]) }
	for range 6000 {
		l := impl.Log{Room: pick()}
		for range n.below(4) * n.below(9) {
			l.Items = append(l.Items, anyPut())
		}
		values := []string{}
		for range n.below(4) * n.below(24) {
			values = append(values, texts[n.below(len(texts))])
		}
		p, seq := anyPut(), pick()
		neverPanics(t, fmt.Sprintf("a call of %s, %s, %d", tellLog(l), tellTexts(values), seq), func() {
			impl.LogOk(l)
			impl.Added(l, p)
			impl.Since(l, seq)
			impl.Behind(l, seq)
			impl.Played(values, l.Items)
			impl.Caught(l, values, seq)
		})
		checkLog(t, l, p, values, seq)
	}
}

// What one call does must not show in the next one.
func TestLogsAnswerAgainAlike(t *testing.T) {
	l := logOf(2, put(4, 0, "a"), put(5, 1, "b"))
	for range 3 {
		checkLogOk(t, l, true)
		checkAdded(t, l, put(6, 0, "c"), logOf(2, put(5, 1, "b"), put(6, 0, "c")), true)
		checkNotAdded(t, l, put(7, 0, "c"))
		checkSince(t, l, 4, []impl.Put{put(5, 1, "b")}, true)
		checkNotSince(t, l, 2)
		checkPlayed(t, []string{"x", "y"}, l.Items, []string{"a", "b"}, true)
		checkNotPlayed(t, []string{"x"}, l.Items)
		checkCaught(t, l, []string{"x", "y"}, 4, []string{"x", "b"}, 5, true)
		checkNotCaught(t, l, []string{"x", "y"}, 6)
	}
}
