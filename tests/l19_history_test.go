package tests

import (
	"fmt"
	"math"
	"slices"
	"strings"
	"sync"
	"testing"

	"loop.example/g00223/impl"
)

const mostHistory = 12

func wrote(number int64, text string, begin int64, end int64) impl.Op {
	return impl.Op{At: number, Write: true, Text: text, Begin: begin, End: end}
}

func saw(number int64, text string, begin int64, end int64) impl.Op {
	return impl.Op{At: number, Text: text, Begin: begin, End: end}
}

func tellOps(list []impl.Op) string {
	told := []string{}
	for _, o := range list {
		what := "saw"
		if o.Write {
			what = "wrote"
		}
		told = append(told, fmt.Sprintf("%s(%d %s %d %d)", what, o.At, tellText(o.Text), o.Begin, o.End))
	}
	return "[" + strings.Join(told, " ") + "]"
}

func ownOps(list []impl.Op) []impl.Op {
	own := []impl.Op{}
	for _, o := range list {
		o.Text = strings.Clone(o.Text)
		own = append(own, o)
	}
	return own
}

func plainHistoryOk(list []impl.Op) bool {
	times := []int64{}
	for _, o := range list {
		if o.At < 0 || o.At > 2 || o.Begin < 0 || o.End != -1 && o.End <= o.Begin {
			return false
		}
		times = append(times, o.Begin)
		if o.End != -1 {
			times = append(times, o.End)
		}
	}
	slices.Sort(times)
	return len(list) <= mostHistory && len(slices.Compact(slices.Clone(times))) == len(times)
}

func plainAhead(list []impl.Op, a int64, b int64) bool {
	if !plainHistoryOk(list) || min(a, b) < 0 || max(a, b) >= int64(len(list)) {
		return false
	}
	return list[a].End != -1 && list[a].End < list[b].Begin
}

// lastWritten is the Text of the last write of that At in a row of numbers.
func lastWritten(list []impl.Op, row []int64, at int64) string {
	for _, number := range slices.Backward(row) {
		if o := list[number]; o.Write && o.At == at {
			return o.Text
		}
	}
	return ""
}

func plainOrderOk(list []impl.Op, order []int64) bool {
	if !plainHistoryOk(list) {
		return false
	}
	for i, number := range order {
		if number < 0 || number >= int64(len(list)) || slices.Contains(order[:i], number) {
			return false
		}
	}
	for number, o := range list {
		if o.End != -1 && !slices.Contains(order, int64(number)) {
			return false
		}
	}
	for i, number := range order {
		o := list[number]
		for _, ahead := range order[:i] {
			if o.End != -1 && list[ahead].Begin > o.End {
				return false
			}
		}
		if !o.Write && o.Text != lastWritten(list, order[:i], o.At) {
			return false
		}
	}
	return true
}

// allOrders are all lists of numbers below count, each at most once, in the
// order in which they are looked for.
func allOrders(count int) [][]int64 {
	orders := [][]int64{}
	var follow func(row []int64)
	follow = func(row []int64) {
		orders = append(orders, slices.Clone(row))
		for number := range int64(count) {
			if !slices.Contains(row, number) {
				follow(append(slices.Clone(row), number))
			}
		}
	}
	follow([]int64{})
	return orders
}

// plainOrders has allOrders of histories that are short enough to be asked of all.
type plainOrders [][][]int64

func newPlainOrders(most int) plainOrders {
	all := plainOrders{}
	for count := range most + 1 {
		all = append(all, allOrders(count))
	}
	return all
}

func (all plainOrders) linear(list []impl.Op) ([]int64, bool) {
	if !plainHistoryOk(list) {
		return nil, false
	}
	for _, order := range all[len(list)] {
		if plainOrderOk(list, order) {
			return order, true
		}
	}
	return nil, false
}

func plainPart(list []impl.Op, at int64) []impl.Op {
	if !plainHistoryOk(list) {
		return nil
	}
	return slices.DeleteFunc(slices.Clone(list), func(o impl.Op) bool { return o.At != at })
}

func (all plainOrders) local(list []impl.Op) bool {
	for number := range int64(3) {
		if _, is := all.linear(plainPart(list, number)); !is {
			return false
		}
	}
	return plainHistoryOk(list)
}

// stand is how far a row of numbers has come: what is in it, and the number of
// the last write of each At, or -1.
type stand struct {
	has  [mostHistory]bool
	last [3]int64
}

func (s stand) with(list []impl.Op, number int64) (stand, bool) {
	o, text := list[number], ""
	if last := s.last[o.At]; last >= 0 {
		text = list[last].Text
	}
	if s.has[number] || !o.Write && o.Text != text {
		return s, false
	}
	for other := range list {
		if !s.has[other] && plainAhead(list, int64(other), number) {
			return s, false
		}
	}
	s.has[number] = true
	if o.Write {
		s.last[o.At] = number
	}
	return s, true
}

func (s stand) isWhole(list []impl.Op) bool {
	for number, o := range list {
		if o.End != -1 && !s.has[number] {
			return false
		}
	}
	return true
}

// goesOn asks whether an order begins with that row, by all that any row of each
// length comes to.
func goesOn(list []impl.Op, row ...int64) bool {
	from, ok := stand{last: [3]int64{-1, -1, -1}}, true
	for _, number := range row {
		if from, ok = from.with(list, number); !ok {
			return false
		}
	}
	reached := map[stand]int{from: 1}
	for len(reached) > 0 {
		next := map[stand]int{}
		for s := range reached {
			if s.isWhole(list) {
				return true
			}
			for number := range int64(len(list)) {
				if more, ok := s.with(list, number); ok {
					next[more] = 1
				}
			}
		}
		reached = next
	}
	return false
}

// checkFirst asks that Linear tells an order, and the first of all, if there is
// one; it tells whether there is.
func checkFirst(t *testing.T, list []impl.Op) bool {
	t.Helper()
	order, is := impl.Linear(list)
	if want := plainHistoryOk(list) && goesOn(list); is != want || !is && len(order) > 0 {
		t.Fatalf("Linear of %s: %v and %v", tellOps(list), order, is)
	}
	if !is {
		return false
	}
	if !plainOrderOk(list, order) || !impl.OrderOk(list, order) {
		t.Fatalf("Linear of %s: %v is no order", tellOps(list), order)
	}
	for i, number := range order {
		if plainOrderOk(list, order[:i]) {
			t.Fatalf("Linear of %s: %v, where %v comes first", tellOps(list), order, order[:i])
		}
		for lesser := range number {
			if row := append(slices.Clone(order[:i]), lesser); goesOn(list, row...) {
				t.Fatalf("Linear of %s: %v, where one that begins with %v comes first", tellOps(list), order, row)
			}
		}
	}
	return true
}

func checkHistoryOk(t *testing.T, list []impl.Op, want bool) {
	t.Helper()
	if got := impl.HistoryOk(list); got != want {
		t.Errorf("HistoryOk of %s: %v", tellOps(list), got)
	}
}

func checkAhead(t *testing.T, list []impl.Op, a int64, b int64, want bool) {
	t.Helper()
	if got := impl.Ahead(list, a, b); got != want {
		t.Errorf("Ahead of %s, %d, %d: %v", tellOps(list), a, b, got)
	}
}

func checkOrderOk(t *testing.T, list []impl.Op, want bool, order ...int64) {
	t.Helper()
	if got := impl.OrderOk(list, order); got != want {
		t.Errorf("OrderOk of %s, %v: %v", tellOps(list), order, got)
	}
}

func checkLinear(t *testing.T, list []impl.Op, want ...int64) {
	t.Helper()
	if got, is := impl.Linear(list); !slices.Equal(got, want) || !is {
		t.Errorf("Linear of %s: %v and %v, not %v", tellOps(list), got, is, want)
	}
}

func checkNotLinear(t *testing.T, list []impl.Op) {
	t.Helper()
	if got, is := impl.Linear(list); len(got) > 0 || is {
		t.Errorf("Linear of %s: %v and %v", tellOps(list), got, is)
	}
}

func checkPart(t *testing.T, list []impl.Op, number int64, want ...impl.Op) {
	t.Helper()
	if got := impl.Part(list, number); !slices.Equal(got, want) {
		t.Errorf("Part of %s, %d: %s, not %s", tellOps(list), number, tellOps(got), tellOps(want))
	}
}

func checkLocal(t *testing.T, list []impl.Op, want bool) {
	t.Helper()
	if got := impl.Local(list); got != want {
		t.Errorf("Local of %s: %v", tellOps(list), got)
	}
}

// checkHistory holds all that is asked of a short list against the plain answers.
func (all plainOrders) checkHistory(t *testing.T, list []impl.Op) bool {
	t.Helper()
	checkHistoryOk(t, list, plainHistoryOk(list))
	want, is := all.linear(list)
	if is {
		checkLinear(t, list, want...)
	} else {
		checkNotLinear(t, list)
	}
	for number := int64(-1); number <= 3; number++ {
		checkPart(t, list, number, plainPart(list, number)...)
	}
	checkLocal(t, list, all.local(list))
	return is
}

// aHistory has a write that a read sees, a later write that no read sees yet and
// one without an End, at two of three Ats.
func aHistory() []impl.Op {
	return []impl.Op{
		wrote(0, "a", 0, 4), saw(0, "a", 2, 3), wrote(0, "b", 5, 8), saw(0, "a", 6, 7),
		wrote(2, "z", 1, -1), saw(2, "", 9, 10),
	}
}

// apart are writes, each of which has its End ahead of the next one's Begin.
func apart(count int) []impl.Op {
	list := []impl.Op{}
	for i := range int64(count) {
		list = append(list, wrote(i%3, fmt.Sprint("w", i), 2*i, 2*i+1))
	}
	return list
}

// abreast are writes, each of which has its End behind all Begins.
func abreast(count int, at int64) []impl.Op {
	list := []impl.Op{}
	for i := range int64(count) {
		list = append(list, wrote(at, fmt.Sprint("w", i), i, 100+i))
	}
	return list
}

// changedOp is a history with one Op changed.
func changedOp(list []impl.Op, number int, change func(o *impl.Op)) []impl.Op {
	list = slices.Clone(list)
	change(&list[number])
	return list
}

// wrongHistories are each wrong in one thing, or in more.
func wrongHistories() [][]impl.Op {
	right := aHistory()
	wrong := [][]impl.Op{
		apart(mostHistory + 1), abreast(mostHistory+1, 0), apart(mostHistory + 2), apart(100),
		{{}}, {{Write: true}}, {wrote(0, "a", 0, 1), {}}, make([]impl.Op, 2), make([]impl.Op, mostHistory),
		{saw(0, "", 5, 5)}, {saw(0, "", 5, 4)}, {saw(0, "", 5, 0)}, {saw(0, "", 5, -2)}, {saw(0, "", -1, -1)}, {saw(0, "", -1, 3)}, {saw(0, "", -2, -1)},
		{saw(0, "", 1, 2), saw(1, "", 1, 3)}, {saw(0, "", 1, 3), saw(1, "", 2, 3)}, {saw(0, "", 1, -1), saw(2, "", 1, -1)},
		{wrote(0, "a", 0, 1), saw(0, "a", 1, 2)}, {saw(0, "a", 1, 2), wrote(0, "a", 0, 1)}, {wrote(0, "a", 0, 1), saw(1, "", 1, -1)}, {saw(1, "", 1, -1), wrote(0, "a", 0, 1)},
	}
	for number := range right {
		for _, far := range append(farNumbers(), wrongNumbers()...) {
			if far > 2 || far < 0 {
				wrong = append(wrong, changedOp(right, number, func(o *impl.Op) { o.At = far }))
			}
			if far < 0 {
				wrong = append(wrong, changedOp(right, number, func(o *impl.Op) { o.Begin = far }))
			}
			if far < -1 {
				wrong = append(wrong, changedOp(right, number, func(o *impl.Op) { o.End = far }))
			}
		}
		for _, at := range []int64{-1, 3, 4} {
			wrong = append(wrong, changedOp(right, number, func(o *impl.Op) { o.At = at }))
		}
		wrong = append(wrong,
			changedOp(right, number, func(o *impl.Op) { o.End = o.Begin }),
			changedOp(right, number, func(o *impl.Op) { o.Begin = math.MaxInt64; o.End = math.MaxInt64 }),
			changedOp(right, number, func(o *impl.Op) { o.Begin = right[(number+1)%6].Begin; o.End = -1 }),
			changedOp(right, number, func(o *impl.Op) { o.Begin = 11; o.End = 10 }),
			slices.Concat(right[number:], []impl.Op{right[number]}),
		)
	}
	return wrong
}

func TestHistoryOk(t *testing.T) {
	checkHistoryOk(t, nil, true)
	checkHistoryOk(t, []impl.Op{}, true)
	checkHistoryOk(t, aHistory(), true)
	for count := range mostHistory + 1 {
		checkHistoryOk(t, apart(count), true)
		checkHistoryOk(t, abreast(count, 2), true)
	}
	checkHistoryOk(t, apart(mostHistory+1), false)
	checkHistoryOk(t, abreast(mostHistory+1, 2), false)
	for _, wrong := range wrongHistories() {
		checkHistoryOk(t, wrong, false)
		checkHistoryOk(t, wrong, plainHistoryOk(wrong))
	}
}

func TestHistoryOkOfOneOp(t *testing.T) {
	for number, want := range map[int64]bool{-1: false, 0: true, 1: true, 2: true, 3: false} {
		checkHistoryOk(t, []impl.Op{wrote(number, "a", 0, 1)}, want)
		checkHistoryOk(t, []impl.Op{saw(number, "a", 0, -1)}, want)
	}
	for begin, want := range map[int64]bool{math.MinInt64: false, -2: false, -1: false, 0: true, 1: true, math.MaxInt64: true} {
		checkHistoryOk(t, []impl.Op{saw(1, "a", begin, -1)}, want)
		checkHistoryOk(t, []impl.Op{wrote(1, "a", begin, math.MaxInt64)}, want && begin < math.MaxInt64)
	}
	for end, want := range map[int64]bool{math.MinInt64: false, -3: false, -2: false, -1: true, 0: false, 6: false, 7: false, 8: true, math.MaxInt64: true} {
		checkHistoryOk(t, []impl.Op{saw(1, "a", 7, end)}, want)
		checkHistoryOk(t, []impl.Op{wrote(1, "", 7, end)}, want)
	}
	checkHistoryOk(t, []impl.Op{saw(0, "", 0, 0)}, false)
	checkHistoryOk(t, []impl.Op{saw(0, "", 0, 1)}, true)
	for _, text := range append(trickyTexts(), longTexts()...) {
		checkHistoryOk(t, []impl.Op{wrote(0, text, 0, 1), saw(2, text, 2, -1)}, true)
	}
}

func TestHistoryOkOfTwoThatAreAlike(t *testing.T) {
	checkHistoryOk(t, []impl.Op{saw(0, "", 3, 5), saw(0, "", 3, 6)}, false)
	checkHistoryOk(t, []impl.Op{saw(0, "", 3, 5), saw(1, "", 3, -1)}, false)
	checkHistoryOk(t, []impl.Op{saw(0, "", 3, -1), saw(1, "", 3, -1)}, false)
	checkHistoryOk(t, []impl.Op{saw(0, "", 3, 5), saw(0, "", 4, 5)}, false)
	checkHistoryOk(t, []impl.Op{saw(0, "", 3, 5), wrote(2, "a", 4, 5)}, false)
	checkHistoryOk(t, []impl.Op{saw(0, "", 3, -1), saw(0, "", 4, -1)}, true)
	checkHistoryOk(t, []impl.Op{saw(0, "", 3, -1), wrote(2, "a", 4, -1), saw(1, "", 5, -1)}, true)
	// A Begin and an End are two of these, too.
	for begin, want := range map[int64]bool{4: true, 5: false, 6: true} {
		checkHistoryOk(t, []impl.Op{saw(0, "", 3, 5), saw(0, "", begin, 7)}, want)
		checkHistoryOk(t, []impl.Op{saw(0, "", begin, 7), saw(0, "", 3, 5)}, want)
		checkHistoryOk(t, []impl.Op{saw(0, "", 3, 5), wrote(2, "a", begin, -1)}, want)
		checkHistoryOk(t, []impl.Op{saw(0, "", begin, -1), wrote(2, "a", 3, 5)}, want)
	}
	checkHistoryOk(t, []impl.Op{saw(0, "", 0, 1), saw(1, "", 2, -1), saw(2, "", 3, -1)}, true)
	// The two need not stand beside one another.
	for a := range mostHistory {
		for b := range a {
			begins := changedOp(abreast(mostHistory, 1), a, func(o *impl.Op) { o.Begin = int64(b) })
			ends := changedOp(abreast(mostHistory, 1), a, func(o *impl.Op) { o.End = int64(100 + b) })
			checkHistoryOk(t, begins, false)
			checkHistoryOk(t, ends, false)
			checkHistoryOk(t, changedOp(ends, b, func(o *impl.Op) { o.End = -1 }), true)
		}
	}
}

// checkNoHistory asks of all of the chapter that this is none.
func checkNoHistory(t *testing.T, list []impl.Op) {
	t.Helper()
	checkHistoryOk(t, list, false)
	checkNotLinear(t, list)
	checkLocal(t, list, false)
	row := []int64{}
	checkOrderOk(t, list, false)
	for a := range int64(len(list)) {
		row = append(row, a)
		checkOrderOk(t, list, false, row...)
		for b := range int64(len(list)) {
			checkAhead(t, list, a, b, false)
		}
	}
	for number := range int64(3) {
		checkPart(t, list, number)
	}
}

// spread is a history in the order of whose times nothing is changed, and that
// has room between any two.
func spread(list []impl.Op) []impl.Op {
	times := []int64{}
	for _, o := range list {
		times = append(times, o.Begin, o.End)
	}
	slices.Sort(times)
	list = slices.Clone(list)
	for i, o := range list {
		list[i].Begin = int64(10 + 10*slices.Index(times, o.Begin))
		if o.End != -1 {
			list[i].End = int64(10 + 10*slices.Index(times, o.End))
		}
	}
	return list
}

// besides are a history with the Begin of number a put to the End of number b, or
// the End to the Begin, or so far beside it.
func besides(list []impl.Op, a int, b int, far int64) [][]impl.Op {
	begin, end := list[b].Begin+far, list[b].End+far
	changed := [][]impl.Op{
		changedOp(list, a, func(o *impl.Op) { o.End = begin }),
		changedOp(list, a, func(o *impl.Op) { o.Begin = begin - 5; o.End = begin }),
	}
	if list[b].End == -1 {
		return changed
	}
	return append(changed,
		changedOp(list, a, func(o *impl.Op) { o.Begin = end }),
		changedOp(list, a, func(o *impl.Op) { o.Begin = end; o.End = -1 }),
		changedOp(list, a, func(o *impl.Op) { o.Begin = end; o.End = end + 5 }),
	)
}

func TestNoBeginIsTheOtherOnesEnd(t *testing.T) {
	n := numbers(271)
	lists := [][]impl.Op{aHistory(), apart(2), apart(mostHistory), abreast(2, 1), abreast(mostHistory, 0)}
	for range 20 {
		list, _ := n.shopped(2+n.below(mostHistory-1), 1+n.below(6), 3)
		lists = append(lists, list)
	}
	alike, beside := 0, 0
	for _, list := range lists {
		list = spread(list)
		checkHistoryOk(t, list, true)
		for i := range len(list) * len(list) {
			a, b := i/len(list), i%len(list)
			if a == b {
				continue
			}
			for _, next := range besides(list, a, b, 0) {
				checkNoHistory(t, next)
				alike++
			}
			for _, next := range append(besides(list, a, b, -1), besides(list, a, b, 1)...) {
				// It may still end ahead of its own Begin.
				checkHistoryOk(t, next, next[a].End == -1 || next[a].End > next[a].Begin)
				beside++
			}
		}
	}
	if alike < 5000 || beside < 10000 {
		t.Errorf("%d are alike, and %d are not", alike, beside)
	}
}

// Where a Begin is the other one's End, the two are no history, whoever stands first.
func TestABeginThatIsAnEnd(t *testing.T) {
	for _, list := range [][]impl.Op{
		{wrote(0, "a", 0, 1), saw(0, "a", 1, 2)},
		{wrote(0, "a", 0, 1), saw(0, "a", 1, -1)},
		{wrote(0, "a", 0, 1), saw(2, "", 1, math.MaxInt64)},
		{wrote(1, "a", 3, math.MaxInt64), saw(0, "", math.MaxInt64, -1)},
	} {
		checkNoHistory(t, list)
		slices.Reverse(list)
		checkNoHistory(t, list)
	}
}

// spans are all Begins and Ends up to there.
func spans(most int64) []impl.Op {
	list := []impl.Op{}
	for begin := int64(-1); begin < most; begin++ {
		for end := int64(-2); end <= most; end++ {
			list = append(list, impl.Op{Begin: begin, End: end})
		}
	}
	return list
}

func TestHistoriesOfAnyTwoSpans(t *testing.T) {
	all := newPlainOrders(2)
	ok := 0
	for _, first := range spans(4) {
		for _, second := range spans(4) {
			list := []impl.Op{first, second}
			if plainHistoryOk(list) {
				ok++
			}
			all.checkHistory(t, list)
			for a := int64(-1); a <= 2; a++ {
				for b := int64(-1); b <= 2; b++ {
					checkAhead(t, list, a, b, plainAhead(list, a, b))
				}
			}
			for _, order := range all[2] {
				checkOrderOk(t, list, plainOrderOk(list, order), order...)
			}
		}
	}
	// Of times from 0 to 4: 12 where neither has an End, 48 where one has, and 30.
	if ok != 90 {
		t.Errorf("%d histories", ok)
	}
}

func TestAhead(t *testing.T) {
	list := aHistory()
	for a, row := range []string{"--yy-y", "--yy-y", "-----y", "-----y", "------", "------"} {
		for b, letter := range row {
			checkAhead(t, list, int64(a), int64(b), letter == 'y')
		}
	}
	for _, number := range append(farNumbers(), -1, 6, 7, 12) {
		for b := range int64(6) {
			checkAhead(t, list, number, b, false)
			checkAhead(t, list, b, number, false)
		}
		checkAhead(t, list, number, number, false)
	}
	checkAhead(t, list, 0, 5, true)
	checkAhead(t, list, 0, 6, false)
	checkAhead(t, nil, 0, 0, false)
	checkAhead(t, nil, -1, 0, false)
}

func TestAheadAtTheEdge(t *testing.T) {
	// At 5 it is no history.
	for begin, want := range map[int64]bool{4: false, 5: false, 6: true} {
		list := []impl.Op{wrote(0, "a", 1, 5), saw(2, "b", begin, -1)}
		checkHistoryOk(t, list, begin != 5)
		checkAhead(t, list, 0, 1, want)
		checkAhead(t, list, 1, 0, false)
		list[1].End = 9
		checkAhead(t, list, 0, 1, want)
		checkAhead(t, list, 1, 0, false)
	}
	// What has no End is ahead of nothing, though -1 is less than each Begin.
	list := []impl.Op{wrote(0, "a", 0, -1), saw(0, "", 1, -1), saw(0, "", math.MaxInt64, -1), saw(0, "", 2, math.MaxInt64)}
	for a := range int64(4) {
		for b := range int64(4) {
			checkAhead(t, list, a, b, false)
		}
	}
	list[3].End--
	checkAhead(t, list, 3, 2, true)
}

func TestAheadOfNoHistory(t *testing.T) {
	for _, wrong := range wrongHistories() {
		for a := int64(-1); a <= int64(len(wrong)); a++ {
			for b := int64(-1); b <= int64(len(wrong)); b++ {
				checkAhead(t, wrong, a, b, false)
			}
		}
	}
	checkAhead(t, apart(mostHistory), 0, 1, true)
	checkAhead(t, apart(mostHistory), 10, 11, true)
	checkAhead(t, apart(mostHistory+1), 0, 1, false)
}

func TestOrderOk(t *testing.T) {
	list := aHistory()
	checkOrderOk(t, list, true, 0, 1, 3, 2, 5)
	checkOrderOk(t, list, true, 0, 1, 3, 2, 5, 4)
	checkOrderOk(t, list, false, 0, 1, 3, 2, 4, 5) // what number 4 wrote is not what number 5 tells
	checkOrderOk(t, list, false, 0, 1, 2, 3, 5)    // b is written, and a is told
	checkOrderOk(t, list, false, 1, 0, 3, 2, 5)    // a is told ahead of all writes
	checkOrderOk(t, list, false, 0, 3, 1, 2, 5)    // number 1 ends ahead of number 3
	checkOrderOk(t, list, false, 5, 0, 1, 3, 2)
	checkOrderOk(t, nil, true)
	checkOrderOk(t, []impl.Op{}, true, []int64{}...)
	checkOrderOk(t, nil, false, 0)
	checkOrderOk(t, nil, false, -1)
}

func TestOrderOkOfWrongLists(t *testing.T) {
	list := aHistory()
	right := []int64{0, 1, 3, 2, 5}
	for i := range right {
		checkOrderOk(t, list, false, slices.Delete(slices.Clone(right), i, i+1)...) // it has an End, and is lacking
		for _, number := range append(farNumbers(), -1, 6, 7) {
			checkOrderOk(t, list, false, changed(right, i, number)...)
			checkOrderOk(t, list, false, slices.Insert(slices.Clone(right), i, number)...)
		}
		for _, number := range right {
			checkOrderOk(t, list, false, slices.Insert(slices.Clone(right), i, number)...) // twice
		}
	}
	checkOrderOk(t, list, false)
	checkOrderOk(t, list, false, 4)
	checkOrderOk(t, list, false, 0, 1, 3, 2, 5, 5)
	checkOrderOk(t, list, false, 0, 1, 3, 2, 5, 6)
	checkOrderOk(t, list, false, 0, 1, 3, 2, 5, 4, 4)
	checkOrderOk(t, list, false, 0, 1, 3, 2, 5, -1)
	checkOrderOk(t, list, false, slices.Repeat(right, 1000)...)
	one := []impl.Op{wrote(0, "a", 0, 1)}
	checkOrderOk(t, one, true, 0)
	checkOrderOk(t, one, false)
	checkOrderOk(t, one, false, 0, 0)
	checkOrderOk(t, one, false, 1)
	checkOrderOk(t, one, false, -1)
}

func TestOrderOkWithoutAnEnd(t *testing.T) {
	// It may be left out, or come anywhere behind what is ahead of it.
	list := []impl.Op{wrote(0, "a", 0, 2), wrote(0, "b", 3, -1), saw(1, "", 4, 6), saw(0, "never", 5, -1)}
	checkOrderOk(t, list, true, 0, 2)
	checkOrderOk(t, list, true, 0, 1, 2)
	checkOrderOk(t, list, true, 0, 2, 1)
	checkOrderOk(t, list, false, 1, 0, 2)
	checkOrderOk(t, list, false, 0, 2, 3) // also a read without an End tells what was written
	checkOrderOk(t, list, false, 0, 1, 2, 3)
	list[3].Text = "b"
	checkOrderOk(t, list, true, 0, 1, 2, 3)
	checkOrderOk(t, list, true, 0, 1, 3, 2)
	checkOrderOk(t, list, true, 0, 2, 1, 3)
	checkOrderOk(t, list, false, 0, 2, 3)
	checkOrderOk(t, list, false, 0, 2, 3, 1)
	checkOrderOk(t, list, false, 3, 1, 0, 2)
	list[3].Begin = 7
	checkOrderOk(t, list, true, 0, 1, 2, 3)
	checkOrderOk(t, list, false, 0, 1, 3, 2) // it began when number 2 was over
	only := []impl.Op{wrote(0, "a", 0, -1), wrote(1, "b", 1, -1)}
	for _, order := range allOrders(2) {
		checkOrderOk(t, only, true, order...)
	}
}

func TestOrderOkOfTimes(t *testing.T) {
	for begin, want := range map[int64]bool{3: true, 4: true, 6: false, 7: false} {
		list := []impl.Op{wrote(0, "a", 1, 5), wrote(1, "b", begin, 9)}
		checkOrderOk(t, list, true, 0, 1)
		checkOrderOk(t, list, want, 1, 0)
		list[1].End = -1
		checkOrderOk(t, list, want, 1, 0)
		list[0].End = -1
		checkOrderOk(t, list, true, 1, 0)
	}
	alike := []impl.Op{wrote(0, "a", 1, 5), wrote(1, "b", 5, 9)}
	checkOrderOk(t, alike, false, 0, 1)
	checkOrderOk(t, alike, false, 1, 0)
	// Others may stand between the two.
	list := []impl.Op{wrote(0, "a", 0, 1), wrote(1, "b", 2, 3), wrote(2, "c", 0, 9)}
	list[2].Begin = 4
	checkOrderOk(t, list, true, 0, 1, 2)
	for _, order := range allOrders(3) {
		checkOrderOk(t, list, slices.Equal(order, []int64{0, 1, 2}), order...)
	}
	for i := range mostHistory {
		for j := range i {
			row := []int64{}
			for number := range int64(mostHistory) {
				row = append(row, number)
			}
			row[i], row[j] = row[j], row[i]
			checkOrderOk(t, apart(mostHistory), false, row...)
			checkOrderOk(t, abreast(mostHistory, 1), true, row...)
		}
	}
}

func TestOrderOkOfReads(t *testing.T) {
	write, other, late := wrote(0, "a", 0, 10), wrote(1, "b", 1, 11), wrote(0, "c", 2, 12)
	for text, want := range map[string][][]int64{
		"":  {{3, 0, 1, 2}, {3, 0, 2, 1}, {3, 2, 1, 0}, {1, 3, 0, 2}, {3, 1, 0, 2}},
		"a": {{0, 3, 1, 2}, {0, 1, 3, 2}, {2, 0, 3, 1}, {1, 2, 0, 3}},
		"b": {},
		"c": {{0, 1, 2, 3}, {0, 2, 3, 1}, {2, 3, 0, 1}, {1, 0, 2, 3}},
		"d": {},
	} {
		list := []impl.Op{write, other, late, saw(0, text, 3, 13)}
		for _, order := range want {
			checkOrderOk(t, list, true, order...)
		}
		for _, order := range allOrders(4) {
			checkOrderOk(t, list, plainOrderOk(list, order), order...)
		}
	}
	// An empty Text may be written, too, and a Text twice.
	again := []impl.Op{wrote(2, "a", 0, 10), wrote(2, "", 1, 11), wrote(2, "a", 2, 12), saw(2, "", 3, 13), saw(2, "a", 4, 14)}
	checkOrderOk(t, again, true, 0, 1, 3, 2, 4)
	checkOrderOk(t, again, true, 2, 1, 3, 0, 4)
	checkOrderOk(t, again, true, 3, 0, 4, 1, 2)
	checkOrderOk(t, again, false, 0, 3, 1, 2, 4)
	checkOrderOk(t, again, false, 0, 2, 1, 3, 4)
	// Texts are told apart by each of their bytes.
	for _, text := range append(trickyTexts(), longTexts()...) {
		for _, other := range append(trickyTexts(), longTexts()...) {
			checkOrderOk(t, []impl.Op{wrote(1, text, 0, 1), saw(1, other, 2, 3)}, text == other, 0, 1)
		}
	}
}

func TestOrderOkOfNoHistory(t *testing.T) {
	for _, wrong := range wrongHistories() {
		row := []int64{}
		checkOrderOk(t, wrong, false)
		for number := range wrong {
			row = append(row, int64(number))
			checkOrderOk(t, wrong, false, row...)
		}
	}
}

func TestLinear(t *testing.T) {
	checkLinear(t, aHistory(), 0, 1, 3, 2, 5)
	checkLinear(t, nil)
	checkLinear(t, []impl.Op{})
	checkLinear(t, []impl.Op{wrote(0, "a", 0, 1)}, 0)
	checkLinear(t, []impl.Op{saw(0, "", 0, 1)}, 0)
	checkNotLinear(t, []impl.Op{saw(0, "a", 0, 1)})
	checkNotLinear(t, []impl.Op{saw(0, "a", 0, 1), wrote(0, "a", 2, 3)})
	checkLinear(t, []impl.Op{saw(0, "a", 0, 2), wrote(0, "a", 1, 3)}, 1, 0)
	checkNotLinear(t, []impl.Op{saw(0, "a", 0, 2), wrote(0, "a", 2, 3)}) // it is no history
	checkLinear(t, []impl.Op{saw(0, "", 0, 2), wrote(0, "a", 1, 3)}, 0, 1)
	checkNotLinear(t, []impl.Op{wrote(1, "a", 0, 2), saw(0, "a", 3, 4)})
	// Of several orders the first one is told.
	checkLinear(t, []impl.Op{wrote(0, "a", 2, 12), wrote(0, "b", 1, 11), wrote(0, "c", 0, 10)}, 0, 1, 2)
	checkLinear(t, []impl.Op{wrote(0, "a", 2, 12), wrote(0, "b", 1, 11), wrote(0, "c", 0, 10), saw(0, "a", 20, 21)}, 1, 2, 0, 3)
	checkLinear(t, []impl.Op{wrote(0, "a", 5, 12), wrote(0, "b", 1, 11), wrote(0, "c", 0, 4)}, 1, 2, 0)
	checkLinear(t, []impl.Op{saw(0, "b", 20, 21), wrote(0, "a", 2, 12), wrote(0, "b", 1, 11), saw(0, "a", 10, 30)}, 1, 3, 2, 0)
	checkNotLinear(t, []impl.Op{saw(0, "b", 20, 21), wrote(0, "a", 2, 12), wrote(0, "b", 1, 11), saw(0, "a", 18, 30)})
}

// That the numbers are another way round makes no order.
func TestLinearBackInTime(t *testing.T) {
	list := []impl.Op{wrote(0, "a", 0, 9), saw(0, "a", 1, 2), saw(0, "", 3, 5)}
	checkNotLinear(t, list)
	checkLocal(t, list, false)
	list[1].End = 4
	checkLinear(t, list, 2, 0, 1)
	list[1].End = 2
	list[2].Text = "a"
	checkLinear(t, list, 0, 1, 2)
	// Once b was seen, a is gone for good.
	list = []impl.Op{wrote(1, "a", 0, 1), wrote(1, "b", 2, 20), saw(1, "b", 3, 5), saw(1, "a", 6, 7)}
	checkNotLinear(t, list)
	list[3].Begin = 4
	checkLinear(t, list, 0, 3, 1, 2)
}

func TestLinearWithoutAnEnd(t *testing.T) {
	// The first order leaves it out, or has it.
	checkLinear(t, []impl.Op{wrote(0, "a", 0, -1), saw(0, "", 1, 2)}, 1)
	checkLinear(t, []impl.Op{saw(0, "", 1, 2), wrote(0, "a", 0, -1)}, 0)
	checkLinear(t, []impl.Op{wrote(0, "a", 0, -1), saw(0, "a", 1, 2)}, 0, 1)
	checkLinear(t, []impl.Op{saw(0, "a", 1, 2), wrote(0, "a", 0, -1)}, 1, 0)
	checkLinear(t, []impl.Op{saw(0, "a", 1, 3), wrote(0, "a", 2, -1)}, 1, 0)
	checkNotLinear(t, []impl.Op{saw(0, "a", 1, 3), wrote(0, "a", 3, -1)}) // it is no history
	checkNotLinear(t, []impl.Op{saw(0, "a", 1, 3), wrote(0, "a", 4, -1)})
	// A lesser number goes first, though all with an End were there without it.
	checkLinear(t, []impl.Op{wrote(0, "a", 0, -1), saw(1, "", 1, 2)}, 0, 1)
	checkLinear(t, []impl.Op{saw(1, "", 1, 2), wrote(0, "a", 0, -1)}, 0)
	checkLinear(t, []impl.Op{wrote(0, "a", 3, -1), saw(1, "", 1, 2)}, 1)
	// Without an End, a read need not be right.
	checkLinear(t, []impl.Op{saw(0, "never", 0, -1), wrote(0, "a", 1, 2)}, 1)
	checkLinear(t, []impl.Op{saw(0, "a", 0, -1), wrote(0, "a", 1, 2)}, 1)
	checkLinear(t, []impl.Op{saw(0, "", 0, -1), wrote(0, "a", 1, 2)}, 0, 1)
	checkLinear(t, []impl.Op{saw(0, "a", 0, -1), wrote(0, "a", 1, 2), saw(2, "", 3, 4)}, 1, 0, 2)
	// Where nothing has an End, nothing need be in it.
	checkLinear(t, []impl.Op{wrote(0, "a", 0, -1), wrote(0, "b", 1, -1), saw(2, "never", 2, -1)})
	// Some are needed, and some are in the way.
	list := []impl.Op{wrote(0, "a", 0, -1), wrote(0, "b", 1, -1), wrote(0, "c", 2, -1), saw(0, "c", 3, 4), saw(0, "a", 5, 6), saw(0, "a", 7, 8)}
	checkLinear(t, list, 1, 2, 3, 0, 4, 5)
	list[5].Text = "c"
	checkNotLinear(t, list)
	list[5].Text = "b"
	checkLinear(t, list, 2, 3, 0, 4, 1, 5)
}

func TestLinearOfFullHistories(t *testing.T) {
	row := []int64{}
	for number := range int64(mostHistory) {
		row = append(row, number)
	}
	back := slices.Clone(row)
	slices.Reverse(back)
	checkLinear(t, apart(mostHistory), row...)
	checkNotLinear(t, apart(mostHistory+1))
	checkLinear(t, abreast(mostHistory, 0), row...)
	checkNotLinear(t, abreast(mostHistory+1, 0))
	turned := apart(mostHistory)
	slices.Reverse(turned)
	checkLinear(t, turned, back...)
	none := abreast(mostHistory, 0)
	for i := range none {
		none[i].End = -1
	}
	checkLinear(t, none)
}

// There is much to go through where all are abreast, and it ends.
func TestLinearWhereAllAreAbreast(t *testing.T) {
	for trial := range 6 {
		// No write has what a read tells, which shows only behind all others.
		list := abreast(mostHistory, int64(trial%3))
		for i := range list {
			if trial >= 3 {
				list[i].At = int64(i % 3)
			}
		}
		list[mostHistory-1] = saw(0, "never", 50, 60)
		checkNotLinear(t, list)
		checkLocal(t, list, false)
		list[mostHistory-1].End = -1
		checkLinear(t, list, 0, 1, 2, 3, 4, 5, 6, 7, 8, 9, 10)
		checkLocal(t, list, true)
	}
	// Reads one behind the other make one order of writes that are abreast.
	list := []impl.Op{}
	for i := range int64(6) {
		list = append(list, wrote(0, fmt.Sprint(i), i, 100+i))
	}
	for i := range int64(6) {
		list = append(list, saw(0, fmt.Sprint(5-i), 10+2*i, 11+2*i))
	}
	checkLinear(t, list, 5, 6, 4, 7, 3, 8, 2, 9, 1, 10, 0, 11)
	list[11].Text = "5"
	checkNotLinear(t, list)
	checkLocal(t, list, false)
	list[11].Text = "1"
	checkLinear(t, list, 0, 5, 6, 4, 7, 3, 8, 2, 9, 1, 10, 11)
}

// Texts may be of any length, and are told apart by their last byte.
func TestLinearOfLongTexts(t *testing.T) {
	long := noughtText(1 << 20)
	list := []impl.Op{}
	for i := range int64(6) {
		list = append(list, wrote(1, long+string(rune('a'+i)), i, 100+i), saw(1, long+string(rune('a'+i)), 10+i, 110+i))
	}
	checkFirst(t, list)
	checkLinear(t, list, 0, 1, 2, 3, 4, 5, 6, 7, 8, 9, 10, 11)
	checkLocal(t, list, true)
	list[11].Text = long + "g"
	checkNotLinear(t, list)
	checkLocal(t, list, false)
}

func TestLinearOfNoHistory(t *testing.T) {
	for _, wrong := range wrongHistories() {
		checkNotLinear(t, wrong)
		checkLocal(t, wrong, false)
		for _, number := range append(farNumbers(), 0, 1, 2, 3) {
			checkPart(t, wrong, number)
		}
	}
}

func TestPart(t *testing.T) {
	list := aHistory()
	checkPart(t, list, 0, list[:4]...)
	checkPart(t, list, 1)
	checkPart(t, list, 2, list[4:]...)
	for _, number := range append(farNumbers(), -1, 3, 4, 6, 256, 258) {
		checkPart(t, list, number)
		checkPart(t, nil, number)
	}
	for number := range int64(3) {
		checkPart(t, nil, number)
		checkPart(t, []impl.Op{}, number)
	}
	full := apart(mostHistory)
	checkPart(t, full, 0, full[0], full[3], full[6], full[9])
	checkPart(t, full, 1, full[1], full[4], full[7], full[10])
	checkPart(t, full, 2, full[2], full[5], full[8], full[11])
	checkPart(t, apart(mostHistory+1), 0)
	whole := abreast(mostHistory, 1)
	checkPart(t, whole, 1, whole...)
	// In the order in which they stand, not in that of their times.
	slices.Reverse(whole)
	checkPart(t, whole, 1, whole...)
}

func TestLocal(t *testing.T) {
	checkLocal(t, aHistory(), true)
	checkLocal(t, nil, true)
	checkLocal(t, []impl.Op{}, true)
	checkLocal(t, apart(mostHistory), true)
	checkLocal(t, apart(mostHistory+1), false)
	checkLocal(t, abreast(mostHistory, 2), true)
	checkLocal(t, abreast(mostHistory+1, 2), false)
	// One Part without an order is enough, whichever it is.
	for number := range int64(3) {
		list := append(apart(8), saw(number, "never", 20, 21))
		checkLocal(t, list, false)
		list[8].End = -1
		checkLocal(t, list, true)
		list[8].At = 3
		checkLocal(t, list, false)
	}
	wrong := []impl.Op{saw(0, "a", 0, 1), saw(1, "a", 2, 3), saw(2, "a", 4, 5)}
	checkLocal(t, wrong, false)
	for number := range wrong {
		wrong[number].Text = ""
		checkLocal(t, wrong, number == 2)
	}
	// What another At has written is nothing to a read.
	checkLocal(t, []impl.Op{wrote(0, "a", 0, 1), saw(1, "a", 2, 3)}, false)
	checkLocal(t, []impl.Op{wrote(0, "a", 0, 1), saw(1, "", 2, 3)}, true)
}

// smallOps are Ops of two Ats, with two Texts.
func smallOps(texts ...string) []impl.Op {
	list := []impl.Op{}
	for number := range int64(2) {
		for _, text := range texts {
			list = append(list, wrote(2*number, text, 0, 0), saw(2*number, text, 0, 0))
		}
	}
	return list
}

func withSpan(o impl.Op, span impl.Op) impl.Op {
	o.Begin, o.End = span.Begin, span.End
	return o
}

func TestAllHistoriesOfTwo(t *testing.T) {
	all := newPlainOrders(2)
	linear, not := 0, 0
	for _, first := range spans(4) {
		for _, second := range spans(4) {
			if !plainHistoryOk([]impl.Op{first, second}) {
				continue
			}
			for _, a := range smallOps("", "a", "b") {
				for _, b := range smallOps("", "a", "b") {
					if all.checkHistory(t, []impl.Op{withSpan(a, first), withSpan(b, second)}) {
						linear++
					} else {
						not++
					}
				}
			}
		}
	}
	if linear < 8000 || not < 4000 {
		t.Errorf("%d are Linear, and %d are not", linear, not)
	}
}

func TestAllHistoriesOfThree(t *testing.T) {
	all := newPlainOrders(3)
	linear, not := 0, 0
	for _, first := range spans(4) {
		for _, second := range spans(4) {
			for _, third := range spans(4) {
				if !plainHistoryOk([]impl.Op{first, second, third}) {
					continue
				}
				ops := smallOps("", "a")
				for i := range len(ops) * len(ops) * len(ops) {
					list := []impl.Op{withSpan(ops[i%8], first), withSpan(ops[i/8%8], second), withSpan(ops[i/64], third)}
					if all.checkHistory(t, list) {
						linear++
					} else {
						not++
					}
				}
			}
		}
	}
	if linear < 20000 || not < 10000 {
		t.Errorf("%d are Linear, and %d are not", linear, not)
	}
}

// shopOp is an Op as it comes about: it is begun, then it is done, then it ends.
type shopOp struct {
	op   impl.Op
	done bool
	line int64
}

// shop is where Ops come about, one thing at a time; lines are the numbers of
// those that were done, as they were.
type shop struct {
	values [3]string
	ops    []shopOp
	lines  []int64
	now    int64
}

// begin opens one more, and end ends one; no two of them are at one time.
func (s *shop) begin(o impl.Op) {
	o.Begin, o.End = s.now, -1
	s.now++
	s.ops = append(s.ops, shopOp{op: o})
}

func (s *shop) end(number int) {
	s.ops[number].op.End = s.now
	s.now++
}

func (s *shop) do(number int) {
	one := &s.ops[number]
	if one.op.Write {
		s.values[one.op.At] = one.op.Text
	} else {
		one.op.Text = s.values[one.op.At]
	}
	one.done = true
	s.lines = append(s.lines, int64(number))
}

// shopped is a history of that many Ops, of which at most open are open at once,
// in any order, and one order of it.
func (n *numbers) shopped(count int, open int, ats int) ([]impl.Op, []int64) {
	s := &shop{}
	if n.below(20) == 0 {
		s.now = math.MaxInt64 - 1000
	}
	texts := []string{"", "a", "b", "c", "a\x00", n.text(30)}
	under := []int{}
	for steps := 0; len(s.ops) < count || steps < count; steps++ {
		s.now += int64(n.below(2))
		if len(s.ops) < count && len(under) < open && n.below(2) == 0 {
			under = append(under, len(s.ops))
			s.begin(impl.Op{At: int64(n.below(ats)), Write: n.below(2) == 0, Text: texts[n.below(len(texts))]})
			continue
		}
		if len(under) == 0 {
			continue
		}
		i := n.below(len(under))
		switch number := under[i]; {
		case !s.ops[number].done:
			s.do(number)
		case n.below(12) == 0: // it is done, and is never told to be
			under = slices.Delete(under, i, i+1)
		default:
			s.end(number)
			under = slices.Delete(under, i, i+1)
		}
	}
	return n.shuffled(s)
}

// shuffled numbers the Ops anew.
func (n *numbers) shuffled(s *shop) ([]impl.Op, []int64) {
	places := []int{}
	for i := range s.ops {
		places = slices.Insert(places, n.below(i+1), i)
	}
	list, order := []impl.Op{}, []int64{}
	for _, place := range places {
		list = append(list, s.ops[place].op)
	}
	for _, line := range s.lines {
		order = append(order, int64(slices.Index(places, int(line))))
	}
	return list, order
}

// misread changes what a read tells, or when something began or ended; it may
// still be a history, and Linear.
func (n *numbers) misread(list []impl.Op) []impl.Op {
	list = slices.Clone(list)
	if len(list) == 0 {
		return list
	}
	place := n.below(len(list))
	if read := slices.IndexFunc(list[place:], func(o impl.Op) bool { return !o.Write }); read >= 0 {
		place += read
	}
	o, other := &list[place], list[n.below(len(list))]
	switch n.below(8) {
	case 0:
		o.Begin = max(0, o.Begin-int64(n.below(6)))
	case 1:
		o.End += int64(n.below(9)) - 4
	case 2:
		o.At = int64(n.below(3))
	default:
		o.Text = []string{other.Text, "a", "b", ""}[n.below(4)]
	}
	return list
}

func TestHistoriesAsAPlainOneTells(t *testing.T) {
	all := newPlainOrders(5)
	n := numbers(259)
	linear, not, no := 0, 0, 0
	for trial := range 10000 {
		list, order := n.shopped(n.below(6), 1+n.below(4), 1+n.below(3))
		checkOrderOk(t, list, true, order...)
		for range trial % 4 {
			list = n.misread(list)
		}
		switch {
		case all.checkHistory(t, list):
			linear++
		case plainHistoryOk(list):
			not++
		default:
			no++
		}
		for range 5 {
			row := all[len(list)][n.below(len(all[len(list)]))]
			checkOrderOk(t, list, plainOrderOk(list, row), row...)
		}
	}
	if linear < 2000 || not < 500 || no < 500 {
		t.Errorf("%d are Linear, %d are not, and %d are no histories", linear, not, no)
	}
}

// All orders that there are, and each list that is none.
func TestOrderOkOfAllLists(t *testing.T) {
	n := numbers(260)
	orders := allOrders(5)
	for range 60 {
		list, _ := n.shopped(5, 4, 2)
		first := true
		for _, order := range orders {
			want := plainOrderOk(list, order)
			checkOrderOk(t, list, want, order...)
			if want && first {
				checkLinear(t, list, order...)
				first = false
			}
		}
	}
}

func TestPromise19LinearIsTheFirstOrder(t *testing.T) {
	n := numbers(261)
	linear, not := 0, 0
	for trial := range 2400 {
		list, order := n.shopped(6+n.below(7), 1+n.below(4), 1+n.below(3))
		if !plainOrderOk(list, order) || !impl.OrderOk(list, order) {
			t.Fatalf("%v is no order of %s", order, tellOps(list))
		}
		if first, is := impl.Linear(list); !is || slices.Compare(first, order) > 0 {
			t.Fatalf("Linear of %s: %v and %v, where %v is one", tellOps(list), first, is, order)
		}
		if trial%3 > 0 {
			list = n.misread(list)
		}
		if checkFirst(t, list) {
			linear++
		} else {
			not++
		}
	}
	if linear < 1000 || not < 500 {
		t.Errorf("%d are Linear, and %d are not", linear, not)
	}
}

func TestPromise19LinearJustWhereEachPartIs(t *testing.T) {
	n := numbers(262)
	counts := map[[2]bool]int{}
	for trial := range 20000 {
		list, _ := n.shopped(n.below(mostHistory+1), 1+n.below(6), 2+n.below(2))
		for range trial % 3 {
			list = n.misread(list)
		}
		if !impl.HistoryOk(list) {
			checkLocal(t, list, false)
			continue
		}
		_, is := impl.Linear(list)
		parts, each := 0, true
		for number := range int64(3) {
			part := impl.Part(list, number)
			parts += len(part)
			_, linear := impl.Linear(part)
			each = each && linear
		}
		if parts != len(list) {
			t.Fatalf("the Parts of %s have %d Ops", tellOps(list), parts)
		}
		if is != each || impl.Local(list) != is {
			t.Fatalf("%s is Linear: %v, each Part is: %v, Local: %v", tellOps(list), is, each, impl.Local(list))
		}
		counts[[2]bool{is, len(list) > 7}]++
	}
	if len(counts) != 4 || min(counts[[2]bool{true, true}], counts[[2]bool{false, true}]) < 1000 {
		t.Errorf("%v", counts)
	}
}

func TestPromise19NothingThatIsAheadStandsBehind(t *testing.T) {
	n := numbers(263)
	aheads := 0
	for trial := range 6000 {
		list, _ := n.shopped(n.below(mostHistory+1), 1+n.below(6), 1+n.below(3))
		if trial%2 == 0 {
			list = n.misread(list)
		}
		order, _ := impl.Linear(list)
		for i, number := range order {
			for _, later := range order[i+1:] {
				if impl.Ahead(list, later, number) {
					t.Fatalf("Linear of %s: %v, where number %d is Ahead of %d", tellOps(list), order, later, number)
				}
				if impl.Ahead(list, number, later) {
					aheads++
				}
			}
		}
	}
	if aheads < 10000 {
		t.Errorf("%d are Ahead", aheads)
	}
}

// What is Ahead is so of all that come behind, and of two none is Ahead of the
// other one where they are open at once.
func TestPromise19Ahead(t *testing.T) {
	n := numbers(264)
	for range 300 {
		list, _ := n.shopped(mostHistory, 1+n.below(6), 3)
		for a := range int64(mostHistory) {
			for b := range int64(mostHistory) {
				is := impl.Ahead(list, a, b)
				checkAhead(t, list, a, b, plainAhead(list, a, b))
				if is && impl.Ahead(list, b, a) {
					t.Fatalf("%s: %d and %d are Ahead of one another", tellOps(list), a, b)
				}
				for c := range int64(mostHistory) {
					if is && impl.Ahead(list, b, c) && !impl.Ahead(list, a, c) {
						t.Fatalf("%s: %d is Ahead of %d, and this of %d", tellOps(list), a, b, c)
					}
				}
			}
		}
	}
}

// pairHistory is what an onlooker has seen, as a history, as far as there is room.
func pairHistory(seen [3][]sight) []impl.Op {
	list := []impl.Op{}
	for number, sights := range seen {
		begun := map[int]int{}
		for now, s := range sights {
			begin := int64(now)*10 + int64(number)*2
			switch {
			case s.kind == told:
				if place, is := begun[s.number]; is {
					list[place].End = begin + 1
				}
			case len(list) == mostHistory:
			case s.kind == read:
				list = append(list, saw(int64(number), s.text, begin, begin+1))
			case s.kind == began:
				begun[s.number] = len(list)
				list = append(list, wrote(int64(number), s.text, begin, -1))
			}
		}
	}
	return list
}

// What two that hold the same have told fits one order, as chapter 18 promises.
func TestPromise19WhatAPairToldIsLinear(t *testing.T) {
	n := numbers(265)
	long := 0
	for trial := range 300 {
		o := newOnlooker()
		for _, a := range someStarts()[[]string{"new", "ready", "handed on", "alone"}[trial%4]] {
			o.do(t, a)
		}
		for range 60 {
			next := o.copy()
			next.do(t, n.rowAct(o, rowKinds()[trial%5]))
			if len(pairHistory(next.seen)) == mostHistory {
				break
			}
			o = next
		}
		list := pairHistory(o.seen)
		if !checkFirst(t, list) || !impl.Local(list) {
			t.Fatalf("%s is not Linear, behind %s", tellOps(list), o.tellActs())
		}
		if len(list) > 8 {
			long++
		}
	}
	if long < 50 {
		t.Errorf("%d have more than 8 Ops", long)
	}
}

func TestPromise21HistoriesStay(t *testing.T) {
	n := numbers(266)
	for trial := range 2000 {
		given, row := n.shopped(n.below(mostHistory+2), 1+n.below(6), 3)
		if trial%3 == 0 {
			given = n.misread(given)
		}
		list, check := withRoomBehind(t, given, wrote(1, "mark", 7, 9))
		order, checkOrder := withSpareRoom(t, row)
		impl.HistoryOk(list)
		check("HistoryOk")
		impl.Ahead(list, int64(n.below(12)), int64(n.below(12)))
		check("Ahead")
		impl.OrderOk(list, order)
		check("OrderOk")
		checkOrder("OrderOk")
		impl.Linear(list)
		check("Linear")
		impl.Part(list, int64(n.below(3)))
		check("Part")
		impl.Local(list)
		check("Local")
	}
}

// textsOfOps are the Texts that a list has.
func textsOfOps(list []impl.Op) []string {
	texts := []string{}
	for _, o := range list {
		texts = append(texts, o.Text)
	}
	return texts
}

// scribble writes to all of an answer and to the room behind it.
func scribble(list []impl.Op) {
	list = wholeOf(list)
	for i := range list {
		list[i] = wrote(2, "overwritten", spareMark, spareMark)
	}
}

func TestPromise21PartsAreNewMemory(t *testing.T) {
	n := numbers(267)
	for range 2000 {
		given, _ := n.shopped(n.below(mostHistory+1), 1+n.below(6), 1+n.below(3))
		list, check := withRoomBehind(t, ownOps(given), wrote(1, "mark", 7, 9))
		for number := range int64(3) {
			part, again := impl.Part(list, number), impl.Part(list, number)
			want := ownOps(plainPart(given, number))
			checkOwnTexts(t, "Part", textsOfOps(part), textsOfOps(list))
			checkOwnTexts(t, "Part", textsOfOps(again), slices.Concat(textsOfOps(list), textsOfOps(part)))
			scribble(part)
			check("Part, written to,")
			if !slices.Equal(again, want) {
				t.Fatalf("two Parts of %s share memory", tellOps(given))
			}
			checkPart(t, list, number, want...)
		}
		parts := [][]impl.Op{impl.Part(list, 0), impl.Part(list, 1), impl.Part(list, 2)}
		scribble(list)
		for number, part := range parts {
			if !slices.Equal(part, plainPart(given, int64(number))) {
				t.Fatalf("a Part of %s shares memory with it", tellOps(given))
			}
		}
	}
}

func TestPromise21OrdersAreNewMemory(t *testing.T) {
	n := numbers(268)
	for range 2000 {
		given, _ := n.shopped(n.below(mostHistory+1), 1+n.below(6), 1+n.below(3))
		list, check := withRoomBehind(t, given, wrote(1, "mark", 7, 9))
		order, _ := impl.Linear(list)
		again, _ := impl.Linear(list)
		want := slices.Clone(order)
		overwrite(order)
		check("Linear, written to,")
		if !slices.Equal(again, want) {
			t.Fatalf("two answers of Linear of %s share memory", tellOps(given))
		}
		checkLinear(t, list, want...)
		scribble(list)
		if !slices.Equal(again, want) {
			t.Fatalf("Linear of %s shares memory with it", tellOps(given))
		}
	}
}

func TestPromise21HistoriesNeverPanic(t *testing.T) {
	n := numbers(269)
	all := newPlainOrders(4)
	far := append(append(farNumbers(), wrongNumbers()...), 0, 1, 2, 3, 4, 5, 6)
	pick := func(below int) int64 {
		if n.below(12) > 0 {
			return int64(n.below(below))
		}
		return far[n.below(len(far))]
	}
	ok := 0
	for range 40000 {
		list := []impl.Op{}
		for range n.below(5) {
			o := impl.Op{At: pick(3), Write: n.below(2) == 0, Text: trickyTexts()[n.below(3)], Begin: pick(30), End: pick(60)}
			if n.below(4) == 0 {
				o.End = -1
			}
			list = append(list, o)
		}
		if plainHistoryOk(list) {
			ok++
		}
		order := []int64{}
		for range n.below(6) {
			order = append(order, pick(4))
		}
		a, b := pick(4), pick(4)
		neverPanics(t, fmt.Sprintf("a call of %s, %v, %d, %d", tellOps(list), order, a, b), func() {
			all.checkHistory(t, list)
			checkAhead(t, list, a, b, plainAhead(list, a, b))
			checkOrderOk(t, list, plainOrderOk(list, order), order...)
			checkPart(t, list, a, plainPart(list, a)...)
		})
	}
	if ok < 10000 {
		t.Errorf("%d histories", ok)
	}
	for _, count := range []int{13, 62, 63, 64, 65, 200, 100000} {
		neverPanics(t, fmt.Sprintf("a call of %d Ops", count), func() {
			list := apart(count)
			checkHistoryOk(t, list, false)
			checkAhead(t, list, 0, 1, false)
			checkOrderOk(t, list, false, 0, 1)
			checkNotLinear(t, list)
			checkPart(t, list, 0)
			checkLocal(t, list, false)
		})
	}
}

// What one call does must not show in another one, also of those that run beside it.
func TestHistoriesAnswerAgainAlike(t *testing.T) {
	list := aHistory()
	broken := changedOp(list, 3, func(o *impl.Op) { o.Text = "c" })
	var callers sync.WaitGroup
	for range 8 {
		callers.Go(func() {
			for range 50 {
				checkLinear(t, list, 0, 1, 3, 2, 5)
				checkNotLinear(t, broken)
				checkLocal(t, list, true)
				checkLocal(t, broken, false)
				checkPart(t, list, 2, list[4:]...)
				checkOrderOk(t, list, true, 0, 1, 3, 2, 5, 4)
				checkOrderOk(t, broken, false, 0, 1, 3, 2, 5)
			}
		})
	}
	callers.Wait()
}
