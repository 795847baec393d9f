package tests

import (
	"fmt"
	"maps"
	"math"
	"slices"
	"strings"
	"testing"

	"loop.example/g00223/impl"
)

const (
	mostStamp = 1000000
	mostSteps = 20
)

// ftlOk asks all that the chapter asks, of every Place by the plain pages.
func (plain *plainPages) ftlOk(f impl.Ftl) bool {
	if !plainMapOk(f.Chip, f.Map) || f.Stamp < 0 || f.Stamp > mostStamp {
		return false
	}
	for number, place := range f.Map {
		if place == none() {
			continue
		}
		p, kind := plain.lying(f.Chip.Squares[place.Square].Pages[place.Page])
		if kind != 1 && kind != 2 || p.At != int64(number) || p.Stamp > f.Stamp {
			return false
		}
	}
	if f.Open == -1 {
		return true
	}
	return f.Open >= 0 && f.Open < int64(len(f.Chip.Squares)) && !f.Chip.Squares[f.Open].Bad
}

func (plain *plainPages) get(f impl.Ftl, number int64) (string, bool) {
	if !plain.ftlOk(f) || number < 0 || number >= int64(len(f.Map)) || f.Map[number] == none() {
		return "", false
	}
	p, _ := plain.lying(f.Chip.Squares[f.Map[number].Square].Pages[f.Map[number].Page])
	return p.Text, p.Kind == 1
}

// plainRoom takes one step after the other: what it comes to, the Jobs, and how
// it ended.
func plainRoom(f impl.Ftl, steps int) (impl.Ftl, []impl.Job, string) {
	if f.Open >= 0 && len(f.Chip.Squares[f.Open].Pages) < int(f.Chip.Size) {
		return f, nil, fmt.Sprintf("room in %d steps", steps)
	}
	empty := plainEmpty(f.Chip)
	switch {
	case steps == mostSteps:
		return f, nil, "too many steps"
	case len(empty) >= 2:
		f.Open = empty[0]
		return plainRoom(f, steps+1)
	}
	victim := plainVictim(f.Chip, f.Map, f.Open)
	if victim == -1 {
		return f, nil, "no victim"
	}
	jobs, moved := []impl.Job{}, slices.Clone(f.Map)
	if plainLive(f.Chip, f.Map, victim) > 0 {
		if len(empty) == 0 {
			return f, nil, "no empty one"
		}
		f.Open = empty[0]
		for page, text := range f.Chip.Squares[victim].Pages {
			if number := slices.Index(f.Map, at(victim, int64(page))); number >= 0 {
				moved[number] = at(f.Open, int64(len(jobs)))
				jobs = append(jobs, impl.Job{Kind: 1, Square: f.Open, Text: text})
			}
		}
	}
	jobs = append(jobs, impl.Job{Kind: 2, Square: victim})
	chip, is := plainDidAll(f.Chip, jobs)
	if !is {
		return f, nil, "a job is refused"
	}
	f.Chip, f.Map = chip, moved
	f, more, how := plainRoom(f, steps+1)
	return f, append(jobs, more...), how
}

// entered is what Plan and Enter should tell, and how room was made or why not.
func (plain *plainPages) entered(f impl.Ftl, p impl.Page) ([]impl.Job, impl.Ftl, string) {
	if !plain.ftlOk(f) {
		return nil, impl.Ftl{}, "not right"
	}
	if f.Stamp == mostStamp {
		return nil, f, "no stamp"
	}
	p.Stamp = f.Stamp + 1
	if !plainPageOk(p) || p.At >= int64(len(f.Map)) {
		return nil, f, "no page"
	}
	g, jobs, how := plainRoom(f, 0)
	if !strings.HasPrefix(how, "room") {
		return nil, f, how
	}
	jobs = append(jobs, impl.Job{Kind: 1, Square: g.Open, Text: plain.laid(p)})
	g.Map = slices.Clone(g.Map)
	g.Map[p.At] = at(g.Open, int64(len(g.Chip.Squares[g.Open].Pages)))
	g.Chip, _ = plainDidAll(f.Chip, jobs)
	g.Stamp = p.Stamp
	return jobs, g, how
}

func (plain *plainPages) spoiled(f impl.Ftl, square int64) (impl.Ftl, bool) {
	if !plain.ftlOk(f) {
		return impl.Ftl{}, false
	}
	f = ftlCopy(f)
	if square == f.Open || plainLive(f.Chip, f.Map, square) != 0 {
		return f, false
	}
	f.Chip.Squares[square].Bad = true
	return f, true
}

func (plain *plainPages) level(f impl.Ftl) int64 {
	least, greatest := plainWorn(f.Chip)
	if !plain.ftlOk(f) || least < 0 {
		return -1
	}
	return greatest - least
}

func ftlCopy(f impl.Ftl) impl.Ftl {
	return impl.Ftl{Chip: chipCopy(f.Chip), Map: slices.Clone(f.Map), Open: f.Open, Stamp: f.Stamp}
}

func sameFtl(a impl.Ftl, b impl.Ftl) bool {
	return sameChip(a.Chip, b.Chip) && slices.Equal(a.Map, b.Map) && a.Open == b.Open && a.Stamp == b.Stamp
}

func tellFtl(f impl.Ftl) string {
	return fmt.Sprintf("{%s %s %d %d}", tellChip(f.Chip), tellMap(f.Map), f.Open, f.Stamp)
}

// shortJob is x and the square of a wiping, w, the square and the page's text of
// a write.
func shortJob(j impl.Job) string {
	p, _ := impl.Lying(j.Text)
	switch {
	case j.Kind == impl.JbWipe && j.Text == "":
		return fmt.Sprintf("x%d", j.Square)
	case j.Kind == impl.JbWrite:
		return fmt.Sprintf("w%d:%s", j.Square, strings.Trim(tellText(p.Text), `"`))
	}
	return tellJob(j)
}

func shortJobs(list []impl.Job) string {
	told := []string{}
	for _, j := range list {
		told = append(told, shortJob(j))
	}
	return strings.Join(told, " ")
}

// guardedFtl is a copy of f with room behind each of its lists, and a check that
// nothing of it was written to.
func guardedFtl(t *testing.T, f impl.Ftl) (impl.Ftl, func(what string)) {
	t.Helper()
	chip, checkChip := guardedChip(t, f.Chip)
	places, checkPlaces := guardedMap(t, f.Map)
	check := func(what string) {
		t.Helper()
		checkChip(what)
		checkPlaces(what)
	}
	return impl.Ftl{Chip: chip, Map: places, Open: f.Open, Stamp: f.Stamp}, check
}

func checkFtlOk(t *testing.T, f impl.Ftl, want bool) {
	t.Helper()
	neverPanics(t, "FtlOk", func() {
		t.Helper()
		guarded, check := guardedFtl(t, f)
		if got := impl.FtlOk(guarded); got != want {
			t.Errorf("FtlOk(%s): %v", tellFtl(f), got)
		}
		check("FtlOk")
	})
}

func checkNewFtl(t *testing.T, squares int64, size int64, n int64, want impl.Ftl, wantIs bool) {
	t.Helper()
	neverPanics(t, "NewFtl", func() {
		t.Helper()
		if got, is := impl.NewFtl(squares, size, n); !sameFtl(got, want) || is != wantIs {
			t.Errorf("NewFtl(%d, %d, %d): %s and %v", squares, size, n, tellFtl(got), is)
		}
	})
}

func checkGet(t *testing.T, f impl.Ftl, number int64, want string, wantIs bool) {
	t.Helper()
	neverPanics(t, "Get", func() {
		t.Helper()
		guarded, check := guardedFtl(t, f)
		if got, is := impl.Get(guarded, number); got != want || is != wantIs {
			t.Errorf("Get(%s, %d): %s and %v, not %s and %v", tellFtl(f), number, tellText(got), is, tellText(want), wantIs)
		}
		check("Get")
	})
}

func checkPlan(t *testing.T, f impl.Ftl, p impl.Page, want []impl.Job, wantIs bool) {
	t.Helper()
	neverPanics(t, "Plan", func() {
		t.Helper()
		guarded, check := guardedFtl(t, f)
		if got, is := impl.Plan(guarded, p); !slices.Equal(got, want) || is != wantIs {
			t.Errorf("Plan(%s, %s): %s and %v, not %s and %v", tellFtl(f), tellPage(p), shortJobs(got), is, shortJobs(want), wantIs)
		}
		check("Plan")
	})
}

func checkEnter(t *testing.T, f impl.Ftl, p impl.Page, want impl.Ftl, wantIs bool) {
	t.Helper()
	neverPanics(t, "Enter", func() {
		t.Helper()
		guarded, check := guardedFtl(t, f)
		if got, is := impl.Enter(guarded, p); !sameFtl(got, want) || is != wantIs {
			t.Errorf("Enter(%s, %s): %s and %v, not %s and %v", tellFtl(f), tellPage(p), tellFtl(got), is, tellFtl(want), wantIs)
		}
		check("Enter")
	})
}

func checkSpoil(t *testing.T, f impl.Ftl, square int64, want impl.Ftl, wantIs bool) {
	t.Helper()
	neverPanics(t, "Spoil", func() {
		t.Helper()
		guarded, check := guardedFtl(t, f)
		if got, is := impl.Spoil(guarded, square); !sameFtl(got, want) || is != wantIs {
			t.Errorf("Spoil(%s, %d): %s and %v, not %s and %v", tellFtl(f), square, tellFtl(got), is, tellFtl(want), wantIs)
		}
		check("Spoil")
	})
}

func checkLevel(t *testing.T, f impl.Ftl, want int64) {
	t.Helper()
	neverPanics(t, "Level", func() {
		t.Helper()
		guarded, check := guardedFtl(t, f)
		if got := impl.Level(guarded); got != want {
			t.Errorf("Level(%s): %d, not %d", tellFtl(f), got, want)
		}
		check("Level")
	})
}

// checkEntered holds Plan and Enter against the plain ones, and tells how room
// was made.
func checkEntered(t *testing.T, plain *plainPages, f impl.Ftl, p impl.Page) string {
	t.Helper()
	jobs, entered, how := plain.entered(f, p)
	is := strings.HasPrefix(how, "room")
	checkPlan(t, f, p, jobs, is)
	checkEnter(t, f, p, entered, is)
	return how
}

// checkWrongFtl asks for the answers to what is no Ftl.
func checkWrongFtl(t *testing.T, f impl.Ftl) {
	t.Helper()
	p := dataPage(0, "new")
	checkFtlOk(t, f, false)
	checkGet(t, f, 0, "", false)
	checkPlan(t, f, p, nil, false)
	checkEnter(t, f, p, impl.Ftl{}, false)
	checkSpoil(t, f, 0, impl.Ftl{}, false)
	checkLevel(t, f, -1)
}

func dataPage(number int64, text string) impl.Page {
	return impl.Page{Kind: impl.PgData, At: number, Text: text}
}

func trimPage(number int64) impl.Page {
	return impl.Page{Kind: impl.PgTrim, At: number}
}

func laidAt(number int64, stamp int64, text string) string {
	return impl.Laid(impl.Page{Kind: impl.PgData, At: number, Stamp: stamp, Text: text})
}

const (
	deadPage = -1
	tornPage = -2
)

// ftlOf has, in each square, so many pages: of a number to which the map leads, a
// dead one of number 0, or a torn one. They are stamped in order, and say p1, p2
// and so on.
func ftlOf(size int64, count int, open int64, squares ...[]int) impl.Ftl {
	f := impl.Ftl{Chip: impl.Chip{Size: size}, Open: open, Map: slices.Repeat([]impl.Place{none()}, count)}
	for i, pages := range squares {
		square := impl.Square{}
		for k, number := range pages {
			f.Stamp++
			text := laidAt(int64(max(number, 0)), f.Stamp, fmt.Sprintf("p%d", f.Stamp))
			if number == tornPage {
				text = text[:9]
			}
			if number >= 0 {
				f.Map[number] = at(int64(i), int64(k))
			}
			square.Pages = append(square.Pages, text)
		}
		f.Chip.Squares = append(f.Chip.Squares, square)
	}
	return f
}

func withWipes(f impl.Ftl, wipes ...int64) impl.Ftl {
	f = ftlCopy(f)
	for i, w := range wipes {
		f.Chip.Squares[i].Wipes = w
	}
	return f
}

func withBad(f impl.Ftl, squares ...int) impl.Ftl {
	f = ftlCopy(f)
	for _, i := range squares {
		f.Chip.Squares[i].Bad = true
	}
	return f
}

func withOpen(f impl.Ftl, open int64) impl.Ftl {
	f = ftlCopy(f)
	f.Open = open
	return f
}

func withStamp(f impl.Ftl, stamp int64) impl.Ftl {
	f = ftlCopy(f)
	f.Stamp = stamp
	return f
}

func withPlace(f impl.Ftl, number int, place impl.Place) impl.Ftl {
	f = ftlCopy(f)
	f.Map[number] = place
	return f
}

func withLying(f impl.Ftl, place impl.Place, text string) impl.Ftl {
	f = ftlCopy(f)
	f.Chip.Squares[place.Square].Pages[place.Page] = text
	return f
}

func withTrim(f impl.Ftl, number int64) impl.Ftl {
	place := f.Map[number]
	p, _ := impl.Lying(f.Chip.Squares[place.Square].Pages[place.Page])
	return withLying(f, place, impl.Laid(impl.Page{Kind: impl.PgTrim, At: number, Stamp: p.Stamp}))
}

// anFtl has five numbers, of which number 4 lies nowhere and number 3 is trimmed;
// a square with room, two that are full, one without pages and a bad one; eight
// pages lie on it, the map leads to those with the Stamps 1, 2, 5 and 7.
func anFtl() impl.Ftl {
	f := ftlOf(3, 5, 2, []int{0, 1, deadPage}, []int{tornPage, 3, deadPage}, []int{2}, nil, []int{deadPage})
	return withTrim(withBad(withWipes(f, 2, 1, 0, 3, 9), 4), 3)
}

func newFtl(t *testing.T, squares int64, size int64, n int64) impl.Ftl {
	t.Helper()
	f, is := impl.NewFtl(squares, size, n)
	if !is {
		t.Fatal(squares, size, n)
	}
	return f
}

// ftl is a right one, but mostly none that a new one could become: pages of many
// numbers, torn, mended or old ones among them, and the map leads to some.
func (n *numbers) ftl() impl.Ftl {
	f := impl.Ftl{Chip: impl.Chip{Size: int64(1 + n.below(4))}, Open: -1}
	if n.below(6) == 0 {
		f.Chip.Size = int64(1 + n.below(mostSize))
	}
	numbers := 1 + n.below([]int{4, 12, 64}[n.below(3)])
	where := make([][]impl.Place, numbers)
	next := n.below(numbers)
	old, full, bad := 1+n.below(6), 1+n.below(4), 4+n.below(8)
	for i := range 1 + n.below([]int{3, 6, mostSquares}[n.below(3)]) {
		square := impl.Square{Wipes: int64(n.below(3)), Bad: n.below(bad) == 0}
		if n.below(10) == 0 {
			square.Wipes = mostWipes - int64(n.below(2))
		}
		count := int(f.Chip.Size)
		switch n.below(full + 2) {
		case 0:
			count = n.below(count + 1)
		case 1:
			count = 0
		}
		for k := range count {
			number := next
			if n.below(old) == 0 {
				number = n.below(numbers)
			} else {
				next = (next + 1) % numbers
			}
			text, lies := n.lying(int64(number))
			square.Pages = append(square.Pages, text)
			if lies {
				where[number] = append(where[number], at(int64(i), int64(k)))
			}
		}
		f.Chip.Squares = append(f.Chip.Squares, square)
	}
	n.leadTo(&f, where)
	return f
}

// lying is a page of this number, and whether it lies well.
func (n *numbers) lying(number int64) (string, bool) {
	p := n.page()
	p.At, p.Stamp = number, int64(1+n.below(900))
	text := impl.Laid(p)
	switch n.below(12) {
	case 0:
		return text[:1+n.below(len(text)-1)], false
	case 1:
		return n.text(1 + n.below(200)), false
	case 2:
		return turned(text, n.below(len(text)/2), n.below(wordsBits)), true
	case 3:
		return turnedInEach(n, text), true
	}
	return text, true
}

// leadTo sets the map, Open and Stamp of what has its Chip.
func (n *numbers) leadTo(f *impl.Ftl, where [][]impl.Place) {
	gone := 1 + n.below(12)
	least := int64(0)
	for _, places := range where {
		place := none()
		if len(places) > 0 && n.below(gone) > 0 {
			place = places[n.below(len(places))]
			p, _ := impl.Lying(f.Chip.Squares[place.Square].Pages[place.Page])
			least = max(least, p.Stamp)
		}
		f.Map = append(f.Map, place)
	}
	f.Stamp = []int64{least, least + 1, mostStamp - 1, least + int64(n.below(500)), least, least, least}[n.below(7)]
	if n.below(12) == 0 {
		f.Stamp = mostStamp
	}
	if open := n.below(len(f.Chip.Squares)); !f.Chip.Squares[open].Bad && n.below(4) > 0 {
		f.Open = int64(open)
	}
}

// wrongFtl is a right one in which one thing is made wrong.
func (n *numbers) wrongFtl(f impl.Ftl) impl.Ftl {
	f = ftlCopy(f)
	last := int64(len(f.Chip.Squares)) - 1
	far := farNumbers()
	number := slices.IndexFunc(f.Map, func(place impl.Place) bool { return place != none() })
	kinds := 5
	if number >= 0 {
		kinds = 8
	}
	switch n.below(kinds) {
	case 0:
		f.Chip = n.wrong(f.Chip)
	case 1:
		f.Map = n.wrongMap(f.Chip, f.Map)
	case 2:
		f.Open = append(far, last+1)[1+n.below(len(far))]
	case 3:
		f.Stamp = append(far, 1000001)[n.below(len(far)+1)]
	case 4:
		f.Open = int64(n.below(int(last) + 1))
		f.Chip.Squares[f.Open].Bad = true
	case 5:
		place := f.Map[number]
		pages := f.Chip.Squares[place.Square].Pages
		pages[place.Page] = pages[place.Page][:1+n.below(len(pages[place.Page])-1)]
	case 6:
		p, _ := impl.Lying(f.Chip.Squares[f.Map[number].Square].Pages[f.Map[number].Page])
		f.Stamp = p.Stamp - 1
	case 7:
		place := f.Map[number]
		p, _ := impl.Lying(f.Chip.Squares[place.Square].Pages[place.Page])
		p.At = (p.At + int64(1+n.below(63))) % 64
		f.Chip.Squares[place.Square].Pages[place.Page] = impl.Laid(p)
	}
	return f
}

// entry is mostly a right one for a map of so many numbers.
func (n *numbers) entry(count int) impl.Page {
	p := n.page()
	p.At = int64(n.below(count))
	p.Stamp = []int64{0, p.Stamp, -1, mostStamp + 1, math.MinInt64, math.MaxInt64}[n.below(6)]
	return p
}

func TestFtlOkOfSome(t *testing.T) {
	f := anFtl()
	for _, c := range []struct {
		f    impl.Ftl
		want bool
	}{
		{f, true}, {impl.Ftl{}, false}, {impl.Ftl{Chip: f.Chip}, false}, {impl.Ftl{Chip: f.Chip, Map: f.Map}, false}, {impl.Ftl{Chip: f.Chip, Map: f.Map, Stamp: 8}, true},
		{impl.Ftl{Map: f.Map, Open: -1, Stamp: 8}, false}, {impl.Ftl{Chip: f.Chip, Map: f.Map[:4], Stamp: 8}, true}, {impl.Ftl{Chip: f.Chip, Map: f.Map[:1], Stamp: 1}, true},
		{impl.Ftl{Chip: f.Chip, Map: f.Map[1:], Stamp: 8}, false}, {impl.Ftl{Chip: f.Chip, Map: f.Map[4:], Stamp: 8}, true}, {impl.Ftl{Chip: f.Chip, Map: []impl.Place{none()}}, true},
		{impl.Ftl{Chip: f.Chip, Map: []impl.Place{none()}, Open: -1}, true}, {impl.Ftl{Chip: f.Chip, Open: -1, Stamp: 8}, false},
		// The map leads to an old page, to one in a bad square, to a torn one, to none.
		{withPlace(f, 0, at(0, 2)), true}, {withPlace(f, 0, at(1, 2)), true}, {withPlace(f, 0, at(4, 0)), true}, {withPlace(f, 0, at(1, 0)), false}, {withPlace(f, 4, at(1, 0)), false},
		{withPlace(f, 0, none()), true}, {withPlace(f, 0, at(0, 3)), false}, {withPlace(f, 0, at(3, 0)), false}, {withPlace(f, 0, at(2, 1)), false},
		{withPlace(f, 0, at(0, -1)), false}, {withPlace(f, 0, at(5, 0)), false}, {withPlace(f, 0, at(-2, 0)), false}, {withPlace(f, 0, at(-1, 1)), false},
		// Another number's page, alone and together with that number.
		{withPlace(f, 4, at(0, 2)), false}, {withPlace(f, 4, at(0, 0)), false}, {withPlace(f, 4, at(2, 0)), false}, {withPlace(withPlace(f, 4, at(2, 0)), 2, none()), false},
		{withPlace(withPlace(f, 0, at(0, 1)), 1, at(0, 0)), false}, {withPlace(f, 1, at(0, 2)), false}, {withPlace(f, 3, none()), true}, {withPlace(f, 2, at(1, 1)), false},
	} {
		checkFtlOk(t, c.f, c.want)
	}
}

func TestFtlOkOfWrongChipsAndMaps(t *testing.T) {
	for _, c := range wrongChips() {
		checkWrongFtl(t, impl.Ftl{Chip: c, Map: []impl.Place{none()}, Open: -1})
		checkWrongFtl(t, impl.Ftl{Chip: c, Map: []impl.Place{none()}})
		checkWrongFtl(t, impl.Ftl{Chip: c, Map: anFtl().Map, Open: 2, Stamp: 8})
	}
	n := numbers(130)
	for range 400 {
		f := anFtl()
		f.Map = n.wrongMap(f.Chip, f.Map)
		checkWrongFtl(t, f)
	}
	for count := range 80 {
		f := newFtl(t, 3, 2, 1)
		f.Map = slices.Repeat(f.Map, count)
		checkFtlOk(t, f, 1 <= count && count <= 64)
	}
	f := anFtl()
	f.Map[4] = f.Map[0]
	checkWrongFtl(t, f)
}

func TestFtlOkWithEveryOpen(t *testing.T) {
	for open := int64(-4); open <= 9; open++ {
		checkFtlOk(t, withOpen(anFtl(), open), -1 <= open && open <= 3)
		bad := withBad(newFtl(t, 4, 2, 3), 0, 3)
		checkFtlOk(t, withOpen(bad, open), open == -1 || open == 1 || open == 2)
		checkFtlOk(t, withOpen(newFtl(t, 4, 2, 3), open), -1 <= open && open <= 3)
		checkFtlOk(t, withOpen(newFtl(t, 1, 8, 64), open), -1 <= open && open <= 0)
	}
	for _, open := range farNumbers()[1:] {
		checkWrongFtl(t, withOpen(anFtl(), open))
		checkWrongFtl(t, withOpen(newFtl(t, 12, 1, 1), open))
	}
	checkWrongFtl(t, withOpen(anFtl(), 4))
	checkWrongFtl(t, withOpen(anFtl(), 5))
	checkWrongFtl(t, withOpen(anFtl(), -2))
	checkFtlOk(t, withOpen(withBad(newFtl(t, 1, 1, 1), 0), -1), true)
	checkFtlOk(t, withOpen(withBad(newFtl(t, 1, 1, 1), 0), 0), false)
}

func TestFtlOkWithEveryStamp(t *testing.T) {
	for stamp := int64(-3); stamp <= 20; stamp++ {
		// The pages with the Stamps 3, 6 and 8 lie there, but the map does not
		// lead to them.
		checkFtlOk(t, withStamp(anFtl(), stamp), stamp >= 7)
		checkFtlOk(t, withStamp(withPlace(anFtl(), 2, none()), stamp), stamp >= 5)
		checkFtlOk(t, withStamp(withPlace(anFtl(), 0, at(4, 0)), stamp), stamp >= 8)
		checkFtlOk(t, withStamp(newFtl(t, 3, 2, 2), stamp), stamp >= 0)
	}
	for _, f := range []impl.Ftl{anFtl(), newFtl(t, 3, 2, 2)} {
		checkFtlOk(t, withStamp(f, 999999), true)
		checkFtlOk(t, withStamp(f, 1000000), true)
		checkWrongFtl(t, withStamp(f, 1000001))
		for _, stamp := range farNumbers() {
			checkWrongFtl(t, withStamp(f, stamp))
		}
	}
	great := withLying(anFtl(), at(2, 0), laidAt(2, mostStamp, "last"))
	checkFtlOk(t, withStamp(great, mostStamp-1), false)
	checkFtlOk(t, withStamp(great, mostStamp), true)
	checkFtlOk(t, withStamp(great, mostStamp+1), false)
}

// One bit turned in any word is mended, two in one word are not, and no part of a
// page is one.
func TestFtlOkByHowAPageLies(t *testing.T) {
	f := anFtl()
	for number, place := range f.Map[:4] {
		text := f.Chip.Squares[place.Square].Pages[place.Page]
		want, wantIs := impl.Get(f, int64(number))
		for word := range len(text) / 2 {
			for bit := range wordsBits {
				mended := withLying(f, place, turned(text, word, bit))
				checkFtlOk(t, mended, true)
				checkGet(t, mended, int64(number), want, wantIs)
				checkFtlOk(t, withLying(f, place, turned(text, word, bit, (bit+1+word)%wordsBits)), (1+word)%wordsBits == 0)
			}
		}
		for count := 1; count < len(text); count++ {
			checkFtlOk(t, withLying(f, place, text[:count]), false)
		}
		checkFtlOk(t, withLying(f, place, ""), false)
		checkFtlOk(t, withLying(f, place, text+"\x00"), false)
		checkWrongFtl(t, withLying(f, place, text[:len(text)-1]))
		checkWrongFtl(t, withLying(f, place, ""))
		checkWrongFtl(t, withLying(f, place, turned(text, 1, 2, 3)))
		n := numbers(131)
		checkFtlOk(t, withLying(f, place, turnedInEach(&n, text)), true)
	}
	// What the map does not lead to may lie anyhow.
	for _, place := range []impl.Place{at(0, 2), at(1, 0), at(1, 2), at(4, 0)} {
		checkFtlOk(t, withLying(f, place, "torn"), true)
		checkFtlOk(t, withLying(f, place, laidAt(63, mostStamp, "far")), true)
		checkFtlOk(t, withLying(f, place, ""), false)
	}
}

func TestFtlOkOfPagesWithEveryAt(t *testing.T) {
	for number := range 64 {
		f := newFtl(t, 2, 8, 64)
		for of := range int64(64) {
			f.Chip.Squares[1].Pages = []string{laidAt(of, 1, "a")}
			g := withStamp(withPlace(f, number, at(1, 0)), 1)
			checkFtlOk(t, g, of == int64(number))
		}
	}
}

func TestNewFtlAtTheEdges(t *testing.T) {
	want := func(squares int, size int64, n int) impl.Ftl {
		return impl.Ftl{Chip: impl.Chip{Size: size, Squares: squaresOf(squares)}, Map: slices.Repeat([]impl.Place{none()}, n), Open: -1}
	}
	for squares := -2; squares <= 15; squares++ {
		for size := int64(-2); size <= 11; size++ {
			for _, n := range []int{-1, 0, 1, 2, 12, 63, 64, 65, 66} {
				is := 1 <= squares && squares <= 12 && 1 <= size && size <= 8 && 1 <= n && n <= 64
				if !is {
					checkNewFtl(t, int64(squares), size, int64(n), impl.Ftl{}, false)
					continue
				}
				checkNewFtl(t, int64(squares), size, int64(n), want(squares, size, n), true)
			}
		}
	}
	for n := int64(-10); n <= 300; n++ {
		f, is := impl.NewFtl(3, 2, n)
		if right := 1 <= n && n <= 64; is != right || right && !sameFtl(f, want(3, 2, int(n))) || !right && !sameFtl(f, impl.Ftl{}) {
			t.Errorf("NewFtl(3, 2, %d): %s and %v", n, tellFtl(f), is)
		}
	}
	for _, far := range farNumbers() {
		checkNewFtl(t, far, 2, 2, impl.Ftl{}, false)
		checkNewFtl(t, 3, far, 2, impl.Ftl{}, false)
		checkNewFtl(t, 3, 2, far, impl.Ftl{}, false)
		checkNewFtl(t, far, far, far, impl.Ftl{}, false)
	}
}

func TestANewFtlIsRightAndHasNothing(t *testing.T) {
	for _, squares := range []int64{1, 2, 3, 12} {
		for _, size := range []int64{1, 2, 8} {
			for _, n := range []int64{1, 2, 63, 64} {
				f := newFtl(t, squares, size, n)
				checkFtlOk(t, f, true)
				checkLevel(t, f, 0)
				for number := int64(-1); number <= n; number++ {
					checkGet(t, f, number, "", false)
				}
			}
		}
	}
}

func TestGetOfSome(t *testing.T) {
	f := anFtl()
	for number, want := range []string{"p1", "p2", "p7"} {
		checkGet(t, f, int64(number), want, true)
	}
	for _, number := range append(farNumbers(), 3, 4, 5, 6, 63, 64, 256, 1<<32+2) {
		checkGet(t, f, number, "", false)
	}
	// The last one, and one past it.
	checkGet(t, impl.Ftl{Chip: f.Chip, Map: f.Map[:3], Stamp: 7}, 2, "p7", true)
	checkGet(t, impl.Ftl{Chip: f.Chip, Map: f.Map[:3], Stamp: 7}, 3, "", false)
	// Where the map leads counts, not which one is the newest.
	checkGet(t, withPlace(f, 0, at(0, 2)), 0, "p3", true)
	checkGet(t, withPlace(f, 0, at(1, 2)), 0, "p6", true)
	checkGet(t, withPlace(f, 0, at(4, 0)), 0, "p8", true)
	checkGet(t, withPlace(f, 0, none()), 0, "", false)
	checkGet(t, withPlace(f, 0, none()), 1, "p2", true)
	// Something else is not right.
	checkGet(t, withStamp(f, 6), 0, "", false)
	checkGet(t, withOpen(f, 4), 0, "", false)
	checkGet(t, withPlace(f, 2, at(1, 0)), 0, "", false)
}

func TestGetOfTexts(t *testing.T) {
	n := numbers(132)
	for _, p := range edgePages() {
		f := newFtl(t, 2, 2, 64)
		text := impl.Laid(p)
		f.Chip.Squares[0].Pages = []string{text, turnedInEach(&n, text)}
		f.Stamp = p.Stamp
		for page := range int64(2) {
			f.Map[p.At] = at(0, page)
			checkFtlOk(t, f, true)
			checkGet(t, f, p.At, p.Text, p.Kind == impl.PgData)
			checkGet(t, f, (p.At+1)%64, "", false)
		}
	}
}

// What comes of an entry of "new": the Jobs, where it and each other number lies,
// and which square is Open.
func TestPlanAndEnterOfSome(t *testing.T) {
	full := []int{0, 1}
	dead := []int{deadPage, deadPage}
	torn := []int{tornPage, tornPage}
	for _, c := range []struct {
		f      impl.Ftl
		number int64
		jobs   string
		open   int64
		places []impl.Place
	}{
		// Open has room.
		{ftlOf(2, 2, 0, []int{0}, nil, nil), 1, "w0:new", 0, []impl.Place{at(0, 0), at(0, 1)}},
		{ftlOf(2, 2, 0, []int{0}, nil, nil), 0, "w0:new", 0, []impl.Place{at(0, 1), none()}},
		{ftlOf(2, 2, 1, []int{0}, nil, nil), 1, "w1:new", 1, []impl.Place{at(0, 0), at(1, 0)}},
		{ftlOf(2, 2, 0, []int{0}), 1, "w0:new", 0, []impl.Place{at(0, 0), at(0, 1)}},
		{ftlOf(2, 2, 0, nil), 1, "w0:new", 0, []impl.Place{none(), at(0, 0)}},
		{withWipes(ftlOf(2, 2, 1, full, []int{tornPage}, nil), 0, mostWipes, 0), 1, "w1:new", 1, []impl.Place{at(0, 0), at(1, 1)}},
		{withOpen(ftlOf(3, 1, 1, dead, dead, dead), 1), 0, "w1:new", 1, []impl.Place{at(1, 2)}},
		// Open -1, or full, and two Empty ones or more.
		{ftlOf(2, 2, -1, nil, nil), 0, "w0:new", 0, []impl.Place{at(0, 0), none()}},
		{ftlOf(2, 2, -1, []int{0}, nil, nil), 1, "w1:new", 1, []impl.Place{at(0, 0), at(1, 0)}},
		{ftlOf(2, 2, 0, full, nil, nil), 0, "w1:new", 1, []impl.Place{at(1, 0), at(0, 1)}},
		{withWipes(ftlOf(2, 2, 0, full, nil, nil), 0, 1, 0), 0, "w2:new", 2, []impl.Place{at(2, 0), at(0, 1)}},
		{withWipes(ftlOf(2, 2, 0, full, nil, nil, nil, dead), 0, 7, 6, 6, 0), 0, "w2:new", 2, []impl.Place{at(2, 0), at(0, 1)}},
		{withBad(ftlOf(2, 2, 0, full, nil, nil, nil), 1), 0, "w2:new", 2, []impl.Place{at(2, 0), at(0, 1)}},
		{withWipes(ftlOf(2, 2, 0, full, nil, nil), 0, mostWipes, mostWipes), 0, "w1:new", 1, []impl.Place{at(1, 0), at(0, 1)}},
		// One Empty one, and a Victim without Live pages.
		{ftlOf(2, 2, 0, full, dead, nil), 0, "x1 w2:new", 2, []impl.Place{at(2, 0), at(0, 1)}},
		{ftlOf(2, 2, 0, full, torn, nil), 0, "x1 w2:new", 2, []impl.Place{at(2, 0), at(0, 1)}},
		{withWipes(ftlOf(2, 2, 0, full, dead, nil), 0, 0, 1), 0, "x1 w1:new", 1, []impl.Place{at(1, 0), at(0, 1)}},
		{withWipes(ftlOf(2, 2, 0, full, dead, nil), 0, 0, 2), 0, "x1 w1:new", 1, []impl.Place{at(1, 0), at(0, 1)}},
		{withWipes(ftlOf(2, 2, 0, full, dead, nil, dead), 0, 6, 9, 5), 1, "x3 w3:new", 3, []impl.Place{at(0, 0), at(3, 0)}},
		{ftlOf(2, 2, -1, full, dead, nil), 0, "x1 w2:new", 2, []impl.Place{at(2, 0), at(0, 1)}},
		{ftlOf(2, 2, -1, dead, nil, full), 0, "x0 w1:new", 1, []impl.Place{at(1, 0), at(2, 1)}},
		{ftlOf(2, 2, -1, nil, []int{deadPage}), 1, "x1 w0:new", 0, []impl.Place{none(), at(0, 0)}},
		{withWipes(ftlOf(2, 2, 0, full, dead, nil), 0, mostWipes-1, 1), 0, "x1 w2:new", 2, []impl.Place{at(2, 0), at(0, 1)}},
		// One Empty one, and a Victim with Live pages.
		{ftlOf(2, 3, 0, full, []int{deadPage, 2}, nil), 0, "w2:p4 x1 w2:new", 2, []impl.Place{at(2, 1), at(0, 1), at(2, 0)}},
		{ftlOf(2, 3, 0, full, []int{2, deadPage}, nil), 2, "w2:p3 x1 w2:new", 2, []impl.Place{at(0, 0), at(0, 1), at(2, 1)}},
		{ftlOf(2, 3, 0, full, []int{2}, nil), 0, "w2:p3 x1 w2:new", 2, []impl.Place{at(2, 1), at(0, 1), at(2, 0)}},
		{ftlOf(3, 4, 0, []int{0, deadPage, 1}, []int{3, tornPage, 2}, nil), 1, "w2:p4 w2:p6 x1 w2:new", 2, []impl.Place{at(0, 0), at(2, 2), at(2, 1), at(2, 0)}},
		{ftlOf(3, 4, 0, []int{0, deadPage, 1}, nil, []int{3, 2}), 3, "w1:p4 w1:p5 x2 w1:new", 1, []impl.Place{at(0, 0), at(0, 2), at(1, 1), at(1, 2)}},
		{ftlOf(2, 4, 0, full, []int{2, deadPage}, nil, []int{deadPage, 3}), 0, "w2:p3 x1 w2:new", 2, []impl.Place{at(2, 1), at(0, 1), at(2, 0), at(3, 1)}},
		{withWipes(ftlOf(2, 4, 0, full, []int{2, deadPage}, nil, []int{deadPage, 3}), 0, 2, 0, 1), 0, "w2:p6 x3 w2:new", 2, []impl.Place{at(2, 1), at(0, 1), at(1, 0), at(2, 0)}},
		{withWipes(ftlOf(2, 3, 0, full, []int{2, deadPage}, nil), 5, 4, mostWipes), 0, "w2:p3 x1 w2:new", 2, []impl.Place{at(2, 1), at(0, 1), at(2, 0)}},
		{ftlOf(2, 3, -1, full, []int{deadPage, 2}, nil), 0, "w2:p4 x1 w2:new", 2, []impl.Place{at(2, 1), at(0, 1), at(2, 0)}},
		{withTrim(ftlOf(2, 3, 0, full, []int{deadPage, 2}, nil), 2), 0, "w2: x1 w2:new", 2, []impl.Place{at(2, 1), at(0, 1), at(2, 0)}},
		// A bad square is no Victim, whatever it has; its pages stay where they are.
		{withBad(ftlOf(2, 3, 0, full, []int{deadPage, 2}, nil, dead), 3), 0, "w2:p4 x1 w2:new", 2, []impl.Place{at(2, 1), at(0, 1), at(2, 0)}},
		{withBad(ftlOf(2, 3, 0, full, dead, nil, []int{2}), 3), 0, "x1 w2:new", 2, []impl.Place{at(2, 0), at(0, 1), at(3, 0)}},
		// No Empty one: room is made in several steps.
		{ftlOf(2, 3, 0, full, dead, []int{2, deadPage}), 0, "x1 w1:p5 x2 w1:new", 1, []impl.Place{at(1, 1), at(0, 1), at(1, 0)}},
		{ftlOf(2, 3, 0, full, []int{2, deadPage}, dead), 2, "x2 w2:p3 x1 w2:new", 2, []impl.Place{at(0, 0), at(0, 1), at(2, 1)}},
		{ftlOf(2, 2, 0, full, dead, dead), 0, "x1 x2 w1:new", 1, []impl.Place{at(1, 0), at(0, 1)}},
		{withWipes(ftlOf(2, 2, 0, full, dead, dead), 0, 3, 2), 0, "x2 x1 w2:new", 2, []impl.Place{at(2, 0), at(0, 1)}},
		{withWipes(ftlOf(2, 2, 0, full, torn, dead, dead), 0, 5, 4, 3), 1, "x3 x2 w3:new", 3, []impl.Place{at(0, 0), at(3, 0)}},
		{ftlOf(2, 2, -1, []int{deadPage}, []int{0}), 1, "x0 w0:p2 x1 w0:new", 0, []impl.Place{at(0, 0), at(0, 1)}},
		{ftlOf(1, 2, 0, []int{0}, []int{deadPage}, []int{deadPage}), 1, "x1 x2 w1:new", 1, []impl.Place{at(0, 0), at(1, 0)}},
	} {
		told := fmt.Sprintf("%s, number %d", tellFtl(c.f), c.number)
		checkFtlOk(t, c.f, true)
		jobs, is := impl.Plan(c.f, dataPage(c.number, "new"))
		if shortJobs(jobs) != c.jobs || !is {
			t.Errorf("Plan of %s: %s and %v, not %s", told, shortJobs(jobs), is, c.jobs)
		}
		got, is := impl.Enter(c.f, dataPage(c.number, "new"))
		if !is || got.Open != c.open || got.Stamp != c.f.Stamp+1 || !slices.Equal(got.Map, c.places) {
			t.Errorf("Enter of %s: %s and %v", told, tellFtl(got), is)
		}
		checkFtlOk(t, got, true)
		checkGet(t, got, c.number, "new", true)
		for number := range int64(len(c.f.Map)) {
			if text, is := impl.Get(c.f, number); number != c.number {
				checkGet(t, got, number, text, is)
			}
		}
	}
}

func TestPlanAndEnterWithoutRoom(t *testing.T) {
	full := []int{0, 1}
	dead := []int{deadPage, deadPage}
	for _, f := range []impl.Ftl{
		// No Victim.
		newFtl(t, 1, 1, 1), newFtl(t, 1, 8, 64), ftlOf(2, 2, 0, full), ftlOf(2, 2, 0, full, nil), ftlOf(2, 2, 0, dead), ftlOf(2, 2, 0, dead, nil), ftlOf(2, 2, -1, nil, full),
		ftlOf(2, 4, 0, full, []int{2, 3}, nil), ftlOf(2, 4, 0, full, []int{2, 3}), ftlOf(2, 2, -1, full), withBad(ftlOf(2, 2, 0, full, dead, nil), 1),
		withBad(ftlOf(2, 2, -1, nil, nil), 0, 1), withBad(ftlOf(2, 2, -1, dead, dead), 0, 1), withBad(ftlOf(2, 3, 0, full, []int{2, deadPage}, nil), 1),
		// A Victim, and behind it no other one.
		ftlOf(2, 4, 0, full, dead, []int{2, 3}), ftlOf(2, 2, 0, full, dead), ftlOf(2, 2, -1, full, dead), ftlOf(1, 1, 0, []int{0}, []int{deadPage}),
		// Live pages, and no Empty one.
		ftlOf(2, 4, 0, full, []int{2, deadPage}, []int{3, deadPage}), ftlOf(2, 3, 0, full, []int{2}), ftlOf(2, 1, -1, []int{0}), ftlOf(2, 3, 0, full, []int{deadPage, 2}),
		withBad(ftlOf(2, 3, 0, full, []int{2, deadPage}, nil), 2), ftlOf(3, 2, -1, []int{0, deadPage}, []int{1}),
		// The wiping is refused: that of the first Victim, that of the second one.
		withWipes(ftlOf(2, 2, 0, full, dead, nil), 0, mostWipes, 0), withWipes(ftlOf(2, 3, 0, full, []int{2, deadPage}, nil), 0, mostWipes, 0),
		withWipes(ftlOf(2, 3, 0, full, dead, []int{2, deadPage}), 0, 0, mostWipes), withWipes(ftlOf(2, 2, 0, full, dead, dead), 0, 0, mostWipes),
		// Though another one with more Live pages could be wiped.
		withWipes(ftlOf(2, 3, 0, full, dead, nil, []int{2, deadPage}), 0, mostWipes, 0, 0),
	} {
		checkFtlOk(t, f, true)
		for number := range int64(len(f.Map)) {
			checkPlan(t, f, dataPage(number, "new"), nil, false)
			checkEnter(t, f, dataPage(number, "new"), f, false)
			checkPlan(t, f, trimPage(number), nil, false)
			checkEnter(t, f, trimPage(number), f, false)
		}
	}
}

// roomyFtls have room in Open, by one step, and by several.
func roomyFtls(t *testing.T) []impl.Ftl {
	t.Helper()
	full, dead := []int{0, 1}, []int{deadPage, deadPage}
	return []impl.Ftl{
		anFtl(), newFtl(t, 3, 2, 2), newFtl(t, 12, 8, 64), ftlOf(2, 2, 0, []int{0}), ftlOf(2, 2, 0, full, nil, nil), ftlOf(2, 2, 0, full, dead, nil),
		ftlOf(2, 3, 0, full, []int{2, deadPage}, nil), ftlOf(2, 3, 0, full, []int{2, deadPage}, dead), ftlOf(2, 2, 0, full, dead, dead),
	}
}

func TestPlanAndEnterOfWrongPages(t *testing.T) {
	for _, f := range roomyFtls(t) {
		for _, p := range wrongPages() {
			right := p
			right.Stamp = 1
			if plainPageOk(right) {
				continue
			}
			checkPlan(t, f, p, nil, false)
			checkEnter(t, f, p, f, false)
		}
		for _, number := range append(farNumbers(), int64(len(f.Map)), int64(len(f.Map))+1, 64, 65, 255, 256) {
			for _, p := range []impl.Page{dataPage(number, "new"), trimPage(number), {Kind: impl.PgData, At: number, Stamp: 3}} {
				checkPlan(t, f, p, nil, false)
				checkEnter(t, f, p, f, false)
			}
		}
	}
}

func TestPlanAndEnterAtTheFirstAndTheLastNumber(t *testing.T) {
	plain := newPlainPages(t)
	for _, f := range roomyFtls(t) {
		last := int64(len(f.Map)) - 1
		for _, number := range []int64{-1, 0, last, last + 1} {
			for _, p := range []impl.Page{dataPage(number, "new"), dataPage(number, ""), trimPage(number)} {
				how := checkEntered(t, plain, f, p)
				if right := 0 <= number && number <= last; strings.HasPrefix(how, "room") != right {
					t.Errorf("%s of %s: %s", tellPage(p), tellFtl(f), how)
				}
			}
		}
	}
}

func TestThePagesOwnStampDoesNotCount(t *testing.T) {
	plain := newPlainPages(t)
	for _, f := range roomyFtls(t) {
		want, _ := impl.Enter(f, dataPage(1, "new"))
		jobs, _ := impl.Plan(f, dataPage(1, "new"))
		for _, stamp := range append(wrongNumbers(), 0, 1, 2, 7, 8, 9, 10, 999999, 1000000) {
			p := impl.Page{Kind: impl.PgData, At: 1, Stamp: stamp, Text: "new"}
			checkPlan(t, f, p, jobs, true)
			checkEnter(t, f, p, want, true)
			checkEntered(t, plain, f, p)
		}
		place := want.Map[1]
		if got, _ := impl.Lying(want.Chip.Squares[place.Square].Pages[place.Page]); got.Stamp != f.Stamp+1 || got.At != 1 || got.Text != "new" {
			t.Errorf("Enter of %s: %s lies there", tellFtl(f), tellPage(got))
		}
	}
}

func TestPlanAndEnterAtTheLastStamp(t *testing.T) {
	plain := newPlainPages(t)
	for _, f := range roomyFtls(t) {
		for _, p := range []impl.Page{dataPage(1, "new"), trimPage(0)} {
			checkPlan(t, withStamp(f, mostStamp), p, nil, false)
			checkEnter(t, withStamp(f, mostStamp), p, withStamp(f, mostStamp), false)
			checkEntered(t, plain, withStamp(f, mostStamp-2), p)
			checkEntered(t, plain, withStamp(f, mostStamp-1), p)
			last, is := impl.Enter(withStamp(f, mostStamp-1), p)
			if !is || last.Stamp != mostStamp {
				t.Errorf("Enter of %s with one Stamp left: %d and %v", tellFtl(f), last.Stamp, is)
			}
			checkFtlOk(t, last, true)
			checkEnter(t, last, p, last, false)
		}
	}
}

func TestEnterOfEveryTextAndNumber(t *testing.T) {
	for _, p := range edgePages() {
		f := newFtl(t, 3, 8, 64)
		f.Stamp = p.Stamp - 1
		want := impl.Laid(p)
		p.Stamp = 0
		jobs, is := impl.Plan(f, p)
		if !is || !slices.Equal(jobs, []impl.Job{{Kind: 1, Square: 0, Text: want}}) {
			t.Errorf("Plan of %s: %s and %v", tellPage(p), shortJobs(jobs), is)
		}
		got, is := impl.Enter(f, p)
		if !is || got.Map[p.At] != at(0, 0) || impl.PageAt(got.Chip, 0, 0) != want {
			t.Errorf("Enter of %s: %s and %v", tellPage(p), tellFtl(got), is)
		}
		checkGet(t, got, p.At, p.Text, p.Kind == impl.PgData)
	}
}

// A page that is mended moves as it is, turned bits and all.
func TestPagesMoveAsTheyAre(t *testing.T) {
	n := numbers(133)
	for range 200 {
		f := ftlOf(4, 6, 0, []int{0, 1, deadPage, deadPage}, []int{3, tornPage, 2, 4}, nil)
		texts := []string{}
		for _, number := range []int{3, 2, 4} {
			p := dataPage(int64(number), n.text(n.below(25)))
			p.Stamp = 5
			text := turnedInEach(&n, impl.Laid(p))
			texts = append(texts, text)
			f = withLying(f, f.Map[number], text)
		}
		jobs, is := impl.Plan(f, dataPage(5, "new"))
		want := []impl.Job{{Kind: 1, Square: 2, Text: texts[0]}, {Kind: 1, Square: 2, Text: texts[1]}, {Kind: 1, Square: 2, Text: texts[2]}, {Kind: 2, Square: 1}, {Kind: 1, Square: 2, Text: laidAt(5, f.Stamp+1, "new")}}
		if !is || !slices.Equal(jobs, want) {
			t.Errorf("Plan of %s: %s and %v", tellFtl(f), shortJobs(jobs), is)
		}
		got, _ := impl.Enter(f, dataPage(5, "new"))
		if !slices.Equal(got.Chip.Squares[2].Pages[:3], texts) {
			t.Errorf("Enter of %s: %s", tellFtl(f), tellFtl(got))
		}
	}
}

// Right Ftls of all sorts, and every way in which room is made or not.
func TestEveryWayOfMakingRoom(t *testing.T) {
	plain := newPlainPages(t)
	n := numbers(134)
	hows := map[string]int{}
	for range 6000 {
		f := n.ftl()
		checkFtlOk(t, f, true)
		if !plain.ftlOk(f) {
			t.Fatal(tellFtl(f))
		}
		p := n.entry(len(f.Map))
		how := checkEntered(t, plain, f, p)
		hows[how]++
		if how == "no stamp" {
			continue
		}
		if n.below(20) == 0 {
			p.Kind = int64(n.below(4))
			p.At = int64(n.below(66)) - 1
			checkEntered(t, plain, f, p)
		}
	}
	for _, how := range []string{"room in 0 steps", "room in 1 steps", "room in 2 steps", "room in 3 steps", "no victim", "no empty one", "a job is refused", "no stamp"} {
		if hows[how] < 30 {
			t.Errorf("%s: %d times", how, hows[how])
		}
	}
	if len(hows) != 8 {
		t.Errorf("%v", slices.Sorted(maps.Keys(hows)))
	}
}

func TestFtlsOfAllSorts(t *testing.T) {
	plain := newPlainPages(t)
	n := numbers(135)
	for range 1500 {
		f := n.ftl()
		for range 3 {
			number := int64(n.below(len(f.Map)+3)) - 1
			text, is := plain.get(f, number)
			checkGet(t, f, number, text, is)
			square := int64(n.below(len(f.Chip.Squares)+3)) - 1
			want, wantIs := plain.spoiled(f, square)
			checkSpoil(t, f, square, want, wantIs)
		}
		checkLevel(t, f, plain.level(f))
		wrong := n.wrongFtl(f)
		if plain.ftlOk(wrong) {
			t.Fatal(tellFtl(wrong))
		}
		checkWrongFtl(t, wrong)
	}
}

func TestSpoilOfSome(t *testing.T) {
	f := anFtl()
	for square, can := range []bool{false, false, false, true, true, false, false} {
		want := ftlCopy(f)
		if can {
			want.Chip.Squares[square].Bad = true
		}
		checkSpoil(t, f, int64(square), want, can)
	}
	for _, square := range farNumbers() {
		checkSpoil(t, f, square, f, false)
		checkSpoil(t, withOpen(f, -1), square, withOpen(f, -1), false)
	}
	// A Live page alone, in a square that is not Open.
	checkSpoil(t, withOpen(f, -1), 2, withOpen(f, -1), false)
	checkSpoil(t, withOpen(withPlace(f, 2, none()), -1), 2, withBad(withOpen(withPlace(f, 2, none()), -1), 2), true)
	// Open alone, without a Live page.
	checkSpoil(t, withPlace(f, 2, none()), 2, withPlace(f, 2, none()), false)
	checkSpoil(t, withOpen(f, 3), 3, withOpen(f, 3), false)
	// A trimmed number's page is a Live one.
	checkSpoil(t, withPlace(f, 3, none()), 1, withBad(withPlace(f, 3, none()), 1), true)
	// Bad already: with a Live page and without.
	checkSpoil(t, withPlace(f, 0, at(4, 0)), 4, withPlace(f, 0, at(4, 0)), false)
	checkSpoil(t, f, 4, f, true)
	// Wipes do not count.
	checkSpoil(t, withWipes(f, 0, 0, 0, mostWipes, 0), 3, withBad(withWipes(f, 0, 0, 0, mostWipes, 0), 3), true)
	for squares := int64(1); squares <= mostSquares; squares++ {
		f := newFtl(t, squares, 2, 1)
		for square := range squares {
			want := withBad(f, int(square))
			checkSpoil(t, f, square, want, true)
			f = want
		}
		checkSpoil(t, f, squares, f, false)
		checkSpoil(t, f, -1, f, false)
		checkLevel(t, f, -1)
	}
}

// What is spoiled is not written to and not wiped any more.
func TestSpoiledSquaresStay(t *testing.T) {
	n := numbers(136)
	f := newFtl(t, 9, 3, 7)
	spoiled := []int64{}
	for turn := range 600 {
		before := f
		got, is := impl.Enter(f, n.entry(7))
		if !is {
			t.Fatal(turn, tellFtl(f))
		}
		f = got
		for _, square := range spoiled {
			if !sameSquare(before.Chip.Squares[square], f.Chip.Squares[square]) || f.Open == square {
				t.Fatalf("square %d of %s became that of %s", square, tellFtl(before), tellFtl(f))
			}
		}
		if turn%100 != 99 || len(spoiled) == 4 {
			continue
		}
		for square := range int64(9) {
			wasEmpty := len(f.Chip.Squares[square].Pages) == 0
			if got, is := impl.Spoil(f, square); is && !wasEmpty && !f.Chip.Squares[square].Bad {
				f, spoiled = got, append(spoiled, square)
				checkFtlOk(t, f, true)
				break
			}
		}
	}
	if len(spoiled) < 3 {
		t.Errorf("only %v were spoiled", spoiled)
	}
}

func TestLevelOfSome(t *testing.T) {
	four := newFtl(t, 4, 2, 3)
	for _, c := range []struct {
		f    impl.Ftl
		want int64
	}{
		{anFtl(), 3}, {newFtl(t, 1, 1, 1), 0}, {newFtl(t, 12, 8, 64), 0}, {withWipes(newFtl(t, 1, 1, 1), 5), 0}, {withWipes(newFtl(t, 1, 1, 1), mostWipes), 0},
		{withBad(newFtl(t, 1, 1, 1), 0), -1}, {withBad(four, 0, 1, 2, 3), -1}, {withBad(withWipes(four, 1, 2, 3, 4), 0, 1, 2, 3), -1},
		{withBad(withWipes(four, 1, 2, 3, 4), 0, 1, 3), 0}, {withBad(withWipes(four, 1, 2, 3, 4), 0), 2}, {withBad(withWipes(four, 1, 2, 3, 4), 3), 2}, {withBad(withWipes(four, 1, 2, 3, 4), 1, 2), 3},
		{withWipes(four, 7, 7, 7, 7), 0}, {withWipes(four, 7, 7, 7, 8), 1}, {withWipes(four, 8, 7, 7, 7), 1}, {withWipes(four, 7, 9, 7, 8), 2}, {withWipes(four, 0, mostWipes, 1, 2), mostWipes},
		{withWipes(four, mostWipes, mostWipes-1, mostWipes, mostWipes), 1}, {withWipes(four, 10, 9, 100, 99), 91}, {withWipes(four, 0, 0, 0, 5), 5},
		{withStamp(anFtl(), 6), -1}, {withOpen(anFtl(), 4), -1}, {withWipes(four, -1, 0, 0, 0), -1}, {withWipes(four, mostWipes+1, 0, 0, 0), -1}, {impl.Ftl{}, -1},
	} {
		checkLevel(t, c.f, c.want)
	}
}

// array is what a map should be: of each number a text, and whether it has one.
type array struct {
	texts []string
	has   []bool
}

func newArray(count int64) array {
	return array{make([]string, count), make([]bool, count)}
}

func (a array) enter(p impl.Page) {
	a.texts[p.At], a.has[p.At] = p.Text, p.Kind == impl.PgData
}

func (a array) hold(t *testing.T, f impl.Ftl, what string) {
	t.Helper()
	for number := range a.texts {
		if text, is := impl.Get(f, int64(number)); text != a.texts[number] || is != a.has[number] {
			t.Fatalf("%s: number %d of %s is %s and %v, not %s and %v", what, number, tellFtl(f), tellText(text), is, tellText(a.texts[number]), a.has[number])
		}
	}
}

// checkGrown asks all that must hold from one Ftl to the one that it became.
func checkGrown(t *testing.T, f impl.Ftl, p impl.Page, got impl.Ftl, what string) {
	t.Helper()
	jobs, is := impl.Plan(f, p)
	chip, done := impl.DidAll(f.Chip, jobs)
	if !is || !done || !sameChip(chip, got.Chip) {
		t.Fatalf("%s: the Jobs %s of %s give %s, and Enter %s", what, shortJobs(jobs), tellFtl(f), tellChip(chip), tellChip(got.Chip))
	}
	if !impl.FtlOk(got) || got.Stamp != f.Stamp+1 || len(got.Map) != len(f.Map) {
		t.Fatalf("%s: %s became %s", what, tellFtl(f), tellFtl(got))
	}
	if last := jobs[len(jobs)-1]; last.Kind != impl.JbWrite || last.Square != got.Open || got.Map[p.At] != at(got.Open, int64(len(got.Chip.Squares[got.Open].Pages))-1) {
		t.Fatalf("%s: the Jobs %s of %s lead to %s", what, shortJobs(jobs), tellFtl(f), tellFtl(got))
	}
}

// spareLayouts are of squares, size and numbers, with two squares' worth of pages
// spare: exactly, or more.
func spareLayouts() [][3]int64 {
	list := [][3]int64{}
	for squares := int64(3); squares <= mostSquares; squares++ {
		for size := int64(1); size <= mostSize; size++ {
			most := min((squares-2)*size, mostPlaces)
			for _, numbers := range []int64{1, most / 2, most - 1, most} {
				if layout := [3]int64{squares, size, numbers}; numbers >= 1 && !slices.Contains(list, layout) {
					list = append(list, layout)
				}
			}
		}
	}
	return list
}

func wipesOf(c impl.Chip) int64 {
	sum := int64(0)
	for _, square := range c.Squares {
		sum += square.Wipes
	}
	return sum
}

// scriptEntry is the next one of a script: any number, few of them most of the
// time, or one after the other.
func (n *numbers) scriptEntry(script int, turn int, count int) impl.Page {
	p := n.entry(count)
	switch script % 4 {
	case 1:
		p.At = int64(turn % count)
	case 2:
		p.At = int64(n.below(min(2, count)))
		if n.below(9) == 0 {
			p.At = int64(count - 1)
		}
	case 3:
		p.At = int64(n.below(1 + n.below(count)))
	}
	return p
}

func TestPromise10AMapIsAnArray(t *testing.T) {
	n := numbers(137)
	wiped := int64(0)
	for script, layout := range spareLayouts() {
		squares, size, count := layout[0], layout[1], layout[2]
		f, a := newFtl(t, squares, size, count), newArray(count)
		for turn := range int(4 * squares * size) {
			what := fmt.Sprintf("script %d of %v, turn %d", script, layout, turn)
			p := n.scriptEntry(script, turn, int(count))
			got, is := impl.Enter(f, p)
			if !is {
				t.Fatalf("%s: there is no room for %s in %s", what, tellPage(p), tellFtl(f))
			}
			a.enter(p)
			if turn%5 == 0 || count < 6 {
				checkGrown(t, f, p, got, what)
			}
			if turn%16 == 15 || count < 6 {
				a.hold(t, got, what)
			}
			f = got
		}
		a.hold(t, f, fmt.Sprintf("script %d of %v", script, layout))
		checkFtlOk(t, f, true)
		if wipesOf(f.Chip) < squares {
			t.Errorf("script %d of %v: only %d wipes", script, layout, wipesOf(f.Chip))
		}
		wiped += wipesOf(f.Chip)
	}
	if wiped < 5000 {
		t.Errorf("only %d wipes", wiped)
	}
}

// Few pages, and many entries: each square is wiped very often.
func TestPromise10UntilSquaresWereWipedManyTimes(t *testing.T) {
	plain := newPlainPages(t)
	n := numbers(138)
	for script, layout := range [][3]int64{{3, 1, 1}, {3, 2, 2}, {3, 3, 2}, {3, 4, 4}, {4, 2, 3}, {4, 2, 4}, {5, 3, 9}, {4, 1, 2}, {6, 4, 12}} {
		squares, size, count := layout[0], layout[1], layout[2]
		f, a := newFtl(t, squares, size, count), newArray(count)
		for turn := range 900 {
			p := n.scriptEntry(script, turn, int(count))
			if turn%3 == 0 {
				checkEntered(t, plain, f, p)
			}
			got, is := impl.Enter(f, p)
			if !is {
				t.Fatalf("%v, turn %d: there is no room in %s", layout, turn, tellFtl(f))
			}
			a.enter(p)
			a.hold(t, got, fmt.Sprintf("%v, turn %d", layout, turn))
			f = got
		}
		if f.Stamp != 900 || wipesOf(f.Chip) < 900/size-squares {
			t.Errorf("%v: Stamp %d, %d wipes", layout, f.Stamp, wipesOf(f.Chip))
		}
		if least, _ := impl.Worn(f.Chip); count <= size && least < 20 {
			t.Errorf("%v: a square was wiped %d times only", layout, least)
		}
	}
}

// Every script of nine entries of two numbers, trims among them.
func TestPromise10EveryShortScript(t *testing.T) {
	var follow func(f impl.Ftl, a array, left int)
	follow = func(f impl.Ftl, a array, left int) {
		a.hold(t, f, "a short script")
		if left == 0 {
			return
		}
		for _, p := range []impl.Page{dataPage(0, fmt.Sprint(left)), dataPage(1, fmt.Sprint(left)), trimPage(1)} {
			got, is := impl.Enter(f, p)
			if !is {
				t.Fatalf("there is no room for %s in %s", tellPage(p), tellFtl(f))
			}
			b := array{slices.Clone(a.texts), slices.Clone(a.has)}
			b.enter(p)
			follow(got, b, left-1)
		}
	}
	follow(newFtl(t, 3, 2, 2), newArray(2), 8)
}

// With less spare an entry may be refused: then all is as it was.
func TestPromise10WhereLessIsSpare(t *testing.T) {
	n := numbers(139)
	refused, done := 0, 0
	for script := range 400 {
		squares, size := int64(1+n.below(5)), int64(1+n.below(4))
		count := min(max(1, (squares-2)*size+1+int64(n.below(int(2*size)))), mostPlaces)
		f, a := newFtl(t, squares, size, count), newArray(count)
		for turn := range 40 {
			what := fmt.Sprintf("script %d, turn %d", script, turn)
			p := n.scriptEntry(script, turn, int(count))
			got, is := impl.Enter(f, p)
			if is {
				done++
				a.enter(p)
				checkGrown(t, f, p, got, what)
			} else {
				refused++
				checkPlan(t, f, p, nil, false)
				if !sameFtl(got, f) {
					t.Fatalf("%s: refused, and %s became %s", what, tellFtl(f), tellFtl(got))
				}
			}
			f = got
		}
		a.hold(t, f, fmt.Sprintf("script %d", script))
	}
	if refused < 1000 || done < 1000 {
		t.Errorf("%d were refused and %d done", refused, done)
	}
}

// goodPages is how many pages the squares that are not bad have.
func goodPages(c impl.Chip) int64 {
	count := int64(0)
	for _, square := range c.Squares {
		if !square.Bad {
			count += c.Size
		}
	}
	return count
}

// Squares are spoiled, bits are turned, and still all is got. (As long as an
// Empty square is left by what is spoiled: the pages that move need one.)
func TestPromise10WhateverMovesOrTurns(t *testing.T) {
	n := numbers(140)
	spoiled, turns := 0, 0
	for script := range 60 {
		squares, size := int64(5+n.below(8)), int64(1+n.below(4))
		count := min((squares-4)*size, 20)
		f, a := newFtl(t, squares, size, count), newArray(count)
		for turn := range 120 {
			what := fmt.Sprintf("script %d, turn %d", script, turn)
			p := n.scriptEntry(script, turn, int(count))
			got, is := impl.Enter(f, p)
			if !is {
				t.Fatalf("%s: there is no room in %s", what, tellFtl(f))
			}
			a.enter(p)
			f = got
			place := f.Map[n.below(int(count))]
			if n.below(3) == 0 && place != none() {
				text := f.Chip.Squares[place.Square].Pages[place.Page]
				if _, kind := impl.Lying(text); kind == impl.LyGood {
					f = withLying(f, place, turned(text, n.below(len(text)/2), n.below(wordsBits)))
					turns++
				}
			}
			square := int64(n.below(int(squares)))
			if goodPages(f.Chip)-size-count < 2*size || n.below(10) > 0 || f.Chip.Squares[square].Bad {
				continue
			}
			if got, is := impl.Spoil(f, square); is && len(impl.Empty(got.Chip)) > 0 {
				f = got
				spoiled++
			}
			a.hold(t, f, what)
			checkFtlOk(t, f, true)
		}
		a.hold(t, f, fmt.Sprintf("script %d", script))
	}
	if spoiled < 40 || turns < 500 {
		t.Errorf("%d were spoiled, %d bits turned", spoiled, turns)
	}
}

// textsOf are all texts of an Ftl and of a Page.
func textsOf(f impl.Ftl, p impl.Page) []string {
	texts := []string{p.Text}
	for _, square := range f.Chip.Squares {
		texts = append(texts, square.Pages...)
	}
	return texts
}

// checkOwnFtl asks whether an answer shares memory with what was handed in, and
// writes to all of it.
func checkOwnFtl(t *testing.T, what string, answer impl.Ftl, f impl.Ftl, p impl.Page) {
	t.Helper()
	checkOwnMemory(t, what, answer.Chip, f.Chip, impl.Job{Text: p.Text})
	overwritePlaces(answer.Map)
}

func overwritePlaces(list []impl.Place) {
	list = list[:cap(list)]
	for i := range list {
		list[i] = at(spareMark-1, spareMark-1)
	}
}

func checkOwnJobs(t *testing.T, jobs []impl.Job, f impl.Ftl, p impl.Page) {
	t.Helper()
	texts := textsOf(f, p)
	for _, j := range jobs {
		for _, other := range texts {
			if j.Text != "" && sharesMemory(j.Text, other) {
				t.Errorf("Plan: a Job shares memory with another text: %s", tellJob(j))
			}
		}
		texts = append(texts, j.Text)
	}
	jobs = jobs[:cap(jobs)]
	for i := range jobs {
		jobs[i] = impl.Job{Kind: spareMark - 1, Text: "overwritten"}
	}
}

func TestPromise21FtlsAreNewMemory(t *testing.T) {
	n := numbers(141)
	done, refused := 0, 0
	for range 1200 {
		f := n.ftl()
		p := n.entry(len(f.Map))
		p.Text = strings.Clone(p.Text)
		f, check := guardedFtl(t, f)
		jobs, is := impl.Plan(f, p)
		again, _ := impl.Plan(f, p)
		before := slices.Clone(again)
		checkOwnJobs(t, jobs, f, p)
		if !slices.Equal(again, before) {
			t.Error("Plan: two answers share memory")
		}
		check("Plan")
		entered, entersToo := impl.Enter(f, p)
		if is != entersToo {
			t.Errorf("Plan tells %v and Enter %v of %s", is, entersToo, tellFtl(f))
		}
		checkOwnFtl(t, "Enter", entered, f, p)
		check("Enter")
		square := int64(n.below(len(f.Chip.Squares)+2)) - 1
		spoiled, _ := impl.Spoil(f, square)
		checkOwnFtl(t, "Spoil", spoiled, f, p)
		check("Spoil")
		for number := range int64(len(f.Map)) {
			text, _ := impl.Get(f, number)
			for _, other := range textsOf(f, p) {
				if sharesMemory(text, other) {
					t.Errorf("Get: %s shares memory with the Chip", tellText(text))
				}
			}
		}
		if is {
			done++
		} else {
			refused++
		}
	}
	if done < 300 || refused < 300 {
		t.Errorf("%d were done, %d refused", done, refused)
	}
}

func TestPromise21NewFtlsAreNewMemory(t *testing.T) {
	for range 3 {
		f := newFtl(t, 12, 8, 64)
		if !sameFtl(f, impl.Ftl{Chip: impl.Chip{Size: 8, Squares: squaresOf(12)}, Map: slices.Repeat([]impl.Place{none()}, 64), Open: -1}) {
			t.Errorf("a new Ftl: %s", tellFtl(f))
		}
		checkOwnFtl(t, "NewFtl", f, impl.Ftl{}, impl.Page{})
	}
}

// One Ftl grows in two ways, and neither is seen in the other one.
func TestPromise21TwoFtlsThatGrowFromOne(t *testing.T) {
	n := numbers(142)
	f := newFtl(t, 4, 3, 5)
	for turn := range 200 {
		before := ftlCopy(f)
		left, _ := impl.Enter(f, dataPage(int64(turn%5), "left"))
		leftWas := ftlCopy(left)
		right, _ := impl.Enter(f, dataPage(int64(turn%5), "right"))
		impl.Enter(left, dataPage(0, "further"))
		impl.Spoil(left, int64(n.below(4)))
		if !sameFtl(f, before) || !sameFtl(left, leftWas) {
			t.Fatalf("%s became %s, or %s became %s", tellFtl(before), tellFtl(f), tellFtl(leftWas), tellFtl(left))
		}
		checkGet(t, left, int64(turn%5), "left", true)
		checkGet(t, right, int64(turn%5), "right", true)
		f = left
		if n.below(2) == 0 {
			f = right
		}
	}
}

func TestPromise21FtlArgumentsStay(t *testing.T) {
	n := numbers(143)
	for trial := range 1500 {
		f := n.ftl()
		if trial%3 == 0 {
			f = n.wrongFtl(f)
		}
		f, check := guardedFtl(t, f)
		p := n.entry(64)
		number := int64(n.below(66)) - 1
		for what, call := range map[string]func(){
			"FtlOk": func() { impl.FtlOk(f) }, "Get": func() { impl.Get(f, number) }, "Plan": func() { impl.Plan(f, p) },
			"Enter": func() { impl.Enter(f, p) }, "Spoil": func() { impl.Spoil(f, number%12) }, "Level": func() { impl.Level(f) },
		} {
			call()
			check(what)
		}
	}
}

func TestPromise21FtlsNeverPanic(t *testing.T) {
	plain := newPlainPages(t)
	n := numbers(144)
	far := append(farNumbers(), 0, 1, 2, 3, 4, 5, 6, 8, 11, 12, 13, 63, 64, 65)
	pick := func() int64 { return far[n.below(len(far))] }
	chips := slices.Concat(edgeChips(), wrongChips())
	for trial := range 12000 {
		f := impl.Ftl{Chip: chips[n.below(len(chips))], Open: pick(), Stamp: pick()}
		for range n.below(4) {
			f.Map = append(f.Map, at(pick(), pick()), none())
		}
		if trial%2 == 0 {
			f = n.ftl()
			switch n.below(4) {
			case 0:
				f.Open = pick()
			case 1:
				f.Stamp = pick()
			case 2:
				f.Map[n.below(len(f.Map))] = at(pick(), pick())
			}
		}
		p := impl.Page{Kind: pick(), At: pick(), Stamp: pick(), Text: n.text(n.below(30))}
		if n.below(2) == 0 {
			p.Kind = impl.PgData
		}
		number := pick()
		neverPanics(t, fmt.Sprintf("a call of %s, %s, %d", tellFtl(f), tellPage(p), number), func() {
			impl.NewFtl(number, f.Open, f.Stamp)
			if got, want := impl.FtlOk(f), plain.ftlOk(f); got != want {
				t.Errorf("FtlOk(%s): %v", tellFtl(f), got)
			}
			text, is := impl.Get(f, number)
			if wantText, want := plain.get(f, number); is != want || text != wantText {
				t.Errorf("Get(%s, %d): %s and %v", tellFtl(f), number, tellText(text), is)
			}
			if got, want := impl.Level(f), plain.level(f); got != want {
				t.Errorf("Level(%s): %d, not %d", tellFtl(f), got, want)
			}
		})
		checkEntered(t, plain, f, p)
		want, wantIs := plain.spoiled(f, number)
		checkSpoil(t, f, number, want, wantIs)
	}
}

// What one call does must not show in the next one.
func TestFtlsAnswerAgainAlike(t *testing.T) {
	f := ftlOf(2, 3, 0, []int{0, 1}, []int{2, deadPage}, nil)
	want, _ := impl.Enter(f, dataPage(0, "new"))
	for range 3 {
		checkEnter(t, f, dataPage(0, "new"), want, true)
		checkEnter(t, f, dataPage(3, "new"), f, false)
		checkEnter(t, impl.Ftl{}, dataPage(0, "new"), impl.Ftl{}, false)
		checkEnter(t, newFtl(t, 1, 1, 1), dataPage(0, "new"), newFtl(t, 1, 1, 1), false)
		if jobs, is := impl.Plan(f, dataPage(0, "new")); !is || shortJobs(jobs) != "w2:p3 x1 w2:new" {
			t.Errorf("Plan: %s and %v", shortJobs(jobs), is)
		}
		checkPlan(t, newFtl(t, 1, 1, 1), dataPage(0, "new"), nil, false)
		checkGet(t, f, 2, "p3", true)
		checkSpoil(t, f, 2, withBad(f, 2), true)
		checkSpoil(t, f, 1, f, false)
		checkLevel(t, want, 1)
		checkFtlOk(t, f, true)
	}
}
