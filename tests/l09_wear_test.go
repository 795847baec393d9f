package tests

import (
	"fmt"
	"math"
	"slices"
	"testing"

	"loop.example/g00223/impl"
)

const mostPlaces = 64

func none() impl.Place {
	return impl.Place{Square: -1, Page: 0}
}

func at(square int64, page int64) impl.Place {
	return impl.Place{Square: square, Page: page}
}

// allPages are the Places of every page that lies on the Chip.
func allPages(c impl.Chip) []impl.Place {
	list := []impl.Place{}
	for i, square := range c.Squares {
		for k := range square.Pages {
			list = append(list, at(int64(i), int64(k)))
		}
	}
	return list
}

func plainMapOk(c impl.Chip, list []impl.Place) bool {
	if !plainChipOk(c) || len(list) == 0 || len(list) > mostPlaces {
		return false
	}
	left := allPages(c)
	for _, place := range list {
		if place == none() {
			continue
		}
		where := slices.Index(left, place)
		if where < 0 {
			return false
		}
		left = slices.Delete(left, where, where+1)
	}
	return true
}

// plainLive asks for each page of the square whether the map leads to it.
func plainLive(c impl.Chip, list []impl.Place, square int64) int64 {
	if !plainMapOk(c, list) || square < 0 || square >= int64(len(c.Squares)) {
		return -1
	}
	count := int64(0)
	for page := range int64(len(c.Squares[square].Pages)) {
		if slices.Contains(list, at(square, page)) {
			count++
		}
	}
	return count
}

func plainEmpty(c impl.Chip) []int64 {
	list := []int64{}
	if !plainChipOk(c) {
		return list
	}
	for i, square := range c.Squares {
		if len(square.Pages) == 0 && !square.Bad {
			list = append(list, int64(i))
		}
	}
	slices.SortStableFunc(list, func(a, b int64) int { return int(c.Squares[a].Wipes - c.Squares[b].Wipes) })
	return list
}

func mayBeVictim(c impl.Chip, number int, open int64) bool {
	return len(c.Squares[number].Pages) > 0 && !c.Squares[number].Bad && int64(number) != open
}

func plainVictim(c impl.Chip, list []impl.Place, open int64) int64 {
	if !plainMapOk(c, list) {
		return -1
	}
	best := int64(-1)
	for i := range c.Squares {
		number := int64(i)
		if !mayBeVictim(c, i, open) {
			continue
		}
		if best < 0 {
			best = number
			continue
		}
		a, b := plainLive(c, list, number), plainLive(c, list, best)
		if a < b || a == b && c.Squares[number].Wipes < c.Squares[best].Wipes {
			best = number
		}
	}
	if best < 0 {
		return -1
	}
	count := len(c.Squares[best].Pages)
	if plainLive(c, list, best) == int64(count) && count == int(c.Size) {
		return -1
	}
	return best
}

func plainFree(c impl.Chip) int64 {
	if !plainChipOk(c) {
		return -1
	}
	room := 0
	for _, square := range c.Squares {
		for page := range int(c.Size) {
			if !square.Bad && page >= len(square.Pages) {
				room++
			}
		}
	}
	return int64(room)
}

func plainWorn(c impl.Chip) (int64, int64) {
	wipes := []int64{}
	for _, square := range c.Squares {
		if !square.Bad {
			wipes = append(wipes, square.Wipes)
		}
	}
	if !plainChipOk(c) || len(wipes) == 0 {
		return -1, -1
	}
	return slices.Min(wipes), slices.Max(wipes)
}

func tellMap(list []impl.Place) string {
	if len(list) > mostPlaces+1 {
		return fmt.Sprintf("%d Places", len(list))
	}
	return fmt.Sprint(list)
}

func guardedMap(t *testing.T, list []impl.Place) ([]impl.Place, func(what string)) {
	t.Helper()
	return withRoomBehind(t, list, at(spareMark, spareMark))
}

func checkMapOk(t *testing.T, c impl.Chip, list []impl.Place, want bool) {
	t.Helper()
	neverPanics(t, "MapOk", func() {
		t.Helper()
		chip, checkChip := guardedChip(t, c)
		places, checkPlaces := guardedMap(t, list)
		if got := impl.MapOk(chip, places); got != want {
			t.Errorf("MapOk(%s, %s): %v", tellChip(c), tellMap(list), got)
		}
		checkChip("MapOk")
		checkPlaces("MapOk")
	})
}

func checkLive(t *testing.T, c impl.Chip, list []impl.Place, square int64, want int64) {
	t.Helper()
	neverPanics(t, "Live", func() {
		t.Helper()
		chip, checkChip := guardedChip(t, c)
		places, checkPlaces := guardedMap(t, list)
		if got := impl.Live(chip, places, square); got != want {
			t.Errorf("Live(%s, %s, %d): %d, not %d", tellChip(c), tellMap(list), square, got, want)
		}
		checkChip("Live")
		checkPlaces("Live")
	})
}

func checkEmpty(t *testing.T, c impl.Chip, want []int64) {
	t.Helper()
	neverPanics(t, "Empty", func() {
		t.Helper()
		chip, check := guardedChip(t, c)
		got := impl.Empty(chip)
		if !slices.Equal(got, want) {
			t.Errorf("Empty(%s): %v, not %v", tellChip(c), got, want)
		}
		overwrite(got)
		check("Empty")
		if again := impl.Empty(chip); !slices.Equal(again, want) {
			t.Errorf("Empty(%s), asked again: %v, not %v", tellChip(c), again, want)
		}
	})
}

func checkVictim(t *testing.T, c impl.Chip, list []impl.Place, open int64, want int64) {
	t.Helper()
	neverPanics(t, "Victim", func() {
		t.Helper()
		chip, checkChip := guardedChip(t, c)
		places, checkPlaces := guardedMap(t, list)
		if got := impl.Victim(chip, places, open); got != want {
			t.Errorf("Victim(%s, %s, %d): %d, not %d", tellChip(c), tellMap(list), open, got, want)
		}
		checkChip("Victim")
		checkPlaces("Victim")
	})
}

func checkFree(t *testing.T, c impl.Chip, want int64) {
	t.Helper()
	neverPanics(t, "Free", func() {
		t.Helper()
		chip, check := guardedChip(t, c)
		if got := impl.Free(chip); got != want {
			t.Errorf("Free(%s): %d, not %d", tellChip(c), got, want)
		}
		check("Free")
	})
}

func checkWorn(t *testing.T, c impl.Chip, wantLeast int64, wantGreatest int64) {
	t.Helper()
	neverPanics(t, "Worn", func() {
		t.Helper()
		chip, check := guardedChip(t, c)
		if least, greatest := impl.Worn(chip); least != wantLeast || greatest != wantGreatest {
			t.Errorf("Worn(%s): %d and %d, not %d and %d", tellChip(c), least, greatest, wantLeast, wantGreatest)
		}
		check("Worn")
	})
}

// aWornChip has squares of every sort: full ones, with room, without pages, and
// bad ones with pages and without.
func aWornChip() impl.Chip {
	return impl.Chip{Size: 3, Squares: []impl.Square{
		{Wipes: 4},
		{Pages: pagesOf(3), Wipes: 2},
		{Pages: pagesOf(2), Wipes: 9},
		{Pages: pagesOf(3), Bad: true},
		{Wipes: 1},
		{Wipes: 20, Bad: true},
		{Pages: pagesOf(1), Wipes: 2},
	}}
}

// fullChip has 96 pages, more than a map may have Places.
func fullChip() impl.Chip {
	c := impl.Chip{Size: mostSize}
	for i := range mostSquares {
		c.Squares = append(c.Squares, impl.Square{Pages: pagesOf(mostSize), Wipes: int64(i)})
	}
	return c
}

// chipOf has a Square of so many pages each.
func chipOf(size int64, counts ...int) impl.Chip {
	c := impl.Chip{Size: size}
	for _, count := range counts {
		c.Squares = append(c.Squares, impl.Square{Pages: pagesOf(count)})
	}
	return c
}

// wipedChip has a Square without Pages for each of these Wipes.
func wipedChip(wipes ...int64) impl.Chip {
	c := impl.Chip{Size: 2}
	for _, w := range wipes {
		c.Squares = append(c.Squares, impl.Square{Wipes: w})
	}
	return c
}

// wearChip has Wipes and counts of pages of which many are alike.
func (n *numbers) wearChip() impl.Chip {
	c := impl.Chip{Size: int64(1 + n.below(mostSize))}
	spread := 1 + n.below(6)
	bad := 2 + n.below(8)
	for range 1 + n.below(mostSquares) {
		square := impl.Square{Wipes: int64(n.below(spread)), Bad: n.below(bad) == 0}
		switch n.below(4) {
		case 0:
			square.Pages = pagesOf(int(c.Size))
		case 1, 2:
			square.Pages = pagesOf(n.below(int(c.Size) + 1))
		}
		c.Squares = append(c.Squares, square)
	}
	if n.below(4) == 0 {
		c.Squares[n.below(len(c.Squares))].Wipes = mostWipes
	}
	return c
}

func (n *numbers) shuffle(list []impl.Place) {
	for i := range list {
		k := i + n.below(len(list)-i)
		list[i], list[k] = list[k], list[i]
	}
}

// places is a right map: of some or of all pages, and of none for some numbers.
func (n *numbers) places(c impl.Chip) []impl.Place {
	pages := allPages(c)
	n.shuffle(pages)
	keep := min(len(pages), mostPlaces)
	if n.below(3) > 0 {
		keep = n.below(keep + 1)
	}
	list := pages[:keep]
	for len(list) == 0 || len(list) < mostPlaces && n.below(4) > 0 {
		list = append(list, none())
	}
	n.shuffle(list)
	return list
}

// wrongMap is a right map in which one thing is made wrong.
func (n *numbers) wrongMap(c impl.Chip, list []impl.Place) []impl.Place {
	list = slices.Clone(list)
	where := n.below(len(list))
	last := int64(len(c.Squares)) - 1
	square := int64(n.below(int(last) + 1))
	count := int64(len(c.Squares[square].Pages))
	far := farNumbers()
	switch n.below(9) {
	case 0:
		return nil
	case 1:
		return append(list, slices.Repeat([]impl.Place{none()}, mostPlaces+1-len(list))...)
	case 2:
		list[where] = at(-1, []int64{-1, 1, 2, math.MinInt64, math.MaxInt64}[n.below(5)])
	case 3:
		list[where] = at(-2, 0)
	case 4:
		list[where] = at(last+1, 0)
	case 5:
		list[where] = at(square, -1)
	case 6:
		list[where] = at(square, count)
	case 7:
		list[where] = at(square, far[n.below(len(far))])
	case 8:
		list[where] = at(far[1+n.below(len(far)-1)], 0)
	}
	return list
}

func TestMapConstants(t *testing.T) {
	if impl.MaxAt != mostPlaces {
		t.Fatal(impl.MaxAt)
	}
	if p := (impl.Place{Square: 3, Page: 2}); p != at(3, 2) || (impl.Place{}) != at(0, 0) {
		t.Fatal(p)
	}
}

func TestMapOkOfSome(t *testing.T) {
	for _, c := range []struct {
		list []impl.Place
		want bool
	}{
		{nil, false}, {[]impl.Place{}, false},
		{[]impl.Place{none()}, true}, {[]impl.Place{none(), none()}, true}, {[]impl.Place{none(), none(), none(), at(1, 0), none()}, true},
		{[]impl.Place{at(1, 0)}, true}, {[]impl.Place{at(1, 2)}, true}, {[]impl.Place{at(1, 3)}, false}, {[]impl.Place{at(1, -1)}, false},
		{[]impl.Place{at(2, 1)}, true}, {[]impl.Place{at(2, 2)}, false}, {[]impl.Place{at(2, 3)}, false},
		{[]impl.Place{at(0, 0)}, false}, {[]impl.Place{{}}, false}, {[]impl.Place{at(4, 0)}, false}, {[]impl.Place{at(5, 0)}, false},
		{[]impl.Place{at(3, 0)}, true}, {[]impl.Place{at(3, 2)}, true}, {[]impl.Place{at(3, 3)}, false},
		{[]impl.Place{at(6, 0)}, true}, {[]impl.Place{at(6, 1)}, false}, {[]impl.Place{at(7, 0)}, false}, {[]impl.Place{at(7, -1)}, false},
		{[]impl.Place{at(-1, 1)}, false}, {[]impl.Place{at(-1, -1)}, false}, {[]impl.Place{at(-2, 0)}, false}, {[]impl.Place{at(0, -1)}, false},
		{[]impl.Place{at(1, 0), at(1, 0)}, false}, {[]impl.Place{at(1, 0), none(), at(1, 0)}, false}, {[]impl.Place{at(1, 0), at(2, 0), at(6, 0), at(2, 0)}, false},
		{[]impl.Place{at(1, 0), at(1, 1), at(1, 2)}, true}, {[]impl.Place{at(1, 2), at(1, 0), at(1, 1)}, true}, {[]impl.Place{at(1, 2), at(2, 1)}, true},
		{[]impl.Place{at(1, 0), at(2, 0), at(3, 0), at(6, 0)}, true}, {[]impl.Place{at(3, 0), at(3, 0)}, false},
		{[]impl.Place{at(1, 0), at(2, 2)}, false}, {[]impl.Place{at(2, 2), at(1, 0)}, false}, {[]impl.Place{none(), at(-1, 1)}, false}, {[]impl.Place{at(-1, 1), none()}, false},
		{[]impl.Place{at(2, 1), at(1, 2)}, true}, {allPages(aWornChip()), true}, {append(allPages(aWornChip()), none(), none()), true},
	} {
		checkMapOk(t, aWornChip(), c.list, c.want)
	}
}

func TestMapOkOfLongMaps(t *testing.T) {
	pages := allPages(fullChip())
	for count := 0; count <= len(pages); count++ {
		right := 1 <= count && count <= 64
		checkMapOk(t, fullChip(), pages[:count], right)
		checkMapOk(t, fullChip(), pages[len(pages)-count:], right)
		checkMapOk(t, aWornChip(), slices.Repeat([]impl.Place{none()}, count), right)
		mixed := slices.Repeat([]impl.Place{none()}, count)
		copy(mixed, pages[:count/2])
		checkMapOk(t, fullChip(), mixed, right)
	}
	for _, count := range []int{65, 66, 128, 256, 256 + 64, 1000, 1<<16 + 1} {
		checkMapOk(t, fullChip(), slices.Repeat([]impl.Place{none()}, count), false)
	}
}

// Wherever the one wrong Place stands, the map is not right.
func TestMapOkOfOneWrongPlace(t *testing.T) {
	pages := allPages(fullChip())[:mostPlaces]
	wrong := []impl.Place{
		at(-1, 1), at(-1, -1), at(-1, 7), at(-2, 0), at(-2, -1), at(12, 0), at(12, 7), at(13, 0), at(0, 8), at(11, 8), at(0, -1), at(11, -1), at(5, -2), at(12, -1),
		at(math.MinInt64, 0), at(math.MaxInt64, 0), at(0, math.MinInt64), at(0, math.MaxInt64), at(-1, math.MinInt64), at(-1, math.MaxInt64),
		at(math.MinInt64, math.MinInt64), at(math.MaxInt64, math.MaxInt64), at(1<<32, 0), at(0, 1<<32), at(1<<32-1, 0), at(-1, 1<<32), at(256, 0), at(0, 256),
	}
	for _, place := range wrong {
		for where := range pages {
			list := slices.Clone(pages)
			list[where] = place
			checkMapOk(t, fullChip(), list, false)
		}
		checkMapOk(t, fullChip(), []impl.Place{place}, false)
		checkMapOk(t, fullChip(), []impl.Place{none(), place, none()}, false)
	}
}

func TestMapOkOfAnyTwoAlike(t *testing.T) {
	pages := allPages(fullChip())[20 : 20+mostPlaces]
	for a := range pages {
		for b := range pages {
			list := slices.Clone(pages)
			list[b] = list[a]
			checkMapOk(t, fullChip(), list, a == b)
			list[a], list[b] = none(), none()
			checkMapOk(t, fullChip(), list, true)
		}
	}
}

func TestMapOkAtEveryPlace(t *testing.T) {
	for _, c := range append(edgeChips(), aWornChip(), fullChip()) {
		for square := int64(-3); square <= 14; square++ {
			for page := int64(-3); page <= 10; page++ {
				lies := impl.PageAt(c, square, page) != ""
				isNone := square == -1 && page == 0
				checkMapOk(t, c, []impl.Place{at(square, page)}, lies || isNone)
				checkMapOk(t, c, []impl.Place{none(), at(square, page)}, lies || isNone)
				checkMapOk(t, c, []impl.Place{at(square, page), at(square, page)}, isNone)
			}
		}
	}
}

// The same map is right for one Chip, and not for another one.
func TestMapOkHangsOnTheChip(t *testing.T) {
	list := []impl.Place{at(0, 0), at(1, 1), none()}
	checkMapOk(t, chipOf(2, 1, 2), list, true)
	checkMapOk(t, chipOf(2, 1, 1), list, false)
	checkMapOk(t, chipOf(2, 0, 2), list, false)
	checkMapOk(t, chipOf(2, 2), list, false)
	checkMapOk(t, chipOf(2), list, false)
	checkMapOk(t, chipOf(1, 1, 2), list, false)
	checkMapOk(t, impl.Chip{}, []impl.Place{none()}, false)
}

// wrongChipsWithMaps are Chips that are not right, each with maps that only this
// makes wrong.
func wrongChipsWithMaps(call func(c impl.Chip, list []impl.Place)) {
	for _, c := range wrongChips() {
		call(c, []impl.Place{none()})
		if pages := allPages(c); len(pages) > 0 {
			call(c, pages[:1])
		}
	}
}

func TestWearOfWrongChips(t *testing.T) {
	squares := []int64{-1, 0, 1, 5, 6, 12, math.MinInt64, math.MaxInt64}
	wrongChipsWithMaps(func(c impl.Chip, list []impl.Place) {
		checkMapOk(t, c, list, false)
		checkEmpty(t, c, nil)
		checkFree(t, c, -1)
		checkWorn(t, c, -1, -1)
		for _, square := range squares {
			checkLive(t, c, list, square, -1)
			checkVictim(t, c, list, square, -1)
		}
	})
}

// wrongMaps are not right for aWornChip.
func wrongMaps() [][]impl.Place {
	maps := [][]impl.Place{nil, {}, {at(-1, 1)}, {at(-2, 0)}, {at(7, 0)}, {at(1, 3)}, {at(1, -1)}, {at(0, 0)}, {at(5, 0)}, {at(1, 0), at(1, 0)}, {none(), at(2, 2)}}
	for _, far := range farNumbers() {
		maps = append(maps, []impl.Place{at(1, far)}, []impl.Place{at(1, 0), at(far, 1)}, []impl.Place{at(-1, far)}, []impl.Place{at(far, far), none()})
	}
	return append(maps, slices.Repeat([]impl.Place{none()}, mostPlaces+1), append(slices.Repeat([]impl.Place{none()}, mostPlaces), at(1, 0)))
}

func TestWearOfWrongMaps(t *testing.T) {
	for _, list := range wrongMaps() {
		checkMapOk(t, aWornChip(), list, false)
		for _, square := range []int64{-2, -1, 0, 1, 2, 3, 4, 5, 6, 7, 8, math.MinInt64, math.MaxInt64} {
			checkLive(t, aWornChip(), list, square, -1)
			checkVictim(t, aWornChip(), list, square, -1)
		}
	}
}

func TestLiveOfSome(t *testing.T) {
	c := aWornChip()
	list := []impl.Place{at(1, 2), none(), at(3, 0), at(1, 0), at(6, 0), at(3, 2), at(1, 1), none(), at(3, 1)}
	for square, want := range []int64{0, 3, 0, 3, 0, 0, 1} {
		checkLive(t, c, list, int64(square), want)
		checkLive(t, c, []impl.Place{none()}, int64(square), 0)
		checkLive(t, c, slices.Repeat([]impl.Place{none()}, mostPlaces), int64(square), 0)
		checkLive(t, c, allPages(c), int64(square), int64(len(c.Squares[square].Pages)))
	}
	for _, square := range append(farNumbers(), 7, 8, 12, 256, 256+1) {
		checkLive(t, c, list, square, -1)
		checkLive(t, c, []impl.Place{none()}, square, -1)
	}
}

func TestLiveOfFullChips(t *testing.T) {
	c := fullChip()
	pages := allPages(c)
	for count := 1; count <= mostPlaces; count++ {
		for square := range int64(mostSquares) {
			want := min(max(0, int64(count)-8*square), 8)
			checkLive(t, c, pages[:count], square, want)
			checkLive(t, c, pages[:min(count, 8)], square, map[bool]int64{true: int64(min(count, 8))}[square == 0])
		}
		checkLive(t, c, pages[:count], -1, -1)
		checkLive(t, c, pages[:count], mostSquares, -1)
	}
	last := pages[len(pages)-8:]
	checkLive(t, c, last, 11, 8)
	checkLive(t, c, last, 10, 0)
}

func TestLiveOfMany(t *testing.T) {
	n := numbers(110)
	for range 3000 {
		c := n.wearChip()
		list := n.places(c)
		sum := int64(0)
		for square := int64(-1); square <= int64(len(c.Squares)); square++ {
			want := plainLive(c, list, square)
			checkLive(t, c, list, square, want)
			sum += max(0, want)
		}
		told := int64(0)
		for _, place := range list {
			if place != none() {
				told++
			}
		}
		if sum != told {
			t.Errorf("%d Places, and %d of them are Live: %s", told, sum, tellMap(list))
		}
		wrong := n.wrongMap(c, list)
		checkMapOk(t, c, list, true)
		checkMapOk(t, c, wrong, false)
		checkLive(t, c, wrong, int64(n.below(len(c.Squares))), -1)
		checkVictim(t, c, wrong, -1, -1)
	}
}

func TestEmptyOfSome(t *testing.T) {
	for _, c := range []struct {
		chip impl.Chip
		want []int64
	}{
		{aWornChip(), []int64{4, 0}}, {aChip(), []int64{0}}, {fullChip(), nil}, {chipOf(2, 1, 2, 1), nil}, {chipOf(8, 1), nil}, {chipOf(1, 0), []int64{0}},
		{wipedChip(0), []int64{0}}, {wipedChip(mostWipes), []int64{0}}, {wipedChip(0, 0), []int64{0, 1}}, {wipedChip(1, 0), []int64{1, 0}}, {wipedChip(0, 1), []int64{0, 1}},
		{wipedChip(5, 5, 5, 5), []int64{0, 1, 2, 3}}, {wipedChip(1, 2, 3, 4, 5), []int64{0, 1, 2, 3, 4}}, {wipedChip(5, 4, 3, 2, 1), []int64{4, 3, 2, 1, 0}},
		{wipedChip(2, 1, 2, 1, 2, 1), []int64{1, 3, 5, 0, 2, 4}}, {wipedChip(mostWipes, 0, mostWipes, mostWipes-1), []int64{1, 3, 0, 2}},
		{wipedChip(10, 9, 100, 99), []int64{1, 0, 3, 2}},
		{wipedChip(12, 11, 10, 9, 8, 7, 6, 5, 4, 3, 2, 1), []int64{11, 10, 9, 8, 7, 6, 5, 4, 3, 2, 1, 0}},
		{wipedChip(1, 2, 3, 4, 5, 6, 7, 8, 9, 10, 11, 12), []int64{0, 1, 2, 3, 4, 5, 6, 7, 8, 9, 10, 11}},
		{wipedChip(3, 1, 3, 0, 1, 0, 3, 1, 0, 2, 2, 3), []int64{3, 5, 8, 1, 4, 7, 9, 10, 0, 2, 6, 11}},
		{wipedChip(0, 0, 0, 0, 0, 0, 0, 0, 0, 0, 0, 0), []int64{0, 1, 2, 3, 4, 5, 6, 7, 8, 9, 10, 11}},
		{impl.Chip{Size: 1, Squares: []impl.Square{{Bad: true}}}, nil},
		{impl.Chip{Size: 1, Squares: []impl.Square{{Bad: true, Pages: pagesOf(1)}}}, nil},
		{impl.Chip{Size: 2, Squares: []impl.Square{{Bad: true}, {Wipes: 3}, {Bad: true, Pages: pagesOf(2)}, {Wipes: 2}, {Pages: pagesOf(1)}}}, []int64{3, 1}},
	} {
		checkEmpty(t, c.chip, c.want)
	}
}

// Every way to lay Wipes 0, 1 and 2 to up to six squares.
func TestEmptyOfAllSmallWipes(t *testing.T) {
	for count := 1; count <= 6; count++ {
		ways := int(math.Pow(3, float64(count)))
		for way := range ways {
			wipes := make([]int64, count)
			for i := range wipes {
				wipes[i] = int64(way % 3)
				way /= 3
			}
			checkEmpty(t, wipedChip(wipes...), plainEmpty(wipedChip(wipes...)))
		}
	}
}

func TestPromise9EmptyAreByTheirWipes(t *testing.T) {
	n := numbers(111)
	lengths := map[int]int{}
	for range 4000 {
		c := n.wearChip()
		got := impl.Empty(c)
		lengths[len(got)]++
		for i := 1; i < len(got); i++ {
			a, b := c.Squares[got[i-1]].Wipes, c.Squares[got[i]].Wipes
			if a > b || a == b && got[i-1] >= got[i] {
				t.Errorf("Empty(%s): %v", tellChip(c), got)
			}
		}
		for i, square := range c.Squares {
			times := 0
			for _, number := range got {
				if number == int64(i) {
					times++
				}
			}
			want := 0
			if !square.Bad && len(square.Pages) == 0 {
				want = 1
			}
			if times != want {
				t.Errorf("Empty(%s) tells %d so often: %d", tellChip(c), i, times)
			}
		}
		checkEmpty(t, c, plainEmpty(c))
		checkEmpty(t, n.wrong(c), nil)
	}
	if lengths[0] == 0 || lengths[1] == 0 || lengths[5] == 0 {
		t.Errorf("so many of each length: %v", lengths)
	}
}

func TestVictimOfSome(t *testing.T) {
	free := []impl.Place{none()}
	worn := func(wipes ...int64) impl.Chip {
		c := wipedChip(wipes...)
		for i := range c.Squares {
			c.Squares[i].Pages = pagesOf(2)
		}
		return c
	}
	bad := func(c impl.Chip, numbers ...int) impl.Chip {
		for _, number := range numbers {
			c.Squares[number].Bad = true
		}
		return c
	}
	for _, c := range []struct {
		chip impl.Chip
		list []impl.Place
		open int64
		want int64
	}{
		// Without a square that it may be.
		{chipOf(2, 0), free, -1, -1}, {chipOf(2, 0, 0, 0), free, -1, -1}, {wipedChip(1, 0), free, 0, -1}, {bad(chipOf(2, 1), 0), free, -1, -1},
		{bad(chipOf(2, 1, 2, 0), 0, 1), free, -1, -1}, {bad(chipOf(2, 1, 2), 0), free, 1, -1},
		// One alone.
		{chipOf(2, 1), free, -1, 0}, {chipOf(2, 2), free, -1, 0}, {chipOf(2, 1), free, 0, -1}, {chipOf(2, 2), free, 0, -1}, {chipOf(2, 0, 1, 0), free, -1, 1},
		{chipOf(2, 0, 1, 0), free, 0, 1}, {chipOf(2, 0, 1, 0), free, 1, -1}, {chipOf(2, 0, 1, 0), free, 2, 1}, {chipOf(2, 0, 0, 2), free, 2, -1}, {chipOf(1, 1), free, -1, 0},
		// An open that is no square.
		{chipOf(2, 0, 1, 0), free, 3, 1}, {chipOf(2, 1, 1), free, 2, 0}, {chipOf(2, 1, 1), free, -2, 0}, {chipOf(2, 1, 1), free, 256, 0}, {chipOf(2, 1, 1), free, 1 << 32, 0},
		{chipOf(2, 1, 1), free, math.MinInt64, 0}, {chipOf(2, 1, 1), free, math.MaxInt64, 0}, {chipOf(2, 1, 1), free, 0, 1}, {chipOf(2, 1, 1), free, 1, 0},
		// The least Live, whatever the Wipes and the pages.
		{worn(0, 0), []impl.Place{at(0, 0)}, -1, 1}, {worn(0, 0), []impl.Place{at(1, 0)}, -1, 0}, {worn(0, 9), []impl.Place{at(0, 0)}, -1, 1},
		{worn(0, 9), []impl.Place{at(0, 0), at(0, 1), at(1, 0)}, -1, 1}, {worn(9, 0), []impl.Place{at(0, 1), at(1, 1), at(1, 0)}, -1, 0},
		{worn(mostWipes, 0), []impl.Place{at(1, 1)}, -1, 0}, {chipOf(4, 4, 1), []impl.Place{at(1, 0)}, -1, 0}, {chipOf(4, 3, 1), []impl.Place{at(0, 0), at(0, 1), at(1, 0)}, -1, 1},
		{worn(0, 0, 9), []impl.Place{at(0, 0), at(1, 0)}, -1, 2}, {worn(0, 0, 9), []impl.Place{at(0, 0), at(1, 0)}, 2, 0},
		// Live alike.
		{worn(3, 2), free, -1, 1}, {worn(2, 3), free, -1, 0}, {worn(3, 2, 1), free, -1, 2}, {worn(3, 1, 2), free, 1, 2}, {worn(3, 2), []impl.Place{at(0, 1), at(1, 0)}, -1, 1},
		{worn(10, 9), free, -1, 1}, {worn(mostWipes, mostWipes-1), free, -1, 1}, {worn(mostWipes), free, -1, 0},
		// Live and Wipes alike.
		{worn(2, 2), free, -1, 0}, {worn(2, 2, 2), free, 0, 1}, {worn(3, 2, 2), free, -1, 1}, {worn(2, 2), []impl.Place{at(0, 1), at(1, 0)}, -1, 0},
		{worn(3, 2, 2, 3, 2), []impl.Place{at(1, 0)}, -1, 2}, {chipOf(3, 1, 3, 2), free, -1, 0}, {chipOf(3, 3, 1), free, -1, 0},
		// All its pages are Live, without room and with it.
		{chipOf(2, 2), []impl.Place{at(0, 0), at(0, 1)}, -1, -1}, {chipOf(1, 1), []impl.Place{at(0, 0)}, -1, -1}, {chipOf(3, 2), []impl.Place{at(0, 0), at(0, 1)}, -1, 0},
		{chipOf(2, 1), []impl.Place{at(0, 0)}, -1, 0}, {chipOf(2, 2), []impl.Place{at(0, 1)}, -1, 0}, {chipOf(3, 2), []impl.Place{at(0, 0), at(0, 1)}, 0, -1},
		{worn(0, 5), []impl.Place{at(0, 0), at(0, 1), at(1, 0), at(1, 1)}, -1, -1}, {worn(0, 5), []impl.Place{at(0, 0), at(0, 1), at(1, 0)}, 1, -1},
		{worn(0, 5), []impl.Place{at(0, 0), at(0, 1), at(1, 0)}, -1, 1}, {chipOf(2, 2, 1), []impl.Place{at(0, 0), at(0, 1), at(1, 0)}, -1, 1},
		{chipOf(2, 2, 1), []impl.Place{at(0, 0), at(0, 1), at(1, 0)}, 1, -1}, {chipOf(2, 2, 1), []impl.Place{at(0, 0), at(1, 0)}, -1, 0},
		{chipOf(8, 8), allPages(chipOf(8, 8)), -1, -1}, {chipOf(8, 7), allPages(chipOf(8, 7)), -1, 0}, {chipOf(8, 8), allPages(chipOf(8, 8))[1:], -1, 0},
		// Those that are bad.
		{bad(worn(0, 5), 0), free, -1, 1}, {bad(worn(0, 5), 0), []impl.Place{at(1, 0)}, -1, 1}, {bad(worn(0, 5, 3), 0, 2), free, -1, 1},
		{bad(worn(0, 5), 0), []impl.Place{at(1, 0), at(1, 1)}, -1, -1}, {bad(worn(0, 5), 0), []impl.Place{at(0, 0), at(0, 1)}, -1, 1},
		{bad(worn(0, 5), 0), free, 0, 1}, {bad(worn(0, 5), 0), free, 1, -1},
	} {
		checkVictim(t, c.chip, c.list, c.open, c.want)
	}
}

func TestVictimWithEveryOpen(t *testing.T) {
	c := aWornChip()
	list := []impl.Place{at(1, 0), none(), at(2, 1), at(6, 0), at(3, 0)}
	for open, want := range []int64{1, 6, 1, 1, 1, 1, 1, 1, 1} {
		checkVictim(t, c, list, int64(open), want)
	}
	for _, open := range farNumbers() {
		checkVictim(t, c, list, open, 1)
	}
	list = append(list, at(1, 1))
	checkVictim(t, c, list, -1, 6)
	checkVictim(t, c, list, 6, 2)
	checkVictim(t, c, append(list, at(2, 0)), 6, 1)
	checkVictim(t, c, append(list, at(2, 0), at(1, 2)), 6, 2)
}

func TestVictimOfFullChips(t *testing.T) {
	pages := allPages(fullChip())
	for count := 1; count <= mostPlaces; count++ {
		checkVictim(t, fullChip(), pages[:count], -1, int64((count+7)/8))
		checkVictim(t, fullChip(), pages[len(pages)-count:], -1, 0)
	}
	eight := impl.Chip{Size: mostSize, Squares: fullChip().Squares[:8]}
	checkVictim(t, eight, pages[:64], -1, -1)
	for lost := range 64 {
		list := slices.Clone(pages[:64])
		list[lost] = none()
		checkVictim(t, eight, list, -1, int64(lost/8))
		checkVictim(t, eight, list, int64(lost/8), -1)
	}
}

// Three squares of two pages with every count of Live, Wipes 0 and 1, each bad
// or not, and every open.
func TestVictimOfAllSmallChips(t *testing.T) {
	for way := range 12 * 12 * 12 {
		c := impl.Chip{Size: 2}
		list := []impl.Place{none()}
		for square := range int64(3) {
			mine := way % 12
			way /= 12
			c.Squares = append(c.Squares, impl.Square{Pages: pagesOf(2), Wipes: int64(mine / 3 % 2), Bad: mine >= 6})
			for page := range int64(mine % 3) {
				list = append(list, at(square, page))
			}
		}
		for open := int64(-1); open <= 3; open++ {
			checkVictim(t, c, list, open, plainVictim(c, list, open))
		}
	}
}

func TestPromise9VictimHasTheLeastLive(t *testing.T) {
	n := numbers(112)
	told, none := 0, 0
	for range 4000 {
		c := n.wearChip()
		list := n.places(c)
		open := int64(n.below(len(c.Squares)+2)) - 1
		victim := impl.Victim(c, list, open)
		checkVictim(t, c, list, open, plainVictim(c, list, open))
		checkVictim(t, n.wrong(c), list, open, -1)
		if victim == -1 {
			none++
			noVictim(t, c, list, open)
			continue
		}
		told++
		if !mayBeVictim(c, int(victim), open) {
			t.Errorf("Victim(%s, %s, %d): %d", tellChip(c), tellMap(list), open, victim)
		}
		live := impl.Live(c, list, victim)
		for i := range c.Squares {
			if other := impl.Live(c, list, int64(i)); mayBeVictim(c, i, open) && other < live {
				t.Errorf("Victim(%s, %s, %d): %d with %d Live, and %d has %d", tellChip(c), tellMap(list), open, victim, live, i, other)
			}
		}
	}
	if told < 1000 || none < 200 {
		t.Errorf("%d were told, and %d times none", told, none)
	}
}

// noVictim asks whether each Square that may be told is full and all Live.
func noVictim(t *testing.T, c impl.Chip, list []impl.Place, open int64) {
	t.Helper()
	for i := range c.Squares {
		if mayBeVictim(c, i, open) && impl.Live(c, list, int64(i)) != c.Size {
			t.Errorf("Victim(%s, %s, %d): -1, and %d may be", tellChip(c), tellMap(list), open, i)
		}
	}
}

// The order of the Places does not count, nor do those that are none.
func TestVictimAndLiveHangOnNoOrder(t *testing.T) {
	n := numbers(113)
	for range 1000 {
		c := n.wearChip()
		list := n.places(c)
		open := int64(n.below(len(c.Squares)+1)) - 1
		want := impl.Victim(c, list, open)
		for range 4 {
			other := slices.Clone(list)
			if len(other) < mostPlaces {
				other = append(other, none())
			}
			n.shuffle(other)
			checkVictim(t, c, other, open, want)
			square := int64(n.below(len(c.Squares)))
			checkLive(t, c, other, square, impl.Live(c, list, square))
		}
	}
}

func TestFreeOfSome(t *testing.T) {
	for squares := int64(1); squares <= mostSquares; squares++ {
		for size := int64(1); size <= mostSize; size++ {
			c, _ := impl.NewChip(squares, size)
			checkFree(t, c, squares*size)
			for i := range c.Squares {
				c.Squares[i].Bad = true
				checkFree(t, c, (squares-int64(i)-1)*size)
			}
			for i := range c.Squares {
				c.Squares[i] = impl.Square{Pages: pagesOf(int(size)), Wipes: mostWipes}
			}
			checkFree(t, c, 0)
		}
	}
	for _, c := range []struct {
		chip impl.Chip
		want int64
	}{
		{aWornChip(), 9}, {aChip(), 4}, {fullChip(), 0}, {chipOf(8, 7), 1}, {chipOf(8, 1, 8, 0), 15}, {wipedChip(mostWipes, 3), 4},
		{impl.Chip{Size: 8, Squares: []impl.Square{{Bad: true, Pages: pagesOf(3)}, {Pages: pagesOf(5)}}}, 3},
		{impl.Chip{Size: 8, Squares: []impl.Square{{Bad: true, Pages: pagesOf(3)}}}, 0}, {impl.Chip{Size: 8, Squares: []impl.Square{{Bad: true}}}, 0},
	} {
		checkFree(t, c.chip, c.want)
	}
}

func TestPromise9FreeGoesWithWhatIsWrittenAndWiped(t *testing.T) {
	n := numbers(114)
	kinds := map[int64]int{}
	for range 400 {
		c := n.chip()
		for range 30 {
			j := n.job(c)
			before := impl.Free(c)
			did, is := impl.Did(c, j)
			want := before
			if is {
				kinds[j.Kind]++
				pages := int64(len(c.Squares[j.Square].Pages))
				want += map[int64]int64{impl.JbWrite: -1, impl.JbWipe: pages, impl.JbBad: pages - c.Size}[j.Kind]
			}
			if got := impl.Free(did); got != want {
				t.Errorf("Free was %d, and is %d behind %s to %s", before, got, tellJob(j), tellChip(c))
			}
			checkFree(t, did, plainFree(did))
			c = did
		}
		checkFree(t, n.wrong(c), -1)
	}
	if kinds[impl.JbWrite] < 500 || kinds[impl.JbWipe] < 500 || kinds[impl.JbBad] < 100 {
		t.Errorf("so many of each kind: %v", kinds)
	}
}

// Free is how often a Chip can be written to.
func TestFreeIsWhatCanBeWritten(t *testing.T) {
	n := numbers(115)
	for range 300 {
		c := n.wearChip()
		free, count := impl.Free(c), int64(0)
		for square := int64(0); square < int64(len(c.Squares)); {
			did, is := impl.Did(c, impl.Job{Kind: impl.JbWrite, Square: square, Text: "a"})
			if !is {
				square++
				continue
			}
			c, count = did, count+1
		}
		if count != free {
			t.Errorf("Free told %d, and there was room for %d", free, count)
		}
		checkFree(t, c, 0)
	}
}

func TestWornOfSome(t *testing.T) {
	for _, c := range []struct {
		chip            impl.Chip
		least, greatest int64
	}{
		{aWornChip(), 1, 9}, {aChip(), 0, mostWipes}, {fullChip(), 0, 11}, {wipedChip(0), 0, 0}, {wipedChip(5), 5, 5}, {wipedChip(mostWipes), mostWipes, mostWipes},
		{wipedChip(3, 3, 3), 3, 3}, {wipedChip(1, 2), 1, 2}, {wipedChip(2, 1), 1, 2}, {wipedChip(2, 1, 3), 1, 3}, {wipedChip(1, 3, 2), 1, 3}, {wipedChip(3, 2, 1), 1, 3},
		{wipedChip(0, mostWipes), 0, mostWipes}, {wipedChip(mostWipes, 0), 0, mostWipes}, {wipedChip(10, 9, 100, 99), 9, 100}, {wipedChip(7, 0, 7), 0, 7}, {wipedChip(0, 7, 0), 0, 7},
		{impl.Chip{Size: 2, Squares: []impl.Square{{Wipes: 4, Bad: true}}}, -1, -1},
		{impl.Chip{Size: 2, Squares: []impl.Square{{Wipes: 4, Bad: true}, {Bad: true, Pages: pagesOf(2)}}}, -1, -1},
		{impl.Chip{Size: 2, Squares: []impl.Square{{Wipes: 1, Bad: true}, {Wipes: 2}, {Wipes: 3}}}, 2, 3},
		{impl.Chip{Size: 2, Squares: []impl.Square{{Wipes: 2}, {Wipes: 3}, {Wipes: 1, Bad: true}}}, 2, 3},
		{impl.Chip{Size: 2, Squares: []impl.Square{{Wipes: 9, Bad: true}, {Wipes: 2}, {Wipes: 3}}}, 2, 3},
		{impl.Chip{Size: 2, Squares: []impl.Square{{Wipes: 2}, {Wipes: 3}, {Wipes: 9, Bad: true}}}, 2, 3},
		{impl.Chip{Size: 2, Squares: []impl.Square{{Bad: true}, {Wipes: 5, Pages: pagesOf(2)}, {Wipes: 9, Bad: true}}}, 5, 5},
		{impl.Chip{Size: 2, Squares: []impl.Square{{}, {Wipes: 9, Bad: true}}}, 0, 0},
	} {
		checkWorn(t, c.chip, c.least, c.greatest)
	}
}

func TestWornOfMany(t *testing.T) {
	n := numbers(116)
	for range 3000 {
		c := n.wearChip()
		least, greatest := plainWorn(c)
		checkWorn(t, c, least, greatest)
		checkWorn(t, n.wrong(c), -1, -1)
		for _, number := range impl.Empty(c) {
			if wipes := c.Squares[number].Wipes; wipes < least || wipes > greatest {
				t.Errorf("%d of Empty has %d Wipes, Worn told %d and %d", number, wipes, least, greatest)
			}
		}
	}
}

func TestWearOfEdgeChips(t *testing.T) {
	n := numbers(117)
	for _, c := range edgeChips() {
		checkEmpty(t, c, plainEmpty(c))
		checkFree(t, c, plainFree(c))
		least, greatest := plainWorn(c)
		checkWorn(t, c, least, greatest)
		for range 5 {
			list := n.places(c)
			checkMapOk(t, c, list, true)
			for number := int64(-2); number <= 13; number++ {
				checkLive(t, c, list, number, plainLive(c, list, number))
				checkVictim(t, c, list, number, plainVictim(c, list, number))
			}
		}
	}
}

// What a page says does not count, nor whether it is a Page.
func TestWearOfAnyText(t *testing.T) {
	for _, text := range edgeTexts() {
		c := impl.Chip{Size: 2, Squares: []impl.Square{{Pages: []string{text}, Wipes: 1}, {Pages: []string{text, text}}, {Wipes: 2}}}
		list := []impl.Place{at(0, 0), at(1, 1), at(1, 0)}
		checkMapOk(t, c, list, true)
		checkLive(t, c, list, 1, 2)
		checkEmpty(t, c, []int64{2})
		checkVictim(t, c, list, -1, 0)
		checkFree(t, c, 3)
		checkWorn(t, c, 0, 2)
	}
}

func TestPromise21EmptyIsNewMemory(t *testing.T) {
	n := numbers(118)
	for range 1000 {
		c, check := guardedChip(t, n.wearChip())
		a, b := impl.Empty(c), impl.Empty(c)
		want := plainEmpty(c)
		overwrite(a)
		if !slices.Equal(b, want) || !slices.Equal(impl.Empty(c), want) {
			t.Errorf("Empty(%s): %v behind a change of another answer", tellChip(c), b)
		}
		wrong := n.wrong(c)
		overwrite(impl.Empty(wrong))
		if got := impl.Empty(wrong); len(got) != 0 {
			t.Errorf("Empty(%s): %v", tellChip(wrong), got)
		}
		check("Empty")
	}
}

func TestPromise21WearArgumentsStay(t *testing.T) {
	n := numbers(119)
	for trial := range 2000 {
		c := n.wearChip()
		list := n.places(c)
		if trial%4 == 0 {
			list = n.wrongMap(c, list)
		}
		if trial%5 == 0 {
			c = n.wrong(c)
		}
		c, checkChip := guardedChip(t, c)
		list, checkList := guardedMap(t, list)
		square := int64(n.below(14)) - 1
		for what, call := range map[string]func(){
			"MapOk": func() { impl.MapOk(c, list) }, "Live": func() { impl.Live(c, list, square) }, "Empty": func() { overwrite(impl.Empty(c)) },
			"Victim": func() { impl.Victim(c, list, square) }, "Free": func() { impl.Free(c) }, "Worn": func() { impl.Worn(c) },
		} {
			call()
			checkChip(what)
			checkList(what)
		}
	}
}

func TestPromise21WearNeverPanics(t *testing.T) {
	n := numbers(120)
	far := append(farNumbers(), 0, 1, 2, 3, 5, 6, 7, 8, 11, 12, 13)
	chips := slices.Concat(edgeChips(), wrongChips())
	for range 20000 {
		c := chips[n.below(len(chips))]
		list := []impl.Place{}
		for range n.below(4) {
			list = append(list, at(far[n.below(len(far))], far[n.below(len(far))]), none())
		}
		number := far[n.below(len(far))]
		neverPanics(t, fmt.Sprintf("a call of %s, %s, %d", tellChip(c), tellMap(list), number), func() {
			if got, want := impl.MapOk(c, list), plainMapOk(c, list); got != want {
				t.Errorf("MapOk(%s, %s): %v", tellChip(c), tellMap(list), got)
			}
			if got, want := impl.Live(c, list, number), plainLive(c, list, number); got != want {
				t.Errorf("Live(%s, %s, %d): %d, not %d", tellChip(c), tellMap(list), number, got, want)
			}
			if got, want := impl.Victim(c, list, number), plainVictim(c, list, number); got != want {
				t.Errorf("Victim(%s, %s, %d): %d, not %d", tellChip(c), tellMap(list), number, got, want)
			}
			impl.Empty(c)
			impl.Free(c)
			impl.Worn(c)
		})
	}
}

// What one call does must not show in the next one.
func TestWearAnswersAgainAlike(t *testing.T) {
	list := []impl.Place{at(1, 0), at(2, 1), none()}
	for range 3 {
		checkMapOk(t, aWornChip(), list, true)
		checkMapOk(t, aWornChip(), append(list, at(1, 0)), false)
		checkLive(t, aWornChip(), list, 2, 1)
		checkLive(t, impl.Chip{}, list, 2, -1)
		checkEmpty(t, aWornChip(), []int64{4, 0})
		checkEmpty(t, impl.Chip{}, nil)
		checkVictim(t, aWornChip(), list, -1, 6)
		checkVictim(t, aWornChip(), list, 6, 1)
		checkVictim(t, aWornChip(), nil, 6, -1)
		checkFree(t, aWornChip(), 9)
		checkWorn(t, aWornChip(), 1, 9)
	}
}
