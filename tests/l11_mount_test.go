package tests

import (
	"fmt"
	"math"
	"slices"
	"strings"
	"testing"

	"loop.example/g00223/impl"
)

// found is a page that lies well, and where.
type found struct {
	page  impl.Page
	kind  int64
	place impl.Place
}

// found goes through the pages in their order.
func (plain *plainPages) found(c impl.Chip) []found {
	list := []found{}
	for _, place := range allPages(c) {
		p, kind := plain.lying(c.Squares[place.Square].Pages[place.Page])
		if kind == 1 || kind == 2 {
			list = append(list, found{p, kind, place})
		}
	}
	return list
}

// mounted sorts all that lies well: what comes first for a number is its page.
func (plain *plainPages) mounted(c impl.Chip, count int64) impl.Ftl {
	if !plainChipOk(c) || count < 1 || count > mostPlaces {
		return impl.Ftl{}
	}
	f := impl.Ftl{Chip: chipCopy(c), Map: slices.Repeat([]impl.Place{none()}, int(count)), Open: -1}
	list := plain.found(c)
	slices.SortStableFunc(list, func(a, b found) int { return int(b.page.Stamp - a.page.Stamp) })
	for _, one := range list {
		if one.page.At >= count {
			continue
		}
		if f.Map[one.page.At] == none() {
			f.Map[one.page.At] = one.place
		}
		f.Stamp = max(f.Stamp, one.page.Stamp)
	}
	return f
}

func (plain *plainPages) broken(f impl.Ftl, p impl.Page, jobs int64, bytes int64) impl.Chip {
	if !plain.ftlOk(f) {
		return impl.Chip{}
	}
	list, _, _ := plain.entered(f, p)
	c := chipCopy(f.Chip)
	for i, j := range list {
		if int64(i) >= jobs {
			return plainCut(c, j, bytes)
		}
		c, _ = plainDid(c, j)
	}
	return c
}

func (plain *plainPages) same(a impl.Ftl, b impl.Ftl) bool {
	if !plain.ftlOk(a) || !plain.ftlOk(b) || len(a.Map) != len(b.Map) {
		return false
	}
	for number := range int64(len(a.Map)) {
		textA, isA := plain.get(a, number)
		textB, isB := plain.get(b, number)
		if textA != textB || isA != isB {
			return false
		}
	}
	return true
}

// mended are the pages of the map that Lie so, by their numbers.
func (plain *plainPages) mended(f impl.Ftl) []found {
	list := []found{}
	if !plain.ftlOk(f) {
		return list
	}
	for _, one := range plain.found(f.Chip) {
		if one.kind == 2 && slices.Contains(f.Map, one.place) {
			list = append(list, one)
		}
	}
	slices.SortFunc(list, func(a, b found) int { return int(a.page.At - b.page.At) })
	return list
}

func (plain *plainPages) rotten(f impl.Ftl) []int64 {
	list := []int64{}
	for _, one := range plain.mended(f) {
		list = append(list, one.page.At)
	}
	return list
}

func (plain *plainPages) scrubbed(f impl.Ftl) (impl.Ftl, bool) {
	if !plain.ftlOk(f) {
		return impl.Ftl{}, false
	}
	g, how := f, ""
	for _, one := range plain.mended(f) {
		if _, g, how = plain.entered(g, one.page); !strings.HasPrefix(how, "room") {
			return f, false
		}
	}
	return g, true
}

func checkMount(t *testing.T, c impl.Chip, count int64, want impl.Ftl) {
	t.Helper()
	neverPanics(t, "Mount", func() {
		t.Helper()
		guarded, check := guardedChip(t, c)
		if got := impl.Mount(guarded, count); !sameFtl(got, want) {
			t.Errorf("Mount(%s, %d): %s, not %s", tellChip(c), count, tellFtl(got), tellFtl(want))
		}
		check("Mount")
	})
}

func checkBroken(t *testing.T, f impl.Ftl, p impl.Page, jobs int64, bytes int64, want impl.Chip) {
	t.Helper()
	neverPanics(t, "Broken", func() {
		t.Helper()
		guarded, check := guardedFtl(t, f)
		if got := impl.Broken(guarded, p, jobs, bytes); !sameChip(got, want) {
			t.Errorf("Broken(%s, %s, %d, %d): %s, not %s", tellFtl(f), tellPage(p), jobs, bytes, tellChip(got), tellChip(want))
		}
		check("Broken")
	})
}

// checkSame asks both ways round.
func checkSame(t *testing.T, a impl.Ftl, b impl.Ftl, want bool) {
	t.Helper()
	for range 2 {
		neverPanics(t, "Same", func() {
			t.Helper()
			first, checkFirst := guardedFtl(t, a)
			second, checkSecond := guardedFtl(t, b)
			if got := impl.Same(first, second); got != want {
				t.Errorf("Same(%s, %s): %v", tellFtl(a), tellFtl(b), got)
			}
			checkFirst("Same")
			checkSecond("Same")
		})
		a, b = b, a
	}
}

func checkRotten(t *testing.T, f impl.Ftl, want ...int64) {
	t.Helper()
	neverPanics(t, "Rotten", func() {
		t.Helper()
		guarded, check := guardedFtl(t, f)
		got := impl.Rotten(guarded)
		if !slices.Equal(got, want) {
			t.Errorf("Rotten(%s): %v, not %v", tellFtl(f), got, want)
		}
		overwrite(got)
		check("Rotten")
		if again := impl.Rotten(guarded); !slices.Equal(again, want) {
			t.Errorf("Rotten(%s), asked again: %v, not %v", tellFtl(f), again, want)
		}
	})
}

func checkScrubbed(t *testing.T, f impl.Ftl, want impl.Ftl, wantIs bool) {
	t.Helper()
	neverPanics(t, "Scrubbed", func() {
		t.Helper()
		guarded, check := guardedFtl(t, f)
		if got, is := impl.Scrubbed(guarded); !sameFtl(got, want) || is != wantIs {
			t.Errorf("Scrubbed(%s): %s and %v, not %s and %v", tellFtl(f), tellFtl(got), is, tellFtl(want), wantIs)
		}
		check("Scrubbed")
	})
}

// checkNotMounted asks for the answers to what is no Ftl.
func checkNotMounted(t *testing.T, f impl.Ftl) {
	t.Helper()
	for _, jobs := range []int64{math.MinInt64, -1, 0, 1, 2, 9, math.MaxInt64} {
		checkBroken(t, f, dataPage(0, "new"), jobs, jobs, impl.Chip{})
	}
	checkBroken(t, f, impl.Page{}, 0, 5, impl.Chip{})
	checkSame(t, f, f, false)
	checkSame(t, f, anFtl(), false)
	checkRotten(t, f)
	checkScrubbed(t, f, impl.Ftl{}, false)
}

func trimAt(number int64, stamp int64) string {
	return impl.Laid(impl.Page{Kind: impl.PgTrim, At: number, Stamp: stamp})
}

// mend turns a bit of a text that is laid.
func mend(text string) string {
	return turned(text, len(text)/2-1, 4)
}

// withMended are the numbers' pages with a turned bit each.
func withMended(f impl.Ftl, numbers ...int) impl.Ftl {
	for _, number := range numbers {
		place := f.Map[number]
		f = withLying(f, place, mend(f.Chip.Squares[place.Square].Pages[place.Page]))
	}
	return f
}

// chipWith has a Square of each of these pages.
func chipWith(size int64, squares ...[]string) impl.Chip {
	c := impl.Chip{Size: size}
	for _, pages := range squares {
		c.Squares = append(c.Squares, impl.Square{Pages: pages})
	}
	return c
}

func TestMountOfSome(t *testing.T) {
	a1, a2, a3, a3too := laidAt(0, 1, "one"), laidAt(0, 2, "two"), laidAt(0, 3, "three"), laidAt(0, 3, "too")
	b1, b5, last := laidAt(1, 1, "b"), laidAt(1, 5, ""), laidAt(0, mostStamp, "last")
	gone := trimAt(0, 4)
	for _, c := range []struct {
		squares [][]string
		places  []impl.Place
		stamp   int64
	}{
		{[][]string{{}}, []impl.Place{none(), none()}, 0},
		{[][]string{{}, {}, {}}, []impl.Place{none()}, 0},
		{[][]string{{a1}}, []impl.Place{at(0, 0)}, 1},
		{[][]string{{}, {}, {"x", a1}}, []impl.Place{at(2, 1)}, 1},
		{[][]string{{b5}, {a1, b1}}, []impl.Place{at(1, 0), at(0, 0), none()}, 5},
		// A greater Stamp ahead of a less one and behind it.
		{[][]string{{a1, a2}}, []impl.Place{at(0, 1), none()}, 2},
		{[][]string{{a2, a1}}, []impl.Place{at(0, 0), none()}, 2},
		{[][]string{{a1}, {a3}, {a2}}, []impl.Place{at(1, 0)}, 3},
		{[][]string{{a3}, {a1}, {a2}}, []impl.Place{at(0, 0)}, 3},
		{[][]string{{a2}, {a1}, {a3}}, []impl.Place{at(2, 0)}, 3},
		{[][]string{{a1, last, a2}}, []impl.Place{at(0, 1)}, mostStamp},
		// Stamps alike in one Square, in two, and in both.
		{[][]string{{a3, a3too}}, []impl.Place{at(0, 0)}, 3},
		{[][]string{{a3too, a3}}, []impl.Place{at(0, 0)}, 3},
		{[][]string{{a1, a3, a3too}}, []impl.Place{at(0, 1)}, 3},
		{[][]string{{a3}, {a3too}}, []impl.Place{at(0, 0)}, 3},
		{[][]string{{}, {a1, a2, a3too}, {a3}}, []impl.Place{at(1, 2)}, 3},
		{[][]string{{a1}, {a3too, a3}, {a3, a3}}, []impl.Place{at(1, 0)}, 3},
		{[][]string{{mend(a3)}, {a3}}, []impl.Place{at(0, 0)}, 3},
		{[][]string{{a3}, {mend(a3)}}, []impl.Place{at(0, 0)}, 3},
		{[][]string{{a1, b1}, {b1, a1}}, []impl.Place{at(0, 0), at(0, 1)}, 1},
		// Torn and mended ones.
		{[][]string{{a1, a2[:9]}}, []impl.Place{at(0, 0)}, 1},
		{[][]string{{a1[:1]}, {"x"}, {noughtText(200)}}, []impl.Place{none()}, 0},
		{[][]string{{a3 + "\x00", a1}}, []impl.Place{at(0, 1)}, 1},
		{[][]string{{turned(a3, 0, 1, 2), mend(a2), a1}}, []impl.Place{at(0, 1)}, 2},
		{[][]string{{a1, mend(a2)}}, []impl.Place{at(0, 1)}, 2},
		// A trimmed number has its page.
		{[][]string{{a3, gone}, {a2}}, []impl.Place{at(0, 1)}, 4},
		{[][]string{{gone, last}}, []impl.Place{at(0, 1)}, mostStamp},
		{[][]string{{gone, gone}, {gone}}, []impl.Place{at(0, 0), none()}, 4},
		// The greatest Stamp is at a page that is not the map's.
		{[][]string{{a1, b5}}, []impl.Place{at(0, 0)}, 1},
		{[][]string{{b5}}, []impl.Place{none()}, 0},
		{[][]string{{b5, a1}, {b1}}, []impl.Place{at(0, 1)}, 1},
		{[][]string{{b5[:9], a1}}, []impl.Place{at(0, 1), none()}, 1},
		{[][]string{{laidAt(2, mostStamp, "far")}, {a3, b5}}, []impl.Place{at(1, 0), at(1, 1)}, 5},
		{[][]string{{laidAt(63, 9, "far")}, {a3, b5}}, []impl.Place{at(1, 0), at(1, 1)}, 5},
	} {
		chip := chipWith(3, c.squares...)
		checkMount(t, chip, int64(len(c.places)), impl.Ftl{Chip: chip, Map: c.places, Open: -1, Stamp: c.stamp})
		// What is Bad is not written to, but what lies there counts.
		for i := range chip.Squares {
			chip.Squares[i].Bad = true
			chip.Squares[i].Wipes = int64(i)
			checkMount(t, chip, int64(len(c.places)), impl.Ftl{Chip: chip, Map: c.places, Open: -1, Stamp: c.stamp})
		}
	}
}

func TestMountOfEveryNumber(t *testing.T) {
	plain := newPlainPages(t)
	full := chipWith(8, []string{laidAt(63, 7, "last")}, []string{laidAt(0, 3, "first"), laidAt(1, 4, "second"), laidAt(62, 5, "last but one")})
	for _, c := range []impl.Chip{anFtl().Chip, full, chipWith(1, nil), fullChip(), aChip()} {
		for count := int64(-70); count <= 140; count++ {
			got := impl.Mount(c, count)
			want := 0
			if 1 <= count && count <= 64 {
				want = int(count)
			}
			if len(got.Map) != want || plainChipOk(got.Chip) != (want > 0) {
				t.Errorf("Mount(%s, %d): %s", tellChip(c), count, tellFtl(got))
			}
			if count < 5 || count > 61 {
				checkMount(t, c, count, plain.mounted(c, count))
			}
		}
		for _, count := range append(farNumbers(), 0, 65, 66, 256, 1<<32+64) {
			checkMount(t, c, count, impl.Ftl{})
		}
	}
	want := impl.Mount(full, 64)
	if want.Stamp != 7 || want.Map[63] != at(0, 0) || want.Map[62] != at(1, 2) || impl.Mount(full, 63).Stamp != 5 || impl.Mount(full, 1).Stamp != 3 {
		t.Errorf("Mount(%s, 64): %s", tellChip(full), tellFtl(want))
	}
}

// A page with an At of n, and one with one less.
func TestMountOfEveryAt(t *testing.T) {
	for count := int64(1); count <= 64; count++ {
		for _, number := range []int64{0, count / 2, count - 2, count - 1, count, count + 1, 62, 63} {
			if number < 0 || number > 63 {
				continue
			}
			c := chipWith(2, nil, []string{"torn", laidAt(number, 77, "a")})
			want := impl.Ftl{Chip: c, Map: slices.Repeat([]impl.Place{none()}, int(count)), Open: -1}
			if number < count {
				want.Map[number], want.Stamp = at(1, 1), 77
			}
			checkMount(t, c, count, want)
		}
	}
}

func TestMountOfWrongChips(t *testing.T) {
	for _, c := range wrongChips() {
		for _, count := range []int64{math.MinInt64, 0, 1, 2, 64, 65, math.MaxInt64} {
			checkMount(t, c, count, impl.Ftl{})
		}
	}
	n := numbers(150)
	for range 300 {
		checkMount(t, n.wrong(n.ftl().Chip), int64(1+n.below(64)), impl.Ftl{})
	}
	// A blank page is no page of a right Chip, wherever it is.
	for i, square := range anFtl().Chip.Squares {
		for k := range square.Pages {
			c := anFtl().Chip
			c.Squares[i].Pages[k] = ""
			checkMount(t, c, 5, impl.Ftl{})
		}
	}
}

// One bit turned in any word is mended, two are not, and no part of a page is one.
func TestMountByHowAPageLies(t *testing.T) {
	n := numbers(151)
	for _, newer := range []string{laidAt(1, 8, "the newer one"), trimAt(1, 8), laidAt(1, 8, ""), laidAt(1, 8, n.text(24))} {
		older := laidAt(1, 5, "older")
		leads := func(lying string, page int64, stamp int64) {
			t.Helper()
			for _, c := range []impl.Chip{chipWith(2, []string{older, lying}), chipWith(2, nil, []string{lying}, []string{older})} {
				place := at(0, page)
				if len(c.Squares) == 3 {
					place = at(2-page, 0)
				}
				checkMount(t, c, 2, impl.Ftl{Chip: c, Map: []impl.Place{none(), place}, Open: -1, Stamp: stamp})
			}
		}
		leads(newer, 1, 8)
		for word := range len(newer) / 2 {
			for bit := range wordsBits {
				leads(turned(newer, word, bit), 1, 8)
				leads(turned(newer, word, bit, (bit+1)%wordsBits), 0, 5)
			}
		}
		for count := 1; count < len(newer); count++ {
			leads(newer[:count], 0, 5)
		}
		leads(turnedInEach(&n, newer), 1, 8)
		leads(newer+"\x00", 0, 5)
		leads(newer+newer, 0, 5)
		leads("\x00"+newer, 0, 5)
	}
}

// Every way to lay up to four of these pages on two squares.
func TestMountOfAllSmallChips(t *testing.T) {
	plain := newPlainPages(t)
	lying := []string{"", laidAt(0, 2, "a"), laidAt(0, 2, "b"), laidAt(0, 3, "c"), laidAt(1, 3, "d"), trimAt(1, 2), mend(laidAt(1, 4, "e"))[:9], mend(laidAt(1, 3, "f"))}
	kinds := len(lying)
	for number := range kinds * kinds * kinds * kinds {
		c := chipWith(2, nil, nil)
		for k := range 4 {
			if text := lying[number%kinds]; text != "" {
				c.Squares[k/2].Pages = append(c.Squares[k/2].Pages, text)
			}
			number /= kinds
		}
		for count := int64(1); count <= 3; count++ {
			if got, want := impl.Mount(c, count), plain.mounted(c, count); !sameFtl(got, want) {
				t.Fatalf("Mount(%s, %d): %s, not %s", tellChip(c), count, tellFtl(got), tellFtl(want))
			}
		}
	}
}

// aliked is a Chip with few numbers and few Stamps, so that many are alike.
func (n *numbers) aliked() impl.Chip {
	c := n.ftl().Chip
	count, stamps := 1+n.below(5), 1+n.below(6)
	for _, square := range c.Squares {
		for k := range square.Pages {
			p := n.page()
			p.At, p.Stamp = int64(n.below(count)), int64(1+n.below(stamps))
			text := impl.Laid(p)
			switch n.below(8) {
			case 0:
				text = turnedInEach(n, text)
			case 1:
				text = text[:1+n.below(len(text))]
			case 2:
				text += "x"
			}
			square.Pages[k] = text
		}
	}
	return c
}

func TestMountOfMany(t *testing.T) {
	plain := newPlainPages(t)
	n := numbers(152)
	for turn := range 2500 {
		c := n.ftl().Chip
		if turn%2 == 0 {
			c = n.aliked()
		}
		count := int64(1 + n.below([]int{3, 6, 64}[n.below(3)]))
		checkMount(t, c, count, plain.mounted(c, count))
		f := impl.Mount(c, count)
		checkFtlOk(t, f, true)
		// What is Mounted again is as it is, and so is what was Open.
		if again := impl.Mount(f.Chip, count); !sameFtl(again, f) || !impl.Same(f, again) {
			t.Errorf("Mount(%s, %d), mounted again: %s", tellChip(c), count, tellFtl(again))
		}
	}
}

// What is laid in another order of squares is found as well, unless it is alike.
func TestMountHangsOnNoOrder(t *testing.T) {
	n := numbers(153)
	for range 300 {
		c := n.ftl().Chip
		stamp := int64(0)
		for _, square := range c.Squares {
			for k := range square.Pages {
				stamp++
				square.Pages[k] = laidAt(int64(n.below(9)), (stamp*7919)%10007, fmt.Sprint(stamp))
			}
		}
		a := impl.Mount(c, 9)
		slices.Reverse(c.Squares)
		for _, square := range c.Squares {
			slices.Reverse(square.Pages)
		}
		b := impl.Mount(c, 9)
		if !impl.Same(a, b) || a.Stamp != b.Stamp {
			t.Errorf("Mount of %s: %s, and turned round: %s", tellChip(c), tellFtl(a), tellFtl(b))
		}
	}
}

// Four Jobs: two pages move, their square is wiped, the new one is written.
func TestBrokenOfSome(t *testing.T) {
	f := ftlOf(3, 4, 0, []int{0, deadPage, 1}, []int{3, tornPage, 2}, nil)
	p4, p5, p6, wanted := f.Chip.Squares[1].Pages[0], f.Chip.Squares[1].Pages[1], f.Chip.Squares[1].Pages[2], laidAt(1, 7, "new")
	jobs, _ := impl.Plan(f, dataPage(1, "new"))
	if shortJobs(jobs) != "w2:p4 w2:p6 x1 w2:new" || len(p5) != 9 {
		t.Fatal(shortJobs(jobs))
	}
	chip := func(wipes int64, first []string, second []string) impl.Chip {
		c := chipCopy(f.Chip)
		c.Squares[1] = impl.Square{Pages: first, Wipes: wipes}
		c.Squares[2] = impl.Square{Pages: second}
		return c
	}
	three := []string{p4, p5, p6}
	for _, c := range []struct {
		jobs  int64
		bytes int64
		want  impl.Chip
	}{
		{-1, 9, chip(0, three, []string{p4[:9]})}, {math.MinInt64, 9, chip(0, three, []string{p4[:9]})},
		{0, -1, chip(0, three, []string{p4[:1]})}, {0, 0, chip(0, three, []string{p4[:1]})}, {0, 1, chip(0, three, []string{p4[:1]})},
		{0, 2, chip(0, three, []string{p4[:2]})}, {0, int64(len(p4)) - 1, chip(0, three, []string{p4[:len(p4)-1]})},
		{0, int64(len(p4)), chip(0, three, []string{p4})}, {0, int64(len(p4)) + 1, chip(0, three, []string{p4})},
		{0, math.MinInt64, chip(0, three, []string{p4[:1]})}, {0, math.MaxInt64, chip(0, three, []string{p4})},
		{1, 0, chip(0, three, []string{p4, p6[:1]})}, {1, 5, chip(0, three, []string{p4, p6[:5]})}, {1, 200, chip(0, three, []string{p4, p6})},
		{2, -1, chip(1, []string{p4[:1], p5[:1], p6[:1]}, []string{p4, p6})}, {2, 0, chip(1, []string{p4[:1], p5[:1], p6[:1]}, []string{p4, p6})},
		{2, 8, chip(1, []string{p4[:8], p5[:8], p6[:8]}, []string{p4, p6})}, {2, 10, chip(1, []string{p4[:10], p5, p6[:10]}, []string{p4, p6})},
		{2, math.MaxInt64, chip(1, three, []string{p4, p6})}, {2, int64(len(p4)), chip(1, three, []string{p4, p6})},
		{3, 0, chip(1, nil, []string{p4, p6, wanted[:1]})}, {3, 11, chip(1, nil, []string{p4, p6, wanted[:11]})},
		{3, int64(len(wanted)) - 1, chip(1, nil, []string{p4, p6, wanted[:len(wanted)-1]})}, {3, int64(len(wanted)), chip(1, nil, []string{p4, p6, wanted})},
		{4, -1, chip(1, nil, []string{p4, p6, wanted})}, {4, 0, chip(1, nil, []string{p4, p6, wanted})}, {4, 9, chip(1, nil, []string{p4, p6, wanted})},
		{5, 0, chip(1, nil, []string{p4, p6, wanted})}, {5, 9, chip(1, nil, []string{p4, p6, wanted})}, {math.MaxInt64, math.MinInt64, chip(1, nil, []string{p4, p6, wanted})},
		{1<<32 + 1, 3, chip(1, nil, []string{p4, p6, wanted})}, {-1<<32 + 2, 3, chip(0, three, []string{p4[:3]})},
	} {
		checkBroken(t, f, dataPage(1, "new"), c.jobs, c.bytes, c.want)
	}
}

// One Job alone.
func TestBrokenOfANewOne(t *testing.T) {
	for _, p := range edgePages() {
		f := newFtl(t, 2, 2, 64)
		f.Stamp = p.Stamp - 1
		wanted := impl.Laid(p)
		p.Stamp = 0
		size := int64(len(wanted))
		for _, bytes := range []int64{math.MinInt64, -1, 0, 1, 2, size / 2, size - 1, size, size + 1, 200, math.MaxInt64} {
			cut := wanted[:min(max(bytes, 1), size)]
			checkBroken(t, f, p, 0, bytes, chipWith(2, []string{cut}, nil))
			checkBroken(t, f, p, -1, bytes, chipWith(2, []string{cut}, nil))
			checkBroken(t, f, p, 1, bytes, chipWith(2, []string{wanted}, nil))
			checkBroken(t, f, p, 2, bytes, chipWith(2, []string{wanted}, nil))
		}
	}
}

func TestBrokenWithoutAPlan(t *testing.T) {
	full, dead := []int{0, 1}, []int{deadPage, deadPage}
	entries := []impl.Page{dataPage(0, "new"), trimPage(0)}
	refused := []impl.Page{{}, {Kind: 3}, dataPage(-1, ""), dataPage(64, ""), dataPage(math.MinInt64, ""), dataPage(math.MaxInt64, ""), dataPage(0, noughtText(25)), {Kind: impl.PgTrim, Text: "x"}}
	check := func(f impl.Ftl, pages []impl.Page) {
		t.Helper()
		for _, p := range pages {
			for _, jobs := range []int64{math.MinInt64, -1, 0, 1, 5, math.MaxInt64} {
				for _, bytes := range []int64{math.MinInt64, -1, 0, 9, math.MaxInt64} {
					checkBroken(t, f, p, jobs, bytes, f.Chip)
				}
			}
		}
	}
	for _, f := range []impl.Ftl{
		newFtl(t, 1, 1, 1), ftlOf(2, 2, 0, full, nil), ftlOf(2, 4, 0, full, dead, []int{2, 3}), ftlOf(2, 3, 0, full, []int{deadPage, 2}),
		// A wiping is done, and a later Job is refused.
		withWipes(ftlOf(2, 2, 0, full, dead, dead), 0, 0, mostWipes), withWipes(ftlOf(2, 3, 0, full, []int{2, deadPage}, nil), 0, mostWipes, 0),
		withStamp(anFtl(), mostStamp),
	} {
		check(f, entries)
		check(f, refused)
	}
	for _, f := range roomyFtls(t) {
		check(f, refused)
		check(f, []impl.Page{dataPage(int64(len(f.Map)), "new")})
		check(withStamp(f, mostStamp), entries)
	}
}

func TestMountingOfWrongFtls(t *testing.T) {
	for _, f := range []impl.Ftl{
		{}, {Map: anFtl().Map}, withStamp(anFtl(), 6), withStamp(anFtl(), -1), withStamp(anFtl(), mostStamp+1), withOpen(anFtl(), 4), withOpen(anFtl(), 5), withOpen(anFtl(), -2),
		withPlace(anFtl(), 4, at(0, 0)), withPlace(anFtl(), 0, at(1, 0)), withPlace(anFtl(), 4, at(0, 2)), withPlace(anFtl(), 4, at(9, 0)),
		withLying(withMended(anFtl(), 0), at(0, 1), "torn"), withStamp(withMended(anFtl(), 1), 1), withOpen(withMended(anFtl(), 2), math.MinInt64),
	} {
		checkNotMounted(t, f)
	}
	for _, far := range farNumbers() {
		checkNotMounted(t, withStamp(anFtl(), far))
		checkNotMounted(t, withOpen(anFtl(), far-1))
	}
	n := numbers(154)
	for range 300 {
		checkNotMounted(t, n.wrongFtl(n.ftl()))
	}
	for _, c := range wrongChips() {
		checkNotMounted(t, impl.Ftl{Chip: c, Map: anFtl().Map, Open: -1, Stamp: 8})
	}
}

func TestBrokenOfMany(t *testing.T) {
	plain := newPlainPages(t)
	n := numbers(155)
	some := 0
	for range 1500 {
		f := n.ftl()
		p := n.entry(len(f.Map))
		list, _, _ := plain.entered(f, p)
		if len(list) > 1 {
			some++
		}
		for range 4 {
			jobs, bytes := int64(n.below(len(list)+3))-1, int64(n.below(80))-1
			checkBroken(t, f, p, jobs, bytes, plain.broken(f, p, jobs, bytes))
		}
		// Behind all Jobs it is what Enter makes.
		entered, _ := impl.Enter(f, p)
		checkBroken(t, f, p, int64(len(list)), 1, entered.Chip)
	}
	if some < 200 {
		t.Errorf("only %d with several Jobs", some)
	}
}

func TestSameOfSome(t *testing.T) {
	f := anFtl()
	moved, _ := impl.Enter(f, dataPage(4, "more"))
	// The same text with another Stamp, at another Place.
	again, _ := impl.Enter(f, dataPage(2, "p7"))
	other, _ := impl.Enter(f, dataPage(2, "p8"))
	trimmed, _ := impl.Enter(f, trimPage(4))
	empty, _ := impl.Enter(f, dataPage(4, ""))
	reborn, _ := impl.Enter(f, dataPage(3, ""))
	shorter := ftlCopy(f)
	shorter.Map = shorter.Map[:4]
	longer := ftlCopy(f)
	longer.Map = append(longer.Map, none())
	for _, c := range []struct {
		a    impl.Ftl
		b    impl.Ftl
		want bool
	}{
		{f, f, true}, {f, again, true}, {f, other, false}, {f, moved, false}, {other, again, false},
		// A number without a Place, one that is trimmed, one with an empty text.
		{f, trimmed, true}, {f, empty, false}, {trimmed, empty, false}, {f, reborn, false}, {f, withPlace(f, 3, none()), true}, {reborn, withPlace(f, 3, none()), false},
		{f, withPlace(f, 0, none()), false}, {f, withPlace(f, 0, at(0, 2)), false}, {f, withPlace(f, 1, none()), false},
		{withPlace(f, 0, none()), withPlace(f, 0, none()), true}, {withPlace(f, 0, none()), withPlace(f, 1, none()), false},
		// Maps of unlike length, of which one begins as the other one.
		{f, shorter, false}, {f, longer, false}, {shorter, longer, false}, {shorter, shorter, true}, {longer, longer, true},
		{newFtl(t, 2, 2, 3), newFtl(t, 2, 2, 4), false}, {newFtl(t, 1, 1, 1), newFtl(t, 12, 8, 1), true}, {newFtl(t, 3, 2, 64), newFtl(t, 5, 1, 64), true}, {newFtl(t, 3, 2, 64), newFtl(t, 3, 2, 63), false},
		// What else differs does not count.
		{f, withOpen(f, -1), true}, {f, withOpen(f, 3), true}, {f, withStamp(f, 99), true}, {f, withWipes(f, 9, 9, 9, 9, 9), true}, {f, withBad(withOpen(f, -1), 0, 1, 2, 3), true},
		{f, withMended(f, 0, 1, 2, 3), true}, {f, withLying(f, at(0, 2), "torn"), true}, {f, withTrim(f, 0), false}, {withTrim(f, 0), withPlace(f, 0, none()), true},
		// One that is not right, as the first and as the second one.
		{f, withStamp(f, 6), false}, {f, withOpen(f, 4), false}, {withStamp(f, 6), withStamp(f, 6), false}, {f, impl.Ftl{}, false}, {impl.Ftl{}, impl.Ftl{}, false},
		{newFtl(t, 2, 2, 1), withOpen(newFtl(t, 2, 2, 1), 2), false}, {newFtl(t, 2, 2, 1), withStamp(newFtl(t, 2, 2, 1), mostStamp+1), false}, {f, withLying(f, at(2, 0), "torn"), false},
	} {
		checkSame(t, c.a, c.b, c.want)
	}
}

// One text that is unlike, of any number, and in any byte.
func TestSameWithOneTextUnlike(t *testing.T) {
	n := numbers(156)
	f := newFtl(t, 12, 8, 64)
	for number := range int64(64) {
		f, _ = impl.Enter(f, dataPage(number, n.text(int(number)%25)))
	}
	for number := range int64(64) {
		text, _ := impl.Get(f, number)
		alike, _ := impl.Enter(f, dataPage(number, text))
		checkSame(t, f, alike, true)
		unlike, _ := impl.Enter(f, dataPage(number, changedText(&n, text)))
		checkSame(t, f, unlike, false)
		gone, _ := impl.Enter(f, trimPage(number))
		checkSame(t, f, gone, false)
	}
}

// changedText is one byte otherwise, or one more or less.
func changedText(n *numbers, text string) string {
	switch {
	case text == "":
		return "\x00"
	case n.below(3) == 0:
		return text[:len(text)-1]
	case n.below(3) == 0 && len(text) < 24:
		return text + "\x00"
	}
	bytes := []byte(text)
	bytes[n.below(len(bytes))] ^= 1 << n.below(8)
	return string(bytes)
}

func TestSameOfMany(t *testing.T) {
	plain := newPlainPages(t)
	n := numbers(157)
	same := 0
	for range 600 {
		a := n.ftl()
		b := a
		for range 1 + n.below(3) {
			p := n.entry(len(a.Map))
			switch n.below(4) {
			case 0:
				p = trimPage(p.At)
			case 1, 2:
				if text, is := impl.Get(b, p.At); is {
					p = dataPage(p.At, text)
				}
			}
			b, _ = impl.Enter(b, p)
		}
		want := plain.same(a, b)
		if want {
			same++
		}
		checkSame(t, a, b, want)
		checkSame(t, a, a, true)
		checkSame(t, a, n.ftl(), false)
		checkSame(t, a, n.wrongFtl(b), false)
	}
	if same < 100 || same > 500 {
		t.Errorf("%d of 600 were alike", same)
	}
}

func TestRottenOfSome(t *testing.T) {
	f := anFtl()
	checkRotten(t, f)
	for number := range 4 {
		checkRotten(t, withMended(f, number), int64(number))
	}
	checkRotten(t, withMended(f, 0, 1, 2, 3), 0, 1, 2, 3)
	checkRotten(t, withMended(f, 3, 0), 0, 3)
	checkRotten(t, withMended(f, 2, 1), 1, 2)
	// Pages that are mended, but not the map's.
	checkRotten(t, withLying(f, at(0, 2), mend(laidAt(0, 3, "p3"))))
	checkRotten(t, withLying(withMended(f, 1), at(0, 2), mend(laidAt(0, 3, "p3"))), 1)
	checkRotten(t, withLying(f, at(1, 0), mend(laidAt(63, 3, "far"))))
	checkRotten(t, withPlace(withMended(f, 0, 2), 0, none()), 2)
	checkRotten(t, withPlace(withMended(f, 0, 2), 0, at(1, 2)), 2)
	// In a Bad square.
	checkRotten(t, withMended(withPlace(f, 0, at(4, 0)), 0), 0)
	checkRotten(t, newFtl(t, 12, 8, 64))
	checkRotten(t, withStamp(withMended(f, 0), 6))
	checkRotten(t, withOpen(withMended(f, 0), 4))
}

func TestRottenOfEveryTurnedBit(t *testing.T) {
	f := anFtl()
	n := numbers(158)
	for number, place := range f.Map[:4] {
		text := f.Chip.Squares[place.Square].Pages[place.Page]
		for word := range len(text) / 2 {
			for bit := range wordsBits {
				checkRotten(t, withLying(f, place, turned(text, word, bit)), int64(number))
				checkRotten(t, withLying(f, place, turned(text, word, bit, (bit+1)%wordsBits)))
			}
		}
		checkRotten(t, withLying(f, place, turnedInEach(&n, text)), int64(number))
	}
}

func TestRottenOfMany(t *testing.T) {
	plain := newPlainPages(t)
	n := numbers(159)
	several := 0
	for range 2500 {
		f := n.ftl()
		want := plain.rotten(f)
		if len(want) > 1 {
			several++
		}
		checkRotten(t, f, want...)
		checkRotten(t, n.wrongFtl(f))
	}
	if several < 200 {
		t.Errorf("only %d had several", several)
	}
}

func TestScrubbedOfSome(t *testing.T) {
	full := []int{0, 1}
	for _, c := range []struct {
		f      impl.Ftl
		places []impl.Place
		open   int64
		wipes  []int64
	}{
		// None.
		{anFtl(), anFtl().Map, 2, []int64{2, 1, 0, 3, 9}},
		{ftlOf(2, 2, 0, []int{0}, nil, nil), []impl.Place{at(0, 0), none()}, 0, []int64{0, 0, 0}},
		{ftlOf(2, 2, 0, full, nil), []impl.Place{at(0, 0), at(0, 1)}, 0, []int64{0, 0}},
		// One, with room in Open, and where room is made.
		{withMended(anFtl(), 1), []impl.Place{at(0, 0), at(2, 1), at(2, 0), at(1, 1), none()}, 2, []int64{2, 1, 0, 3, 9}},
		{withMended(anFtl(), 3), []impl.Place{at(0, 0), at(0, 1), at(2, 0), at(2, 1), none()}, 2, []int64{2, 1, 0, 3, 9}},
		{withMended(ftlOf(2, 2, 0, full, nil, nil), 1), []impl.Place{at(0, 0), at(1, 0)}, 1, []int64{0, 0, 0}},
		{withMended(ftlOf(2, 3, 0, full, []int{deadPage, 2}, nil), 2), []impl.Place{at(0, 0), at(0, 1), at(2, 1)}, 2, []int64{0, 1, 0}},
		// Several: in their order.
		{withMended(anFtl(), 2, 0), []impl.Place{at(2, 1), at(0, 1), at(2, 2), at(1, 1), none()}, 2, []int64{2, 1, 0, 3, 9}},
		{withMended(ftlOf(2, 2, 0, full, nil, nil), 1, 0), []impl.Place{at(1, 0), at(1, 1)}, 1, []int64{0, 0, 0}},
		{withMended(ftlOf(2, 2, -1, []int{1, 0}, nil, nil), 1, 0), []impl.Place{at(1, 0), at(1, 1)}, 1, []int64{0, 0, 0}},
		{withMended(ftlOf(2, 2, 0, []int{1, deadPage}, []int{0, deadPage}, nil), 0, 1), []impl.Place{at(2, 1), at(1, 1)}, 1, []int64{1, 1, 0}},
		// One that is not of the map stays.
		{withLying(anFtl(), at(0, 2), mend(laidAt(0, 3, "p3"))), anFtl().Map, 2, []int64{2, 1, 0, 3, 9}},
	} {
		checkFtlOk(t, c.f, true)
		got, is := impl.Scrubbed(c.f)
		count := int64(len(impl.Rotten(c.f)))
		if !is || !slices.Equal(got.Map, c.places) || got.Open != c.open || got.Stamp != c.f.Stamp+count || len(impl.Rotten(got)) != 0 {
			t.Errorf("Scrubbed(%s): %s and %v", tellFtl(c.f), tellFtl(got), is)
		}
		for i, wipes := range c.wipes {
			if got.Chip.Squares[i].Wipes != wipes {
				t.Errorf("Scrubbed(%s): %s, square %d", tellFtl(c.f), tellFtl(got), i)
			}
		}
		checkSame(t, c.f, got, true)
		checkScrubbed(t, c.f, got, true)
		checkScrubbed(t, got, got, true)
	}
}

func TestScrubbedIsEnteredAsItIs(t *testing.T) {
	n := numbers(160)
	for _, p := range edgePages() {
		f := newFtl(t, 3, 2, 64)
		if p.Stamp == mostStamp {
			continue
		}
		f.Chip.Squares[1].Pages = []string{turnedInEach(&n, impl.Laid(p))}
		f.Map[p.At], f.Stamp = at(1, 0), p.Stamp
		want := ftlCopy(f)
		p.Stamp++
		want.Chip.Squares[0].Pages = []string{impl.Laid(p)}
		want.Map[p.At], want.Open, want.Stamp = at(0, 0), 0, p.Stamp
		checkScrubbed(t, f, want, true)
	}
}

func TestScrubbedAtTheLastStamp(t *testing.T) {
	f := anFtl()
	for _, c := range []struct {
		f  impl.Ftl
		is bool
	}{
		{withStamp(f, mostStamp), true}, {withStamp(f, mostStamp-1), true},
		{withStamp(withMended(f, 0), mostStamp), false}, {withStamp(withMended(f, 0), mostStamp-1), true}, {withStamp(withMended(f, 0), mostStamp-2), true},
		{withStamp(withMended(f, 0, 3), mostStamp), false}, {withStamp(withMended(f, 0, 3), mostStamp-1), false}, {withStamp(withMended(f, 0, 3), mostStamp-2), true},
		{withStamp(withMended(f, 0, 1, 2, 3), mostStamp-3), false}, {withStamp(withMended(f, 0, 1, 2), mostStamp-3), true},
	} {
		want := c.f
		if c.is {
			for _, number := range impl.Rotten(c.f) {
				place := c.f.Map[number]
				p, _ := impl.Lying(c.f.Chip.Squares[place.Square].Pages[place.Page])
				want, _ = impl.Enter(want, p)
			}
		}
		checkScrubbed(t, c.f, want, c.is)
	}
}

func TestScrubbedWithoutRoom(t *testing.T) {
	full, dead := []int{0, 1}, []int{deadPage, deadPage}
	for _, f := range []impl.Ftl{
		withMended(ftlOf(2, 2, 0, full, nil), 0), withMended(ftlOf(2, 2, 0, full), 1), withMended(ftlOf(2, 4, 0, full, dead, []int{2, 3}), 2, 3),
		withMended(ftlOf(2, 3, 0, full, []int{deadPage, 2}), 2), withMended(withWipes(ftlOf(2, 2, 0, full, dead, nil), 0, mostWipes, 0), 0, 1),
		withMended(withBad(ftlOf(2, 2, -1, full, nil), 0, 1), 1),
	} {
		checkFtlOk(t, f, true)
		checkScrubbed(t, f, f, false)
	}
	// The first one is Entered, the second one finds no room: all is as it was.
	for _, f := range []impl.Ftl{withWipes(ftlOf(2, 2, 1, full, []int{deadPage}, nil), mostWipes, mostWipes, 0), ftlOf(3, 2, 0, full), ftlOf(4, 3, 0, []int{0, 1, 2})} {
		for _, number := range []int{0, 1} {
			if got, is := impl.Scrubbed(withMended(f, number)); !is || got.Stamp != f.Stamp+1 || len(impl.Rotten(got)) > 0 {
				t.Errorf("Scrubbed of number %d of %s: %s and %v", number, tellFtl(f), tellFtl(got), is)
			}
		}
		checkScrubbed(t, withMended(f, 0, 1), withMended(f, 0, 1), false)
	}
	// What has none to be Entered once more needs no room.
	checkScrubbed(t, ftlOf(2, 2, 0, full), ftlOf(2, 2, 0, full), true)
}

func TestScrubbedOfMany(t *testing.T) {
	plain := newPlainPages(t)
	n := numbers(161)
	done, refused, none := 0, 0, 0
	for range 2000 {
		f := n.ftl()
		want, is := plain.scrubbed(f)
		checkScrubbed(t, f, want, is)
		switch {
		case !is:
			refused++
		case want.Stamp > f.Stamp:
			done++
		default:
			none++
		}
		if is {
			checkSame(t, f, want, true)
			checkRotten(t, want)
		}
		checkScrubbed(t, n.wrongFtl(f), impl.Ftl{}, false)
	}
	if done < 200 || refused < 200 || none < 200 {
		t.Errorf("%d were scrubbed, %d refused, of %d none was to be", done, refused, none)
	}
}

// cuts are numbers of bytes: each one up to the longest page's and one more, or
// some of these.
func (n *numbers) cuts(each bool) []int64 {
	list := []int64{0, 1, 2, 17, 18, 19, 65, 66, 67, int64(3 + n.below(63)), int64(3 + n.below(63))}
	if each {
		list = nil
		for bytes := range int64(68) {
			list = append(list, bytes)
		}
	}
	return list
}

// holdsCut asks whether, behind a cut, each number has what it had, and the one
// that was being Entered that, or, where its page is there as a whole, what was
// to be.
func (a array) holdsCut(t *testing.T, f impl.Ftl, p impl.Page, jobs []impl.Job, done int64, bytes int64, what string) {
	t.Helper()
	last := int64(len(jobs)) - 1
	b := a
	if done > last || done == last && bytes >= int64(len(jobs[last].Text)) {
		b = array{slices.Clone(a.texts), slices.Clone(a.has)}
		b.enter(p)
	}
	chip := impl.Broken(f, p, done, bytes)
	mounted := impl.Mount(chip, int64(len(f.Map)))
	if !sameChip(mounted.Chip, chip) || mounted.Open != -1 || mounted.Stamp > f.Stamp+1 {
		t.Fatalf("%s: Mount of %s: %s", what, tellChip(chip), tellFtl(mounted))
	}
	b.holdQuickly(t, mounted, fmt.Sprintf("%s, %d Jobs of %s and %d bytes", what, done, shortJobs(jobs), bytes))
}

// holdQuickly is hold for many numbers: Get asks each time for all that lies there.
func (a array) holdQuickly(t *testing.T, f impl.Ftl, what string) {
	t.Helper()
	if !impl.FtlOk(f) || len(f.Map) != len(a.texts) {
		t.Fatalf("%s: %s", what, tellFtl(f))
	}
	for number, place := range f.Map {
		p := impl.Page{}
		if place != none() {
			p, _ = impl.Lying(f.Chip.Squares[place.Square].Pages[place.Page])
		}
		if p.Text != a.texts[number] || (p.Kind == impl.PgData) != a.has[number] {
			t.Fatalf("%s: number %d of %s is %s, not %s and %v", what, number, tellFtl(f), tellPage(p), tellText(a.texts[number]), a.has[number])
		}
	}
}

// Each number of Jobs, and each number of bytes of the next one, at entry after
// entry.
func TestPromise11BehindAPowerCut(t *testing.T) {
	n := numbers(162)
	cut, wiped := 0, int64(0)
	for script, layout := range [][3]int64{{3, 1, 1}, {3, 2, 2}, {3, 3, 2}, {3, 4, 4}, {4, 2, 3}, {4, 2, 4}, {5, 3, 9}, {4, 1, 2}, {6, 4, 12}, {3, 8, 8}, {12, 8, 64}, {10, 8, 64}, {12, 2, 20}} {
		squares, size, count := layout[0], layout[1], layout[2]
		f, a := newFtl(t, squares, size, count), newArray(count)
		for turn := range int(8 * squares * size) {
			what := fmt.Sprintf("%v, turn %d", layout, turn)
			p := n.scriptEntry(script, turn, int(count))
			jobs, is := impl.Plan(f, p)
			got, _ := impl.Enter(f, p)
			if !is {
				t.Fatalf("%s: there is no room in %s", what, tellFtl(f))
			}
			small := squares*size <= 15
			if small || len(jobs) > 1 && turn%7 == 0 || turn%50 == 0 {
				for done := range int64(len(jobs)) + 1 {
					for _, bytes := range n.cuts(small && (turn%4 == 0 || len(jobs) > 2)) {
						a.holdsCut(t, f, p, jobs, done, bytes, what)
						cut++
					}
				}
			}
			a.enter(p)
			f = got
			checkMounted(t, f, a, what)
		}
		wiped += wipesOf(f.Chip)
	}
	if cut < 30000 || wiped < 500 {
		t.Errorf("only %d cuts and %d wipes", cut, wiped)
	}
}

// checkMounted asks whether what is found again is what there was.
func checkMounted(t *testing.T, f impl.Ftl, a array, what string) {
	t.Helper()
	mounted := impl.Mount(f.Chip, int64(len(f.Map)))
	if !impl.Same(f, mounted) || mounted.Stamp != f.Stamp || mounted.Open != -1 || !sameChip(mounted.Chip, f.Chip) {
		t.Fatalf("%s: Mount of %s: %s", what, tellFtl(f), tellFtl(mounted))
	}
	a.holdQuickly(t, mounted, what)
}

// Of a new one that loses no power nothing is alike: the map itself is found.
func TestPromise11TheMapIsFoundAgain(t *testing.T) {
	n := numbers(163)
	for script, layout := range spareLayouts() {
		squares, size, count := layout[0], layout[1], layout[2]
		f, a := newFtl(t, squares, size, count), newArray(count)
		for turn := range int(3 * squares * size) {
			p := n.scriptEntry(script, turn, int(count))
			f, _ = impl.Enter(f, p)
			a.enter(p)
			if turn%9 != 0 && count > 4 {
				continue
			}
			if got := impl.Mount(f.Chip, count); !sameFtl(got, withOpen(f, -1)) {
				t.Fatalf("script %d of %v, turn %d: Mount of %s: %s", script, layout, turn, tellFtl(f), tellFtl(got))
			}
		}
		checkMounted(t, f, a, fmt.Sprintf("script %d of %v", script, layout))
	}
}

// cutScript is one in which power fails again and again, bits are turned, and
// what is mended is scrubbed.
type cutScript struct {
	f       impl.Ftl
	a       array
	cut     int
	refused int
	scrubs  int
}

// fail lets power fail at any place of an entry, and mounts what is left.
func (s *cutScript) fail(t *testing.T, n *numbers, p impl.Page, what string) {
	t.Helper()
	jobs, is := impl.Plan(s.f, p)
	if !is {
		s.refused++
		return
	}
	done, bytes := int64(n.below(len(jobs)+1)), int64(n.below(68))
	s.a.holdsCut(t, s.f, p, jobs, done, bytes, what)
	last := len(jobs) - 1
	if int(done) > last || int(done) == last && int(bytes) >= len(jobs[last].Text) {
		s.a.enter(p)
	}
	s.f = impl.Mount(impl.Broken(s.f, p, done, bytes), int64(len(s.f.Map)))
	s.cut++
}

func (s *cutScript) enter(p impl.Page) {
	got, is := impl.Enter(s.f, p)
	if !is {
		s.refused++
		return
	}
	s.a.enter(p)
	s.f = got
}

// turn turns a bit of a page that lies well as it is.
func (s *cutScript) turn(n *numbers) {
	places := allPages(s.f.Chip)
	if len(places) == 0 {
		return
	}
	place := places[n.below(len(places))]
	text := s.f.Chip.Squares[place.Square].Pages[place.Page]
	if _, kind := impl.Lying(text); kind == impl.LyGood {
		s.f = withLying(s.f, place, turned(text, n.below(len(text)/2), n.below(wordsBits)))
	}
}

func (s *cutScript) scrub(t *testing.T, what string) {
	t.Helper()
	rotten := impl.Rotten(s.f)
	got, is := impl.Scrubbed(s.f)
	if !is {
		s.refused++
		return
	}
	if !impl.Same(s.f, got) || len(impl.Rotten(got)) != 0 || got.Stamp != s.f.Stamp+int64(len(rotten)) {
		t.Fatalf("%s: Scrubbed(%s): %s", what, tellFtl(s.f), tellFtl(got))
	}
	s.f = got
	s.scrubs += len(rotten)
}

func TestPromise11PowerFailsAgainAndAgain(t *testing.T) {
	n := numbers(164)
	cut, scrubs, refused, wiped := 0, 0, 0, int64(0)
	for script := range 200 {
		squares, size := int64(3+n.below(6)), int64(1+n.below(5))
		count := min(1+int64(n.below(int((squares-2)*size))), 24)
		s := cutScript{f: newFtl(t, squares, size, count), a: newArray(count)}
		for turn := range 150 {
			what := fmt.Sprintf("script %d, turn %d", script, turn)
			p := n.scriptEntry(script, turn, int(count))
			switch n.below(8) {
			case 0, 1:
				s.fail(t, &n, p, what)
			case 2:
				s.turn(&n)
			case 3:
				s.scrub(t, what)
			case 4:
				s.f = impl.Mount(s.f.Chip, count)
			default:
				s.enter(p)
			}
			checkMounted(t, s.f, s.a, what)
			s.a.holdQuickly(t, s.f, what)
		}
		cut, scrubs, refused, wiped = cut+s.cut, scrubs+s.scrubs, refused+s.refused, wiped+wipesOf(s.f.Chip)
	}
	if cut < 2000 || scrubs < 500 || wiped < 2000 || refused > 2000 {
		t.Errorf("%d cuts, %d scrubs, %d wipes, %d refused", cut, scrubs, wiped, refused)
	}
}

// Every script of six entries of two numbers, cut anywhere.
func TestPromise11EveryShortScript(t *testing.T) {
	var follow func(f impl.Ftl, a array, left int)
	follow = func(f impl.Ftl, a array, left int) {
		checkMounted(t, f, a, "a short script")
		if left == 0 {
			return
		}
		for _, p := range []impl.Page{dataPage(0, fmt.Sprint(left)), dataPage(1, fmt.Sprint(left)), trimPage(1)} {
			jobs, is := impl.Plan(f, p)
			if !is {
				t.Fatalf("there is no room for %s in %s", tellPage(p), tellFtl(f))
			}
			for done := range int64(len(jobs)) + 1 {
				for _, bytes := range []int64{0, 7, 17, 18, 19, 20, 99} {
					a.holdsCut(t, f, p, jobs, done, bytes, "a short script")
				}
			}
			b := array{slices.Clone(a.texts), slices.Clone(a.has)}
			b.enter(p)
			got, _ := impl.Enter(f, p)
			follow(got, b, left-1)
		}
	}
	follow(newFtl(t, 3, 2, 2), newArray(2), 6)
}

// Where the promise does not hold by its own words, the functions do what they
// are told: a part of a page lies well by itself, or a Stamp is greater.
func TestWhatThePromise11LeavesOut(t *testing.T) {
	hidden := laidAt(0, 9, "hidden")
	f := ftlOf(2, 3, 0, []int{0, 1}, []int{deadPage, 2}, nil)
	f = withLying(f, at(1, 0), hidden+"xx")
	jobs, _ := impl.Plan(f, dataPage(1, "new"))
	if shortJobs(jobs) != "w2:p4 x1 w2:new" || !sameFtl(impl.Mount(f.Chip, 3), withOpen(f, -1)) {
		t.Fatal(shortJobs(jobs))
	}
	c := impl.Broken(f, dataPage(1, "new"), 1, int64(len(hidden)))
	checkGet(t, impl.Mount(c, 3), 0, "hidden", true)
	checkGet(t, impl.Mount(impl.Broken(f, dataPage(1, "new"), 1, int64(len(hidden))-1), 3), 0, "p1", true)
	// The map leads to an older page than that which lies there.
	f = withLying(f, at(1, 0), hidden)
	checkGet(t, f, 0, "p1", true)
	checkGet(t, impl.Mount(f.Chip, 3), 0, "hidden", true)
	checkSame(t, f, impl.Mount(f.Chip, 3), false)
	// Two pages of one number have one Stamp, and texts that are not alike: which
	// of them comes first may change when the map's one moves.
	f = ftlOf(2, 2, 1, []int{0, tornPage}, []int{tornPage, 1}, nil)
	f = withLying(f, at(1, 0), laidAt(0, 1, "alike"))
	if !sameFtl(impl.Mount(f.Chip, 2), withOpen(f, -1)) {
		t.Fatal(tellFtl(f))
	}
	checkGet(t, impl.Mount(impl.Broken(f, dataPage(1, "new"), 1, 9), 2), 0, "alike", true)
	checkGet(t, impl.Mount(impl.Broken(f, dataPage(1, "new"), 1, 99), 2), 0, "p1", true)
}

func TestPromise21MountsAreNewMemory(t *testing.T) {
	n := numbers(165)
	for turn := range 800 {
		f := n.ftl()
		if turn%4 == 0 {
			f.Chip = n.aliked()
			f = withOpen(impl.Mount(f.Chip, int64(len(f.Map))), -1)
		}
		p := n.entry(len(f.Map))
		p.Text = strings.Clone(p.Text)
		f, check := guardedFtl(t, f)
		mounted := impl.Mount(f.Chip, int64(len(f.Map)))
		again := impl.Mount(f.Chip, int64(len(f.Map)))
		before := ftlCopy(again)
		checkOwnFtl(t, "Mount", mounted, f, p)
		check("Mount")
		if !sameFtl(again, before) {
			t.Error("Mount: two answers share memory")
		}
		jobs, bytes := int64(n.below(6))-1, int64(n.below(70))-1
		checkOwnMemory(t, "Broken", impl.Broken(f, p, jobs, bytes), f.Chip, impl.Job{Text: p.Text})
		check("Broken")
		scrubbed, _ := impl.Scrubbed(f)
		checkOwnFtl(t, "Scrubbed", scrubbed, f, p)
		check("Scrubbed")
		overwrite(impl.Rotten(f))
		check("Rotten")
	}
}

func TestPromise21MountArgumentsStay(t *testing.T) {
	n := numbers(166)
	for trial := range 600 {
		f, g := n.ftl(), n.ftl()
		if trial%3 == 0 {
			f = n.wrongFtl(f)
		}
		f, check := guardedFtl(t, f)
		g, checkToo := guardedFtl(t, g)
		p := n.entry(64)
		number := int64(n.below(66)) - 1
		for what, call := range map[string]func(){
			"Mount": func() { impl.Mount(f.Chip, number) }, "Broken": func() { impl.Broken(f, p, number%6, number) },
			"Same": func() { impl.Same(f, g); impl.Same(g, f); impl.Same(f, f) }, "Rotten": func() { impl.Rotten(f) }, "Scrubbed": func() { impl.Scrubbed(f) },
		} {
			neverPanics(t, what, call)
			check(what)
			checkToo(what)
		}
	}
}

func TestMountAnswersAgainAlike(t *testing.T) {
	n := numbers(167)
	for range 60 {
		f := n.ftl()
		f.Chip = n.aliked()
		count := int64(1 + n.below(8))
		f = impl.Mount(f.Chip, count)
		p := n.entry(int(count))
		broken := impl.Broken(f, p, 1, 9)
		scrubbed, is := impl.Scrubbed(f)
		for range 15 {
			if again := impl.Mount(f.Chip, count); !sameFtl(again, f) {
				t.Errorf("Mount(%s, %d), asked again: %s", tellChip(f.Chip), count, tellFtl(again))
			}
			if again := impl.Broken(f, p, 1, 9); !sameChip(again, broken) {
				t.Errorf("Broken(%s), asked again: %s", tellFtl(f), tellChip(again))
			}
			if again, isAgain := impl.Scrubbed(f); !sameFtl(again, scrubbed) || is != isAgain {
				t.Errorf("Scrubbed(%s), asked again: %s", tellFtl(f), tellFtl(again))
			}
		}
	}
}
