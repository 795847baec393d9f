package tests

import (
	"fmt"
	"math"
	"slices"
	"strings"
	"testing"

	"loop.example/g00223/impl"
)

const (
	mostHeld = 16
	mostText = 24
)

func (plain *plainPages) cacheOk(c impl.Cache) bool {
	if c.Room < 1 || c.Room > mostHeld || len(c.Items) > int(c.Room) || !plain.ftlOk(c.Ftl) {
		return false
	}
	held := map[int64]int{}
	for _, item := range c.Items {
		held[item.At]++
		if item.At < 0 || item.At >= int64(len(c.Ftl.Map)) || len(item.Text) > mostText || held[item.At] > 1 {
			return false
		}
	}
	return true
}

// written is what lies below when the Item is not held any more.
func (plain *plainPages) written(f impl.Ftl, item impl.Held) (impl.Ftl, bool) {
	if !item.Dirty {
		return f, true
	}
	_, g, how := plain.entered(f, impl.Page{Kind: 1, At: item.At, Text: item.Text})
	return g, strings.HasPrefix(how, "room")
}

// used goes through the Items one by one: the last one that finds no room goes.
func (plain *plainPages) used(c impl.Cache, item impl.Held) (impl.Cache, bool) {
	d, is := impl.Cache{Room: c.Room, Items: []impl.Held{item}, Ftl: c.Ftl}, true
	for _, other := range c.Items {
		switch {
		case other.At == item.At:
		case len(d.Items) < int(c.Room):
			d.Items = append(d.Items, other)
		default:
			d.Ftl, is = plain.written(c.Ftl, other)
		}
	}
	if !is {
		return c, false
	}
	return d, true
}

func (plain *plainPages) loaded(c impl.Cache, number int64) (impl.Cache, string, bool) {
	if !plain.cacheOk(c) {
		return impl.Cache{}, "", false
	}
	if number < 0 || number >= int64(len(c.Ftl.Map)) {
		return c, "", false
	}
	text, _ := plain.get(c.Ftl, number)
	item := impl.Held{At: number, Text: text}
	for _, other := range c.Items {
		if other.At == number {
			item = other
		}
	}
	d, is := plain.used(c, item)
	if !is {
		return d, "", false
	}
	return d, item.Text, true
}

func (plain *plainPages) kept(c impl.Cache, number int64, text string) (impl.Cache, bool) {
	if !plain.cacheOk(c) {
		return impl.Cache{}, false
	}
	if number < 0 || number >= int64(len(c.Ftl.Map)) || len(text) > mostText {
		return c, false
	}
	return plain.used(c, impl.Held{At: number, Text: text, Dirty: true})
}

func (plain *plainPages) flushed(c impl.Cache) (impl.Cache, bool) {
	if !plain.cacheOk(c) {
		return impl.Cache{}, false
	}
	d := cacheCopy(c)
	for i := len(d.Items); i > 0; i-- {
		f, is := plain.written(d.Ftl, d.Items[i-1])
		if !is {
			return c, false
		}
		d.Ftl = f
		d.Items[i-1].Dirty = false
	}
	return d, true
}

func (plain *plainPages) dropped(c impl.Cache) impl.Cache {
	if !plain.cacheOk(c) {
		return impl.Cache{}
	}
	return impl.Cache{Room: c.Room, Ftl: plain.mounted(c.Ftl.Chip, int64(len(c.Ftl.Map)))}
}

func cacheCopy(c impl.Cache) impl.Cache {
	return impl.Cache{Room: c.Room, Items: slices.Clone(c.Items), Ftl: ftlCopy(c.Ftl)}
}

func sameCache(a impl.Cache, b impl.Cache) bool {
	return a.Room == b.Room && slices.Equal(a.Items, b.Items) && sameFtl(a.Ftl, b.Ftl)
}

func tellItems(items []impl.Held) string {
	told := []string{}
	for _, item := range items {
		dirty := ""
		if item.Dirty {
			dirty = " dirty"
		}
		told = append(told, fmt.Sprintf("{%d %s%s}", item.At, tellText(item.Text), dirty))
	}
	return "[" + strings.Join(told, " ") + "]"
}

func tellCache(c impl.Cache) string {
	return fmt.Sprintf("{room %d %s %s}", c.Room, tellItems(c.Items), tellFtl(c.Ftl))
}

// guardedCache is a copy of c with room behind each of its lists, and a check
// that nothing of it was written to.
func guardedCache(t *testing.T, c impl.Cache) (impl.Cache, func(what string)) {
	t.Helper()
	f, checkFtl := guardedFtl(t, c.Ftl)
	items, checkItems := withRoomBehind(t, c.Items, impl.Held{At: spareMark, Text: "spare", Dirty: true})
	check := func(what string) {
		t.Helper()
		checkFtl(what)
		checkItems(what)
	}
	return impl.Cache{Room: c.Room, Items: items, Ftl: f}, check
}

func checkCacheOk(t *testing.T, c impl.Cache, want bool) {
	t.Helper()
	neverPanics(t, "CacheOk", func() {
		t.Helper()
		guarded, check := guardedCache(t, c)
		if got := impl.CacheOk(guarded); got != want {
			t.Errorf("CacheOk(%s): %v", tellCache(c), got)
		}
		check("CacheOk")
	})
}

func checkNewCache(t *testing.T, f impl.Ftl, room int64, want impl.Cache, wantIs bool) {
	t.Helper()
	neverPanics(t, "NewCache", func() {
		t.Helper()
		guarded, check := guardedFtl(t, f)
		if got, is := impl.NewCache(guarded, room); !sameCache(got, want) || is != wantIs {
			t.Errorf("NewCache(%s, %d): %s and %v, not %s and %v", tellFtl(f), room, tellCache(got), is, tellCache(want), wantIs)
		}
		check("NewCache")
	})
}

func checkLoad(t *testing.T, c impl.Cache, number int64, want impl.Cache, wantText string, wantIs bool) {
	t.Helper()
	neverPanics(t, "Load", func() {
		t.Helper()
		guarded, check := guardedCache(t, c)
		if got, text, is := impl.Load(guarded, number); !sameCache(got, want) || text != wantText || is != wantIs {
			t.Errorf("Load(%s, %d): %s, %s and %v, not %s, %s and %v", tellCache(c), number, tellCache(got), tellText(text), is, tellCache(want), tellText(wantText), wantIs)
		}
		check("Load")
	})
}

func checkKeep(t *testing.T, c impl.Cache, number int64, text string, want impl.Cache, wantIs bool) {
	t.Helper()
	neverPanics(t, "Keep", func() {
		t.Helper()
		guarded, check := guardedCache(t, c)
		if got, is := impl.Keep(guarded, number, text); !sameCache(got, want) || is != wantIs {
			t.Errorf("Keep(%s, %d, %s): %s and %v, not %s and %v", tellCache(c), number, tellText(text), tellCache(got), is, tellCache(want), wantIs)
		}
		check("Keep")
	})
}

func checkFlush(t *testing.T, c impl.Cache, want impl.Cache, wantIs bool) {
	t.Helper()
	neverPanics(t, "Flush", func() {
		t.Helper()
		guarded, check := guardedCache(t, c)
		if got, is := impl.Flush(guarded); !sameCache(got, want) || is != wantIs {
			t.Errorf("Flush(%s): %s and %v, not %s and %v", tellCache(c), tellCache(got), is, tellCache(want), wantIs)
		}
		check("Flush")
	})
}

func checkDropped(t *testing.T, c impl.Cache, want impl.Cache) {
	t.Helper()
	neverPanics(t, "Dropped", func() {
		t.Helper()
		guarded, check := guardedCache(t, c)
		if got := impl.Dropped(guarded); !sameCache(got, want) {
			t.Errorf("Dropped(%s): %s, not %s", tellCache(c), tellCache(got), tellCache(want))
		}
		check("Dropped")
	})
}

// checkWrongCache asks for the answers to what is no Cache.
func checkWrongCache(t *testing.T, c impl.Cache) {
	t.Helper()
	checkCacheOk(t, c, false)
	for _, number := range []int64{math.MinInt64, -1, 0, 1, 4, 5, 64, math.MaxInt64} {
		checkLoad(t, c, number, impl.Cache{}, "", false)
		checkKeep(t, c, number, "new", impl.Cache{}, false)
		checkKeep(t, c, number, noughtText(25), impl.Cache{}, false)
	}
	for _, item := range c.Items {
		checkLoad(t, c, item.At, impl.Cache{}, "", false)
		checkKeep(t, c, item.At, item.Text, impl.Cache{}, false)
	}
	checkFlush(t, c, impl.Cache{}, false)
	checkDropped(t, c, impl.Cache{})
}

func held(number int64, text string) impl.Held {
	return impl.Held{At: number, Text: text}
}

func dirty(number int64, text string) impl.Held {
	return impl.Held{At: number, Text: text, Dirty: true}
}

func cacheOf(f impl.Ftl, room int64, items ...impl.Held) impl.Cache {
	return impl.Cache{Room: room, Items: items, Ftl: f}
}

// heldFrom are so many Items of the numbers from 0 on, each second one dirty.
func heldFrom(count int) []impl.Held {
	items := []impl.Held{}
	for number := range count {
		items = append(items, impl.Held{At: int64(number), Text: fmt.Sprint("t", number), Dirty: number%2 == 0})
	}
	return items
}

// entering is f with these entered, one behind the other.
func entering(t *testing.T, f impl.Ftl, items ...impl.Held) impl.Ftl {
	t.Helper()
	for _, item := range items {
		got, is := impl.Enter(f, dataPage(item.At, item.Text))
		if !is {
			t.Fatalf("%s is refused by %s", tellItems(items), tellFtl(f))
		}
		f = got
	}
	return f
}

// fullFtls take no entry: for want of room, of a Stamp, or of a wiping.
func fullFtls() []impl.Ftl {
	full, dead := []int{0, 1}, []int{deadPage, deadPage}
	return []impl.Ftl{
		withStamp(anFtl(), mostStamp), ftlOf(2, 5, 0, full, nil), ftlOf(2, 5, 0, full), ftlOf(2, 5, 0, full, dead, []int{2, 3}),
		ftlOf(2, 5, 0, full, []int{deadPage, 2}), withWipes(ftlOf(2, 5, 0, full, dead, nil), 0, mostWipes, 0), withBad(ftlOf(2, 5, -1, full, nil), 0, 1),
		withBad(ftlOf(1, 5, -1, nil, nil, nil), 0, 1, 2),
	}
}

func TestFullFtlsTakeNoEntry(t *testing.T) {
	for _, f := range fullFtls() {
		checkFtlOk(t, f, true)
		checkEnter(t, f, dataPage(0, "new"), f, false)
	}
}

// cacheOn is a right one upon f, but mostly none that a new one could become.
func (n *numbers) cacheOn(f impl.Ftl) impl.Cache {
	c := impl.Cache{Room: int64(1 + n.below([]int{2, 5, mostHeld}[n.below(3)])), Ftl: f}
	order := make([]int64, len(f.Map))
	for i := range order {
		k := n.below(i + 1)
		order[i], order[k] = order[k], int64(i)
	}
	count := min(int(c.Room), len(order))
	if n.below(3) == 0 {
		count = n.below(count + 1)
	}
	clean := 1 + n.below(4)
	for _, number := range order[:count] {
		c.Items = append(c.Items, impl.Held{At: number, Text: n.text(n.below(mostText + 1)), Dirty: n.below(clean) == 0})
	}
	return c
}

func (n *numbers) cache() impl.Cache {
	return n.cacheOn(n.ftl())
}

// wrongCache is a right one in which one thing is made wrong.
func (n *numbers) wrongCache(c impl.Cache) impl.Cache {
	c = cacheCopy(c)
	kinds := 3
	if len(c.Items) > 0 {
		kinds = 6
	}
	i := n.below(len(c.Items) + 1)
	switch n.below(kinds) {
	case 0:
		c.Ftl = n.wrongFtl(c.Ftl)
	case 1:
		c.Room = append(farNumbers(), 0, 17, 18, 1<<8+1)[n.below(len(farNumbers())+4)]
	case 2:
		c.Items = slices.Insert(c.Items, i, impl.Held{At: append(farNumbers(), int64(len(c.Ftl.Map)))[n.below(len(farNumbers())+1)]})
		c.Room = max(c.Room, min(int64(len(c.Items)), mostHeld))
	case 3:
		c.Room = int64(len(c.Items)) - 1
	case 4:
		c.Items = slices.Insert(c.Items, i, held(c.Items[n.below(len(c.Items))].At, "too"))
		c.Room = min(int64(len(c.Items)), mostHeld)
	case 5:
		c.Items[i%len(c.Items)].Text = n.text(mostText + 1 + n.below(2)*n.below(500))
	}
	return c
}

// wrongCaches are none, each for one reason.
func wrongCaches() []impl.Cache {
	f := anFtl()
	a, b, d := dirty(0, "a"), held(1, "b"), dirty(4, "d")
	long := strings.Repeat("x", 25)
	list := []impl.Cache{
		{}, cacheOf(impl.Ftl{}, 3), cacheOf(impl.Ftl{}, 3, a), cacheOf(f, 0), cacheOf(f, 0, a), cacheOf(f, 17), cacheOf(f, 17, a, b), cacheOf(f, -1),
		cacheOf(f, 2, a, b, d), cacheOf(f, 1, a, b), cacheOf(f, 4, a, b, d, held(2, ""), held(3, "")), cacheOf(f, 16, slices.Repeat([]impl.Held{a}, 17)...),
		cacheOf(f, 3, a, a), cacheOf(f, 3, a, held(0, "a")), cacheOf(f, 3, a, b, held(0, "z")), cacheOf(f, 3, b, a, dirty(0, "a")), cacheOf(f, 3, a, b, b), cacheOf(f, 16, a, b, d, held(2, ""), held(4, "")),
		cacheOf(f, 3, held(-1, "")), cacheOf(f, 3, held(5, "")), cacheOf(f, 3, a, held(5, "x"), b), cacheOf(f, 3, a, b, dirty(-1, "x")), cacheOf(f, 3, dirty(6, ""), a), cacheOf(f, 3, held(64, "")),
		cacheOf(f, 3, held(0, long)), cacheOf(f, 3, dirty(0, long)), cacheOf(f, 3, a, held(1, long), d), cacheOf(f, 3, a, b, dirty(4, long)), cacheOf(f, 3, held(0, noughtText(25))), cacheOf(f, 3, held(2, noughtText(100000))),
		cacheOf(f, 3, held(0, strings.Repeat("\u20ac", 9))),
	}
	for _, far := range farNumbers() {
		list = append(list, cacheOf(f, far), cacheOf(f, far, a, b), cacheOf(f, 3, held(far, "")), cacheOf(f, 3, a, b, dirty(far, "x")))
	}
	torn := f.Chip.Squares[f.Map[2].Square].Pages[f.Map[2].Page][:9]
	for _, wrong := range []impl.Ftl{
		withStamp(f, 6), withStamp(f, -1), withStamp(f, mostStamp+1), withOpen(f, 4), withOpen(f, 5), withOpen(f, -2), withPlace(f, 0, f.Map[1]), withPlace(f, 4, f.Map[0]), withPlace(f, 2, at(0, 0)),
		withLying(f, f.Map[2], torn), withWipes(f, -1), {Chip: f.Chip, Open: -1}, {Map: f.Map, Open: -1, Stamp: 9},
	} {
		list = append(list, cacheOf(wrong, 3), cacheOf(wrong, 3, a, b, d))
	}
	return list
}

func TestCacheOkOfSome(t *testing.T) {
	f := anFtl()
	a, b, d := dirty(0, "a"), held(1, "b"), dirty(4, "d")
	for _, c := range []impl.Cache{
		cacheOf(f, 1), cacheOf(f, 2), cacheOf(f, 16), cacheOf(f, 1, a), cacheOf(f, 1, b), cacheOf(f, 2, a, b), cacheOf(f, 2, b, a), cacheOf(f, 3, a, b, d), cacheOf(f, 16, d, b, a), cacheOf(f, 3, b),
		cacheOf(f, 3, held(0, "")), cacheOf(f, 3, dirty(4, "")), cacheOf(f, 3, held(4, noughtText(24))), cacheOf(f, 3, a, dirty(4, strings.Repeat("\u20ac", 8))), cacheOf(f, 3, held(3, "\xff\xff"), held(2, "alike"), held(1, "alike")),
		cacheOf(f, 5, heldFrom(5)...), cacheOf(f, 6, heldFrom(5)...), cacheOf(withStamp(f, mostStamp), 3, a), cacheOf(withMended(f, 0, 1, 2, 3), 3, a, b), cacheOf(withOpen(f, -1), 3, a),
		cacheOf(ftlOf(1, 1, -1, nil), 1, dirty(0, "x")), cacheOf(newFtl(t, 12, 8, 64), 16, heldFrom(16)...), cacheOf(newFtl(t, 12, 8, 64), 16, held(63, "x"), held(0, "x")),
	} {
		checkCacheOk(t, c, true)
	}
	for _, c := range wrongCaches() {
		checkWrongCache(t, c)
	}
}

// Items as many as Room, one less and one more, at every Room.
func TestCacheOkOfEveryRoom(t *testing.T) {
	f := newFtl(t, 4, 4, 40)
	for room := int64(-40); room <= 40; room++ {
		for count := range 20 {
			want := room >= 1 && room <= 16 && int64(count) <= room
			checkCacheOk(t, cacheOf(f, room, heldFrom(count)...), want)
		}
		checkCacheOk(t, cacheOf(f, room, held(39, "")), room >= 1 && room <= 16)
	}
}

// Two alike, of every place; an At out of the map at every place.
func TestCacheOkOfEveryItem(t *testing.T) {
	f := newFtl(t, 4, 4, 16)
	for count := 1; count <= 16; count++ {
		for i := range count {
			for _, number := range []int64{-1, 16, 17, math.MinInt64, math.MaxInt64} {
				items := heldFrom(count)
				items[i].At = number
				checkCacheOk(t, cacheOf(f, 16, items...), false)
			}
			for _, length := range []int{0, 1, 23, 24, 25, 26, 48, 256, 280} {
				items := heldFrom(count)
				items[i].Text = noughtText(length)
				checkCacheOk(t, cacheOf(f, 16, items...), length <= 24)
			}
			for k := range i {
				items := heldFrom(count)
				items[i].At = items[k].At
				checkCacheOk(t, cacheOf(f, 16, items...), false)
			}
		}
	}
}

func TestNewCacheOfSome(t *testing.T) {
	for _, f := range append(fullFtls(), anFtl(), withMended(anFtl(), 1), newFtl(t, 1, 1, 1), newFtl(t, 12, 8, 64)) {
		for room := int64(-20); room <= 40; room++ {
			want, wantIs := impl.Cache{}, room >= 1 && room <= 16
			if wantIs {
				want = cacheOf(f, room)
			}
			checkNewCache(t, f, room, want, wantIs)
		}
		for _, room := range append(farNumbers(), 255, 256, 257, 272) {
			checkNewCache(t, f, room, impl.Cache{}, false)
		}
	}
	for _, c := range wrongCaches() {
		if !impl.FtlOk(c.Ftl) {
			for _, room := range []int64{math.MinInt64, 0, 1, 3, 16, 17, math.MaxInt64} {
				checkNewCache(t, c.Ftl, room, impl.Cache{}, false)
			}
		}
	}
}

func TestNewCacheOfMany(t *testing.T) {
	n := numbers(168)
	for range 500 {
		f, room := n.ftl(), int64(1+n.below(16))
		checkNewCache(t, f, room, cacheOf(f, room), true)
		checkNewCache(t, n.wrongFtl(f), room, impl.Cache{}, false)
	}
}

func TestLoadOfItems(t *testing.T) {
	f := anFtl()
	a, b, d, e := dirty(0, "a"), held(1, "b"), dirty(4, "d"), held(3, "")
	for _, room := range []int64{4, 5, 16} {
		c := cacheOf(f, room, a, b, d, e)
		checkLoad(t, c, 0, cacheOf(f, room, a, b, d, e), "a", true)
		checkLoad(t, c, 1, cacheOf(f, room, b, a, d, e), "b", true)
		checkLoad(t, c, 4, cacheOf(f, room, d, a, b, e), "d", true)
		checkLoad(t, c, 3, cacheOf(f, room, e, a, b, d), "", true)
	}
	checkLoad(t, cacheOf(f, 1, a), 0, cacheOf(f, 1, a), "a", true)
	checkLoad(t, cacheOf(f, 2, b, a), 0, cacheOf(f, 2, a, b), "a", true)
	// An Item needs no room below, and tells its own Text whatever lies there.
	for _, f := range fullFtls() {
		checkLoad(t, cacheOf(f, 3, b, d, a), 0, cacheOf(f, 3, a, b, d), "a", true)
		checkLoad(t, cacheOf(f, 1, a), 0, cacheOf(f, 1, a), "a", true)
	}
}

func TestLoadOfWhatIsBelow(t *testing.T) {
	f := anFtl()
	a, b, d := dirty(0, "a"), held(1, "b"), dirty(4, "d")
	p7 := held(2, "p7")
	checkLoad(t, cacheOf(f, 1), 2, cacheOf(f, 1, p7), "p7", true)
	for _, room := range []int64{4, 5, 16} {
		checkLoad(t, cacheOf(f, room, a, b, d), 2, cacheOf(f, room, p7, a, b, d), "p7", true)
	}
	// The last one goes: it is Dirty, or it is not; then it is not written, though
	// something else lies there.
	checkLoad(t, cacheOf(f, 3, a, b, d), 2, cacheOf(entering(t, f, d), 3, p7, a, b), "p7", true)
	checkLoad(t, cacheOf(f, 3, d, b, a), 2, cacheOf(entering(t, f, a), 3, p7, d, b), "p7", true)
	checkLoad(t, cacheOf(f, 3, a, d, b), 2, cacheOf(f, 3, p7, a, d), "p7", true)
	checkLoad(t, cacheOf(f, 1, a), 2, cacheOf(entering(t, f, a), 1, p7), "p7", true)
	checkLoad(t, cacheOf(f, 1, b), 2, cacheOf(f, 1, p7), "p7", true)
	checkLoad(t, cacheOf(f, 1, dirty(1, "")), 0, cacheOf(entering(t, f, dirty(1, "")), 1, held(0, "p1")), "p1", true)
	// A number without a Place, one that is PgTrim.
	checkLoad(t, cacheOf(f, 3, a), 4, cacheOf(f, 3, held(4, ""), a), "", true)
	checkLoad(t, cacheOf(f, 3, a), 3, cacheOf(f, 3, held(3, ""), a), "", true)
	checkLoad(t, cacheOf(f, 2, b, a), 4, cacheOf(entering(t, f, a), 2, held(4, ""), b), "", true)
	checkLoad(t, cacheOf(f, 2, b, a), 3, cacheOf(entering(t, f, a), 2, held(3, ""), b), "", true)
	// One that Lies mended, and one that Lies torn: that is no Ftl.
	mended := withMended(f, 2)
	checkLoad(t, cacheOf(mended, 3, a), 2, cacheOf(mended, 3, p7, a), "p7", true)
	checkLoad(t, cacheOf(mended, 1, a), 2, cacheOf(entering(t, mended, a), 1, p7), "p7", true)
	checkLoad(t, cacheOf(withMended(f, 3), 3), 3, cacheOf(withMended(f, 3), 3, held(3, "")), "", true)
	torn := withLying(f, f.Map[2], f.Chip.Squares[f.Map[2].Square].Pages[f.Map[2].Page][:9])
	for number := range int64(6) {
		checkLoad(t, cacheOf(torn, 3, a), number, impl.Cache{}, "", false)
	}
	// Of an Ftl that has something of each length.
	for length := range 25 {
		f := entering(t, newFtl(t, 3, 2, 3), held(1, noughtText(length)))
		checkLoad(t, cacheOf(f, 2, a), 1, cacheOf(f, 2, held(1, noughtText(length)), a), noughtText(length), true)
	}
}

func TestLoadWhereWritingBackFails(t *testing.T) {
	a, b, d := dirty(0, "a"), held(1, "b"), dirty(4, "d")
	for _, f := range fullFtls() {
		for _, c := range []impl.Cache{cacheOf(f, 3, a, b, d), cacheOf(f, 3, b, d, a), cacheOf(f, 1, a), cacheOf(f, 2, b, d)} {
			for _, number := range []int64{2, 3} {
				checkLoad(t, c, number, c, "", false)
			}
		}
		// What is Dirty, but not last, stays, and what is not Dirty needs no writing.
		text, _ := impl.Get(f, 2)
		checkLoad(t, cacheOf(f, 3, a, d, b), 2, cacheOf(f, 3, held(2, text), a, d), text, true)
		checkLoad(t, cacheOf(f, 4, a, b, d), 2, cacheOf(f, 4, held(2, text), a, b, d), text, true)
		checkLoad(t, cacheOf(f, 1), 2, cacheOf(f, 1, held(2, text)), text, true)
	}
	f := withStamp(anFtl(), mostStamp-1)
	checkLoad(t, cacheOf(f, 1, a), 2, cacheOf(entering(t, f, a), 1, held(2, "p7")), "p7", true)
}

func TestLoadOutOfTheMap(t *testing.T) {
	for _, f := range append(fullFtls(), anFtl(), newFtl(t, 3, 2, 5)) {
		for _, c := range []impl.Cache{cacheOf(f, 3), cacheOf(f, 3, dirty(0, "a"), held(4, "b"), dirty(2, "d")), cacheOf(f, 1, dirty(4, "a"))} {
			for _, number := range append(farNumbers(), 5, 6, 63, 64, 65, 256, 1<<32+4) {
				checkLoad(t, c, number, c, "", false)
				checkKeep(t, c, number, "new", c, false)
				checkKeep(t, c, number, "", c, false)
			}
		}
	}
	for count := int64(1); count <= 64; count++ {
		c := cacheOf(newFtl(t, 1, 1, count), 2)
		for number := int64(-2); number <= 66; number++ {
			is := number >= 0 && number < count
			want, wantToo := c, c
			if is {
				want, wantToo = cacheOf(c.Ftl, 2, held(number, "")), cacheOf(c.Ftl, 2, dirty(number, "x"))
			}
			checkLoad(t, c, number, want, "", is)
			checkKeep(t, c, number, "x", wantToo, is)
		}
	}
}

func TestKeepOfItems(t *testing.T) {
	a, b, d, e := dirty(0, "a"), held(1, "b"), dirty(4, "d"), held(3, "")
	for _, f := range append(fullFtls(), anFtl()) {
		for _, room := range []int64{4, 5, 16} {
			c := cacheOf(f, room, a, b, d, e)
			for _, text := range []string{"new", "", "a", "b", noughtText(24)} {
				checkKeep(t, c, 0, text, cacheOf(f, room, dirty(0, text), b, d, e), true)
				checkKeep(t, c, 1, text, cacheOf(f, room, dirty(1, text), a, d, e), true)
				checkKeep(t, c, 4, text, cacheOf(f, room, dirty(4, text), a, b, e), true)
				checkKeep(t, c, 3, text, cacheOf(f, room, dirty(3, text), a, b, d), true)
			}
		}
		checkKeep(t, cacheOf(f, 1, a), 0, "new", cacheOf(f, 1, dirty(0, "new")), true)
		checkKeep(t, cacheOf(f, 2, b, a), 0, "new", cacheOf(f, 2, dirty(0, "new"), b), true)
	}
}

func TestKeepOfWhatIsNoItem(t *testing.T) {
	f := anFtl()
	a, b, d := dirty(0, "a"), held(1, "b"), dirty(4, "d")
	for _, text := range []string{"", "new", "p7", "\x00", noughtText(23), noughtText(24), strings.Repeat("\u20ac", 8)} {
		for number := int64(2); number <= 3; number++ {
			item := dirty(number, text)
			checkKeep(t, cacheOf(f, 1), number, text, cacheOf(f, 1, item), true)
			checkKeep(t, cacheOf(f, 4, a, b, d), number, text, cacheOf(f, 4, item, a, b, d), true)
			checkKeep(t, cacheOf(f, 16, a, b, d), number, text, cacheOf(f, 16, item, a, b, d), true)
			checkKeep(t, cacheOf(f, 3, a, b, d), number, text, cacheOf(entering(t, f, d), 3, item, a, b), true)
			checkKeep(t, cacheOf(f, 3, a, d, b), number, text, cacheOf(f, 3, item, a, d), true)
			checkKeep(t, cacheOf(f, 1, a), number, text, cacheOf(entering(t, f, a), 1, item), true)
			checkKeep(t, cacheOf(f, 1, b), number, text, cacheOf(f, 1, item), true)
		}
	}
}

func TestKeepOfATextThatIsTooLong(t *testing.T) {
	f := anFtl()
	a, b, d := dirty(0, "a"), held(1, "b"), dirty(4, "d")
	for _, c := range []impl.Cache{cacheOf(f, 3), cacheOf(f, 3, a, b, d), cacheOf(f, 4, a, b, d), cacheOf(f, 1, a), cacheOf(f, 1, b)} {
		for _, text := range []string{noughtText(25), noughtText(26), strings.Repeat("x", 256), strings.Repeat("x", 280), strings.Repeat("\u20ac", 9), noughtText(100000)} {
			for number := int64(-1); number <= 5; number++ {
				checkKeep(t, c, number, text, c, false)
			}
		}
	}
}

func TestKeepWhereWritingBackFails(t *testing.T) {
	a, b, d := dirty(0, "a"), held(1, "b"), dirty(4, "d")
	for _, f := range fullFtls() {
		for _, c := range []impl.Cache{cacheOf(f, 3, a, b, d), cacheOf(f, 3, b, d, a), cacheOf(f, 1, a), cacheOf(f, 2, b, d)} {
			for _, text := range []string{"new", ""} {
				checkKeep(t, c, 2, text, c, false)
				checkKeep(t, c, 3, text, c, false)
			}
		}
		checkKeep(t, cacheOf(f, 3, a, d, b), 2, "new", cacheOf(f, 3, dirty(2, "new"), a, d), true)
		checkKeep(t, cacheOf(f, 4, a, b, d), 2, "new", cacheOf(f, 4, dirty(2, "new"), a, b, d), true)
	}
	f := withStamp(anFtl(), mostStamp-1)
	checkKeep(t, cacheOf(f, 1, a), 2, "new", cacheOf(entering(t, f, a), 1, dirty(2, "new")), true)
}

func TestFlushOfSome(t *testing.T) {
	f := anFtl()
	a, b, d, e := dirty(0, "a"), held(1, "b"), dirty(4, "d"), dirty(3, "")
	clean := func(item impl.Held) impl.Held { return held(item.At, item.Text) }
	for _, room := range []int64{4, 5, 16} {
		checkFlush(t, cacheOf(f, room), cacheOf(f, room), true)
		checkFlush(t, cacheOf(f, room, b), cacheOf(f, room, b), true)
		checkFlush(t, cacheOf(f, room, b, clean(d), clean(a)), cacheOf(f, room, b, clean(d), clean(a)), true)
		checkFlush(t, cacheOf(f, room, a), cacheOf(entering(t, f, a), room, clean(a)), true)
		checkFlush(t, cacheOf(f, room, b, a), cacheOf(entering(t, f, a), room, b, clean(a)), true)
		checkFlush(t, cacheOf(f, room, a, b), cacheOf(entering(t, f, a), room, clean(a), b), true)
		checkFlush(t, cacheOf(f, room, e), cacheOf(entering(t, f, e), room, clean(e)), true)
		// From the last one on: it has the least of their Stamps.
		checkFlush(t, cacheOf(f, room, a, d), cacheOf(entering(t, f, d, a), room, clean(a), clean(d)), true)
		checkFlush(t, cacheOf(f, room, d, a), cacheOf(entering(t, f, a, d), room, clean(d), clean(a)), true)
		checkFlush(t, cacheOf(f, room, a, b, d, e), cacheOf(entering(t, f, e, d, a), room, clean(a), b, clean(d), clean(e)), true)
		checkFlush(t, cacheOf(f, room, e, a, d, b), cacheOf(entering(t, f, d, a, e), room, clean(e), clean(a), clean(d), b), true)
	}
	// What was flushed is Dirty no more: a second time nothing is written.
	got, _ := impl.Flush(cacheOf(f, 4, a, b, d, e))
	checkFlush(t, got, got, true)
	for length := range 25 {
		item := dirty(2, noughtText(length))
		checkFlush(t, cacheOf(f, 1, item), cacheOf(entering(t, f, item), 1, clean(item)), true)
	}
}

func TestFlushWhereOneFails(t *testing.T) {
	a, b, d, e := dirty(0, "a"), held(1, "b"), dirty(4, "d"), dirty(3, "")
	for _, f := range fullFtls() {
		for _, items := range [][]impl.Held{{a}, {a, b}, {b, a}, {a, d}, {b, d, a}, {a, b, d, e}, {e, d, b, a}} {
			checkFlush(t, cacheOf(f, 4, items...), cacheOf(f, 4, items...), false)
		}
		checkFlush(t, cacheOf(f, 4), cacheOf(f, 4), true)
		checkFlush(t, cacheOf(f, 4, b), cacheOf(f, 4, b), true)
		checkFlush(t, cacheOf(f, 4, b, held(0, "x"), held(3, "y")), cacheOf(f, 4, b, held(0, "x"), held(3, "y")), true)
	}
	// So many Stamps are left: of more that are Dirty the first ones are entered, and
	// all is as it was.
	for left := range int64(4) {
		f := withStamp(anFtl(), mostStamp-left)
		for count, items := range [][]impl.Held{{b}, {a, b}, {a, b, d}, {a, b, d, e}} {
			c := cacheOf(f, 4, items...)
			if int64(count) > left {
				checkFlush(t, c, c, false)
				continue
			}
			want := cacheCopy(c)
			for i := len(items) - 1; i >= 0; i-- {
				if items[i].Dirty {
					want.Ftl = entering(t, want.Ftl, items[i])
				}
				want.Items[i].Dirty = false
			}
			checkFlush(t, c, want, true)
		}
	}
	// There is room for one page, or for two.
	one, two := ftlOf(3, 5, 0, []int{0, 1}), ftlOf(4, 5, 0, []int{0, 1})
	checkFlush(t, cacheOf(one, 4, b, a), cacheOf(entering(t, one, a), 4, b, held(0, "a")), true)
	checkFlush(t, cacheOf(one, 4, d, b, a), cacheOf(one, 4, d, b, a), false)
	checkFlush(t, cacheOf(two, 4, d, b, a), cacheOf(entering(t, two, a, d), 4, held(4, "d"), b, held(0, "a")), true)
	checkFlush(t, cacheOf(two, 4, d, b, a, e), cacheOf(two, 4, d, b, a, e), false)
}

func TestDroppedOfSome(t *testing.T) {
	f := anFtl()
	a, b, d := dirty(0, "a"), held(1, "b"), dirty(4, "d")
	for _, room := range []int64{3, 4, 16} {
		for _, items := range [][]impl.Held{{}, {a}, {b}, {a, b, d}, {b, d}, {b, held(0, "x")}} {
			for _, f := range append(fullFtls(), f, withMended(f, 1, 3), newFtl(t, 3, 2, 5), newFtl(t, 1, 1, 64)) {
				checkDropped(t, cacheOf(f, room, items...), cacheOf(impl.Mount(f.Chip, int64(len(f.Map))), room))
			}
		}
	}
	checkDropped(t, cacheOf(f, 1, a), cacheOf(impl.Mount(f.Chip, 5), 1))
	// The map is found again from what lies there, whatever it was.
	dead := withPlace(f, 0, none())
	checkDropped(t, cacheOf(dead, 2, a), cacheOf(impl.Mount(f.Chip, 5), 2))
	if got := impl.Dropped(cacheOf(withStamp(f, mostStamp), 2)); got.Ftl.Open != -1 || got.Ftl.Stamp != 8 || len(got.Ftl.Map) != 5 || !impl.CacheOk(got) {
		t.Errorf("Dropped of %s: %s", tellFtl(f), tellCache(got))
	}
}

// checkCache holds each function against the plain one, and tells whether Load,
// Keep and Flush were refused for want of room below.
func checkCache(t *testing.T, plain *plainPages, c impl.Cache, number int64, text string) [3]bool {
	t.Helper()
	checkCacheOk(t, c, plain.cacheOk(c))
	loaded, told, isLoaded := plain.loaded(c, number)
	checkLoad(t, c, number, loaded, told, isLoaded)
	kept, isKept := plain.kept(c, number, text)
	checkKeep(t, c, number, text, kept, isKept)
	flushed, isFlushed := plain.flushed(c)
	checkFlush(t, c, flushed, isFlushed)
	checkDropped(t, c, plain.dropped(c))
	return [3]bool{!isLoaded, !isKept, !isFlushed}
}

func TestCachesOfMany(t *testing.T) {
	plain := newPlainPages(t)
	n := numbers(169)
	refused, written := [3]int{}, 0
	for range 2500 {
		c := n.cache()
		number, text := int64(n.below(len(c.Ftl.Map))), n.text(n.below(mostText+1))
		for i, is := range checkCache(t, plain, c, number, text) {
			if is {
				refused[i]++
			}
		}
		if got, _, _ := impl.Load(c, number); got.Ftl.Stamp > c.Ftl.Stamp {
			written++
		}
		wrong := n.wrongCache(c)
		checkCache(t, plain, wrong, number, text)
		checkCacheOk(t, wrong, false)
	}
	if slices.Min(refused[:]) < 100 || written < 100 {
		t.Errorf("refused: %v, written back: %d", refused, written)
	}
}

// Every list of up to three Items of three numbers, Dirty and not, at each Room.
func TestCachesThatAreSmall(t *testing.T) {
	plain := newPlainPages(t)
	f := ftlOf(2, 3, 1, []int{0, 1}, []int{deadPage}, nil)
	var follow func(items []impl.Held)
	follow = func(items []impl.Held) {
		for room := int64(len(items)); room <= 4; room++ {
			for number := int64(-1); number <= 3; number++ {
				for _, f := range []impl.Ftl{f, withStamp(f, mostStamp-1)} {
					checkCache(t, plain, cacheOf(f, room, items...), number, "new")
				}
			}
		}
		if len(items) == 3 {
			return
		}
		for number := range int64(3) {
			text := fmt.Sprint("i", len(items))
			follow(append(slices.Clone(items), held(number, text)))
			follow(append(slices.Clone(items), dirty(number, text)))
		}
	}
	follow(nil)
}

// shelf is what a cache should be: what was kept last, what lies below, what may
// be found behind a power cut, and the numbers that are held, by their use.
type shelf struct {
	room  int
	kept  []string
	below array
	may   [][]string
	order []int64
	dirty []bool
}

func newShelf(room int64, count int64) *shelf {
	s := &shelf{room: int(room), kept: make([]string, count), below: newArray(count), dirty: make([]bool, count)}
	for range count {
		s.may = append(s.may, []string{""})
	}
	return s
}

func (s *shelf) copy() *shelf {
	other := *s
	other.kept, other.order, other.dirty = slices.Clone(s.kept), slices.Clone(s.order), slices.Clone(s.dirty)
	other.below = array{slices.Clone(s.below.texts), slices.Clone(s.below.has)}
	other.may = nil
	for _, texts := range s.may {
		other.may = append(other.may, slices.Clone(texts))
	}
	return &other
}

// write tells what comes below; nothing where it is not dirty.
func (s *shelf) write(number int64) {
	if s.dirty[number] {
		s.below.enter(dataPage(number, s.kept[number]))
	}
	s.dirty[number] = false
}

func (s *shelf) use(number int64) {
	if i := slices.Index(s.order, number); i >= 0 {
		s.order = slices.Delete(s.order, i, i+1)
	}
	s.order = slices.Insert(s.order, 0, number)
	if len(s.order) > s.room {
		s.write(s.order[s.room])
		s.order = s.order[:s.room]
	}
}

func (s *shelf) keep(number int64, text string) {
	s.use(number)
	s.kept[number], s.dirty[number] = text, true
	s.may[number] = append(s.may[number], text)
}

func (s *shelf) flush() {
	for number := range s.kept {
		s.write(int64(number))
		s.may[number] = s.may[number][len(s.may[number])-1:]
	}
}

func (s *shelf) drop() {
	s.kept, s.order, s.dirty = slices.Clone(s.below.texts), nil, make([]bool, len(s.kept))
}

// hold asks what each Item is, and, by a Load, what some or all numbers are.
func (s *shelf) hold(t *testing.T, c impl.Cache, numbers []int64, what string) {
	t.Helper()
	if !impl.CacheOk(c) || int(c.Room) != s.room || len(c.Items) != len(s.order) {
		t.Fatalf("%s: %s, and the numbers should be %v", what, tellCache(c), s.order)
	}
	for i, number := range s.order {
		if c.Items[i] != (impl.Held{At: number, Text: s.kept[number], Dirty: s.dirty[number]}) {
			t.Fatalf("%s: Item %d of %s is not number %d, %s, %v", what, i, tellCache(c), number, tellText(s.kept[number]), s.dirty[number])
		}
	}
	for _, number := range numbers {
		got, text, is := impl.Load(c, number)
		if !is || text != s.kept[number] || got.Items[0].At != number {
			t.Fatalf("%s: Load of number %d of %s is %s and %v, not %s", what, number, tellCache(c), tellText(text), is, tellText(s.kept[number]))
		}
	}
}

// holdDropped asks whether behind a power cut all is there that was flushed.
func (s *shelf) holdDropped(t *testing.T, c impl.Cache, what string) {
	t.Helper()
	dropped := impl.Dropped(c)
	if len(dropped.Items) != 0 || int(dropped.Room) != s.room || !sameChip(dropped.Ftl.Chip, c.Ftl.Chip) {
		t.Fatalf("%s: Dropped of %s: %s", what, tellCache(c), tellCache(dropped))
	}
	s.below.holdQuickly(t, dropped.Ftl, what)
	for number, text := range s.below.texts {
		if !slices.Contains(s.may[number], text) {
			t.Fatalf("%s: behind the cut number %d is %s, and may be %q", what, number, tellText(text), s.may[number])
		}
	}
}

// scriptAct does one thing to the cache and to the shelf.
func (n *numbers) scriptAct(t *testing.T, c impl.Cache, s *shelf, script int, turn int, what string) impl.Cache {
	t.Helper()
	count := len(s.kept)
	number := n.scriptEntry(script, turn, count).At
	act := n.below(20)
	got, is := c, true
	switch {
	case act < 6:
		told := ""
		got, told, is = impl.Load(c, number)
		if told != s.kept[number] {
			t.Fatalf("%s: Load of number %d of %s is %s, not %s", what, number, tellCache(c), tellText(told), tellText(s.kept[number]))
		}
		s.use(number)
	case act < 17:
		text := n.text(n.below(mostText + 1))
		got, is = impl.Keep(c, number, text)
		s.keep(number, text)
	case act < 19:
		got, is = impl.Flush(c)
		s.flush()
		s.holdDropped(t, got, what+", flushed")
		if !slices.Equal(s.below.texts, s.kept) {
			t.Fatalf("%s: not all is flushed: %q, %q", what, s.below.texts, s.kept)
		}
	default:
		s.holdDropped(t, c, what+", dropped")
		got = impl.Dropped(c)
		s.drop()
		for number := range s.may {
			s.may[number] = []string{s.kept[number]}
		}
	}
	if !is {
		t.Fatalf("%s: refused by %s", what, tellCache(c))
	}
	return got
}

func newCache(t *testing.T, f impl.Ftl, room int64) impl.Cache {
	t.Helper()
	c, is := impl.NewCache(f, room)
	if !is {
		t.Fatalf("NewCache(%s, %d) is refused", tellFtl(f), room)
	}
	return c
}

func TestPromise12ACacheTellsWhatWasKeptLast(t *testing.T) {
	n := numbers(170)
	script := 0
	for room := int64(1); room <= mostHeld; room++ {
		for _, layout := range [][3]int64{{3, 1, 1}, {3, 2, 2}, {4, 2, 4}, {5, 3, 9}, {6, 4, 12}, {8, 4, 20}} {
			squares, size, count := layout[0], layout[1], layout[2]
			script++
			c, s := newCache(t, newFtl(t, squares, size, count), room), newShelf(room, count)
			for turn := range 120 + int(squares*size*6) {
				what := fmt.Sprintf("room %d, script %d of %v, turn %d", room, script, layout, turn)
				c = n.scriptAct(t, c, s, script, turn, what)
				s.hold(t, c, []int64{int64(n.below(int(count)))}, what)
				if turn%8 == 0 {
					s.holdDropped(t, c, what)
				}
			}
			all := []int64{}
			for number := range count {
				all = append(all, number)
			}
			s.hold(t, c, all, fmt.Sprintf("room %d, script %d of %v", room, script, layout))
			if wipesOf(c.Ftl.Chip) < squares {
				t.Errorf("room %d, script %d of %v: only %d wipes", room, script, layout, wipesOf(c.Ftl.Chip))
			}
		}
	}
}

// Few numbers and a long script: each square is wiped very often.
func TestPromise12UntilSquaresWereWipedManyTimes(t *testing.T) {
	n := numbers(171)
	for room := int64(1); room <= mostHeld; room++ {
		count := room%5 + 1
		c, s := newCache(t, newFtl(t, 4, 3, count), room), newShelf(room, count)
		for turn := range 900 {
			what := fmt.Sprintf("room %d, turn %d", room, turn)
			c = n.scriptAct(t, c, s, turn/50, turn, what)
			if turn%3 == 0 {
				c, _ = impl.Flush(c)
				s.flush()
			}
			if turn%30 == 0 {
				s.hold(t, c, []int64{0, count - 1}, what)
				s.holdDropped(t, c, what)
			}
		}
		if least, _ := impl.Worn(c.Ftl.Chip); least < 10 {
			t.Errorf("room %d: a square was wiped %d times only", room, least)
		}
	}
}

// Every script of six acts on two numbers, and of five on three.
func TestPromise12EveryShortScript(t *testing.T) {
	var follow func(c impl.Cache, s *shelf, left int, what string)
	follow = func(c impl.Cache, s *shelf, left int, what string) {
		s.hold(t, c, nil, what)
		s.holdDropped(t, c, what)
		if left == 0 {
			return
		}
		for number := range int64(len(s.kept)) {
			got, told, is := impl.Load(c, number)
			if !is || told != s.kept[number] {
				t.Fatalf("%s: Load of number %d of %s: %s and %v", what, number, tellCache(c), tellText(told), is)
			}
			loaded := s.copy()
			loaded.use(number)
			follow(got, loaded, left-1, fmt.Sprint(what, " load ", number))
			got, is = impl.Keep(c, number, fmt.Sprint("k", left))
			if !is {
				t.Fatalf("%s: Keep of number %d of %s is refused", what, number, tellCache(c))
			}
			kept := s.copy()
			kept.keep(number, fmt.Sprint("k", left))
			follow(got, kept, left-1, fmt.Sprint(what, " keep ", number))
		}
		got, is := impl.Flush(c)
		if !is {
			t.Fatalf("%s: Flush of %s is refused", what, tellCache(c))
		}
		flushed := s.copy()
		flushed.flush()
		follow(got, flushed, left-1, what+" flush")
		dropped := s.copy()
		dropped.drop()
		for number := range dropped.may {
			dropped.may[number] = []string{dropped.kept[number]}
		}
		follow(impl.Dropped(c), dropped, left-1, what+" drop")
	}
	for room := int64(1); room <= 3; room++ {
		follow(newCache(t, newFtl(t, 3, 3, 3), room), newShelf(room, 3), 5, fmt.Sprintf("room %d:", room))
		if room < 3 {
			follow(newCache(t, newFtl(t, 3, 2, 2), room), newShelf(room, 2), 6, fmt.Sprintf("room %d:", room))
		}
	}
}

// Power fails within the writing back of a Flush, at each Job and some bytes: what
// was flushed ahead of it is there, and what was being flushed is, or is not.
func TestPromise12PowerFailsWithinAFlush(t *testing.T) {
	n := numbers(172)
	cut := 0
	for script, layout := range [][3]int64{{3, 2, 2}, {4, 2, 4}, {5, 3, 9}, {4, 4, 8}} {
		squares, size, count := layout[0], layout[1], layout[2]
		room := int64(2 + script)
		c, s := newCache(t, newFtl(t, squares, size, count), room), newShelf(room, count)
		for turn := range 150 {
			what := fmt.Sprintf("%v, turn %d", layout, turn)
			c = n.scriptAct(t, c, s, script, turn, what)
			if turn%5 > 0 {
				continue
			}
			f, a := c.Ftl, s.copy().below
			for _, item := range slices.Backward(c.Items) {
				if !item.Dirty {
					continue
				}
				p := dataPage(item.At, item.Text)
				jobs, _ := impl.Plan(f, p)
				for done := range int64(len(jobs)) + 1 {
					for _, bytes := range n.cuts(false) {
						a.holdsCut(t, f, p, jobs, done, bytes, what)
						cut++
					}
				}
				f = entering(t, f, item)
				a.enter(p)
			}
			if got, is := impl.Flush(c); !is || !sameFtl(got.Ftl, f) {
				t.Fatalf("%s: Flush of %s: %s, not %s", what, tellCache(c), tellCache(got), tellFtl(f))
			}
		}
	}
	if cut < 2000 {
		t.Errorf("only %d cuts", cut)
	}
}

// With little spare a writing back may be refused: then all is as it was, and
// what was kept last is told all the same.
func TestPromise12WhereLessIsSpare(t *testing.T) {
	n := numbers(173)
	refused, done := 0, 0
	for script := range 150 {
		squares, size := int64(1+n.below(4)), int64(1+n.below(3))
		count := max(1, (squares-2)*size+1+int64(n.below(int(2*size))))
		room := int64(1 + n.below(5))
		c, kept := newCache(t, newFtl(t, squares, size, count), room), make([]string, count)
		for turn := range 60 {
			what := fmt.Sprintf("script %d, turn %d", script, turn)
			number, text := int64(n.below(int(count))), n.text(n.below(mostText+1))
			got, is := c, false
			switch n.below(4) {
			case 0:
				told := ""
				got, told, is = impl.Load(c, number)
				if is && told != kept[number] || !is && told != "" {
					t.Fatalf("%s: Load of number %d of %s is %s, not %s", what, number, tellCache(c), tellText(told), tellText(kept[number]))
				}
			case 1:
				got, is = impl.Flush(c)
			default:
				if got, is = impl.Keep(c, number, text); is {
					kept[number] = text
				}
			}
			if !is && !sameCache(got, c) {
				t.Fatalf("%s: refused, and %s became %s", what, tellCache(c), tellCache(got))
			}
			if is {
				done++
			} else {
				refused++
			}
			checkCacheOk(t, got, true)
			c = got
		}
	}
	if refused < 1000 || done < 1000 {
		t.Errorf("%d were refused and %d done", refused, done)
	}
}

// checkOwnCache asks whether an answer shares memory with what was handed in, or
// within itself, and writes to all of it.
func checkOwnCache(t *testing.T, what string, answer impl.Cache, told string, c impl.Cache, text string) {
	t.Helper()
	texts := textsOf(c.Ftl, impl.Page{Text: text})
	for _, item := range c.Items {
		texts = append(texts, item.Text)
	}
	own := []string{told}
	for _, item := range answer.Items {
		own = append(own, item.Text)
	}
	for _, one := range own {
		for _, other := range texts {
			if sharesMemory(one, other) {
				t.Errorf("%s: %s shares memory with another text", what, tellText(one))
			}
		}
		texts = append(texts, one)
	}
	list := []impl.Job{}
	for _, other := range texts {
		list = append(list, impl.Job{Text: other})
	}
	checkOwnMemory(t, what, answer.Ftl.Chip, c.Ftl.Chip, list...)
	overwritePlaces(answer.Ftl.Map)
	items := answer.Items[:cap(answer.Items)]
	for i := range items {
		items[i] = impl.Held{At: spareMark - 1, Text: "overwritten"}
	}
}

func TestPromise21CachesAreNewMemory(t *testing.T) {
	n := numbers(174)
	for range 900 {
		c, check := guardedCache(t, n.cache())
		number, text := int64(n.below(len(c.Ftl.Map)+1)), n.text(n.below(27))
		got, told, _ := impl.Load(c, number)
		again, _, _ := impl.Load(c, number)
		before := cacheCopy(again)
		checkOwnCache(t, "Load", got, told, c, "")
		if !sameCache(again, before) {
			t.Error("Load: two answers share memory")
		}
		check("Load")
		got, _ = impl.Keep(c, number, text)
		checkOwnCache(t, "Keep", got, "", c, text)
		check("Keep")
		got, _ = impl.Flush(c)
		checkOwnCache(t, "Flush", got, "", c, "")
		check("Flush")
		checkOwnCache(t, "Dropped", impl.Dropped(c), "", c, "")
		check("Dropped")
		got, _ = impl.NewCache(c.Ftl, c.Room)
		checkOwnCache(t, "NewCache", got, "", c, "")
		check("NewCache")
	}
}

// One Cache grows in two ways, and neither is seen in the other one.
func TestPromise21TwoCachesThatGrowFromOne(t *testing.T) {
	n := numbers(175)
	c := newCache(t, newFtl(t, 4, 3, 6), 3)
	for turn := range 200 {
		before := cacheCopy(c)
		number := int64(n.below(6))
		left, _ := impl.Keep(c, number, "left")
		leftWas := cacheCopy(left)
		right, _ := impl.Keep(c, number, "right")
		impl.Keep(left, (number+1)%6, "further")
		impl.Load(left, (number+2)%6)
		impl.Flush(left)
		impl.Dropped(left)
		if !sameCache(c, before) || !sameCache(left, leftWas) {
			t.Fatalf("%s became %s, or %s became %s", tellCache(before), tellCache(c), tellCache(leftWas), tellCache(left))
		}
		if _, told, is := impl.Load(left, number); !is || told != "left" {
			t.Fatalf("Load of number %d of %s: %s", number, tellCache(left), tellText(told))
		}
		if _, told, is := impl.Load(right, number); !is || told != "right" {
			t.Fatalf("Load of number %d of %s: %s", number, tellCache(right), tellText(told))
		}
		c = left
		if turn%3 == 0 {
			c, _ = impl.Flush(right)
		}
	}
}

func TestPromise21CacheArgumentsStay(t *testing.T) {
	n := numbers(176)
	for trial := range 700 {
		c := n.cache()
		if trial%3 == 0 {
			c = n.wrongCache(c)
		}
		c, check := guardedCache(t, c)
		number, text := int64(n.below(66))-1, n.text(n.below(27))
		for what, call := range map[string]func(){
			"CacheOk": func() { impl.CacheOk(c) }, "NewCache": func() { impl.NewCache(c.Ftl, number%18) }, "Load": func() { impl.Load(c, number) },
			"Keep": func() { impl.Keep(c, number, text) }, "Flush": func() { impl.Flush(c) }, "Dropped": func() { impl.Dropped(c) },
		} {
			neverPanics(t, what, call)
			check(what)
		}
	}
}

func TestPromise21CachesNeverPanic(t *testing.T) {
	plain := newPlainPages(t)
	n := numbers(177)
	far := append(farNumbers(), 0, 1, 2, 3, 4, 5, 15, 16, 17, 63, 64, 65)
	pick := func() int64 { return far[n.below(len(far))] }
	chips := append(edgeChips(), wrongChips()...)
	for trial := range 3000 {
		c := n.cache()
		if trial%3 == 0 {
			c.Ftl = impl.Ftl{Chip: chips[n.below(len(chips))], Open: pick(), Stamp: pick(), Map: []impl.Place{at(pick(), pick()), none()}}
		}
		switch n.below(4) {
		case 0:
			c.Room = pick()
		case 1:
			c.Items = append(c.Items, impl.Held{At: pick(), Text: n.text(n.below(40)), Dirty: n.below(2) == 0})
		case 2:
			c.Items = append([]impl.Held{{At: pick()}}, c.Items...)
		}
		checkCache(t, plain, c, pick(), n.text(n.below(40)))
		room := pick()
		want, is := impl.Cache{}, room >= 1 && room <= 16 && plain.ftlOk(c.Ftl)
		if is {
			want = cacheOf(c.Ftl, room)
		}
		checkNewCache(t, c.Ftl, room, want, is)
	}
}

// What one call does must not show in the next one.
func TestCachesAnswerAgainAlike(t *testing.T) {
	f := anFtl()
	a, b, d := dirty(0, "a"), held(1, "b"), dirty(4, "d")
	c := cacheOf(f, 3, a, b, d)
	for range 3 {
		checkCacheOk(t, c, true)
		checkNewCache(t, f, 3, cacheOf(f, 3), true)
		checkLoad(t, c, 2, cacheOf(entering(t, f, d), 3, held(2, "p7"), a, b), "p7", true)
		checkLoad(t, c, 4, cacheOf(f, 3, d, a, b), "d", true)
		checkLoad(t, impl.Cache{}, 0, impl.Cache{}, "", false)
		checkKeep(t, c, 2, "new", cacheOf(entering(t, f, d), 3, dirty(2, "new"), a, b), true)
		checkKeep(t, c, 5, "new", c, false)
		checkFlush(t, c, cacheOf(entering(t, f, d, a), 3, held(0, "a"), b, held(4, "d")), true)
		checkFlush(t, cacheOf(withStamp(f, mostStamp), 3, a), cacheOf(withStamp(f, mostStamp), 3, a), false)
		checkDropped(t, c, cacheOf(impl.Mount(f.Chip, 5), 3))
	}
}
