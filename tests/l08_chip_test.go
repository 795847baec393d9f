package tests

import (
	"fmt"
	"math"
	"slices"
	"strings"
	"testing"

	"loop.example/g00223/impl"
)

const (
	mostSize     = 8
	mostSquares  = 12
	mostWipes    = 1000000
	longestLying = 200
)

func plainChipOk(c impl.Chip) bool {
	if c.Size < 1 || c.Size > mostSize || len(c.Squares) == 0 || len(c.Squares) > mostSquares {
		return false
	}
	for _, square := range c.Squares {
		wrongText := func(s string) bool { return len(s) == 0 || len(s) > longestLying }
		if len(square.Pages) > int(c.Size) || square.Wipes < 0 || square.Wipes > mostWipes || slices.ContainsFunc(square.Pages, wrongText) {
			return false
		}
	}
	return true
}

// plainRefuses asks for all that a right Chip refuses.
func plainRefuses(c impl.Chip, j impl.Job) bool {
	if j.Kind < 1 || j.Kind > 3 || j.Square < 0 || j.Square >= int64(len(c.Squares)) || c.Squares[j.Square].Bad {
		return true
	}
	square := c.Squares[j.Square]
	noRoom := len(square.Pages) == int(c.Size)
	wrongText := len(j.Text) == 0 || len(j.Text) > longestLying
	return j.Kind == 1 && (noRoom || wrongText) || j.Kind == 2 && square.Wipes == mostWipes
}

func plainDid(c impl.Chip, j impl.Job) (impl.Chip, bool) {
	if !plainChipOk(c) {
		return impl.Chip{}, false
	}
	d := chipCopy(c)
	if plainRefuses(c, j) {
		return d, false
	}
	pages, wipes := d.Squares[j.Square].Pages, d.Squares[j.Square].Wipes
	d.Squares[j.Square] = map[int64]impl.Square{
		1: {Pages: slices.Concat(pages, []string{j.Text}), Wipes: wipes},
		2: {Wipes: wipes + 1},
		3: {Pages: pages, Wipes: wipes, Bad: true},
	}[j.Kind]
	return d, true
}

func plainDidAll(c impl.Chip, list []impl.Job) (impl.Chip, bool) {
	is := plainChipOk(c)
	for _, j := range list {
		if is {
			c, is = plainDid(c, j)
		}
	}
	if !is {
		return impl.Chip{}, false
	}
	return c, true
}

// plainFirst is the text without what is behind so many bytes.
func plainFirst(text string, bytes int64) string {
	switch {
	case bytes <= 1:
		return text[:1]
	case bytes >= int64(len(text)):
		return text
	}
	return text[:bytes]
}

func plainCut(c impl.Chip, j impl.Job, bytes int64) impl.Chip {
	if !plainChipOk(c) {
		return impl.Chip{}
	}
	d := chipCopy(c)
	if plainRefuses(c, j) || j.Kind == 3 {
		return d
	}
	square := &d.Squares[j.Square]
	if j.Kind == 1 {
		square.Pages = slices.Concat(square.Pages, []string{plainFirst(j.Text, bytes)})
		return d
	}
	for i, text := range square.Pages {
		square.Pages[i] = plainFirst(text, bytes)
	}
	square.Wipes++
	return d
}

func plainPageAt(c impl.Chip, square int64, page int64) string {
	if !plainChipOk(c) || square < 0 || square >= int64(len(c.Squares)) || page < 0 || page >= int64(len(c.Squares[square].Pages)) {
		return ""
	}
	return c.Squares[square].Pages[page]
}

func chipCopy(c impl.Chip) impl.Chip {
	d := impl.Chip{Size: c.Size}
	for _, square := range c.Squares {
		d.Squares = append(d.Squares, squareCopy(square))
	}
	return d
}

func squareCopy(square impl.Square) impl.Square {
	s := impl.Square{Wipes: square.Wipes, Bad: square.Bad}
	for _, text := range square.Pages {
		s.Pages = append(s.Pages, strings.Clone(text))
	}
	return s
}

func sameSquare(a impl.Square, b impl.Square) bool {
	return a.Wipes == b.Wipes && a.Bad == b.Bad && slices.Equal(a.Pages, b.Pages)
}

func sameChip(a impl.Chip, b impl.Chip) bool {
	return a.Size == b.Size && slices.EqualFunc(a.Squares, b.Squares, sameSquare)
}

func tellChip(c impl.Chip) string {
	told := fmt.Sprintf("{%d", c.Size)
	for i, square := range c.Squares {
		if i == mostSquares+1 {
			told += fmt.Sprintf(" .. %d squares", len(c.Squares))
			break
		}
		told += " {"
		for k, text := range square.Pages {
			if k == mostSize+1 {
				told += fmt.Sprintf(".. %d pages ", len(square.Pages))
				break
			}
			told += tellText(text) + " "
		}
		told += fmt.Sprintf("%d %v}", square.Wipes, square.Bad)
	}
	return told + "}"
}

func tellJob(j impl.Job) string {
	return fmt.Sprintf("{%d %d %s}", j.Kind, j.Square, tellText(j.Text))
}

// guardedChip is a copy of c with room behind its Squares and behind each one's
// Pages, and a check that nothing of it was written to.
func guardedChip(t *testing.T, c impl.Chip) (impl.Chip, func(what string)) {
	t.Helper()
	before := chipCopy(c)
	checks := []func(string){}
	whole := []impl.Square{}
	for _, square := range chipCopy(c).Squares {
		pages, check := withRoomBehind(t, square.Pages, "mark")
		square.Pages, checks = pages, append(checks, check)
		whole = append(whole, square)
	}
	for range 16 {
		whole = append(whole, impl.Square{Wipes: spareMark})
	}
	guarded := impl.Chip{Size: c.Size, Squares: whole[:len(c.Squares)]}
	check := func(what string) {
		t.Helper()
		for _, check := range checks {
			check(what)
		}
		if !sameChip(guarded, before) {
			t.Errorf("%s: the Chip was written to: %s, not %s", what, tellChip(guarded), tellChip(before))
		}
		for _, square := range whole[len(c.Squares):] {
			if !sameSquare(square, impl.Square{Wipes: spareMark}) {
				t.Errorf("%s: the room behind the Squares was written to", what)
			}
		}
	}
	return guarded, check
}

func checkChipOk(t *testing.T, c impl.Chip, want bool) {
	t.Helper()
	neverPanics(t, "ChipOk", func() {
		t.Helper()
		if got := impl.ChipOk(c); got != want {
			t.Errorf("ChipOk(%s): %v", tellChip(c), got)
		}
	})
}

func checkDid(t *testing.T, c impl.Chip, j impl.Job, want impl.Chip, wantIs bool) {
	t.Helper()
	neverPanics(t, "Did", func() {
		t.Helper()
		guarded, check := guardedChip(t, c)
		got, is := impl.Did(guarded, j)
		if !sameChip(got, want) || is != wantIs {
			t.Errorf("Did(%s, %s): %s and %v, not %s and %v", tellChip(c), tellJob(j), tellChip(got), is, tellChip(want), wantIs)
		}
		check("Did")
	})
}

func checkDidAll(t *testing.T, c impl.Chip, list []impl.Job, want impl.Chip, wantIs bool) {
	t.Helper()
	neverPanics(t, "DidAll", func() {
		t.Helper()
		guarded, check := guardedChip(t, c)
		jobs, checkJobs := withRoomBehind(t, list, impl.Job{Text: "mark"})
		got, is := impl.DidAll(guarded, jobs)
		if !sameChip(got, want) || is != wantIs {
			t.Errorf("DidAll(%s, %d Jobs): %s and %v, not %s and %v", tellChip(c), len(list), tellChip(got), is, tellChip(want), wantIs)
		}
		check("DidAll")
		checkJobs("DidAll")
	})
}

func checkCut(t *testing.T, c impl.Chip, j impl.Job, bytes int64, want impl.Chip) {
	t.Helper()
	neverPanics(t, "Cut", func() {
		t.Helper()
		guarded, check := guardedChip(t, c)
		if got := impl.Cut(guarded, j, bytes); !sameChip(got, want) {
			t.Errorf("Cut(%s, %s, %d): %s, not %s", tellChip(c), tellJob(j), bytes, tellChip(got), tellChip(want))
		}
		check("Cut")
	})
}

func checkPageAt(t *testing.T, c impl.Chip, square int64, page int64, want string) {
	t.Helper()
	neverPanics(t, "PageAt", func() {
		t.Helper()
		guarded, check := guardedChip(t, c)
		if got := impl.PageAt(guarded, square, page); got != want {
			t.Errorf("PageAt(%s, %d, %d): %s, not %s", tellChip(c), square, page, tellText(got), tellText(want))
		}
		check("PageAt")
	})
}

// aChip is one of two pages a square: without pages, with one, full, worn, and
// bad with a page and without.
func aChip() impl.Chip {
	return impl.Chip{Size: 2, Squares: []impl.Square{
		{},
		{Pages: []string{"abc"}, Wipes: 3},
		{Pages: []string{"abc", "defgh"}, Wipes: 7},
		{Pages: []string{"x"}, Wipes: mostWipes},
		{Pages: []string{"bad"}, Wipes: 1, Bad: true},
		{Bad: true},
	}}
}

// withSquare is aChip with another last Square.
func withSquare(square impl.Square) impl.Chip {
	c := aChip()
	c.Squares[len(c.Squares)-1] = square
	return c
}

func squaresOf(count int) []impl.Square {
	return make([]impl.Square, count)
}

func pagesOf(count int) []string {
	return slices.Repeat([]string{"p"}, count)
}

// farNumbers are out of every range.
func farNumbers() []int64 {
	return []int64{
		-1, -2, -3, -8, -12, -256, -1 << 31, -1 << 32, -1<<32 + 1, 1000002, 1 << 31, 1 << 32, 1<<32 + 1, 1<<32 + 2, 1<<32 + 8,
		1 << 62, math.MinInt64, math.MinInt64 + 1, math.MinInt64 + 2, math.MaxInt64, math.MaxInt64 - 1,
	}
}

// edgeTexts can be written.
func edgeTexts() []string {
	n := numbers(90)
	return []string{
		"a", "\x00", "\xff", "\n", "ab", "\u20ac", "\u20ac"[:2], "a\u00e9b", noughtText(2), n.text(24), n.text(66), n.text(199), n.text(200), noughtText(200),
		strings.Repeat("\xff", 200), strings.Repeat("\u20ac", 66) + "ab",
	}
}

// wrongTexts can't; of the last ones fewer than 200 runes are more than 200 bytes.
func wrongTexts() []string {
	n := numbers(91)
	return []string{"", n.text(201), noughtText(201), n.text(202), n.text(400), n.text(456), noughtText(100000), strings.Repeat("\u20ac", 67), strings.Repeat("\u00e9", 101)}
}

// edgeChips are right ones at every limit.
func edgeChips() []impl.Chip {
	n := numbers(92)
	chips := []impl.Chip{aChip(), {Size: 1, Squares: squaresOf(1)}, {Size: 8, Squares: squaresOf(12)}, {Size: 8, Squares: squaresOf(1)}, {Size: 1, Squares: squaresOf(12)}}
	for _, size := range []int64{1, 2, 7, 8} {
		for _, count := range []int{1, 2, 11, 12} {
			full := impl.Chip{Size: size}
			for range count {
				full.Squares = append(full.Squares, impl.Square{Pages: n.texts(int(size), 1+n.below(200)), Wipes: mostWipes - int64(n.below(2))})
			}
			chips = append(chips, full)
		}
	}
	for _, text := range edgeTexts() {
		chips = append(chips, withSquare(impl.Square{Pages: []string{text}}), withSquare(impl.Square{Pages: []string{text, text}, Wipes: 1, Bad: true}))
	}
	for _, wipes := range []int64{0, 1, 2, 999999, 1000000} {
		chips = append(chips, withSquare(impl.Square{Wipes: wipes}), withSquare(impl.Square{Wipes: wipes, Bad: true}))
		chips = append(chips, withSquare(impl.Square{Pages: []string{"a", "b"}, Wipes: wipes}), withSquare(impl.Square{Pages: []string{"a"}, Wipes: wipes, Bad: true}))
	}
	return chips
}

// wrongChips are each wrong in one thing, or in more.
func wrongChips() []impl.Chip {
	chips := []impl.Chip{{}, {Size: 1}, {Size: 8}, {Size: 1, Squares: []impl.Square{}}, {Squares: squaresOf(1)}, {Squares: squaresOf(13)}}
	for _, size := range append(farNumbers(), 0, 9, 10, 16) {
		chips = append(chips, impl.Chip{Size: size, Squares: squaresOf(1)}, impl.Chip{Size: size, Squares: aChip().Squares})
	}
	for _, count := range []int{13, 14, 256, 257, 1000} {
		chips = append(chips, impl.Chip{Size: 1, Squares: squaresOf(count)}, impl.Chip{Size: 8, Squares: squaresOf(count)})
	}
	for size := int64(1); size <= mostSize; size++ {
		for _, count := range []int{int(size) + 1, int(size) + 2, 256 + int(size)} {
			chips = append(chips, impl.Chip{Size: size, Squares: []impl.Square{{Pages: pagesOf(count)}}})
			chips = append(chips, impl.Chip{Size: size, Squares: []impl.Square{{}, {Pages: pagesOf(count), Bad: true}, {}}})
		}
	}
	for _, text := range wrongTexts() {
		chips = append(chips, withSquare(impl.Square{Pages: []string{text}}), withSquare(impl.Square{Pages: []string{"a", text}}))
		chips = append(chips, withSquare(impl.Square{Pages: []string{text, "a"}}), withSquare(impl.Square{Pages: []string{text}, Bad: true}))
		first := aChip()
		first.Squares[0].Pages = []string{text}
		chips = append(chips, first)
	}
	for _, wipes := range append(farNumbers(), 1000001) {
		chips = append(chips, withSquare(impl.Square{Wipes: wipes}), withSquare(impl.Square{Wipes: wipes, Bad: true}), withSquare(impl.Square{Pages: []string{"a"}, Wipes: wipes}))
		first := aChip()
		first.Squares[0].Wipes = wipes
		chips = append(chips, first)
	}
	return chips
}

// manyJobs are right and wrong ones for a Chip.
func manyJobs(c impl.Chip) []impl.Job {
	jobs := []impl.Job{}
	last := int64(len(c.Squares)) - 1
	for _, kind := range []int64{0, 1, 2, 3, 4, -1, 1<<32 + 1, math.MinInt64, math.MaxInt64} {
		for _, square := range []int64{-1, 0, last / 2, last - 1, last, last + 1, math.MinInt64, math.MaxInt64} {
			for _, text := range []string{"", "w", "new", noughtText(200), noughtText(201)} {
				jobs = append(jobs, impl.Job{Kind: kind, Square: square, Text: text})
			}
		}
	}
	return jobs
}

func (n *numbers) chip() impl.Chip {
	c := impl.Chip{Size: int64(1 + n.below(mostSize))}
	sizes := []int{1, 2, 3, 20, 66, 199, 200}
	for range 1 + n.below(mostSquares) {
		square := impl.Square{Wipes: int64(n.below(4)), Bad: n.below(6) == 0}
		if n.below(5) == 0 {
			square.Wipes = mostWipes - int64(n.below(2))
		}
		for range n.below(int(c.Size) + 1) {
			square.Pages = append(square.Pages, n.text(sizes[n.below(len(sizes))]))
		}
		c.Squares = append(c.Squares, square)
	}
	return c
}

// job is mostly one that a right Chip takes where it has room.
func (n *numbers) job(c impl.Chip) impl.Job {
	j := impl.Job{Kind: int64(1 + n.below(2)), Square: int64(n.below(max(1, len(c.Squares)))), Text: n.text(1 + n.below(40))}
	switch n.below(16) {
	case 0:
		j.Kind = int64(n.below(7)) - 1
	case 1:
		j.Square = int64(n.below(16)) - 2
	case 2:
		j.Text = n.text([]int{0, 200, 201}[n.below(3)])
	case 3:
		j.Kind = impl.JbBad
	}
	return j
}

// wrong is a right Chip in which one thing is made wrong.
func (n *numbers) wrong(c impl.Chip) impl.Chip {
	c = chipCopy(c)
	square := &c.Squares[n.below(len(c.Squares))]
	switch n.below(6) {
	case 0:
		c.Size = []int64{0, 9, -1, math.MinInt64, math.MaxInt64}[n.below(5)]
	case 1:
		c.Squares = append(c.Squares, squaresOf(mostSquares+1-len(c.Squares))...)
	case 2:
		square.Pages = pagesOf(int(c.Size) + 1)
	case 3:
		square.Pages = []string{""}
	case 4:
		square.Pages = []string{n.text(201)}
	case 5:
		square.Wipes = []int64{-1, 1000001, math.MinInt64, math.MaxInt64}[n.below(4)]
	}
	return c
}

func TestChipConstants(t *testing.T) {
	if impl.JbWrite != 1 || impl.JbWipe != 2 || impl.JbBad != 3 || impl.MaxWipes != 1000000 {
		t.Fatal(impl.JbWrite, impl.JbWipe, impl.JbBad, impl.MaxWipes)
	}
	// They fit any kind of number, as the skeleton's do.
	if j := (impl.Job{Kind: impl.JbBad}); j.Kind != int64(3) || uint8(impl.JbWipe) != 2 {
		t.Fatal(j)
	}
}

func TestChipOkAtTheEdges(t *testing.T) {
	for _, c := range []struct {
		size   int64
		count  int
		square impl.Square
		want   bool
	}{
		{1, 1, impl.Square{}, true}, {8, 12, impl.Square{}, true}, {0, 1, impl.Square{}, false}, {9, 1, impl.Square{}, false}, {-1, 1, impl.Square{}, false},
		{1, 12, impl.Square{}, true}, {1, 13, impl.Square{}, false}, {8, 13, impl.Square{}, false}, {8, 1, impl.Square{}, true},
		{1, 1, impl.Square{Pages: pagesOf(1)}, true}, {1, 1, impl.Square{Pages: pagesOf(2)}, false},
		{3, 2, impl.Square{Pages: pagesOf(3)}, true}, {3, 2, impl.Square{Pages: pagesOf(4)}, false},
		{8, 12, impl.Square{Pages: pagesOf(8)}, true}, {8, 12, impl.Square{Pages: pagesOf(9)}, false},
		{2, 3, impl.Square{Pages: []string{"a"}}, true}, {2, 3, impl.Square{Pages: []string{""}}, false}, {2, 3, impl.Square{Pages: []string{"a", ""}}, false},
		{2, 3, impl.Square{Pages: []string{noughtText(200)}}, true}, {2, 3, impl.Square{Pages: []string{noughtText(201)}}, false},
		{2, 3, impl.Square{Pages: []string{noughtText(200), noughtText(200)}}, true}, {2, 3, impl.Square{Pages: []string{noughtText(200), noughtText(201)}}, false},
		{2, 3, impl.Square{Wipes: 0}, true}, {2, 3, impl.Square{Wipes: 1000000}, true}, {2, 3, impl.Square{Wipes: -1}, false}, {2, 3, impl.Square{Wipes: 1000001}, false},
		{2, 3, impl.Square{Wipes: math.MinInt64}, false}, {2, 3, impl.Square{Wipes: math.MaxInt64}, false},
		{2, 3, impl.Square{Bad: true}, true}, {2, 3, impl.Square{Bad: true, Pages: pagesOf(2), Wipes: 5}, true}, {2, 3, impl.Square{Bad: true, Pages: pagesOf(3)}, false},
		{2, 3, impl.Square{Bad: true, Pages: []string{""}}, false}, {2, 3, impl.Square{Bad: true, Wipes: 1000001}, false}, {2, 3, impl.Square{Bad: true, Wipes: 1000000}, true},
	} {
		for at := range c.count {
			squares := squaresOf(c.count)
			squares[at] = c.square
			checkChipOk(t, impl.Chip{Size: c.size, Squares: squares}, c.want)
		}
		all := slices.Repeat([]impl.Square{c.square}, c.count)
		checkChipOk(t, impl.Chip{Size: c.size, Squares: all}, c.want)
	}
}

func TestChipOkOfMany(t *testing.T) {
	n := numbers(93)
	for _, c := range edgeChips() {
		checkChipOk(t, c, true)
	}
	for _, c := range wrongChips() {
		checkChipOk(t, c, false)
	}
	for range 3000 {
		c := n.chip()
		checkChipOk(t, c, true)
		checkChipOk(t, n.wrong(c), false)
	}
}

func TestNewChipOfAllNumbers(t *testing.T) {
	for squares := int64(-3); squares <= 16; squares++ {
		for size := int64(-3); size <= 16; size++ {
			c, is := impl.NewChip(squares, size)
			want := impl.Chip{}
			right := 1 <= squares && squares <= 12 && 1 <= size && size <= 8
			if right {
				want = impl.Chip{Size: size, Squares: squaresOf(int(squares))}
			}
			if is != right || !sameChip(c, want) || impl.ChipOk(c) != right {
				t.Errorf("NewChip(%d, %d): %s and %v", squares, size, tellChip(c), is)
			}
		}
	}
}

func TestNewChipOfWrongNumbers(t *testing.T) {
	numbers := append(farNumbers(), 0, 1, 8, 9, 12, 13)
	for _, squares := range numbers {
		for _, size := range numbers {
			neverPanics(t, "NewChip", func() {
				right := (squares == 1 || squares == 8 || squares == 9 || squares == 12) && (size == 1 || size == 8)
				if c, is := impl.NewChip(squares, size); is != right || !right && !sameChip(c, impl.Chip{}) {
					t.Errorf("NewChip(%d, %d): %s and %v", squares, size, tellChip(c), is)
				}
			})
		}
	}
}

// Every square of a new Chip takes as many pages as it was made for, and no more.
func TestNewChipHasRoom(t *testing.T) {
	for squares := int64(1); squares <= mostSquares; squares++ {
		for size := int64(1); size <= mostSize; size++ {
			c, _ := impl.NewChip(squares, size)
			for at := range squares {
				for page := range size {
					if got := impl.PageAt(c, at, page); got != "" {
						t.Errorf("a new Chip has %q", got)
					}
					is := false
					if c, is = impl.Did(c, impl.Job{Kind: impl.JbWrite, Square: at, Text: "a"}); !is {
						t.Errorf("square %d of %d has no room for page %d of %d", at, squares, page, size)
					}
				}
				if _, is := impl.Did(c, impl.Job{Kind: impl.JbWrite, Square: at, Text: "a"}); is {
					t.Errorf("square %d of %d has room for more than %d pages", at, squares, size)
				}
			}
		}
	}
}

func TestDidOfSome(t *testing.T) {
	write := func(square int64, text string) impl.Job { return impl.Job{Kind: 1, Square: square, Text: text} }
	wipe := func(square int64) impl.Job { return impl.Job{Kind: 2, Square: square} }
	bad := func(square int64) impl.Job { return impl.Job{Kind: 3, Square: square} }
	for _, c := range []struct {
		job    impl.Job
		square impl.Square
		is     bool
	}{
		{write(0, "new"), impl.Square{Pages: []string{"new"}}, true},
		{write(1, "new"), impl.Square{Pages: []string{"abc", "new"}, Wipes: 3}, true},
		{write(1, "abc"), impl.Square{Pages: []string{"abc", "abc"}, Wipes: 3}, true},
		{write(2, "new"), impl.Square{Pages: []string{"abc", "defgh"}, Wipes: 7}, false},
		{write(3, "new"), impl.Square{Pages: []string{"x", "new"}, Wipes: 1000000}, true},
		{write(4, "new"), impl.Square{Pages: []string{"bad"}, Wipes: 1, Bad: true}, false},
		{write(5, "new"), impl.Square{Bad: true}, false},
		{write(0, ""), impl.Square{}, false},
		{write(0, noughtText(200)), impl.Square{Pages: []string{noughtText(200)}}, true},
		{write(0, noughtText(201)), impl.Square{}, false},
		{wipe(0), impl.Square{Wipes: 1}, true},
		{wipe(1), impl.Square{Wipes: 4}, true},
		{wipe(2), impl.Square{Wipes: 8}, true},
		{wipe(3), impl.Square{Pages: []string{"x"}, Wipes: 1000000}, false},
		{wipe(4), impl.Square{Pages: []string{"bad"}, Wipes: 1, Bad: true}, false},
		{wipe(5), impl.Square{Bad: true}, false},
		{bad(0), impl.Square{Bad: true}, true},
		{bad(1), impl.Square{Pages: []string{"abc"}, Wipes: 3, Bad: true}, true},
		{bad(2), impl.Square{Pages: []string{"abc", "defgh"}, Wipes: 7, Bad: true}, true},
		{bad(3), impl.Square{Pages: []string{"x"}, Wipes: 1000000, Bad: true}, true},
		{bad(4), impl.Square{Pages: []string{"bad"}, Wipes: 1, Bad: true}, false},
		{bad(5), impl.Square{Bad: true}, false},
		{impl.Job{Kind: 0, Square: 1, Text: "new"}, impl.Square{Pages: []string{"abc"}, Wipes: 3}, false},
		{impl.Job{Kind: 4, Square: 1, Text: "new"}, impl.Square{Pages: []string{"abc"}, Wipes: 3}, false},
		{impl.Job{Kind: -1, Square: 1, Text: "new"}, impl.Square{Pages: []string{"abc"}, Wipes: 3}, false},
	} {
		want := aChip()
		want.Squares[c.job.Square] = c.square
		checkDid(t, aChip(), c.job, want, c.is)
	}
}

func TestDidWithNoSuchSquare(t *testing.T) {
	for _, c := range []impl.Chip{aChip(), {Size: 1, Squares: squaresOf(1)}, {Size: 8, Squares: squaresOf(12)}} {
		count := int64(len(c.Squares))
		for _, square := range append(farNumbers(), count, count+1, 13, 256, 257) {
			for kind := int64(0); kind <= 4; kind++ {
				checkDid(t, c, impl.Job{Kind: kind, Square: square, Text: "new"}, c, false)
				checkCut(t, c, impl.Job{Kind: kind, Square: square, Text: "new"}, 1, c)
			}
		}
	}
}

func TestDidAtTheLastSquare(t *testing.T) {
	for count := 1; count <= mostSquares; count++ {
		c := impl.Chip{Size: 1, Squares: squaresOf(count)}
		for at := range count {
			want := impl.Chip{Size: 1, Squares: squaresOf(count)}
			want.Squares[at].Pages = []string{"a"}
			checkDid(t, c, impl.Job{Kind: 1, Square: int64(at), Text: "a"}, want, true)
			checkDid(t, want, impl.Job{Kind: 1, Square: int64(at), Text: "a"}, want, false)
		}
	}
}

func TestDidWithNoSuchKind(t *testing.T) {
	for _, kind := range append(farNumbers(), 0, 4, 5, 256, 257, 258, 259) {
		for square := range int64(7) {
			for _, text := range []string{"", "a", noughtText(201)} {
				checkDid(t, aChip(), impl.Job{Kind: kind, Square: square, Text: text}, aChip(), false)
				checkCut(t, aChip(), impl.Job{Kind: kind, Square: square, Text: text}, 1, aChip())
			}
		}
	}
}

func TestDidWithTexts(t *testing.T) {
	for _, text := range edgeTexts() {
		want := aChip()
		want.Squares[1].Pages = append(want.Squares[1].Pages, text)
		checkDid(t, aChip(), impl.Job{Kind: 1, Square: 1, Text: text}, want, true)
	}
	for _, text := range wrongTexts() {
		checkDid(t, aChip(), impl.Job{Kind: 1, Square: 1, Text: text}, aChip(), false)
		checkCut(t, aChip(), impl.Job{Kind: 1, Square: 1, Text: text}, 1, aChip())
	}
}

// A wiping and a bad square have no use for a Text: whatever it is, they are done.
func TestDidWithATextThatDoesNotCount(t *testing.T) {
	for _, text := range slices.Concat(edgeTexts(), wrongTexts()) {
		wiped, spoilt := aChip(), aChip()
		wiped.Squares[2] = impl.Square{Wipes: 8}
		spoilt.Squares[2].Bad = true
		checkDid(t, aChip(), impl.Job{Kind: 2, Square: 2, Text: text}, wiped, true)
		checkDid(t, aChip(), impl.Job{Kind: 3, Square: 2, Text: text}, spoilt, true)
	}
}

func TestDidAtTheMostWipes(t *testing.T) {
	for _, pages := range [][]string{nil, {"a"}, {"a", "b"}} {
		for _, c := range []struct {
			wipes int64
			is    bool
		}{{0, true}, {1, true}, {999998, true}, {999999, true}, {1000000, false}} {
			square := impl.Square{Pages: pages, Wipes: c.wipes}
			want := square
			if c.is {
				want = impl.Square{Wipes: c.wipes + 1}
			}
			checkDid(t, withSquare(square), impl.Job{Kind: 2, Square: 5}, withSquare(want), c.is)
		}
	}
}

func TestWrongChips(t *testing.T) {
	zero := impl.Chip{}
	for _, c := range wrongChips() {
		for kind := range int64(5) {
			for _, square := range []int64{-1, 0, int64(len(c.Squares)) - 1, int64(len(c.Squares))} {
				j := impl.Job{Kind: kind, Square: square, Text: []string{"", "a"}[kind%2]}
				checkDid(t, c, j, zero, false)
				checkCut(t, c, j, 2, zero)
			}
		}
		write, wipe, none := impl.Job{Kind: 1, Text: "a"}, impl.Job{Kind: 2}, impl.Job{}
		for _, list := range [][]impl.Job{nil, {}, {write}, {wipe}, {none}, {wipe, write}, {write, none}} {
			checkDidAll(t, c, list, zero, false)
		}
	}
}

// A wiping would set these right; a Chip that is wrong is not worked on at all.
func TestWrongChipsAreNotMended(t *testing.T) {
	for _, pages := range [][]string{{""}, {noughtText(201)}, {"a", "b", "c"}} {
		c := withSquare(impl.Square{Pages: pages})
		checkDid(t, c, impl.Job{Kind: 2, Square: 5}, impl.Chip{}, false)
		checkDidAll(t, c, []impl.Job{{Kind: 2, Square: 5}}, impl.Chip{}, false)
		checkCut(t, c, impl.Job{Kind: 2, Square: 5}, 1, impl.Chip{})
	}
}

func TestDidOfEdgeChips(t *testing.T) {
	for _, c := range edgeChips() {
		for _, j := range manyJobs(c) {
			want, is := plainDid(c, j)
			checkDid(t, c, j, want, is)
		}
	}
}

func TestDidAllOfSome(t *testing.T) {
	write, wipe, bad := impl.Job{Kind: 1, Square: 1, Text: "new"}, impl.Job{Kind: 2, Square: 1}, impl.Job{Kind: 3, Square: 1}
	for _, c := range []struct {
		list   []impl.Job
		square impl.Square
		is     bool
	}{
		{nil, impl.Square{Pages: []string{"abc"}, Wipes: 3}, true},
		{[]impl.Job{}, impl.Square{Pages: []string{"abc"}, Wipes: 3}, true},
		{[]impl.Job{write}, impl.Square{Pages: []string{"abc", "new"}, Wipes: 3}, true},
		{[]impl.Job{wipe}, impl.Square{Wipes: 4}, true},
		{[]impl.Job{bad}, impl.Square{Pages: []string{"abc"}, Wipes: 3, Bad: true}, true},
		{[]impl.Job{wipe, write}, impl.Square{Pages: []string{"new"}, Wipes: 4}, true},
		{[]impl.Job{write, wipe}, impl.Square{Wipes: 4}, true},
		{[]impl.Job{wipe, wipe, write, write}, impl.Square{Pages: []string{"new", "new"}, Wipes: 5}, true},
		{[]impl.Job{write, wipe, write, bad}, impl.Square{Pages: []string{"new"}, Wipes: 4, Bad: true}, true},
		{[]impl.Job{write, write}, impl.Square{}, false},
		{[]impl.Job{wipe, write, write, write}, impl.Square{}, false},
		{[]impl.Job{write, write, wipe}, impl.Square{}, false},
		{[]impl.Job{bad, bad}, impl.Square{}, false},
		{[]impl.Job{bad, write}, impl.Square{}, false},
		{[]impl.Job{bad, wipe}, impl.Square{}, false},
		{[]impl.Job{{}}, impl.Square{}, false},
	} {
		want := impl.Chip{}
		if c.is {
			want = aChip()
			want.Squares[1] = c.square
		}
		checkDidAll(t, aChip(), c.list, want, c.is)
	}
}

// refusedJobs are such as aChip refuses, each for another reason.
func refusedJobs() []impl.Job {
	return []impl.Job{
		{}, {Kind: 4, Square: 1, Text: "a"}, {Kind: -1, Square: 1, Text: "a"}, {Kind: math.MinInt64, Text: "a"}, {Kind: math.MaxInt64, Text: "a"},
		{Kind: 1, Square: -1, Text: "a"}, {Kind: 1, Square: 6, Text: "a"}, {Kind: 2, Square: -1}, {Kind: 2, Square: 6}, {Kind: 3, Square: -1}, {Kind: 3, Square: 6},
		{Kind: 1, Square: math.MinInt64, Text: "a"}, {Kind: 2, Square: math.MaxInt64}, {Kind: 3, Square: math.MinInt64},
		{Kind: 1, Square: 4, Text: "a"}, {Kind: 2, Square: 4}, {Kind: 3, Square: 4}, {Kind: 1, Square: 5, Text: "a"}, {Kind: 2, Square: 5}, {Kind: 3, Square: 5},
		{Kind: 1, Square: 2, Text: "a"}, {Kind: 1, Square: 0, Text: ""}, {Kind: 1, Square: 0, Text: noughtText(201)}, {Kind: 2, Square: 3},
	}
}

func TestDidAllRefusedAnywhere(t *testing.T) {
	taken := []impl.Job{{Kind: 1, Square: 0, Text: "a"}, {Kind: 2, Square: 0}, {Kind: 1, Square: 0, Text: "b"}, {Kind: 2, Square: 1}}
	checkDidAll(t, aChip(), taken, impl.Chip{Size: 2, Squares: slices.Concat([]impl.Square{{Pages: []string{"b"}, Wipes: 1}, {Wipes: 4}}, aChip().Squares[2:])}, true)
	for _, refused := range refusedJobs() {
		checkDid(t, aChip(), refused, aChip(), false)
		for at := range len(taken) + 1 {
			checkDidAll(t, aChip(), slices.Insert(slices.Clone(taken), at, refused), impl.Chip{}, false)
		}
		checkDidAll(t, aChip(), []impl.Job{refused}, impl.Chip{}, false)
		for bytes := int64(-1); bytes <= 4; bytes++ {
			checkCut(t, aChip(), refused, bytes, aChip())
		}
	}
}

// Jobs that one alone would let pass, and all together don't.
func TestDidAllIsInOrder(t *testing.T) {
	worn := withSquare(impl.Square{Wipes: 999999})
	wipe := impl.Job{Kind: 2, Square: 5}
	checkDidAll(t, worn, []impl.Job{wipe}, withSquare(impl.Square{Wipes: 1000000}), true)
	checkDidAll(t, worn, []impl.Job{wipe, wipe}, impl.Chip{}, false)
	texts := []string{"1", "2", "3", "4", "5", "6", "7", "8"}
	jobs := []impl.Job{}
	for _, text := range texts {
		jobs = append(jobs, impl.Job{Kind: 1, Square: 0, Text: text})
	}
	c, _ := impl.NewChip(1, 8)
	checkDidAll(t, c, jobs, impl.Chip{Size: 8, Squares: []impl.Square{{Pages: texts}}}, true)
	checkDidAll(t, c, append(jobs, jobs[0]), impl.Chip{}, false)
	slices.Reverse(jobs)
	slices.Reverse(texts)
	checkDidAll(t, c, jobs, impl.Chip{Size: 8, Squares: []impl.Square{{Pages: texts}}}, true)
}

func TestDidAllOfManyJobs(t *testing.T) {
	jobs := []impl.Job{}
	for range 20000 {
		jobs = append(jobs, impl.Job{Kind: 2, Square: 1})
	}
	want := aChip()
	want.Squares[1] = impl.Square{Wipes: 20003}
	checkDidAll(t, aChip(), jobs, want, true)
	checkDidAll(t, aChip(), append(jobs, impl.Job{}), impl.Chip{}, false)
}

func TestDidAllIsDidOneByOne(t *testing.T) {
	n := numbers(94)
	done := 0
	for range 4000 {
		c := n.chip()
		list := []impl.Job{}
		for range n.below(7) {
			list = append(list, n.job(c))
		}
		want, is := plainDidAll(c, list)
		checkDidAll(t, c, list, want, is)
		one, all := c, true
		for _, j := range list {
			did := false
			one, did = impl.Did(one, j)
			all = all && did
		}
		if all != is || is && !sameChip(one, want) {
			t.Errorf("Did one by one: %s, not %s", tellChip(one), tellChip(want))
		}
		if is && len(list) > 1 {
			done++
		}
	}
	if done < 200 {
		t.Errorf("only %d lists were done", done)
	}
}

func TestCutOfSome(t *testing.T) {
	full := impl.Chip{Size: 4, Squares: []impl.Square{{}, {Pages: []string{"a", "bc", "defgh"}, Wipes: 6}}}
	for _, c := range []struct {
		job    impl.Job
		bytes  int64
		square impl.Square
	}{
		{impl.Job{Kind: 1, Square: 0, Text: "wxyz"}, -1, impl.Square{Pages: []string{"w"}}},
		{impl.Job{Kind: 1, Square: 0, Text: "wxyz"}, 0, impl.Square{Pages: []string{"w"}}},
		{impl.Job{Kind: 1, Square: 0, Text: "wxyz"}, 1, impl.Square{Pages: []string{"w"}}},
		{impl.Job{Kind: 1, Square: 0, Text: "wxyz"}, 2, impl.Square{Pages: []string{"wx"}}},
		{impl.Job{Kind: 1, Square: 0, Text: "wxyz"}, 3, impl.Square{Pages: []string{"wxy"}}},
		{impl.Job{Kind: 1, Square: 0, Text: "wxyz"}, 4, impl.Square{Pages: []string{"wxyz"}}},
		{impl.Job{Kind: 1, Square: 0, Text: "wxyz"}, 5, impl.Square{Pages: []string{"wxyz"}}},
		{impl.Job{Kind: 1, Square: 0, Text: "wxyz"}, 300, impl.Square{Pages: []string{"wxyz"}}},
		{impl.Job{Kind: 1, Square: 1, Text: "wxyz"}, 2, impl.Square{Pages: []string{"a", "bc", "defgh", "wx"}, Wipes: 6}},
		{impl.Job{Kind: 2, Square: 0}, 0, impl.Square{Wipes: 1}},
		{impl.Job{Kind: 2, Square: 0}, 9, impl.Square{Wipes: 1}},
		{impl.Job{Kind: 2, Square: 1}, -1, impl.Square{Pages: []string{"a", "b", "d"}, Wipes: 7}},
		{impl.Job{Kind: 2, Square: 1}, 0, impl.Square{Pages: []string{"a", "b", "d"}, Wipes: 7}},
		{impl.Job{Kind: 2, Square: 1}, 1, impl.Square{Pages: []string{"a", "b", "d"}, Wipes: 7}},
		{impl.Job{Kind: 2, Square: 1}, 2, impl.Square{Pages: []string{"a", "bc", "de"}, Wipes: 7}},
		{impl.Job{Kind: 2, Square: 1}, 3, impl.Square{Pages: []string{"a", "bc", "def"}, Wipes: 7}},
		{impl.Job{Kind: 2, Square: 1}, 5, impl.Square{Pages: []string{"a", "bc", "defgh"}, Wipes: 7}},
		{impl.Job{Kind: 2, Square: 1}, 6, impl.Square{Pages: []string{"a", "bc", "defgh"}, Wipes: 7}},
		{impl.Job{Kind: 2, Square: 1, Text: "wx"}, 4, impl.Square{Pages: []string{"a", "bc", "defg"}, Wipes: 7}},
		{impl.Job{Kind: 3, Square: 0}, 0, impl.Square{}},
		{impl.Job{Kind: 3, Square: 1}, 0, impl.Square{Pages: []string{"a", "bc", "defgh"}, Wipes: 6}},
		{impl.Job{Kind: 3, Square: 1}, 2, impl.Square{Pages: []string{"a", "bc", "defgh"}, Wipes: 6}},
		{impl.Job{Kind: 3, Square: 1, Text: "wx"}, 9, impl.Square{Pages: []string{"a", "bc", "defgh"}, Wipes: 6}},
	} {
		want := chipCopy(full)
		want.Squares[c.job.Square] = c.square
		checkCut(t, full, c.job, c.bytes, want)
	}
}

func TestCutWithEveryNumberOfBytes(t *testing.T) {
	n := numbers(95)
	for _, count := range []int{1, 2, 3, 24, 199, 200} {
		text := n.text(count)
		c := impl.Chip{Size: 3, Squares: []impl.Square{{}, {Pages: []string{text, "a", n.text(200)}, Wipes: 999999}}}
		for bytes := int64(-3); bytes <= 204; bytes++ {
			j := impl.Job{Kind: 1, Square: 0, Text: text}
			checkCut(t, c, j, bytes, plainCut(c, j, bytes))
			j = impl.Job{Kind: 2, Square: 1}
			checkCut(t, c, j, bytes, plainCut(c, j, bytes))
		}
	}
}

func TestCutWithFarNumbersOfBytes(t *testing.T) {
	for _, bytes := range farNumbers() {
		for _, j := range []impl.Job{{Kind: 1, Square: 1, Text: "xyz"}, {Kind: 2, Square: 2}, {Kind: 2, Square: 0}, {Kind: 3, Square: 2}} {
			checkCut(t, aChip(), j, bytes, plainCut(aChip(), j, bytes))
		}
	}
	want := aChip()
	want.Squares[2] = impl.Square{Pages: []string{"a", "d"}, Wipes: 8}
	checkCut(t, aChip(), impl.Job{Kind: 2, Square: 2}, math.MinInt64, want)
	want.Squares[2] = impl.Square{Pages: []string{"abc", "defgh"}, Wipes: 8}
	checkCut(t, aChip(), impl.Job{Kind: 2, Square: 2}, math.MaxInt64, want)
}

func TestCutAtTheMostWipes(t *testing.T) {
	wipe := impl.Job{Kind: 2, Square: 5}
	checkCut(t, withSquare(impl.Square{Pages: []string{"abc"}, Wipes: 999999}), wipe, 2, withSquare(impl.Square{Pages: []string{"ab"}, Wipes: 1000000}))
	checkCut(t, withSquare(impl.Square{Pages: []string{"abc"}, Wipes: 1000000}), wipe, 2, withSquare(impl.Square{Pages: []string{"abc"}, Wipes: 1000000}))
	checkCut(t, withSquare(impl.Square{Wipes: 1000000}), wipe, 2, withSquare(impl.Square{Wipes: 1000000}))
}

func TestCutOfEdgeChips(t *testing.T) {
	for _, c := range edgeChips() {
		for i, j := range manyJobs(c) {
			bytes := []int64{0, 1, 2, 150, 200, 201, -5}[i%7]
			checkCut(t, c, j, bytes, plainCut(c, j, bytes))
		}
	}
}

// With all bytes a write is whole, and a cut of a wiping may be wiped again.
func TestCutGoesWithDid(t *testing.T) {
	n := numbers(96)
	for range 3000 {
		c := n.chip()
		j := n.job(c)
		did, is := impl.Did(c, j)
		whole := impl.Cut(c, j, 200)
		switch {
		case !is || j.Kind == impl.JbBad:
			if !sameChip(whole, c) {
				t.Errorf("Cut(%s, %s, 200): %s", tellChip(c), tellJob(j), tellChip(whole))
			}
		case j.Kind == impl.JbWrite:
			if !sameChip(whole, did) {
				t.Errorf("Cut(%s, %s, 200): %s", tellChip(c), tellJob(j), tellChip(whole))
			}
		case did.Squares[j.Square].Wipes < mostWipes:
			again, _ := impl.Did(did, j)
			if got, is := impl.Did(impl.Cut(c, j, int64(n.below(9))), j); !is || !sameChip(got, again) {
				t.Errorf("what was cut is wiped to %s", tellChip(got))
			}
		}
	}
}

func TestPageAtOfSome(t *testing.T) {
	for _, c := range []struct {
		square, page int64
		want         string
	}{
		{0, 0, ""}, {0, 1, ""}, {0, -1, ""}, {1, 0, "abc"}, {1, 1, ""}, {1, -1, ""}, {2, 0, "abc"}, {2, 1, "defgh"}, {2, 2, ""}, {2, -1, ""}, {3, 0, "x"}, {3, 1, ""},
		{4, 0, "bad"}, {4, 1, ""}, {5, 0, ""}, {6, 0, ""}, {-1, 0, ""}, {-1, -1, ""}, {6, 6, ""}, {256 + 1, 0, ""}, {1, 256, ""}, {1, 1 << 32, ""}, {1<<32 + 1, 0, ""},
	} {
		checkPageAt(t, aChip(), c.square, c.page, c.want)
	}
	for _, far := range farNumbers() {
		checkPageAt(t, aChip(), far, 0, "")
		checkPageAt(t, aChip(), 1, far, "")
		checkPageAt(t, aChip(), far, far, "")
	}
}

func TestPageAtOfEdgeChips(t *testing.T) {
	for _, c := range edgeChips() {
		for square := int64(-2); square <= 14; square++ {
			for page := int64(-2); page <= 10; page++ {
				checkPageAt(t, c, square, page, plainPageAt(c, square, page))
			}
		}
		last := int64(len(c.Squares)) - 1
		if full := c.Squares[last].Pages; len(full) == int(c.Size) {
			checkPageAt(t, c, last, c.Size-1, full[c.Size-1])
		}
	}
}

// In what is no Chip there is no page.
func TestPageAtOfWrongChips(t *testing.T) {
	for _, c := range wrongChips() {
		for _, square := range []int64{-1, 0, 1, 5, 12, math.MinInt64, math.MaxInt64} {
			for _, page := range []int64{-1, 0, 1, 8, math.MinInt64, math.MaxInt64} {
				checkPageAt(t, c, square, page, "")
			}
		}
	}
}

func TestPageAtTellsWhatWasWritten(t *testing.T) {
	n := numbers(97)
	for range 300 {
		c := n.chip()
		for range 20 {
			j := n.job(c)
			page := int64(0)
			if 0 <= j.Square && j.Square < int64(len(c.Squares)) {
				page = int64(len(c.Squares[j.Square].Pages))
			}
			did, is := impl.Did(c, j)
			if is && j.Kind == impl.JbWrite && impl.PageAt(did, j.Square, page) != j.Text {
				t.Errorf("Did(%s, %s): %s", tellChip(c), tellJob(j), tellChip(did))
			}
			if is && j.Kind == impl.JbWipe && impl.PageAt(did, j.Square, 0) != "" {
				t.Errorf("Did(%s, %s): %s", tellChip(c), tellJob(j), tellChip(did))
			}
			c = did
		}
	}
}

func TestPromise8AChipStaysRight(t *testing.T) {
	n := numbers(98)
	kinds := map[int64]int{}
	for trial := range 200 {
		c := n.chip()
		if trial%2 == 0 {
			c, _ = impl.NewChip(int64(1+n.below(mostSquares)), int64(1+n.below(mostSize)))
		}
		for range 60 {
			j := n.job(c)
			bytes := int64(n.below(50)) - 3
			want, wantIs := plainDid(c, j)
			checkDid(t, c, j, want, wantIs)
			checkCut(t, c, j, bytes, plainCut(c, j, bytes))
			if wantIs {
				kinds[j.Kind]++
			}
			if n.below(8) == 0 {
				c = impl.Cut(c, j, bytes)
			} else {
				c, _ = impl.Did(c, j)
			}
			checkChipOk(t, c, true)
		}
	}
	if kinds[1] < 1000 || kinds[2] < 1000 || kinds[3] < 100 {
		t.Errorf("so many of each kind: %v", kinds)
	}
}

// stays asks whether each page of a is still there in b, but in a square that was
// wiped in between.
func stays(t *testing.T, a impl.Chip, b impl.Chip) {
	t.Helper()
	for square := range int64(len(a.Squares)) {
		before, now := a.Squares[square], b.Squares[square]
		if now.Wipes < before.Wipes || before.Bad && !sameSquare(before, now) {
			t.Errorf("square %d of %s became that of %s", square, tellChip(a), tellChip(b))
		}
		if now.Wipes != before.Wipes {
			continue
		}
		for page := range int64(len(before.Pages)) {
			if got := impl.PageAt(b, square, page); got != before.Pages[page] {
				t.Errorf("page %d of square %d became %s in %s", page, square, tellText(got), tellChip(b))
			}
		}
	}
}

func TestPromise8BetweenTwoWipingsAPageStays(t *testing.T) {
	n := numbers(99)
	for range 200 {
		first := n.chip()
		last := first
		for range 40 {
			j := n.job(last)
			if n.below(3) > 0 {
				j.Kind = impl.JbWrite
			}
			did, _ := impl.Did(last, j)
			stays(t, last, did)
			stays(t, first, did)
			cut := impl.Cut(last, j, int64(n.below(30)))
			stays(t, last, cut)
			stays(t, first, cut)
			list := []impl.Job{n.job(last), n.job(last), n.job(last)}
			if all, is := impl.DidAll(last, list); is {
				stays(t, last, all)
				stays(t, first, all)
			}
			last = did
			if n.below(6) == 0 {
				last = cut
			}
		}
	}
}

// A Job works in its own square, and the others stay what they were.
func TestPromise8OtherSquaresStay(t *testing.T) {
	n := numbers(100)
	for range 2000 {
		c := n.chip()
		j := n.job(c)
		did, _ := impl.Did(c, j)
		for _, d := range []impl.Chip{did, impl.Cut(c, j, int64(n.below(9)))} {
			if d.Size != c.Size || len(d.Squares) != len(c.Squares) {
				t.Fatalf("%s became %s", tellChip(c), tellChip(d))
			}
			for i := range c.Squares {
				if int64(i) != j.Square && !sameSquare(c.Squares[i], d.Squares[i]) {
					t.Errorf("square %d by %s: %s became %s", i, tellJob(j), tellChip(c), tellChip(d))
				}
			}
		}
	}
}

func isZeroChip(c impl.Chip) bool {
	return c.Size == 0 && len(c.Squares) == 0
}

func TestTheZeroChipAndNoOther(t *testing.T) {
	n := numbers(101)
	for range 3000 {
		c := n.chip()
		if n.below(2) == 0 {
			c = n.wrong(c)
		}
		right := plainChipOk(c)
		list := []impl.Job{n.job(c), n.job(c)}
		did, is := impl.Did(c, list[0])
		if isZeroChip(did) == right || is && !right || !is && right && !sameChip(did, c) {
			t.Errorf("Did(%s, %s): %s and %v", tellChip(c), tellJob(list[0]), tellChip(did), is)
		}
		all, is := impl.DidAll(c, list)
		if isZeroChip(all) == is || is && !right {
			t.Errorf("DidAll of %s: %s and %v", tellChip(c), tellChip(all), is)
		}
		if cut := impl.Cut(c, list[0], 3); isZeroChip(cut) == right {
			t.Errorf("Cut(%s, %s, 3): %s", tellChip(c), tellJob(list[0]), tellChip(cut))
		}
	}
}

// checkOwnMemory asks whether an answer shares memory with a Chip and Jobs that
// were handed in, or one list of it with another one.
func checkOwnMemory(t *testing.T, what string, answer impl.Chip, c impl.Chip, list ...impl.Job) {
	t.Helper()
	texts := []string{}
	for _, j := range list {
		texts = append(texts, j.Text)
	}
	for _, square := range c.Squares {
		texts = append(texts, square.Pages...)
	}
	for _, square := range answer.Squares {
		for _, text := range square.Pages {
			for _, other := range texts {
				if sharesMemory(text, other) {
					t.Errorf("%s: a page shares memory with another text: %s", what, tellText(text))
				}
			}
			texts = append(texts, text)
		}
	}
	for i := range answer.Squares {
		before := chipCopy(answer)
		overwriteTexts(answer.Squares[i].Pages)
		for k := range answer.Squares {
			if k != i && !sameSquare(answer.Squares[k], before.Squares[k]) {
				t.Errorf("%s: the Pages of squares %d and %d share memory", what, i, k)
			}
		}
	}
	for i := range answer.Squares[:cap(answer.Squares)] {
		answer.Squares[:cap(answer.Squares)][i] = impl.Square{Wipes: spareMark - 1}
	}
}

func TestPromise21ChipsAreNewMemory(t *testing.T) {
	n := numbers(102)
	for range 1500 {
		c, check := guardedChip(t, n.chip())
		list := []impl.Job{n.job(c), n.job(c)}
		jobs, checkJobs := withRoomBehind(t, list, impl.Job{Text: "mark"})
		did, _ := impl.Did(c, jobs[0])
		checkOwnMemory(t, "Did", did, c, jobs...)
		all, _ := impl.DidAll(c, jobs)
		checkOwnMemory(t, "DidAll", all, c, jobs...)
		none, _ := impl.DidAll(c, nil)
		checkOwnMemory(t, "DidAll", none, c)
		for _, bytes := range []int64{-1, 1, 2, 200} {
			checkOwnMemory(t, "Cut", impl.Cut(c, jobs[0], bytes), c, jobs...)
		}
		for square := range c.Squares {
			for page, text := range c.Squares[square].Pages {
				if got := impl.PageAt(c, int64(square), int64(page)); sharesMemory(got, text) {
					t.Errorf("PageAt: %s shares memory with the Chip", tellText(got))
				}
			}
		}
		check("the answers")
		checkJobs("the answers")
	}
}

// The squares handed in may share one list; those answered must not.
func TestPromise21SquaresThatShareTheirPages(t *testing.T) {
	n := numbers(103)
	for size := int64(2); size <= mostSize; size++ {
		for _, bytes := range []int64{1, 3, 20} {
			pages := n.texts(int(size)-1, 20)
			c := impl.Chip{Size: size, Squares: []impl.Square{{Pages: pages}, {Pages: pages}, {Pages: pages[:1]}, {Pages: slices.Repeat(pages[:1], int(size))}}}
			for _, j := range []impl.Job{{Kind: 1, Square: 0, Text: pages[0]}, {Kind: 1, Square: 2, Text: "new"}, {Kind: 2, Square: 1}, {Kind: 3, Square: 2}, {Kind: 2, Square: 3}, {}} {
				want, wantIs := plainDid(c, j)
				checkDid(t, c, j, want, wantIs)
				did, is := impl.Did(c, j)
				if is != wantIs || !sameChip(did, want) {
					t.Errorf("Did of squares that share: %s and %v", tellChip(did), is)
				}
				checkOwnMemory(t, "Did", did, c, j)
				cut := impl.Cut(c, j, bytes)
				if !sameChip(cut, plainCut(c, j, bytes)) {
					t.Errorf("Cut of squares that share: %s", tellChip(cut))
				}
				checkOwnMemory(t, "Cut", cut, c, j)
				all, _ := impl.DidAll(c, []impl.Job{j, j})
				checkOwnMemory(t, "DidAll", all, c, j)
			}
		}
	}
}

func TestPromise21NewChipsAreNewMemory(t *testing.T) {
	a, _ := impl.NewChip(12, 8)
	checkOwnMemory(t, "NewChip", a, impl.Chip{})
	for range 3 {
		b, is := impl.NewChip(12, 8)
		if !is || !sameChip(b, impl.Chip{Size: 8, Squares: squaresOf(12)}) {
			t.Errorf("a second new Chip: %s", tellChip(b))
		}
		b.Squares[3].Wipes = 5
	}
}

// One answer grows in two ways, and neither is seen in the other one.
func TestPromise21TwoThatGrowFromOne(t *testing.T) {
	for size := int64(2); size <= mostSize; size++ {
		c, _ := impl.NewChip(2, size)
		for range size - 1 {
			left, _ := impl.Did(c, impl.Job{Kind: 1, Square: 0, Text: "left"})
			right, _ := impl.Did(c, impl.Job{Kind: 1, Square: 0, Text: "right"})
			both, _ := impl.DidAll(c, []impl.Job{{Kind: 1, Square: 0, Text: "both"}})
			cut := impl.Cut(c, impl.Job{Kind: 1, Square: 0, Text: "cut"}, 2)
			last := int64(len(c.Squares[0].Pages))
			if impl.PageAt(left, 0, last) != "left" || impl.PageAt(right, 0, last) != "right" || impl.PageAt(both, 0, last) != "both" || impl.PageAt(cut, 0, last) != "cu" {
				t.Errorf("%s, %s, %s and %s", tellChip(left), tellChip(right), tellChip(both), tellChip(cut))
			}
			if impl.PageAt(c, 0, last) != "" || int64(len(c.Squares[0].Pages)) != last {
				t.Errorf("what they grew from became %s", tellChip(c))
			}
			c = left
		}
	}
}

func TestPromise21ChipArgumentsStay(t *testing.T) {
	n := numbers(104)
	for range 1500 {
		c := n.chip()
		if n.below(3) == 0 {
			c = n.wrong(c)
		}
		c, check := guardedChip(t, c)
		jobs, checkJobs := withRoomBehind(t, []impl.Job{n.job(c), n.job(c), n.job(c)}, impl.Job{Text: "mark"})
		impl.ChipOk(c)
		check("ChipOk")
		impl.Did(c, jobs[0])
		check("Did")
		impl.DidAll(c, jobs)
		check("DidAll")
		impl.Cut(c, jobs[0], int64(n.below(9)))
		check("Cut")
		impl.PageAt(c, int64(n.below(12)), int64(n.below(8)))
		check("PageAt")
		checkJobs("all of these")
	}
}

func TestPromise21ChipsNeverPanic(t *testing.T) {
	n := numbers(105)
	far := append(farNumbers(), 0, 1, 2, 3, 4, 5, 6, 8, 9, 12, 13)
	chips := slices.Concat(edgeChips(), wrongChips())
	for range 20000 {
		c := chips[n.below(len(chips))]
		j := impl.Job{Kind: far[n.below(len(far))], Square: far[n.below(len(far))], Text: n.text(n.below(3) * 100)}
		a, b := far[n.below(len(far))], far[n.below(len(far))]
		neverPanics(t, fmt.Sprintf("a call of %s, %s, %d, %d", tellChip(c), tellJob(j), a, b), func() {
			impl.ChipOk(c)
			impl.NewChip(a, b)
			impl.Did(c, j)
			impl.DidAll(c, []impl.Job{j, {Kind: impl.JbWipe}, j})
			impl.Cut(c, j, a)
			impl.PageAt(c, a, b)
		})
	}
}

// What one call does must not show in the next one.
func TestChipsAnswerAgainAlike(t *testing.T) {
	want := aChip()
	want.Squares[1].Pages = []string{"abc", "new"}
	for range 3 {
		checkDid(t, aChip(), impl.Job{Kind: 1, Square: 1, Text: "new"}, want, true)
		checkDid(t, aChip(), impl.Job{Kind: 1, Square: 2, Text: "new"}, aChip(), false)
		checkDid(t, impl.Chip{}, impl.Job{Kind: 2}, impl.Chip{}, false)
		checkDidAll(t, aChip(), nil, aChip(), true)
		checkDidAll(t, aChip(), []impl.Job{{}}, impl.Chip{}, false)
		checkCut(t, aChip(), impl.Job{Kind: 3, Square: 1}, 0, aChip())
		checkPageAt(t, aChip(), 2, 1, "defgh")
	}
}
