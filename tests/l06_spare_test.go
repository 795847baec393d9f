package tests

import (
	"fmt"
	"math"
	"slices"
	"strings"
	"testing"

	"loop.example/g00223/impl"
)

const (
	mostColumns = 8
	mostSpares  = 4
	longestText = 300
)

// plainShare is the Inverse as a Power: a Power of 255 is 1.
func plainShare(column int, spare int) int64 {
	return plainPower(int64(column)^int64(16+spare), 254)
}

func plainSpares(list []string, spares int) []string {
	texts := []string{}
	for j := range spares {
		text := make([]byte, len(list[0]))
		for at := range text {
			for i, column := range list {
				text[at] ^= byte(plainProduct(int64(column[at]), plainShare(i, j)))
			}
		}
		texts = append(texts, string(text))
	}
	return texts
}

// plainDeterminant sums the products over all ways to take one element of each
// row and each column. No sign is asked for: what is taken away is added.
func plainDeterminant(rows [][]int64) int64 {
	sums := map[uint]int64{0: 1}
	for _, row := range rows {
		next := map[uint]int64{}
		for taken, sum := range sums {
			for i, a := range row {
				if taken>>i&1 == 0 {
					next[taken|1<<i] ^= plainProduct(sum, a)
				}
			}
		}
		sums = next
	}
	return sums[1<<len(rows)-1]
}

// plainSolved goes by Cramer's rule.
func plainSolved(rows [][]int64, right []int64) ([]int64, bool) {
	whole := plainDeterminant(rows)
	if whole == 0 {
		return nil, false
	}
	x := []int64{}
	for i := range rows {
		other := [][]int64{}
		for k, row := range rows {
			other = append(other, changed(row, i, right[k]))
		}
		x = append(x, plainProduct(plainDeterminant(other), plainPower(whole, 254)))
	}
	return x, true
}

func solves(rows [][]int64, x []int64, right []int64) bool {
	for i, row := range rows {
		sum := int64(0)
		for k, a := range row {
			sum ^= plainProduct(a, x[k])
		}
		if sum != right[i] {
			return false
		}
	}
	return true
}

// plainRebuilt solves place by place, by the spares that stand first.
func plainRebuilt(list []string, there []bool, columns int) ([]string, bool) {
	lost, used := []int{}, []int{}
	for i, is := range there {
		if i < columns && !is {
			lost = append(lost, i)
		}
		if i >= columns && is {
			used = append(used, i-columns)
		}
	}
	if len(used) < len(lost) {
		return nil, false
	}
	texts := slices.Clone(list[:columns])
	for _, i := range lost {
		texts[i] = ""
	}
	for at := range len(list[columns+used[0]]) {
		rows, right := [][]int64{}, []int64{}
		for _, j := range used[:len(lost)] {
			row, rest := []int64{}, int64(list[columns+j][at])
			for i := range columns {
				if there[i] {
					rest ^= plainProduct(int64(list[i][at]), plainShare(i, j))
				} else {
					row = append(row, plainShare(i, j))
				}
			}
			rows, right = append(rows, row), append(right, rest)
		}
		x, _ := plainSolved(rows, right)
		for k, i := range lost {
			texts[i] += string([]byte{byte(x[k])})
		}
	}
	return texts, true
}

func (n *numbers) texts(count int, size int) []string {
	list := []string{}
	for range count {
		list = append(list, n.text(size))
	}
	return list
}

func (n *numbers) elements(count int) []int64 {
	list := make([]int64, count)
	for i := range list {
		list[i] = int64(n.below(elements))
	}
	return list
}

func (n *numbers) rows(count int) [][]int64 {
	rows := [][]int64{}
	for range count {
		rows = append(rows, n.elements(count))
	}
	return rows
}

// choice is the list of flags whose false ones are the bits of lost.
func choice(count int, lost int) []bool {
	there := make([]bool, count)
	for i := range there {
		there[i] = lost>>i&1 == 0
	}
	return there
}

func noughtText(size int) string {
	return strings.Repeat("\x00", size)
}

func checkSpares(t *testing.T, list []string, spares int64, want []string) {
	t.Helper()
	neverPanics(t, "Spares", func() {
		t.Helper()
		if got := impl.Spares(list, spares); !slices.Equal(got, want) {
			t.Errorf("Spares(%q, %d): %q, not %q", list, spares, got, want)
		}
	})
}

func checkSolved(t *testing.T, rows [][]int64, right []int64, want []int64, wantIs bool) {
	t.Helper()
	neverPanics(t, "Solved", func() {
		t.Helper()
		if got, is := impl.Solved(rows, right); is != wantIs || !slices.Equal(got, want) {
			t.Errorf("Solved(%v, %v): %v and %v, not %v and %v", rows, right, got, is, want, wantIs)
		}
	})
}

func checkRebuilt(t *testing.T, list []string, there []bool, columns int64, want []string, wantIs bool) {
	t.Helper()
	neverPanics(t, "Rebuilt", func() {
		t.Helper()
		if got, is := impl.Rebuilt(list, there, columns); is != wantIs || !slices.Equal(got, want) {
			t.Errorf("Rebuilt(%q, %v, %d): %q and %v, not %q and %v", list, there, columns, got, is, want, wantIs)
		}
	})
}

func checkFits(t *testing.T, list []string, columns int64, want bool) {
	t.Helper()
	neverPanics(t, "Fits", func() {
		t.Helper()
		if got := impl.Fits(list, columns); got != want {
			t.Errorf("Fits(%q, %d): %v", list, columns, got)
		}
	})
}

func wrongCounts() []int64 {
	return []int64{
		0, -1, -2, -8, -256, 1 << 8, 1<<8 + 1, 1<<8 + 2, 1 << 32, 1<<32 + 1, 1<<32 + 2, 1<<32 + 3, -1 << 32, -1<<32 + 1, -1<<32 + 2,
		math.MinInt64, math.MinInt64 + 1, math.MinInt64 + 2, math.MinInt64 + 3, math.MaxInt64, math.MaxInt64 - 1,
	}
}

func TestColumnsOkOfSome(t *testing.T) {
	long := noughtText(longestText)
	for _, list := range [][]string{
		{""}, {"a"}, {long}, {"", ""}, {"a", "b"}, {"a", "a"}, {"ab", "cd", "ef"}, {"\xff\x00", "\u00e9"},
		{"", "", "", "", "", "", "", ""}, {"a", "b", "c", "d", "e", "f", "g", "h"}, {"a", "b", "c", "d", "e", "f", "g"},
		{long, long, long, long, long, long, long, long},
	} {
		if !impl.ColumnsOk(list) {
			t.Errorf("ColumnsOk(%q) is false", list)
		}
	}
}

// wrongColumns are lists that are no columns: too few, too many, too long, or
// unlike in length at the first, one in the middle or the last.
func wrongColumns() [][]string {
	long, longer := noughtText(longestText), noughtText(longestText+1)
	return [][]string{
		nil, {}, {"a", "b", "c", "d", "e", "f", "g", "h", "i"}, {"", "", "", "", "", "", "", "", ""}, make([]string, 10), make([]string, 1000),
		{longer}, {longer, longer}, {long, longer}, {longer, long}, {noughtText(5000)},
		{"", "a"}, {"a", ""}, {"ab", "a"}, {"a", "ab"}, {"a", "a", ""}, {"a", "", "a"}, {"", "a", "a"}, {"a", "b", "c", "d", "e", "f", "g", "hh"},
		{"\u00e9", "e"}, {"e", "\u00e9"},
	}
}

func TestWrongColumns(t *testing.T) {
	for _, list := range wrongColumns() {
		neverPanics(t, "ColumnsOk", func() {
			if impl.ColumnsOk(list) {
				t.Errorf("ColumnsOk(%q) is true", list)
			}
		})
		for _, spares := range append(wrongCounts(), 1, 2, 3, 4, 5) {
			checkSpares(t, list, spares, nil)
		}
		for spares := range 6 {
			whole := slices.Concat(list, make([]string, spares))
			checkFits(t, whole, int64(len(list)), false)
		}
	}
}

func TestSparesOfSome(t *testing.T) {
	for _, c := range []struct {
		list []string
		want []string
	}{
		{[]string{""}, []string{"", "", "", ""}},
		{[]string{"", "", ""}, []string{"", "", "", ""}},
		{[]string{"\x00"}, []string{"\x00", "\x00", "\x00", "\x00"}},
		{[]string{"\x01"}, []string{"\xcf", "\xf7", "\xb7", "\x32"}},
		{[]string{"\xff"}, []string{"\xae", "\x0f", "\xfa", "\x49"}},
		{[]string{"\x01", "\x01"}, []string{"\x38", "\x38", "\x85", "\x85"}},
		{[]string{"\x00", "\x01"}, []string{"\xf7", "\xcf", "\x32", "\xb7"}},
		{[]string{"\x01", "\x00"}, []string{"\xcf", "\xf7", "\xb7", "\x32"}},
		{[]string{"\x00", "\x00", "\x00", "\x00", "\x00", "\x00", "\x00", "\x01"}, []string{"\x14", "\xe8", "\xe9", "\x17"}},
		{[]string{"\x01", "\x01", "\x01", "\x01", "\x01", "\x01", "\x01", "\x01"}, []string{"\xbf", "\xbf", "\xbf", "\xbf"}},
		{[]string{"\x01", "\x02", "\x03", "\x04", "\x05", "\x06", "\x07", "\x08"}, []string{"\x35", "\x33", "\xad", "\x1d"}},
		{[]string{"ab"}, []string{"\xc9\xb5", "\x99\xad", "\x16\xe2", "\xed\xbb"}},
		{[]string{"small ", "square", "s that", " wear ", "out   "}, []string{
			"\x50\x1c\xaf\x95\xc0\x41", "\x59\x25\xb8\x75\x31\xf1", "\xc8\xe0\x1c\xb4\x2e\x7a", "\xe8\x57\xf0\xba\xfd\xd5"}},
	} {
		for spares := range mostSpares {
			checkSpares(t, c.list, int64(spares+1), c.want[:spares+1])
		}
	}
}

func TestSparesAreTheSums(t *testing.T) {
	n := numbers(61)
	for columns := 1; columns <= mostColumns; columns++ {
		for spares := 1; spares <= mostSpares; spares++ {
			for _, size := range []int{0, 1, 2, 3, 17, 299, 300} {
				list := n.texts(columns, size)
				checkSpares(t, list, int64(spares), plainSpares(list, spares))
			}
		}
	}
}

func TestSparesOfEveryByte(t *testing.T) {
	text := make([]byte, elements)
	for i := range text {
		text[i] = byte(i)
	}
	for columns := 1; columns <= mostColumns; columns++ {
		for at := range columns {
			list := slices.Repeat([]string{noughtText(elements)}, columns)
			list[at] = string(text)
			checkSpares(t, list, mostSpares, plainSpares(list, mostSpares))
		}
	}
}

func TestSparesOfAWrongNumber(t *testing.T) {
	for _, list := range [][]string{{""}, {"a"}, {"ab", "cd"}, slices.Repeat([]string{noughtText(longestText)}, mostColumns)} {
		for _, spares := range append(wrongCounts(), 5, 6, 8, 9) {
			checkSpares(t, list, spares, nil)
		}
	}
}

func TestSolvedOfSome(t *testing.T) {
	for _, c := range []struct {
		rows  [][]int64
		right []int64
		want  []int64
	}{
		{[][]int64{{1}}, []int64{0}, []int64{0}},
		{[][]int64{{1}}, []int64{255}, []int64{255}},
		{[][]int64{{2}}, []int64{45}, []int64{128}},
		{[][]int64{{255}}, []int64{1}, []int64{156}},
		{[][]int64{{255}}, []int64{255}, []int64{1}},
		{[][]int64{{1, 1}, {0, 2}}, []int64{7, 6}, []int64{4, 3}},
		{[][]int64{{1, 0}, {0, 1}}, []int64{7, 9}, []int64{7, 9}},
		{[][]int64{{0, 1}, {1, 0}}, []int64{7, 9}, []int64{9, 7}},
		{[][]int64{{0, 2}, {3, 4}}, []int64{6, 5}, []int64{7, 3}},
		{[][]int64{{1, 2}, {3, 4}}, []int64{5, 6}, []int64{12, 146}},
		{[][]int64{{255, 254}, {253, 252}}, []int64{251, 250}, []int64{132, 18}},
		{[][]int64{{1, 1}, {2, 3}}, []int64{255, 0}, []int64{44, 211}},
		{[][]int64{{1, 2}, {3, 4}}, []int64{0, 0}, []int64{0, 0}},
		{[][]int64{{0, 0, 1}, {0, 1, 0}, {1, 0, 0}}, []int64{1, 2, 3}, []int64{3, 2, 1}},
		{[][]int64{{0, 0, 1}, {1, 0, 0}, {0, 1, 0}}, []int64{1, 2, 3}, []int64{2, 3, 1}},
		{[][]int64{{0, 1, 0}, {0, 0, 1}, {1, 0, 0}}, []int64{1, 2, 3}, []int64{3, 1, 2}},
		{[][]int64{{1, 1, 0}, {1, 1, 1}, {0, 1, 1}}, []int64{1, 2, 3}, []int64{1, 0, 3}},
	} {
		checkSolved(t, c.rows, c.right, c.want, true)
	}
}

func TestSolvedOfRowsWithNoneOrMoreThanOne(t *testing.T) {
	for _, c := range []struct {
		rows  [][]int64
		right []int64
	}{
		{[][]int64{{0}}, []int64{0}}, {[][]int64{{0}}, []int64{1}}, {[][]int64{{0}}, []int64{255}},
		{[][]int64{{0, 0}, {0, 0}}, []int64{0, 0}},
		{[][]int64{{1, 2}, {1, 2}}, []int64{5, 5}}, // alike, and with more than one
		{[][]int64{{1, 2}, {1, 2}}, []int64{5, 6}}, // alike, and with none
		{[][]int64{{1, 2}, {2, 4}}, []int64{5, 10}}, {[][]int64{{1, 2}, {2, 4}}, []int64{5, 6}},
		{[][]int64{{1, 2}, {0, 0}}, []int64{5, 0}}, {[][]int64{{0, 0}, {1, 2}}, []int64{0, 5}}, {[][]int64{{0, 0}, {1, 2}}, []int64{1, 5}},
		{[][]int64{{0, 1}, {0, 2}}, []int64{0, 0}}, {[][]int64{{1, 0}, {2, 0}}, []int64{3, 6}},
		{[][]int64{{1, 1, 0}, {0, 1, 1}, {1, 0, 1}}, []int64{1, 2, 3}}, // the third is the sum of the first two
		{[][]int64{{1, 1, 0}, {0, 1, 1}, {1, 0, 1}}, []int64{1, 2, 4}},
		{[][]int64{{0, 1, 2}, {3, 0, 4}, {5, 6, 0}}, []int64{7, 8, 9}},
		{[][]int64{{1, 0, 0}, {0, 1, 0}, {0, 1, 0}}, []int64{1, 2, 2}}, {[][]int64{{1, 0, 0}, {0, 1, 0}, {1, 0, 0}}, []int64{1, 2, 1}},
		{[][]int64{{1, 0, 0}, {0, 1, 0}, {0, 0, 0}}, []int64{1, 2, 0}}, {[][]int64{{1, 0, 0}, {0, 0, 1}, {0, 0, 2}}, []int64{1, 2, 4}},
	} {
		checkSolved(t, c.rows, c.right, nil, false)
	}
}

func TestSolvedOfEveryOne(t *testing.T) {
	for a := range int64(elements) {
		for right := range int64(elements) {
			if a == 0 {
				checkSolved(t, [][]int64{{a}}, []int64{right}, nil, false)
			} else {
				checkSolved(t, [][]int64{{a}}, []int64{right}, []int64{impl.Over(right, a)}, true)
			}
		}
	}
}

// Every x is tried: just where one alone solves, Solved tells it.
func TestSolvedOfTwoIsTheOnlyOne(t *testing.T) {
	n := numbers(62)
	for trial := range 60 {
		rows, right := n.rows(2), n.elements(2)
		if trial%3 == 0 {
			factor := int64(n.below(elements))
			rows[1] = []int64{plainProduct(rows[0][0], factor), plainProduct(rows[0][1], factor)}
		}
		if trial%6 == 0 {
			right[1] = plainProduct(right[0], 9)
		}
		found := [][]int64{}
		for a := range int64(elements) {
			for b := range int64(elements) {
				if solves(rows, []int64{a, b}, right) {
					found = append(found, []int64{a, b})
				}
			}
		}
		if len(found) == 1 {
			checkSolved(t, rows, right, found[0], true)
		} else {
			checkSolved(t, rows, right, nil, false)
		}
	}
}

func TestSolvedIsByTheDeterminants(t *testing.T) {
	n := numbers(63)
	for count := 1; count <= mostColumns; count++ {
		for trial := range 120 / count {
			rows, right := n.rows(count), n.elements(count)
			// Few elements and many noughts: rows must change places, and some
			// have no solution.
			for _, row := range rows {
				for i := range row {
					if trial%2 == 0 {
						row[i] %= 2
					} else if n.below(3) > 0 {
						row[i] = 0
					}
				}
			}
			want, wantIs := plainSolved(rows, right)
			checkSolved(t, rows, right, want, wantIs)
		}
	}
}

func TestSolvedSolves(t *testing.T) {
	n := numbers(64)
	for count := 1; count <= mostColumns; count++ {
		found := 0
		for range 300 {
			rows, x := n.rows(count), n.elements(count)
			right := []int64{}
			for _, row := range rows {
				sum := int64(0)
				for k, a := range row {
					sum ^= plainProduct(a, x[k])
				}
				right = append(right, sum)
			}
			got, is := impl.Solved(rows, right)
			if is {
				found++
				if !slices.Equal(got, x) || !solves(rows, got, right) {
					t.Fatalf("Solved(%v, %v): %v, not %v", rows, right, got, x)
				}
			}
		}
		if found < 290 {
			t.Errorf("of 300 systems of %d only %d are solved", count, found)
		}
	}
}

func TestSolvedOfRowsThatChangePlaces(t *testing.T) {
	n := numbers(65)
	for count := 1; count <= mostColumns; count++ {
		for range 40 {
			order := []int{}
			for i := range count {
				order = slices.Insert(order, n.below(i+1), i)
			}
			rows, want, right := [][]int64{}, n.elements(count), []int64{}
			for _, at := range order {
				rows = append(rows, changed(make([]int64, count), at, 7))
				right = append(right, plainProduct(7, want[at]))
			}
			checkSolved(t, rows, right, want, true)
		}
	}
}

func TestSolvedOfTwoAlikeRows(t *testing.T) {
	n := numbers(66)
	for count := 2; count <= mostColumns; count++ {
		for a := range count {
			for b := range a {
				rows, right := n.rows(count), n.elements(count)
				rows[a] = rows[b]
				checkSolved(t, rows, right, nil, false)
				right[a] = right[b]
				checkSolved(t, rows, right, nil, false)
				// The same list twice is as good as two alike.
				rows[a] = slices.Clone(rows[b])
				checkSolved(t, rows, right, nil, false)
			}
		}
	}
}

func oneRows(count int) [][]int64 {
	rows := [][]int64{}
	for i := range count {
		rows = append(rows, changed(make([]int64, count), i, 1))
	}
	return rows
}

func TestSolvedAtTheLimits(t *testing.T) {
	for count := range 20 {
		right := slices.Repeat([]int64{200}, count)
		if count >= 1 && count <= mostColumns {
			checkSolved(t, oneRows(count), right, right, true)
		} else {
			checkSolved(t, oneRows(count), right, nil, false)
		}
	}
	checkSolved(t, nil, nil, nil, false)
	checkSolved(t, nil, []int64{1}, nil, false)
	checkSolved(t, [][]int64{{1}}, nil, nil, false)
	checkSolved(t, [][]int64{nil}, nil, nil, false)
	checkSolved(t, [][]int64{nil}, []int64{1}, nil, false)
	checkSolved(t, [][]int64{{}}, []int64{1}, nil, false)
}

func TestSolvedOfWrongLengths(t *testing.T) {
	for count := 1; count <= mostColumns; count++ {
		right := slices.Repeat([]int64{3}, count)
		checkSolved(t, oneRows(count), right[:count-1], nil, false)
		checkSolved(t, oneRows(count), append(slices.Clone(right), 3), nil, false)
		checkSolved(t, oneRows(count)[:count-1], right, nil, false)
		checkSolved(t, oneRows(count + 1)[:count], right, nil, false)
		checkSolved(t, append(oneRows(count), make([]int64, count)), right, nil, false)
		checkSolved(t, append(oneRows(count), make([]int64, count)), append(slices.Clone(right), 0), nil, false)
		for at := range count {
			short, long, none := oneRows(count), oneRows(count), oneRows(count)
			short[at] = short[at][:count-1]
			long[at] = append(long[at], 0)
			none[at] = nil
			checkSolved(t, short, right, nil, false)
			checkSolved(t, long, right, nil, false)
			checkSolved(t, none, right, nil, false)
		}
	}
}

func TestSolvedOfNoElements(t *testing.T) {
	for _, count := range []int{1, 2, 3, 8} {
		right := slices.Repeat([]int64{3}, count)
		for _, wrong := range wrongElements() {
			for at := range count {
				checkSolved(t, oneRows(count), changed(right, at, wrong), nil, false)
				for place := range count {
					rows := oneRows(count)
					rows[at][place] = wrong
					checkSolved(t, rows, right, nil, false)
				}
			}
		}
	}
}

func TestPromise6EveryChoiceOfLostOnes(t *testing.T) {
	n := numbers(67)
	for columns := 1; columns <= mostColumns; columns++ {
		for spares := 1; spares <= mostSpares; spares++ {
			list := n.texts(columns, 3)
			whole := slices.Concat(list, impl.Spares(list, int64(spares)))
			for lost := range 1 << (columns + spares) {
				there := choice(columns+spares, lost)
				lostColumns := onesOf(int64(lost & (1<<columns - 1)))
				lostSpares := onesOf(int64(lost >> columns))
				if lostColumns+lostSpares <= spares {
					checkRebuilt(t, whole, there, int64(columns), list, true)
				} else {
					checkRebuilt(t, whole, there, int64(columns), nil, false)
				}
			}
		}
	}
}

// What is lost may be anything, and stays out of what is told.
func TestRebuiltWhateverTheLostOnesAre(t *testing.T) {
	n := numbers(68)
	junk := []string{"", "?", "????", noughtText(4), noughtText(longestText), noughtText(longestText + 1), noughtText(9000), "\u20ac\u20ac"}
	for range 3000 {
		columns, spares := 1+n.below(mostColumns), 1+n.below(mostSpares)
		list := n.texts(columns, 1+n.below(6))
		whole := slices.Concat(list, impl.Spares(list, int64(spares)))
		there := choice(columns+spares, 0)
		for range spares {
			at := n.below(columns + spares)
			there[at] = false
			whole[at] = junk[n.below(len(junk))]
		}
		checkRebuilt(t, whole, there, int64(columns), list, true)
	}
}

func TestRebuiltOfSizes(t *testing.T) {
	n := numbers(69)
	for _, size := range []int{0, 1, 2, 100, 255, 256, 299, 300} {
		for _, columns := range []int{1, 2, 4, 5, 8} {
			for spares := 1; spares <= mostSpares; spares++ {
				list := n.texts(columns, size)
				whole := slices.Concat(list, impl.Spares(list, int64(spares)))
				for range 4 {
					there := choice(columns+spares, 0)
					for range spares {
						there[n.below(columns+spares)] = false
					}
					checkRebuilt(t, whole, there, int64(columns), list, true)
				}
			}
		}
	}
	// One byte more than a text may have.
	for _, columns := range []int{1, 2, 8} {
		list := slices.Repeat([]string{noughtText(longestText + 1)}, columns+2)
		checkRebuilt(t, list, choice(columns+2, 0), int64(columns), nil, false)
		checkRebuilt(t, list, choice(columns+2, 1), int64(columns), nil, false)
		checkRebuilt(t, list, choice(columns+2, 2), int64(columns), nil, false)
	}
}

// Only so many spares are asked as columns are lost, the first that are there:
// texts that are no spares at all tell which.
func TestRebuiltIsByTheFirstSparesThatAreThere(t *testing.T) {
	n := numbers(70)
	for columns := 1; columns <= mostColumns; columns++ {
		for spares := 1; spares <= mostSpares; spares++ {
			for range 60 {
				list := n.texts(columns+spares, 2)
				there := choice(columns+spares, n.below(1<<(columns+spares)))
				for !slices.Contains(there, true) || !slices.Contains(there[columns:], true) {
					there = choice(columns+spares, n.below(1<<(columns+spares)))
				}
				want, wantIs := plainRebuilt(list, there, columns)
				checkRebuilt(t, list, there, int64(columns), want, wantIs)
			}
		}
	}
}

func TestRebuiltWhereNoneIsLost(t *testing.T) {
	// The columns are told as they are, even where the spares are none of theirs.
	checkRebuilt(t, []string{"ab", "cd", "??"}, []bool{true, true, true}, 2, []string{"ab", "cd"}, true)
	checkRebuilt(t, []string{"ab", "cd", "", "?????"}, []bool{true, true, false, false}, 2, []string{"ab", "cd"}, true)
	checkRebuilt(t, []string{"", ""}, []bool{true, true}, 1, []string{""}, true)
	checkRebuilt(t, []string{"", "a"}, []bool{true, false}, 1, []string{""}, true)
}

func TestRebuiltOfUnlikeLengths(t *testing.T) {
	list := []string{"ab", "cd", "ef", "gh", "ij"}
	for at := range list {
		for _, other := range []string{"", "a", "abc", noughtText(longestText + 1)} {
			whole := slices.Clone(list)
			whole[at] = other
			for lost := range 1 << len(list) {
				there := choice(len(list), lost)
				if there[at] && onesOf(int64(lost)) < len(list)-1 {
					checkRebuilt(t, whole, there, 3, nil, false)
				}
			}
		}
	}
	// Where it stands alone, its length is that of all.
	checkRebuilt(t, []string{"abcd", "\x00"}, []bool{false, true}, 1, []string{"\x00"}, true)
	checkRebuilt(t, []string{"abcd", ""}, []bool{false, true}, 1, []string{""}, true)
}

func TestRebuiltWhereAllAreLost(t *testing.T) {
	for columns := 1; columns <= mostColumns; columns++ {
		for spares := 1; spares <= mostSpares; spares++ {
			count := columns + spares
			checkRebuilt(t, make([]string, count), make([]bool, count), int64(columns), nil, false)
			checkRebuilt(t, slices.Repeat([]string{"abc"}, count), make([]bool, count), int64(columns), nil, false)
		}
	}
}

func TestRebuiltOfWrongFlags(t *testing.T) {
	list := []string{"ab", "cd", "ef", "gh"}
	for count := range 20 {
		for _, flag := range []bool{false, true} {
			there := slices.Repeat([]bool{flag}, count)
			if count == len(list) && flag {
				checkRebuilt(t, list, there, 2, []string{"ab", "cd"}, true)
			} else {
				checkRebuilt(t, list, there, 2, nil, false)
			}
		}
	}
	checkRebuilt(t, list, nil, 2, nil, false)
	checkRebuilt(t, nil, []bool{true, true}, 1, nil, false)
	checkRebuilt(t, nil, nil, 0, nil, false)
	checkRebuilt(t, nil, nil, 1, nil, false)
}

// Both Rebuilt and Fits want 1 to 8 columns and 1 to 4 spares behind them.
func TestWrongNumbersOfColumnsAndSpares(t *testing.T) {
	for count := range 16 {
		list := slices.Repeat([]string{"\x00\x00"}, count)
		for columns := int64(-3); columns <= 20; columns++ {
			spares := int64(count) - columns
			right := columns >= 1 && columns <= mostColumns && spares >= 1 && spares <= mostSpares
			checkFits(t, list, columns, right)
			if right {
				checkRebuilt(t, list, choice(count, 0), columns, list[:columns], true)
				checkRebuilt(t, list, choice(count, 1), columns, list[:columns], true)
			} else {
				checkRebuilt(t, list, choice(count, 0), columns, nil, false)
				checkRebuilt(t, list, choice(count, 1), columns, nil, false)
			}
		}
		for _, columns := range wrongCounts() {
			checkFits(t, list, columns, false)
			checkRebuilt(t, list, choice(count, 0), columns, nil, false)
			checkRebuilt(t, list, choice(count, 1), columns, nil, false)
		}
	}
	// No spare: neither of right nor of wrong columns.
	checkFits(t, []string{"ab"}, 1, false)
	checkFits(t, []string{"ab", "c"}, 2, false)
	checkFits(t, nil, 0, false)
	// Five: four are right.
	five := []string{"\x01", "\xcf", "\xf7", "\xb7", "\x32"}
	checkFits(t, five, 1, true)
	checkFits(t, append(five, "\x00"), 1, false)
	checkFits(t, append(five[:5:5], "\x01"), 1, false)
}

func TestFitsOfSparesBehindTheirColumns(t *testing.T) {
	n := numbers(71)
	for columns := 1; columns <= mostColumns; columns++ {
		for spares := 1; spares <= mostSpares; spares++ {
			for _, size := range []int{0, 1, 5, 300} {
				list := n.texts(columns, size)
				whole := slices.Concat(list, impl.Spares(list, int64(spares)))
				checkFits(t, whole, int64(columns), true)
				checkFits(t, slices.Concat(list, plainSpares(list, spares)), int64(columns), true)
			}
		}
	}
}

func TestFitsOfOneOtherByte(t *testing.T) {
	n := numbers(72)
	for columns := 1; columns <= mostColumns; columns++ {
		for spares := 1; spares <= mostSpares; spares++ {
			list := n.texts(columns, 4)
			whole := slices.Concat(list, impl.Spares(list, int64(spares)))
			for at := range whole {
				for place := range 4 {
					text := []byte(whole[at])
					text[place] ^= byte(1 + n.below(255))
					other := slices.Clone(whole)
					other[at] = string(text)
					checkFits(t, other, int64(columns), false)
				}
				for _, text := range []string{"", whole[at][:3], whole[at] + "\x00"} {
					other := slices.Clone(whole)
					other[at] = text
					checkFits(t, other, int64(columns), false)
				}
			}
		}
	}
}

func TestFitsOfSparesInAnotherOrder(t *testing.T) {
	list := []string{"ab", "cd", "ef"}
	spares := impl.Spares(list, 4)
	checkFits(t, slices.Concat(list, spares[:2]), 3, true)
	checkFits(t, slices.Concat(list, spares[1:]), 3, false)
	checkFits(t, slices.Concat(list, []string{spares[1], spares[0]}), 3, false)
	checkFits(t, []string{"cd", "ab", "ef", spares[0]}, 3, false)
}

// withRoomBehind is withSpareRoom of any list.
func withRoomBehind[T comparable](t *testing.T, list []T, mark T) ([]T, func(what string)) {
	t.Helper()
	whole := slices.Clone(list)
	for range 16 {
		whole = append(whole, mark)
	}
	before := slices.Clone(whole)
	check := func(what string) {
		t.Helper()
		if !slices.Equal(whole, before) {
			t.Errorf("%s: an argument or the room behind it was written to", what)
		}
	}
	return whole[:len(list)], check
}

func TestPromise21SolvedLeavesItsArguments(t *testing.T) {
	n := numbers(73)
	for count := 1; count <= mostColumns+1; count++ {
		for trial := range 30 {
			rows, right := n.rows(count), n.elements(count)
			if trial%2 == 0 {
				rows[0][0] = 0
			}
			if trial%5 == 0 {
				rows[count-1] = slices.Clone(rows[0])
			}
			checks := []func(string){}
			whole := make([][]int64, 0, count+4)
			for _, row := range rows {
				guarded, check := withSpareRoom(t, row)
				whole, checks = append(whole, guarded), append(checks, check)
			}
			firsts := []*int64{}
			for _, row := range whole {
				firsts = append(firsts, &row[0])
			}
			guarded, check := withSpareRoom(t, right)
			checks = append(checks, check)
			x, _ := impl.Solved(whole, guarded)
			overwrite(x)
			for _, check := range checks {
				check("Solved")
			}
			for i, row := range whole[:cap(whole)] {
				if (i < count && &row[0] != firsts[i]) || (i >= count && row != nil) {
					t.Errorf("Solved of %d rows exchanged the argument's own", count)
				}
			}
		}
	}
}

func TestPromise21SpareTextsAreNewMemory(t *testing.T) {
	n := numbers(74)
	for _, size := range []int{2, 7, 300} {
		for columns := 1; columns <= mostColumns; columns++ {
			list := n.texts(columns, size)
			copies := []string{}
			for _, s := range list {
				copies = append(copies, strings.Clone(s))
			}
			guarded, check := withRoomBehind(t, list, "mark")
			spares := impl.Spares(guarded, mostSpares)
			check("Spares")
			whole := slices.Concat(list, spares)
			flags := choice(len(whole), 1<<(columns-1)|1<<columns)
			guarded, check = withRoomBehind(t, whole, "mark")
			there, checkThere := withRoomBehind(t, flags, false)
			rebuilt, is := impl.Rebuilt(guarded, there, int64(columns))
			if !is || !impl.Fits(guarded, int64(columns)) || !impl.ColumnsOk(guarded[:columns]) {
				t.Errorf("%d columns are not rebuilt", columns)
			}
			check("Rebuilt")
			checkThere("Rebuilt")
			told := slices.Concat(spares, rebuilt)
			for i, s := range told {
				for _, other := range slices.Concat(list, told[:i]) {
					if sharesMemory(s, other) {
						t.Errorf("answers of %d columns of %d bytes share memory", columns, size)
					}
				}
			}
			overwriteTexts(spares)
			overwriteTexts(rebuilt)
			check("the answers")
			if !slices.Equal(list, copies) {
				t.Errorf("columns of %d bytes were written to", size)
			}
		}
	}
}

func overwriteTexts(list []string) {
	list = list[:cap(list)]
	for i := range list {
		list[i] = "overwritten"
	}
}

func TestPromise21SpareNeverPanics(t *testing.T) {
	n := numbers(75)
	texts := []string{"", "a", "b", "ab", "\xff", "\u20ac", noughtText(longestText), noughtText(longestText + 1)}
	for range 4000 {
		list, there := []string{}, []bool{}
		for range n.below(15) {
			list = append(list, texts[n.below(len(texts))])
		}
		for range max(0, len(list)-1+n.below(3)) {
			there = append(there, n.below(3) > 0)
		}
		count := int64(n.below(14) - 2)
		if wrong := wrongCounts(); n.below(4) == 0 {
			count = wrong[n.below(len(wrong))]
		}
		neverPanics(t, fmt.Sprintf("a call of %q, %v, %d", list, there, count), func() {
			impl.ColumnsOk(list)
			impl.Spares(list, count)
			impl.Rebuilt(list, there, count)
			impl.Fits(list, count)
		})
	}
	for range 4000 {
		rows := [][]int64{}
		for range n.below(11) {
			rows = append(rows, n.elements(n.below(11)))
		}
		right := n.elements(n.below(11))
		neverPanics(t, fmt.Sprintf("Solved(%v, %v)", rows, right), func() { impl.Solved(rows, right) })
	}
}

func TestSpareAnswersAgainAlike(t *testing.T) {
	for range 3 {
		checkSpares(t, []string{"\x01\x02", "\x03\x04", "\xfa\x00"}, 2, []string{"\x30\x18", "\x38\x88"})
		checkRebuilt(t, []string{"\x01\x02", "", "\xfa\x00", "", "\x38\x88"}, []bool{true, false, true, false, true}, 3,
			[]string{"\x01\x02", "\x03\x04", "\xfa\x00"}, true)
		checkSolved(t, [][]int64{{1, 1}, {0, 2}}, []int64{7, 6}, []int64{4, 3}, true)
		checkSpares(t, []string{"a"}, 0, nil)
		checkFits(t, []string{"\x01\x02", "\x03\x04", "\xfa\x00", "\x30\x18"}, 3, true)
	}
}
