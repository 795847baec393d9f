package tests

import (
	"fmt"
	"math"
	"math/big"
	"testing"

	"loop.example/g00223/impl"
)

const (
	mostTime  = 1 << 40
	mostDrift = 100000
)

// plainScaled is value times by, over that, and what the division leaves; the
// product has as many digits as it needs.
func plainScaled(value int64, by int64, over int64) (int64, int64) {
	product := new(big.Int).Mul(big.NewInt(value), big.NewInt(by))
	quotient, left := product.QuoRem(product, big.NewInt(over), new(big.Int))
	return quotient.Int64(), left.Int64()
}

func plainTimeOk(time int64) bool {
	return uint64(time) <= mostTime
}

func plainDriftOk(drift int64) bool {
	return uint64(drift) <= mostDrift
}

// plainRight holds the three products of the chapter against each other.
func plainRight(r int64, n int64, drift int64) bool {
	if !plainTimeOk(r) || !plainDriftOk(drift) {
		return false
	}
	times := func(a int64, b int64) *big.Int { return new(big.Int).Mul(big.NewInt(a), big.NewInt(b)) }
	shown := times(1000000, n)
	return times(r, 1000000-drift).Cmp(shown) <= 0 && shown.Cmp(times(r, 1000000+drift)) <= 0
}

func plainLeast(r int64, drift int64) int64 {
	if !plainTimeOk(r) || !plainDriftOk(drift) {
		return -1
	}
	least, left := plainScaled(r, 1000000-drift, 1000000)
	if left > 0 {
		return least + 1
	}
	return least
}

// plainGreatest is asked only of what is in range.
func plainGreatest(r int64, drift int64) int64 {
	greatest, _ := plainScaled(r, 1000000+drift, 1000000)
	return greatest
}

func plainMine(length int64, drift int64) int64 {
	if !plainTimeOk(length) || !plainDriftOk(drift) {
		return -1
	}
	held, _ := plainScaled(length, 1000000-drift, 1000000+drift)
	if held == 0 {
		return 0
	}
	return held - 1
}

func plainYours(length int64, drift int64) int64 {
	if !plainTimeOk(length) || !plainDriftOk(drift) {
		return -1
	}
	waited, _ := plainScaled(length, 1000000+drift, 1000000-drift)
	return waited + 1
}

func plainHolds(from int64, now int64, length int64, drift int64) bool {
	if !plainTimeOk(from) || !plainTimeOk(now) || !plainTimeOk(length) || !plainDriftOk(drift) {
		return false
	}
	return from <= now && now < from+plainMine(length, drift)
}

func checkRight(t *testing.T, r int64, n int64, drift int64, want bool) {
	t.Helper()
	if got := impl.Right(r, n, drift); got != want {
		t.Errorf("Right(%d, %d, %d): %v, not %v", r, n, drift, got, want)
	}
}

func checkLeast(t *testing.T, r int64, drift int64, want int64) {
	t.Helper()
	if got := impl.Least(r, drift); got != want {
		t.Errorf("Least(%d, %d): %d, not %d", r, drift, got, want)
	}
}

func checkMine(t *testing.T, length int64, drift int64, want int64) {
	t.Helper()
	if got := impl.Mine(length, drift); got != want {
		t.Errorf("Mine(%d, %d): %d, not %d", length, drift, got, want)
	}
}

func checkYours(t *testing.T, length int64, drift int64, want int64) {
	t.Helper()
	if got := impl.Yours(length, drift); got != want {
		t.Errorf("Yours(%d, %d): %d, not %d", length, drift, got, want)
	}
}

func checkHolds(t *testing.T, from int64, now int64, length int64, drift int64, want bool) {
	t.Helper()
	if got := impl.Holds(from, now, length, drift); got != want {
		t.Errorf("Holds(%d, %d, %d, %d): %v, not %v", from, now, length, drift, got, want)
	}
}

// checkSpan holds the three functions of one time and a drift against the plain ones.
func checkSpan(t *testing.T, time int64, drift int64) {
	t.Helper()
	checkLeast(t, time, drift, plainLeast(time, drift))
	checkMine(t, time, drift, plainMine(time, drift))
	checkYours(t, time, drift, plainYours(time, drift))
}

// checkCounts asks for the least and the greatest right count, and for those
// beside them and farther off. time and drift are in range.
func checkCounts(t *testing.T, time int64, drift int64) {
	t.Helper()
	least, greatest := plainLeast(time, drift), plainGreatest(time, drift)
	checkLeast(t, time, drift, least)
	checkRight(t, time, impl.Least(time, drift), drift, true)
	checkRight(t, time, impl.Least(time, drift)-1, drift, false)
	for _, n := range []int64{least, least + (greatest-least)/2, time, greatest} {
		checkRight(t, time, n, drift, true)
	}
	for _, n := range []int64{least - 1, least - 2, greatest + 1, greatest + 2, -1, -time - 1, -least - 1, 2*time + 1, math.MinInt64, math.MaxInt64} {
		checkRight(t, time, n, drift, false)
	}
}

// checkHeld asks about each edge of a lease that begins at from.
func checkHeld(t *testing.T, from int64, length int64, drift int64) {
	t.Helper()
	mine := plainMine(length, drift)
	for _, later := range []int64{-from - 1, -from, -mine - 1, -mine, -2, -1, 0, 1, mine / 2, mine - 2, mine - 1, mine, mine + 1, length - 1, length, length + 1, mostTime - from, mostTime - from + 1} {
		checkHolds(t, from, from+later, length, drift, plainHolds(from, from+later, length, drift))
	}
}

// edgeDrifts has two on each side that are out of range.
func edgeDrifts() []int64 {
	return []int64{-2, -1, 0, 1, 2, 3, 10, 999, 10000, 50000, 99999, 100000, 100001, 100002}
}

func rightDrifts() []int64 {
	return []int64{0, 1, 2, 3, 7, 10, 64, 100, 999, 1000, 4096, 10000, 33333, 50000, 65536, 90909, 99999, 100000}
}

// edgeTimes has some on each side that are out of range.
func edgeTimes() []int64 {
	return []int64{-2, -1, 0, 1, 2, 3, 9, 10, 11, 999, 1000, 999999, 1000000, 1000001, 1 << 31, 1 << 32, 1<<32 + 1, mostTime / 2, mostTime - 1, mostTime, mostTime + 1, mostTime + 2, 2 * mostTime}
}

// farTimes are out of range; times a million or so many of them wrap round to
// what is in range.
func farTimes() []int64 {
	return []int64{
		math.MinInt64, math.MinInt64 + 1, math.MinInt64 + 1000, -1 << 62, -1 << 58, -1<<58 + 1, -1 << 44, -mostTime - 1, -mostTime, -1 << 32, -1000000, -2, -1,
		mostTime + 1, mostTime + 2, 1 << 41, 1 << 44, 1 << 58, 1<<58 + 1, 1<<58 + 1000, 1 << 59, 1 << 62, 1<<62 + 1, 1<<62 + mostTime, math.MaxInt64 - 1000, math.MaxInt64 - 1, math.MaxInt64,
	}
}

// farDrifts are out of range; with some of them a million less or more is 0 or
// wraps round.
func farDrifts() []int64 {
	return []int64{
		-1, -2, -100, -100000, -100001, -999999, -1000000, -1000001, -1 << 32, 100001, 100002, 999999, 1000000, 1000001, 2000000, 1 << 32, 1<<32 + 1, 1<<32 + 1000,
		math.MinInt64, math.MinInt64 + 1, math.MinInt64 + 1000000, math.MaxInt64, math.MaxInt64 - 1, math.MaxInt64 - 1000000, math.MaxInt64 - 999999,
	}
}

func (n *numbers) time() int64 {
	time := int64(n.below(1<<20))<<20 + int64(n.below(1<<20))
	return time >> n.below(40)
}

func (n *numbers) drift() int64 {
	switch n.below(6) {
	case 0:
		return rightDrifts()[n.below(len(rightDrifts()))]
	case 1:
		return int64(n.below(100))
	}
	return int64(n.below(mostDrift + 1))
}

func TestMaxTime(t *testing.T) {
	if impl.MaxTime != 1<<40 {
		t.Errorf("MaxTime is %d", int64(impl.MaxTime))
	}
}

func TestRightCounts(t *testing.T) {
	for _, c := range []struct {
		r, n, drift int64
		want        bool
	}{
		{1000, 990, 10000, true}, {1000, 989, 10000, false}, {1000, 1010, 10000, true}, {1000, 1011, 10000, false}, {1000, 1000, 10000, true},
		{1001, 990, 10000, false}, {1001, 991, 10000, true}, {1001, 1011, 10000, true}, {1001, 1012, 10000, false},
		{10, 9, 100000, true}, {10, 8, 100000, false}, {10, 11, 100000, true}, {10, 12, 100000, false},
		{9, 9, 100000, true}, {9, 8, 100000, false}, {9, 10, 100000, false}, {11, 10, 100000, true}, {11, 9, 100000, false}, {11, 12, 100000, true}, {11, 13, 100000, false},
		{0, 0, 0, true}, {0, 0, 100000, true}, {0, 1, 100000, false}, {0, -1, 100000, false}, {1, 1, 0, true}, {1, 1, 100000, true}, {1, 0, 100000, false}, {1, 2, 100000, false},
		{1000000, 999999, 1, true}, {1000000, 999998, 1, false}, {1000000, 1000001, 1, true}, {1000000, 1000002, 1, false}, {999999, 999998, 1, false}, {999999, 1000000, 1, false},
		{mostTime, mostTime, 0, true}, {mostTime, 989560464999, 100000, true}, {mostTime, 989560464998, 100000, false}, {mostTime, 1209462790553, 100000, true}, {mostTime, 1209462790554, 100000, false},
	} {
		checkRight(t, c.r, c.n, c.drift, c.want)
	}
}

func TestLeastCounts(t *testing.T) {
	for _, c := range []struct{ r, drift, want int64 }{
		{1000, 10000, 990}, {1001, 10000, 991}, {1100, 10000, 1089}, {0, 0, 0}, {0, 1, 0}, {0, 100000, 0}, {1, 0, 1}, {1, 1, 1}, {1, 100000, 1}, {9, 100000, 9}, {10, 100000, 9}, {11, 100000, 10}, {19, 100000, 18}, {20, 100000, 18},
		{1000000, 1, 999999}, {999999, 1, 999999}, {1000001, 1, 1000000}, {mostTime, 0, mostTime}, {mostTime, 1, 1099510528265}, {mostTime, 100000, 989560464999},
	} {
		checkLeast(t, c.r, c.drift, c.want)
	}
}

func TestMineIsHeld(t *testing.T) {
	for _, c := range []struct{ length, drift, want int64 }{
		{1000, 10000, 979}, {1000, 0, 999}, {1000, 1, 998}, {1000, 100000, 817}, {11, 100000, 8}, {10, 100000, 7}, {22, 100000, 17}, {12, 100000, 8},
		{0, 0, 0}, {0, 1, 0}, {0, 100000, 0}, {1, 0, 0}, {1, 1, 0}, {1, 100000, 0}, {2, 0, 1}, {2, 1, 0}, {2, 100000, 0}, {3, 1, 1}, {3, 100000, 1}, {4, 100000, 2},
		{1000001, 1, 999998}, {1000000, 1, 999997}, {mostTime, 0, mostTime - 1}, {mostTime, 1, 1099509428753}, {mostTime, 100000, 899600422724},
	} {
		checkMine(t, c.length, c.drift, c.want)
	}
}

func TestYoursIsWaited(t *testing.T) {
	for _, c := range []struct{ length, drift, want int64 }{
		{1000, 10000, 1021}, {1000, 0, 1001}, {1000, 1, 1001}, {1000, 100000, 1223}, {9, 100000, 12}, {8, 100000, 10}, {10, 100000, 13}, {18, 100000, 23}, {99, 10000, 102}, {98, 10000, 100},
		{0, 0, 1}, {0, 1, 1}, {0, 100000, 1}, {1, 0, 2}, {1, 1, 2}, {1, 100000, 2}, {4, 100000, 5}, {5, 100000, 7},
		{999999, 1, 1000002}, {999998, 1, 1000000}, {mostTime, 0, mostTime + 1}, {mostTime, 1, 1099513826802}, {mostTime, 100000, 1343847545060},
	} {
		checkYours(t, c.length, c.drift, c.want)
	}
}

func TestHoldsALease(t *testing.T) {
	for _, c := range []struct {
		from, now, length, drift int64
		want                     bool
	}{
		{5, 983, 1000, 10000, true}, {5, 984, 1000, 10000, false}, {5, 985, 1000, 10000, false}, {5, 5, 1000, 10000, true}, {5, 6, 1000, 10000, true}, {5, 4, 1000, 10000, false}, {5, 0, 1000, 10000, false},
		{0, 0, 0, 0, false}, {0, 0, 1, 0, false}, {0, 0, 2, 0, true}, {0, 1, 2, 0, false}, {0, 0, 2, 1, false}, {0, 0, 3, 1, true}, {0, 1, 3, 0, true}, {0, 2, 3, 0, false}, {7, 7, 0, 100000, false}, {7, 7, 1, 100000, false}, {7, 6, 0, 0, false}, {7, 6, 1, 0, false},
		{mostTime, mostTime, 2, 0, true}, {mostTime, mostTime, 1, 0, false}, {mostTime, mostTime + 1, 1000, 0, false}, {mostTime, mostTime - 1, 1000, 0, false}, {mostTime - 1, mostTime, 3, 0, true}, {mostTime - 1, mostTime, 2, 0, false},
		{0, mostTime, mostTime, 0, false}, {0, mostTime - 1, mostTime, 0, false}, {0, mostTime - 2, mostTime, 0, true}, {1, mostTime, mostTime, 0, false}, {1, mostTime - 1, mostTime, 0, true}, {2, mostTime, mostTime, 0, true},
		{0, 899600422723, mostTime, 100000, true}, {0, 899600422724, mostTime, 100000, false},
	} {
		checkHolds(t, c.from, c.now, c.length, c.drift, c.want)
	}
}

// Every time and count that is small, with drifts in range and beside it.
func TestLeasesThatAreSmall(t *testing.T) {
	for _, drift := range append(edgeDrifts(), 90909, 33333, 20000) {
		for time := int64(-3); time < 130; time++ {
			checkSpan(t, time, drift)
			for n := int64(-3); n < 150; n++ {
				checkRight(t, time, n, drift, plainRight(time, n, drift))
			}
		}
	}
	for _, drift := range []int64{-1, 0, 1, 10000, 50000, 100000, 100001} {
		for length := int64(-1); length < 26; length++ {
			for from := int64(-2); from < 8; from++ {
				for now := int64(-3); now < 40; now++ {
					checkHolds(t, from, now, length, drift, plainHolds(from, now, length, drift))
				}
			}
		}
	}
}

func TestLeasesAtEveryEdge(t *testing.T) {
	times := append(edgeTimes(), math.MinInt64, math.MaxInt64)
	drifts := append(edgeDrifts(), math.MinInt64, math.MaxInt64)
	for _, drift := range drifts {
		for _, time := range times {
			checkSpan(t, time, drift)
			for _, n := range times {
				checkRight(t, time, n, drift, plainRight(time, n, drift))
				for _, length := range times {
					checkHolds(t, time, n, length, drift, plainHolds(time, n, length, drift))
				}
			}
		}
	}
}

func TestRightAtItsEnds(t *testing.T) {
	for _, drift := range rightDrifts() {
		for _, time := range edgeTimes() {
			if plainTimeOk(time) {
				checkCounts(t, time, drift)
			}
		}
		for time := range int64(3000) {
			checkCounts(t, time, drift)
			checkCounts(t, mostTime-time, drift)
			checkCounts(t, 1000000-1500+time, drift)
		}
	}
	n := numbers(230)
	for range 40000 {
		checkCounts(t, n.time(), n.drift())
	}
}

// Clocks that don't drift show one count alone.
func TestRightWithoutDrift(t *testing.T) {
	n := numbers(231)
	for trial := range 4000 {
		time := int64(trial)
		if trial >= 1000 {
			time = n.time()
		}
		checkLeast(t, time, 0, time)
		checkRight(t, time, time, 0, true)
		for off := int64(1); off < 30; off++ {
			checkRight(t, time, time-off, 0, false)
			checkRight(t, time, time+off, 0, false)
		}
	}
}

// A count is not bound by MaxTime: a fast clock shows more.
func TestRightBeyondMaxTime(t *testing.T) {
	for drift := int64(1); drift <= mostDrift; drift += 333 {
		greatest := plainGreatest(mostTime, drift)
		for _, n := range []int64{mostTime, mostTime + 1, greatest - 1, greatest} {
			checkRight(t, mostTime, n, drift, true)
		}
		checkRight(t, mostTime, greatest+1, drift, false)
	}
	checkRight(t, mostTime, mostTime+1, 0, false)
}

// A million times 2^58 is 0 where products wrap round.
func TestRightDoesNotWrapAround(t *testing.T) {
	n := numbers(232)
	for range 3000 {
		time, drift := n.time(), n.drift()
		for _, count := range []int64{plainLeast(time, drift), time, plainGreatest(time, drift)} {
			for turns := int64(1); turns < 32; turns++ {
				checkRight(t, time, count+turns<<58, drift, false)
				checkRight(t, time, count-turns<<58, drift, false)
			}
			for _, off := range []int64{1 << 57, 1 << 44, 1 << 45, 1 << 50, 1 << 32, 1 << 62, 18446744073709, 18446744073710, 9223372036854, 9223372036855} {
				checkRight(t, time, count+off, drift, plainRight(time, count+off, drift))
				checkRight(t, time, count-off, drift, plainRight(time, count-off, drift))
			}
		}
	}
}

// What is near MaxTime makes the greatest products.
func TestLeasesOfGreatProducts(t *testing.T) {
	for less := range int64(400) {
		for _, drift := range append(rightDrifts(), mostDrift-less) {
			checkSpan(t, mostTime-less, drift)
			checkHeld(t, 0, mostTime-less, drift)
			checkHeld(t, less, mostTime-less, drift)
			checkHeld(t, mostTime-less, mostTime, drift)
		}
	}
}

// Less 1 would be below 0 where the division tells 0.
func TestMineOfShortLengths(t *testing.T) {
	for drift := int64(0); drift <= mostDrift; drift++ {
		checkMine(t, 0, drift, 0)
		checkMine(t, 1, drift, 0)
		want := int64(0)
		if drift == 0 {
			want = 1
		}
		checkMine(t, 2, drift, want)
		for length := range int64(3) {
			checkHolds(t, 3, 3, length, drift, length == 2 && drift == 0)
			checkHolds(t, 3, 2, length, drift, false)
		}
	}
}

// divisor is the least length of which the division by that leaves nothing.
func divisor(by int64, over int64) int64 {
	return over / new(big.Int).GCD(nil, nil, big.NewInt(by), big.NewInt(over)).Int64()
}

// Lengths of which the division leaves nothing over, and those beside them.
func TestLeasesThatAreDividedWithoutRest(t *testing.T) {
	drifts := rightDrifts()
	for drift := int64(1); drift <= mostDrift; drift += 97 {
		drifts = append(drifts, drift)
	}
	for _, drift := range drifts {
		slow, fast := 1000000-drift, 1000000+drift
		mine, yours := divisor(slow, fast), divisor(fast, slow)
		for _, times := range []int64{1, 2, 3, 10, 1000, mostTime / fast} {
			checkMine(t, times*mine, drift, times*(slow*mine/fast)-1)
			checkMine(t, times*mine-1, drift, plainMine(times*mine-1, drift))
			checkMine(t, times*mine+1, drift, plainMine(times*mine+1, drift))
			checkYours(t, times*yours, drift, times*(fast*yours/slow)+1)
			checkYours(t, times*yours-1, drift, plainYours(times*yours-1, drift))
			checkYours(t, times*yours+1, drift, plainYours(times*yours+1, drift))
			least := divisor(slow, 1000000)
			checkLeast(t, times*least, drift, times*(slow*least/1000000))
			checkCounts(t, times*least, drift)
		}
	}
}

func TestLeasesOfManyKinds(t *testing.T) {
	n := numbers(233)
	held := [2]int{}
	for range 60000 {
		length, drift, from := n.time(), n.drift(), n.time()
		checkSpan(t, length, drift)
		checkHeld(t, from, length, drift)
		now := n.time()
		want := plainHolds(from, now, length, drift)
		checkHolds(t, from, now, length, drift, want)
		if want {
			held[1]++
		} else {
			held[0]++
		}
	}
	if min(held[0], held[1]) < 3000 {
		t.Errorf("of these %v were held", held)
	}
}

func TestEveryDrift(t *testing.T) {
	for drift := int64(0); drift <= mostDrift; drift++ {
		for _, time := range []int64{1000000, 999999, 12345, mostTime, mostTime - 1} {
			checkSpan(t, time, drift)
		}
		checkRight(t, 1000000, 1000000-drift, drift, true)
		checkRight(t, 1000000, 1000000-drift-1, drift, false)
		checkRight(t, 1000000, 1000000+drift, drift, true)
		checkRight(t, 1000000, 1000000+drift+1, drift, false)
	}
}

// checkNoTime asks what every function says where something is out of range.
func checkNoTime(t *testing.T, time int64, drift int64) {
	t.Helper()
	checkLeast(t, time, drift, -1)
	checkMine(t, time, drift, -1)
	checkYours(t, time, drift, -1)
	for _, n := range []int64{math.MinInt64, -1, 0, 1, 2, 1000, mostTime, mostTime + 1, time, -time, time - 1, time + 1, math.MaxInt64} {
		checkRight(t, time, n, drift, false)
		checkHolds(t, 0, n, time, drift, false)
		checkHolds(t, n, n, time, drift, false)
		checkHolds(t, n, 0, time, drift, false)
	}
}

func TestLeasesOfWrongInputs(t *testing.T) {
	right := []int64{0, 1, 2, 1000, 1000000, mostTime - 1, mostTime}
	for _, drift := range append(rightDrifts(), farDrifts()...) {
		for _, time := range farTimes() {
			checkNoTime(t, time, drift)
		}
	}
	for _, drift := range farDrifts() {
		for _, time := range append(right, 7, 999, 1<<32) {
			checkNoTime(t, time, drift)
		}
	}
	for _, far := range farTimes() {
		for _, drift := range rightDrifts() {
			for _, length := range right {
				for _, time := range append(right, far, far-1, far+1, -far) {
					checkHolds(t, far, time, length, drift, false)
					checkHolds(t, time, far, length, drift, false)
				}
			}
		}
	}
}

// A now less a from must not wrap round, nor a from and Mine.
func TestHoldsDoesNotWrapAround(t *testing.T) {
	for _, c := range [][2]int64{
		{math.MaxInt64, math.MinInt64}, {math.MinInt64, math.MaxInt64}, {math.MaxInt64, math.MaxInt64}, {math.MinInt64, math.MinInt64}, {math.MaxInt64 - 5, math.MaxInt64}, {math.MinInt64, math.MinInt64 + 5},
		{math.MaxInt64, math.MinInt64 + 10}, {mostTime, math.MinInt64}, {math.MinInt64, mostTime}, {math.MinInt64, 0}, {math.MaxInt64, 0}, {0, math.MinInt64}, {0, math.MaxInt64}, {-5, 0}, {-5, -5}, {-1, 1}, {-1, mostTime}, {mostTime + 1, mostTime + 1}, {mostTime + 1, mostTime}, {mostTime, mostTime + 1}, {1 << 62, 1 << 62}, {-1 << 62, 1 << 62},
	} {
		for _, length := range []int64{0, 1, 1000, mostTime, mostTime + 1, -1, math.MinInt64, math.MaxInt64} {
			for _, drift := range []int64{-1, 0, 1, 100000, 100001} {
				checkHolds(t, c[0], c[1], length, drift, false)
			}
		}
	}
}

// spot is what may be seen at one real time by two right clocks.
type spot struct {
	r, mine, yours int64
}

// checkSpot asks for promise 16, of the lease of that length, at one real time
// behind its begin: mine is what the clock of whoever holds it shows, yours what
// that of whoever waits does. It tells whether it was held, and waited for.
func checkSpot(t *testing.T, s spot, from int64, length int64, drift int64) (bool, bool) {
	t.Helper()
	wrong := func(why string) {
		t.Helper()
		t.Errorf("a lease of %d with drift %d: at %d one shows %d, the other one %d, and %s", length, drift, s.r, s.mine, s.yours, why)
	}
	if !impl.Right(s.r, s.mine, drift) || !impl.Right(s.r, s.yours, drift) {
		wrong("one is not right")
	}
	held := impl.Holds(from, from+s.mine, length, drift)
	if held && s.yours >= length {
		wrong("it is held when its length was waited out")
	}
	waited := s.yours >= impl.Yours(length, drift)
	if waited && (s.mine < length || held) {
		wrong("it is not over when Yours was waited out")
	}
	return held, waited
}

// All real times, right counts of both and lengths that are small.
func TestPromise16SmallTimes(t *testing.T) {
	for _, drift := range []int64{0, 1, 10000, 33333, 50000, 90909, 99999, 100000} {
		held, waited := 0, 0
		for r := range int64(60) {
			least, greatest := plainLeast(r, drift), plainGreatest(r, drift)
			for mine := least; mine <= greatest; mine++ {
				for yours := least; yours <= greatest; yours++ {
					for length := range int64(50) {
						isHeld, isWaited := checkSpot(t, spot{r, mine, yours}, 5, length, drift)
						if isHeld {
							held++
						}
						if isWaited {
							waited++
						}
					}
				}
			}
		}
		if held < 500 || waited < 500 {
			t.Errorf("drift %d: %d were held and %d waited for", drift, held, waited)
		}
	}
}

// lastHeld and firstWaited are real times: when the slowest clock shows that
// count for the last time, and the fastest one for the first time.
func lastHeld(count int64, drift int64) int64 {
	r, _ := plainScaled(count, 1000000, 1000000-drift)
	return r
}

func firstWaited(count int64, drift int64) int64 {
	r, left := plainScaled(count, 1000000, 1000000+drift)
	if left > 0 {
		r++
	}
	return r
}

// checkEnds asks for promise 16 where both come closest: about the last real
// time at which one may hold the lease, and the first one at which the length,
// or Yours, may be waited out. Times beyond MaxTime are left aside.
func checkEnds(t *testing.T, length int64, drift int64) {
	t.Helper()
	ends := []int64{lastHeld(max(impl.Mine(length, drift)-1, 0), drift), firstWaited(length, drift), firstWaited(impl.Yours(length, drift), drift), length}
	for _, end := range ends {
		for r := max(end-3, 0); r <= min(end+3, mostTime); r++ {
			least, greatest := plainLeast(r, drift), plainGreatest(r, drift)
			for _, mine := range []int64{least, r, greatest} {
				for _, yours := range []int64{least, r, greatest} {
					// At MaxTime's end what is shown may be out of range; then it is not held.
					checkSpot(t, spot{r, mine, yours}, 0, length, drift)
				}
			}
		}
	}
	last, first := ends[0], ends[1]
	if impl.Mine(length, drift) > 0 && last >= first {
		t.Errorf("a lease of %d with drift %d is held till %d, and waited out at %d", length, drift, last, first)
	}
	if over := firstWaited(impl.Yours(length, drift), drift); over <= mostTime && impl.Least(over, drift) < length {
		t.Errorf("Yours of %d with drift %d is waited out at %d, when one may show %d", length, drift, over, impl.Least(over, drift))
	}
}

func TestPromise16AtTheEnds(t *testing.T) {
	for _, drift := range rightDrifts() {
		for length := range int64(400) {
			checkEnds(t, length, drift)
			checkEnds(t, 1000000-200+length, drift)
			checkEnds(t, mostTime/2-length, drift)
			checkEnds(t, mostTime-length, drift)
		}
	}
	n := numbers(234)
	for range 20000 {
		checkEnds(t, n.time(), n.drift())
	}
}

// At any real time, with any right counts.
func TestPromise16ManyTimes(t *testing.T) {
	n := numbers(235)
	held, waited := 0, 0
	for range 150000 {
		length, drift := n.time(), n.drift()
		// About the length, where something may go wrong.
		r := min(max(length-length/4+int64(n.below(1001))*(length/2000), 0), mostTime)
		least, greatest := plainLeast(r, drift), plainGreatest(r, drift)
		pick := func() int64 { return least + int64(n.below(1001))*(greatest-least)/1000 }
		from := int64(n.below(1000))
		isHeld, isWaited := checkSpot(t, spot{r, pick(), pick()}, from, length, drift)
		if isHeld {
			held++
		}
		if isWaited {
			waited++
		}
	}
	if min(held, waited) < 10000 {
		t.Errorf("%d were held and %d waited for", held, waited)
	}
}

// A lease is held from its begin on without a gap, and not again later; where
// it begins does not count.
func TestHoldsFromItsBeginOn(t *testing.T) {
	for _, drift := range []int64{0, 1, 10000, 100000} {
		for length := range int64(60) {
			for _, from := range []int64{0, 1, 100, 1 << 32, mostTime - 100} {
				count := int64(0)
				for later := int64(-70); later <= 90; later++ {
					if impl.Holds(from, from+later, length, drift) {
						if later != count {
							t.Errorf("Holds(%d, %d, %d, %d): %d of them are held ahead of it", from, from+later, length, drift, count)
						}
						count++
					}
				}
				if count != impl.Mine(length, drift) {
					t.Errorf("a lease of %d with drift %d from %d is held for %d, not for Mine", length, drift, from, count)
				}
			}
		}
	}
}

// A longer lease is held and waited for at least as long, and more drift makes
// it be held for less and waited for more.
func TestLeasesGrow(t *testing.T) {
	n := numbers(236)
	for range 20000 {
		length, drift := min(n.time(), mostTime-1), min(n.drift(), mostDrift-1)
		mine, yours := impl.Mine(length, drift), impl.Yours(length, drift)
		if longer := impl.Mine(length+1, drift); longer < mine || longer > mine+1 {
			t.Errorf("Mine of %d and 1 more, with drift %d: %d and %d", length, drift, mine, longer)
		}
		if longer := impl.Yours(length+1, drift); longer <= yours || longer > yours+2 {
			t.Errorf("Yours of %d and 1 more, with drift %d: %d and %d", length, drift, yours, longer)
		}
		if impl.Mine(length, drift+1) > mine || impl.Yours(length, drift+1) < yours || impl.Least(length, drift+1) > impl.Least(length, drift) {
			t.Errorf("of %d, drift %d: more drift makes Mine longer, Yours shorter or Least greater", length, drift)
		}
		if mine > length || yours <= length {
			t.Errorf("of %d with drift %d: Mine is %d, Yours %d", length, drift, mine, yours)
		}
	}
}

func TestPromise21LeasesNeverPanic(t *testing.T) {
	n := numbers(237)
	list := append(append(append(farTimes(), farDrifts()...), edgeTimes()...), edgeDrifts()...)
	pick := func() int64 {
		switch n.below(5) {
		case 0:
			return int64(n.below(1<<31))<<33 ^ int64(n.below(1<<31))<<16 ^ int64(n.below(1<<31))
		case 1:
			return n.drift()
		}
		return list[n.below(len(list))]
	}
	for range 200000 {
		a, b, c, d := pick(), pick(), pick(), pick()
		neverPanics(t, fmt.Sprintf("a call of %d, %d, %d, %d", a, b, c, d), func() {
			checkRight(t, a, b, c, plainRight(a, b, c))
			checkSpan(t, a, b)
			checkHolds(t, a, b, c, d, plainHolds(a, b, c, d))
		})
	}
}

// What one call does must not show in the next one.
func TestLeasesAnswerAgainAlike(t *testing.T) {
	for range 3 {
		checkRight(t, 1000, 990, 10000, true)
		checkLeast(t, 1001, 10000, 991)
		checkMine(t, 1000, 10000, 979)
		checkMine(t, 1000, 0, 999)
		checkYours(t, 1000, 100000, 1223)
		checkYours(t, 1000, 0, 1001)
		checkMine(t, -1, 10000, -1)
		checkYours(t, 1000, 100001, -1)
		checkHolds(t, 5, 983, 1000, 10000, true)
		checkHolds(t, 5, 984, 1000, 10000, false)
		checkHolds(t, -1, 0, 1000, 10000, false)
	}
}
