package tests

import (
	"fmt"
	"maps"
	"math"
	"slices"
	"testing"

	"loop.example/g00223/impl"
)

func witness(epoch int64, holder int64, sync ...bool) impl.Witness {
	return impl.Witness{Epoch: epoch, Holder: holder, Sync: sync}
}

func witnessCopy(w impl.Witness) impl.Witness {
	w.Sync = slices.Clone(w.Sync)
	return w
}

func sameWitness(a impl.Witness, b impl.Witness) bool {
	return a.Epoch == b.Epoch && a.Holder == b.Holder && slices.Equal(a.Sync, b.Sync)
}

// plainShapes are all right pairs of a Holder and flags, and whether they may
// stand with an Epoch above 0.
func plainShapes() map[string]bool {
	return map[string]bool{
		"-1 [true true]": false, "-1 [true false]": false, "-1 [false true]": false,
		"0 [true true]": true, "0 [true false]": true,
		"1 [true true]": true, "1 [false true]": true,
	}
}

func plainWitnessOk(w impl.Witness) bool {
	above, is := plainShapes()[fmt.Sprintf("%d %v", w.Holder, w.Sync)]
	return is && (w.Epoch == 0 || above && w.Epoch > 0 && w.Epoch <= mostStamp)
}

// plainMembers are the numbers of those in Sync.
func plainMembers(w impl.Witness) []int64 {
	list := []int64{}
	for who, is := range w.Sync {
		if is {
			list = append(list, int64(who))
		}
	}
	return list
}

func plainServes(w impl.Witness, who int64, epoch int64) bool {
	return plainWitnessOk(w) && who != -1 && who == w.Holder && epoch == w.Epoch
}

func plainSole(w impl.Witness) int64 {
	if members := plainMembers(w); plainWitnessOk(w) && len(members) == 1 {
		return members[0]
	}
	return -1
}

func plainGrant(w impl.Witness, who int64) (impl.Witness, bool) {
	switch {
	case !plainWitnessOk(w):
		return impl.Witness{}, false
	case !slices.Contains(plainMembers(w), who) || w.Epoch == mostStamp:
		return w, false
	}
	return witness(w.Epoch+1, who, w.Sync...), true
}

// plainSaid is what Drop (of false) and Readmit (of true) tell: of whoever
// serves the flag is true already, so that only the other one's may change.
func plainSaid(w impl.Witness, who int64, epoch int64, flag bool) (impl.Witness, bool) {
	switch {
	case !plainWitnessOk(w):
		return impl.Witness{}, false
	case !plainServes(w, who, epoch):
		return w, false
	case who == 0:
		return witness(epoch, 0, true, flag), true
	}
	return witness(epoch, 1, flag, true), true
}

func checkWitnessOk(t *testing.T, w impl.Witness, want bool) {
	t.Helper()
	if got := impl.WitnessOk(w); got != want {
		t.Errorf("WitnessOk of %+v: %v", w, got)
	}
}

func checkGrant(t *testing.T, w impl.Witness, who int64, want impl.Witness, wantIs bool) {
	t.Helper()
	if got, is := impl.Grant(w, who); !sameWitness(got, want) || is != wantIs {
		t.Errorf("Grant of %+v, %d: %+v and %v, not %+v and %v", w, who, got, is, want, wantIs)
	}
}

func checkDrop(t *testing.T, w impl.Witness, who int64, epoch int64, want impl.Witness, wantIs bool) {
	t.Helper()
	if got, is := impl.Drop(w, who, epoch); !sameWitness(got, want) || is != wantIs {
		t.Errorf("Drop of %+v, %d, %d: %+v and %v, not %+v and %v", w, who, epoch, got, is, want, wantIs)
	}
}

func checkReadmit(t *testing.T, w impl.Witness, who int64, epoch int64, want impl.Witness, wantIs bool) {
	t.Helper()
	if got, is := impl.Readmit(w, who, epoch); !sameWitness(got, want) || is != wantIs {
		t.Errorf("Readmit of %+v, %d, %d: %+v and %v, not %+v and %v", w, who, epoch, got, is, want, wantIs)
	}
}

func checkSole(t *testing.T, w impl.Witness, want int64) {
	t.Helper()
	if got := impl.Sole(w); got != want {
		t.Errorf("Sole of %+v: %d, not %d", w, got, want)
	}
}

func checkServes(t *testing.T, w impl.Witness, who int64, epoch int64, want bool) {
	t.Helper()
	if got := impl.Serves(w, who, epoch); got != want {
		t.Errorf("Serves of %+v, %d, %d: %v", w, who, epoch, got)
	}
}

// checkWitness holds every function of a Witness against the plain ones.
func checkWitness(t *testing.T, w impl.Witness, who int64, epoch int64) {
	t.Helper()
	checkWitnessOk(t, w, plainWitnessOk(w))
	checkSole(t, w, plainSole(w))
	checkServes(t, w, who, epoch, plainServes(w, who, epoch))
	granted, isGranted := plainGrant(w, who)
	checkGrant(t, w, who, granted, isGranted)
	dropped, isDropped := plainSaid(w, who, epoch, false)
	checkDrop(t, w, who, epoch, dropped, isDropped)
	readmitted, isReadmitted := plainSaid(w, who, epoch, true)
	checkReadmit(t, w, who, epoch, readmitted, isReadmitted)
}

func edgeEpochs() []int64 {
	return []int64{-2, -1, 0, 1, 2, 7, 999, mostStamp - 1, mostStamp, mostStamp + 1, mostStamp + 2}
}

func edgeHolders() []int64 {
	return []int64{-3, -2, -1, 0, 1, 2, 3}
}

// shortFlags are all lists of at most three flags.
func shortFlags() [][]bool {
	lists := [][]bool{nil, {}}
	for first := 1; first < len(lists) && len(lists[first]) < 3; first++ {
		for _, flag := range []bool{false, true} {
			lists = append(lists, append(slices.Clone(lists[first]), flag))
		}
	}
	return lists
}

func wrongFlags() [][]bool {
	lists := [][]bool{{true, true, true, true}, slices.Repeat([]bool{true}, 256), slices.Repeat([]bool{true}, 258), slices.Repeat([]bool{false}, 300)}
	for _, flags := range shortFlags() {
		if len(flags) != 2 {
			lists = append(lists, flags)
		}
	}
	return lists
}

// rightWitnesses have every right shape, with Epochs at the edges.
func rightWitnesses() []impl.Witness {
	list := []impl.Witness{
		witness(0, -1, true, true), witness(0, -1, true, false), witness(0, -1, false, true),
	}
	for _, epoch := range []int64{0, 1, 2, 5, 999, mostStamp - 1, mostStamp} {
		list = append(list, witness(epoch, 0, true, true), witness(epoch, 0, true, false), witness(epoch, 1, true, true), witness(epoch, 1, false, true))
	}
	return list
}

// wrongWitnesses are each wrong in one thing, or in more.
func wrongWitnesses() []impl.Witness {
	list := []impl.Witness{
		{}, {Epoch: 1}, {Holder: 1}, {Holder: -1}, {Epoch: 1, Holder: -1, Sync: []bool{true, true}},
		witness(1, -1, true, false), witness(1, -1, false, true), witness(mostStamp, -1, true, true), witness(mostStamp+1, -1, true, true), witness(-1, -1, true, true),
		witness(0, 0, false, true), witness(3, 0, false, true), witness(0, 1, true, false), witness(3, 1, true, false),
		witness(0, -1, false, false), witness(0, 0, false, false), witness(3, 0, false, false), witness(0, 1, false, false), witness(3, 1, false, false),
	}
	for _, flags := range wrongFlags() {
		list = append(list, witness(0, -1, flags...), witness(0, 0, flags...), witness(1, 0, flags...), witness(1, 1, flags...), witness(5, 2, flags...))
	}
	for _, wrong := range append(wrongNumbers(), farNumbers()...) {
		for _, w := range rightWitnesses() {
			epoch := witnessCopy(w)
			epoch.Epoch = wrong
			list = append(list, epoch)
			// A Holder of -1 alone may be right.
			if wrong != -1 {
				list = append(list, witness(w.Epoch, wrong, w.Sync...), witness(wrong, wrong, w.Sync...))
			}
		}
	}
	for _, w := range rightWitnesses() {
		list = append(list, witness(w.Epoch, -2, w.Sync...), witness(w.Epoch, 2, w.Sync...), witness(w.Epoch, 3, w.Sync...))
	}
	return list
}

// manyWhos have all numbers that may serve, those beside them and far ones.
func manyWhos() []int64 {
	return append(edgeHolders(), 255, 256, 257, -256, 1<<32, 1<<32+1, -1<<32, -1<<32+1, -1<<32-1, math.MinInt64, math.MinInt64+1, math.MaxInt64, math.MaxInt64-1)
}

// manyEpochs are about that one, at the edges and far off.
func manyEpochs(epoch int64) []int64 {
	return append(edgeEpochs(), epoch-2, epoch-1, epoch, epoch+1, epoch+2, -epoch, epoch+1<<32, epoch-1<<32, epoch+mostStamp+1, math.MinInt64, math.MinInt64+1, math.MaxInt64, math.MaxInt64-1)
}

func TestNewWitness(t *testing.T) {
	w := impl.NewWitness()
	if !sameWitness(w, witness(0, -1, true, true)) {
		t.Errorf("NewWitness: %+v", w)
	}
	checkWitnessOk(t, w, true)
	checkSole(t, w, -1)
	for _, who := range manyWhos() {
		for _, epoch := range manyEpochs(0) {
			checkServes(t, w, who, epoch, false)
			checkDrop(t, w, who, epoch, w, false)
			checkReadmit(t, w, who, epoch, w, false)
		}
	}
	checkGrant(t, w, 0, witness(1, 0, true, true), true)
	checkGrant(t, w, 1, witness(1, 1, true, true), true)
}

func TestWitnessOkOfSome(t *testing.T) {
	for _, c := range []struct {
		w    impl.Witness
		want bool
	}{
		{witness(0, -1, true, true), true}, {witness(0, -1, true, false), true}, {witness(0, -1, false, true), true}, {witness(0, -1, false, false), false},
		{witness(1, -1, true, true), false}, {witness(1, -1, true, false), false}, {witness(-1, -1, true, true), false}, {witness(mostStamp, -1, true, true), false},
		{witness(0, 0, true, true), true}, {witness(0, 0, true, false), true}, {witness(0, 0, false, true), false}, {witness(0, 0, false, false), false},
		{witness(0, 1, true, true), true}, {witness(0, 1, false, true), true}, {witness(0, 1, true, false), false}, {witness(0, 1, false, false), false},
		{witness(1, 0, true, true), true}, {witness(1, 0, true, false), true}, {witness(1, 0, false, true), false}, {witness(1, 0, false, false), false},
		{witness(1, 1, true, true), true}, {witness(1, 1, false, true), true}, {witness(1, 1, true, false), false}, {witness(1, 1, false, false), false},
		{witness(-1, 0, true, true), false}, {witness(-1, 1, true, true), false}, {witness(mostStamp, 0, true, true), true}, {witness(mostStamp, 1, false, true), true},
		{witness(mostStamp+1, 0, true, true), false}, {witness(mostStamp+1, 1, true, true), false}, {witness(math.MaxInt64, 0, true, true), false}, {witness(math.MinInt64, 0, true, true), false},
		{witness(0, -2, true, true), false}, {witness(1, -2, true, true), false}, {witness(0, 2, true, true), false}, {witness(1, 2, true, true), false},
		{witness(1, 2, true, true, true), false}, {witness(1, 0, true, true, true), false}, {witness(1, 0, true, true, false), false}, {witness(1, 0, true), false}, {witness(0, -1, true), false}, {witness(0, -1, true, true, false), false},
		{witness(0, 0), false}, {witness(0, -1), false}, {impl.Witness{}, false},
		{witness(1, math.MinInt64, true, true), false}, {witness(1, math.MaxInt64, true, true), false}, {witness(0, math.MinInt64, true, true), false}, {witness(0, math.MaxInt64, true, true), false},
	} {
		checkWitnessOk(t, c.w, c.want)
	}
}

func TestGrantOfSome(t *testing.T) {
	for _, c := range []struct {
		w    impl.Witness
		who  int64
		want impl.Witness
		is   bool
	}{
		{witness(0, -1, true, true), 0, witness(1, 0, true, true), true},
		{witness(0, -1, true, true), 1, witness(1, 1, true, true), true},
		{witness(0, -1, true, true), -1, witness(0, -1, true, true), false},
		{witness(0, -1, true, true), 2, witness(0, -1, true, true), false},
		{witness(0, -1, true, false), 0, witness(1, 0, true, false), true},
		{witness(0, -1, true, false), 1, witness(0, -1, true, false), false},
		{witness(0, -1, false, true), 0, witness(0, -1, false, true), false},
		{witness(0, -1, false, true), 1, witness(1, 1, false, true), true},
		{witness(0, 0, true, true), 0, witness(1, 0, true, true), true},
		{witness(0, 0, true, true), 1, witness(1, 1, true, true), true},
		{witness(4, 0, true, true), 0, witness(5, 0, true, true), true},
		{witness(4, 0, true, true), 1, witness(5, 1, true, true), true},
		{witness(4, 0, true, false), 0, witness(5, 0, true, false), true},
		{witness(4, 0, true, false), 1, witness(4, 0, true, false), false},
		{witness(4, 1, false, true), 0, witness(4, 1, false, true), false},
		{witness(4, 1, false, true), 1, witness(5, 1, false, true), true},
		{witness(4, 1, true, true), -1, witness(4, 1, true, true), false},
		{witness(4, 1, true, true), 2, witness(4, 1, true, true), false},
		{witness(4, 1, true, true), math.MinInt64, witness(4, 1, true, true), false},
		{witness(4, 1, true, true), math.MaxInt64, witness(4, 1, true, true), false},
		{witness(mostStamp-1, 0, true, true), 1, witness(mostStamp, 1, true, true), true},
		{witness(mostStamp, 0, true, true), 0, witness(mostStamp, 0, true, true), false},
		{witness(mostStamp, 0, true, true), 1, witness(mostStamp, 0, true, true), false},
		{witness(mostStamp, 1, false, true), 1, witness(mostStamp, 1, false, true), false},
		{witness(mostStamp+1, 0, true, true), 0, impl.Witness{}, false},
		{witness(-1, 0, true, true), 0, impl.Witness{}, false},
		{witness(1, -1, true, true), 0, impl.Witness{}, false},
		{witness(1, 0, false, true), 1, impl.Witness{}, false},
		{witness(1, 0, true, true, true), 0, impl.Witness{}, false},
		{witness(1, 0, true), 0, impl.Witness{}, false},
		{impl.Witness{}, 0, impl.Witness{}, false},
	} {
		checkGrant(t, c.w, c.who, c.want, c.is)
	}
}

func TestDropOfSome(t *testing.T) {
	for _, c := range []struct {
		w          impl.Witness
		who, epoch int64
		want       impl.Witness
		is         bool
	}{
		{witness(4, 0, true, true), 0, 4, witness(4, 0, true, false), true},
		{witness(4, 1, true, true), 1, 4, witness(4, 1, false, true), true},
		{witness(4, 0, true, false), 0, 4, witness(4, 0, true, false), true},
		{witness(4, 1, false, true), 1, 4, witness(4, 1, false, true), true},
		{witness(0, 0, true, true), 0, 0, witness(0, 0, true, false), true},
		{witness(mostStamp, 1, true, true), 1, mostStamp, witness(mostStamp, 1, false, true), true},
		{witness(4, 0, true, true), 1, 4, witness(4, 0, true, true), false},
		{witness(4, 1, true, true), 0, 4, witness(4, 1, true, true), false},
		{witness(4, 0, true, false), 1, 4, witness(4, 0, true, false), false},
		{witness(4, 0, true, true), 0, 3, witness(4, 0, true, true), false},
		{witness(4, 0, true, true), 0, 5, witness(4, 0, true, true), false},
		{witness(4, 0, true, true), -1, 4, witness(4, 0, true, true), false},
		{witness(4, 0, true, true), 2, 4, witness(4, 0, true, true), false},
		{witness(0, -1, true, true), -1, 0, witness(0, -1, true, true), false},
		{witness(0, -1, true, true), 0, 0, witness(0, -1, true, true), false},
		{witness(0, -1, true, true), 1, 0, witness(0, -1, true, true), false},
		{witness(0, -1, false, true), -1, 0, witness(0, -1, false, true), false},
		{witness(4, 0, false, true), 0, 4, impl.Witness{}, false},
		{witness(4, -1, true, true), -1, 4, impl.Witness{}, false},
		{witness(4, 2, true, true), 2, 4, impl.Witness{}, false},
		{witness(mostStamp+1, 0, true, true), 0, mostStamp + 1, impl.Witness{}, false},
		{witness(4, 0, true, true, true), 0, 4, impl.Witness{}, false},
		{impl.Witness{}, 0, 0, impl.Witness{}, false},
	} {
		checkDrop(t, c.w, c.who, c.epoch, c.want, c.is)
	}
}

func TestReadmitOfSome(t *testing.T) {
	for _, c := range []struct {
		w          impl.Witness
		who, epoch int64
		want       impl.Witness
		is         bool
	}{
		{witness(4, 0, true, false), 0, 4, witness(4, 0, true, true), true},
		{witness(4, 1, false, true), 1, 4, witness(4, 1, true, true), true},
		{witness(4, 0, true, true), 0, 4, witness(4, 0, true, true), true},
		{witness(4, 1, true, true), 1, 4, witness(4, 1, true, true), true},
		{witness(0, 0, true, false), 0, 0, witness(0, 0, true, true), true},
		{witness(mostStamp, 1, false, true), 1, mostStamp, witness(mostStamp, 1, true, true), true},
		{witness(4, 0, true, false), 1, 4, witness(4, 0, true, false), false},
		{witness(4, 1, false, true), 0, 4, witness(4, 1, false, true), false},
		{witness(4, 0, true, false), 0, 3, witness(4, 0, true, false), false},
		{witness(4, 0, true, false), 0, 5, witness(4, 0, true, false), false},
		{witness(4, 0, true, false), -1, 4, witness(4, 0, true, false), false},
		{witness(4, 0, true, false), 2, 4, witness(4, 0, true, false), false},
		{witness(0, -1, true, false), -1, 0, witness(0, -1, true, false), false},
		{witness(0, -1, true, false), 0, 0, witness(0, -1, true, false), false},
		{witness(0, -1, false, true), 1, 0, witness(0, -1, false, true), false},
		{witness(4, 0, false, true), 0, 4, impl.Witness{}, false},
		{witness(4, 1, false, false), 1, 4, impl.Witness{}, false},
		{witness(4, -1, true, false), -1, 4, impl.Witness{}, false},
		{witness(-1, 0, true, false), 0, -1, impl.Witness{}, false},
		{witness(4, 0, true), 0, 4, impl.Witness{}, false},
		{impl.Witness{}, 0, 0, impl.Witness{}, false},
	} {
		checkReadmit(t, c.w, c.who, c.epoch, c.want, c.is)
	}
}

func TestSoleOfSome(t *testing.T) {
	for _, c := range []struct {
		w    impl.Witness
		want int64
	}{
		{witness(4, 0, true, true), -1}, {witness(4, 1, true, true), -1}, {witness(0, -1, true, true), -1},
		{witness(4, 0, true, false), 0}, {witness(4, 1, false, true), 1}, {witness(0, -1, true, false), 0}, {witness(0, -1, false, true), 1}, {witness(0, 0, true, false), 0}, {witness(mostStamp, 1, false, true), 1},
		{witness(4, 0, false, true), -1}, {witness(4, 1, true, false), -1}, {witness(4, 0, false, false), -1}, {witness(0, -1, false, false), -1}, {witness(1, -1, true, false), -1}, {witness(1, -1, false, true), -1},
		{witness(mostStamp+1, 0, true, false), -1}, {witness(-1, 1, false, true), -1}, {witness(4, 2, true, false), -1}, {witness(4, -2, false, true), -1},
		{witness(4, 0, true), -1}, {witness(4, 0, true, false, false), -1}, {witness(4, 2, false, false, true), -1}, {impl.Witness{}, -1},
	} {
		checkSole(t, c.w, c.want)
	}
}

func TestServesOfSome(t *testing.T) {
	for _, c := range []struct {
		w          impl.Witness
		who, epoch int64
		want       bool
	}{
		{witness(4, 0, true, true), 0, 4, true}, {witness(4, 0, true, false), 0, 4, true}, {witness(4, 1, true, true), 1, 4, true}, {witness(4, 1, false, true), 1, 4, true},
		{witness(4, 0, true, true), 1, 4, false}, {witness(4, 1, true, true), 0, 4, false}, {witness(4, 0, true, true), -1, 4, false}, {witness(4, 0, true, true), 2, 4, false},
		{witness(4, 0, true, true), 0, 3, false}, {witness(4, 0, true, true), 0, 5, false}, {witness(4, 0, true, true), 0, 0, false}, {witness(4, 0, true, true), 0, -4, false},
		{witness(0, 0, true, true), 0, 0, true}, {witness(0, 1, true, true), 1, 0, true}, {witness(0, 1, true, true), 0, 0, false}, {witness(0, 0, true, true), 0, -1, false}, {witness(0, 0, true, true), 0, 1, false},
		{witness(mostStamp, 1, true, true), 1, mostStamp, true}, {witness(mostStamp, 1, true, true), 1, mostStamp - 1, false}, {witness(mostStamp, 1, true, true), 1, mostStamp + 1, false},
		{witness(0, -1, true, true), -1, 0, false}, {witness(0, -1, true, true), 0, 0, false}, {witness(0, -1, true, true), 1, 0, false}, {witness(0, -1, true, false), -1, 0, false}, {witness(0, -1, true, true), 0, -1, false},
		{witness(4, 0, false, true), 0, 4, false}, {witness(4, 1, true, false), 1, 4, false}, {witness(4, 2, true, true), 2, 4, false}, {witness(4, -1, true, true), -1, 4, false}, {witness(4, -2, true, true), -2, 4, false},
		{witness(mostStamp+1, 0, true, true), 0, mostStamp + 1, false}, {witness(-1, 0, true, true), 0, -1, false}, {witness(4, 0, true), 0, 4, false}, {witness(4, 0, true, true, true), 0, 4, false}, {impl.Witness{}, 0, 0, false},
		{witness(math.MinInt64, 0, true, true), 0, math.MinInt64, false}, {witness(math.MaxInt64, 0, true, true), 0, math.MaxInt64, false}, {witness(4, math.MinInt64, true, true), math.MinInt64, 4, false}, {witness(4, math.MaxInt64, true, true), math.MaxInt64, 4, false},
	} {
		checkServes(t, c.w, c.who, c.epoch, c.want)
	}
}

// Every Epoch, Holder, flags, who and epoch at the edges.
func TestWitnessesAtEveryEdge(t *testing.T) {
	epochs := append(edgeEpochs(), math.MinInt64, math.MaxInt64)
	whos := append(edgeHolders(), math.MinInt64, math.MaxInt64)
	right, wrong := 0, 0
	for _, epoch := range epochs {
		for _, holder := range whos {
			for _, flags := range shortFlags() {
				w := witness(epoch, holder, flags...)
				if plainWitnessOk(w) {
					right++
				} else {
					wrong++
				}
				for _, who := range whos {
					for _, near := range append(epochs, epoch-1, epoch+1) {
						checkWitness(t, w, who, near)
					}
				}
			}
		}
	}
	// Three without a Holder, and four with one at each of seven Epochs.
	if right != 3+4*7 || wrong < 1000 {
		t.Errorf("%d are right and %d wrong", right, wrong)
	}
}

func TestRightWitnesses(t *testing.T) {
	for _, w := range rightWitnesses() {
		checkWitnessOk(t, w, true)
		for _, who := range manyWhos() {
			for _, epoch := range manyEpochs(w.Epoch) {
				checkWitness(t, w, who, epoch)
			}
		}
	}
}

func TestWrongWitnesses(t *testing.T) {
	for _, w := range wrongWitnesses() {
		checkWitnessOk(t, w, false)
		checkSole(t, w, -1)
		for _, who := range []int64{-2, -1, 0, 1, 2, w.Holder, -w.Holder, math.MinInt64, math.MaxInt64} {
			checkGrant(t, w, who, impl.Witness{}, false)
			for _, epoch := range []int64{-1, 0, 1, mostStamp, mostStamp + 1, w.Epoch, w.Epoch - 1, w.Epoch + 1, math.MinInt64, math.MaxInt64} {
				checkServes(t, w, who, epoch, false)
				checkDrop(t, w, who, epoch, impl.Witness{}, false)
				checkReadmit(t, w, who, epoch, impl.Witness{}, false)
			}
		}
	}
}

// deed is one Grant (0), Drop (1) or Readmit (2).
type deed struct {
	kind, who, epoch int64
}

func (d deed) done(w impl.Witness) (impl.Witness, bool) {
	switch d.kind {
	case 0:
		return impl.Grant(w, d.who)
	case 1:
		return impl.Drop(w, d.who, d.epoch)
	}
	return impl.Readmit(w, d.who, d.epoch)
}

// chronicle follows a Witness from a new one on: who was granted each Epoch, and
// who has all by what was said since, which is told apart from the flags.
type chronicle struct {
	w       impl.Witness
	granted map[int64]int64
	hasAll  [2]bool
}

func newChronicle() *chronicle {
	return &chronicle{w: impl.NewWitness(), granted: map[int64]int64{}, hasAll: [2]bool{true, true}}
}

func (c *chronicle) copy() *chronicle {
	return &chronicle{w: witnessCopy(c.w), granted: maps.Clone(c.granted), hasAll: c.hasAll}
}

// do does one deed and asks for promise 17 of it.
func (c *chronicle) do(t *testing.T, d deed) bool {
	t.Helper()
	before := c.w
	after, is := d.done(before)
	what := fmt.Sprintf("%+v of %+v: %+v and %v", d, before, after, is)
	_, known := c.granted[before.Epoch]
	serves := known && c.granted[before.Epoch] == d.who && d.epoch == before.Epoch
	switch {
	case !impl.WitnessOk(after):
		t.Fatalf("%s: it is not right any more", what)
	case after.Epoch < before.Epoch:
		t.Fatalf("%s: the Epoch went back", what)
	case !is && !sameWitness(after, before):
		t.Fatalf("%s: it is not as it was", what)
	case is && d.kind == 0 && (d.who < 0 || d.who > 1 || !before.Sync[d.who] || !c.hasAll[d.who]):
		t.Fatalf("%s: it was not in Sync", what)
	case is && d.kind == 0 && (after.Epoch != before.Epoch+1 || after.Holder != d.who || !slices.Equal(after.Sync, before.Sync)):
		t.Fatalf("%s: more was done, or less", what)
	case d.kind > 0 && is != serves:
		t.Fatalf("%s: it serves: %v", what, serves)
	case is && d.kind > 0 && (after.Epoch != before.Epoch || after.Holder != before.Holder):
		t.Fatalf("%s: the Epoch or the Holder is another one", what)
	}
	if is && d.kind == 0 {
		c.granted[after.Epoch] = d.who
	}
	if is && d.kind > 0 {
		c.hasAll[1-d.who] = d.kind == 2
	}
	c.w = after
	if !slices.Equal(after.Sync, c.hasAll[:]) {
		t.Fatalf("%s: those that have all are %v", what, c.hasAll)
	}
	return is
}

// checkOneServes asks of each number, with each Epoch that there was or may be,
// that only who was granted the last one serves.
func (c *chronicle) checkOneServes(t *testing.T) {
	t.Helper()
	count := 0
	for who := int64(-3); who <= 4; who++ {
		for epoch := int64(-2); epoch <= c.w.Epoch+2; epoch++ {
			if !impl.Serves(c.w, who, epoch) {
				continue
			}
			count++
			if holder, is := c.granted[epoch]; !is || holder != who || epoch != c.w.Epoch {
				t.Fatalf("%d serves with %d, of %+v", who, epoch, c.w)
			}
		}
	}
	if want := min(len(c.granted), 1); count != want {
		t.Fatalf("%d serve, of %+v", count, c.w)
	}
}

// nearDeeds are all with a who and an epoch about those of w.
func nearDeeds(w impl.Witness) []deed {
	list := []deed{}
	for who := int64(-1); who <= 2; who++ {
		list = append(list, deed{0, who, 0})
		for epoch := w.Epoch - 1; epoch <= w.Epoch+1; epoch++ {
			list = append(list, deed{1, who, epoch}, deed{2, who, epoch})
		}
	}
	return list
}

// All rows of deeds that change something, with each other deed asked on the way.
func TestPromise17AllShortRows(t *testing.T) {
	met := map[string]bool{}
	var follow func(c *chronicle, left int)
	follow = func(c *chronicle, left int) {
		met[fmt.Sprintf("%+v", c.w)] = true
		c.checkOneServes(t)
		for _, d := range nearDeeds(c.w) {
			next := c.copy()
			if next.do(t, d); left > 0 && !sameWitness(next.w, c.w) {
				follow(next, left-1)
			}
		}
	}
	follow(newChronicle(), 8)
	// The new one, all four shapes at most Epochs, and nothing else.
	if len(met) < 1+4*5 || len(met) > 1+4*8 {
		t.Errorf("%d are met", len(met))
	}
}

func (n *numbers) deed(w impl.Witness) deed {
	d := deed{kind: int64(n.below(3)), who: int64(n.below(2)), epoch: w.Epoch}
	switch n.below(8) {
	case 0:
		d.who = int64(n.below(6)) - 2
	case 1:
		d.epoch += int64(n.below(5)) - 2
	case 2:
		d.epoch = int64(n.below(int(w.Epoch) + 1))
	case 3:
		d.who = manyWhos()[n.below(len(manyWhos()))]
		d.epoch = farNumbers()[n.below(len(farNumbers()))]
	case 4, 5:
		d.who = w.Holder
	}
	return d
}

func TestPromise17ManyRows(t *testing.T) {
	n := numbers(240)
	done := [3][2]int{}
	for range 400 {
		c := newChronicle()
		for range 150 {
			d := n.deed(c.w)
			if c.do(t, d) {
				done[d.kind][1]++
			} else {
				done[d.kind][0]++
			}
			if n.below(10) == 0 {
				c.checkOneServes(t)
			}
		}
		c.checkOneServes(t)
	}
	for kind, count := range done {
		if min(count[0], count[1]) < 1000 {
			t.Errorf("of kind %d %v were done", kind, count)
		}
	}
}

// Whoever served once does not by its old Epoch, whatever came since, not even
// where it was granted again; and it can neither drop nor readmit by that.
func TestPromise17OldEpochsAreOver(t *testing.T) {
	n := numbers(241)
	for range 200 {
		c := newChronicle()
		for range 40 {
			c.do(t, n.deed(c.w))
		}
		for epoch, who := range c.granted {
			if epoch == c.w.Epoch {
				continue
			}
			checkServes(t, c.w, who, epoch, false)
			checkDrop(t, c.w, who, epoch, c.w, false)
			checkReadmit(t, c.w, who, epoch, c.w, false)
		}
	}
}

// Whoever is dropped can't be granted until it is readmitted, and whoever alone
// is in Sync can, again and again.
func TestPromise17WhoIsDroppedWaits(t *testing.T) {
	for who := range int64(2) {
		other := 1 - who
		w, _ := impl.Grant(impl.NewWitness(), who)
		for epoch := int64(1); epoch < 50; epoch++ {
			dropped, is := impl.Drop(w, who, epoch)
			if !is || impl.Sole(dropped) != who || !impl.Serves(dropped, who, epoch) {
				t.Fatalf("Drop of %+v: %+v and %v", w, dropped, is)
			}
			checkGrant(t, dropped, other, dropped, false)
			checkDrop(t, dropped, other, epoch, dropped, false)
			checkReadmit(t, dropped, other, epoch, dropped, false)
			again, is := impl.Grant(dropped, who)
			if !is || impl.Sole(again) != who {
				t.Fatalf("Grant of %+v: %+v and %v", dropped, again, is)
			}
			checkGrant(t, again, other, again, false)
			readmitted, is := impl.Readmit(again, who, epoch+1)
			if !is || impl.Sole(readmitted) != -1 {
				t.Fatalf("Readmit of %+v: %+v and %v", again, readmitted, is)
			}
			if handed, is := impl.Grant(readmitted, other); !is || !impl.Serves(handed, other, epoch+2) || impl.Serves(handed, who, epoch+1) {
				t.Fatalf("Grant of %+v: %+v and %v", readmitted, handed, is)
			}
			w = readmitted
		}
	}
}

// From a new Witness on to the last Epoch, where the Holder stays for good.
func TestPromise17UpToTheLastEpoch(t *testing.T) {
	w := impl.NewWitness()
	for epoch := int64(1); epoch <= mostStamp; epoch++ {
		next, is := impl.Grant(w, epoch%2)
		if !is || next.Epoch != epoch || next.Holder != epoch%2 {
			t.Fatalf("Grant of %+v: %+v and %v", w, next, is)
		}
		w = next
	}
	checkWitnessOk(t, w, true)
	for range 3 {
		for who := int64(-1); who <= 2; who++ {
			checkGrant(t, w, who, w, false)
		}
	}
	checkServes(t, w, 0, mostStamp, true)
	checkServes(t, w, 1, mostStamp-1, false)
	dropped, is := impl.Drop(w, 0, mostStamp)
	if !is || impl.Sole(dropped) != 0 {
		t.Errorf("Drop of %+v: %+v and %v", w, dropped, is)
	}
	checkReadmit(t, dropped, 0, mostStamp, w, true)
}

// witnessAnswers are all Witnesses that one is answered by.
func witnessAnswers(w impl.Witness, who int64, epoch int64) map[string]impl.Witness {
	granted, _ := impl.Grant(w, who)
	dropped, _ := impl.Drop(w, who, epoch)
	readmitted, _ := impl.Readmit(w, who, epoch)
	return map[string]impl.Witness{"Grant": granted, "Drop": dropped, "Readmit": readmitted, "NewWitness": impl.NewWitness()}
}

// turnFlags writes to all of an answer and to the room behind it.
func turnFlags(list []bool) {
	list = list[:cap(list)]
	for i := range list {
		list[i] = !list[i]
	}
}

// checkOwnWitness asks that no answer is written to an argument or shares memory
// with one, or with another answer.
func checkOwnWitness(t *testing.T, given impl.Witness, who int64, epoch int64) {
	t.Helper()
	for _, mark := range []bool{false, true} {
		flags, check := withRoomBehind(t, given.Sync, mark)
		w := impl.Witness{Epoch: given.Epoch, Holder: given.Holder, Sync: flags}
		impl.WitnessOk(w)
		impl.Sole(w)
		impl.Serves(w, who, epoch)
		check("a question")
		first, second := witnessAnswers(w, who, epoch), witnessAnswers(w, who, epoch)
		check("an answer")
		for name, answer := range first {
			others := map[string]impl.Witness{}
			for key, other := range second {
				others[key] = witnessCopy(other)
			}
			turnFlags(answer.Sync)
			check(name + ", written to,")
			for key, other := range second {
				if !sameWitness(other, others[key]) {
					t.Errorf("%s and %s of %+v share memory", name, key, given)
				}
			}
		}
		// Nor is what was answered seen to change with what was handed in.
		before := map[string]impl.Witness{}
		for key, answer := range second {
			before[key] = witnessCopy(answer)
		}
		turnFlags(flags)
		for key, answer := range second {
			if !sameWitness(answer, before[key]) {
				t.Errorf("%s of %+v shares memory with it", key, given)
			}
		}
	}
}

func TestPromise21WitnessesAreNewMemory(t *testing.T) {
	for _, w := range slices.Concat(rightWitnesses(), wrongWitnesses()) {
		for who := int64(-1); who <= 2; who++ {
			for _, epoch := range []int64{w.Epoch - 1, w.Epoch, w.Epoch + 1} {
				checkOwnWitness(t, w, who, epoch)
			}
		}
	}
}

// Witnesses grow in two ways, and neither is seen in the other one.
func TestPromise21TwoWitnessesThatGrowFromOne(t *testing.T) {
	w, _ := impl.Grant(impl.NewWitness(), 0)
	for epoch := int64(1); epoch < 100; epoch++ {
		before := witnessCopy(w)
		left, _ := impl.Drop(w, 0, epoch)
		leftWas := witnessCopy(left)
		right, _ := impl.Grant(w, 1)
		impl.Readmit(left, 0, epoch)
		impl.Grant(left, 0)
		if rightThen, _ := impl.Drop(right, 1, epoch+1); !sameWitness(rightThen, witness(epoch+1, 1, false, true)) {
			t.Fatalf("Drop of %+v: %+v", right, rightThen)
		}
		if !sameWitness(w, before) || !sameWitness(left, leftWas) || !sameWitness(right, witness(epoch+1, 1, true, true)) {
			t.Fatalf("%+v, %+v or %+v is not as it was", w, left, right)
		}
		w, _ = impl.Grant(w, 0)
	}
}

func TestPromise21WitnessesNeverPanic(t *testing.T) {
	n := numbers(242)
	list := slices.Concat(manyWhos(), edgeEpochs(), farNumbers(), wrongNumbers())
	pick := func() int64 {
		if n.below(3) == 0 {
			return int64(n.below(4)) - 1
		}
		return list[n.below(len(list))]
	}
	for range 60000 {
		w := impl.Witness{Epoch: pick(), Holder: pick()}
		size := 2
		if n.below(4) == 0 {
			size = n.below(5)
		}
		for range size {
			w.Sync = append(w.Sync, n.below(3) > 0)
		}
		who, epoch := pick(), pick()
		if n.below(2) == 0 {
			who, epoch = w.Holder, w.Epoch
		}
		neverPanics(t, fmt.Sprintf("a call of %+v, %d, %d", w, who, epoch), func() {
			checkWitness(t, w, who, epoch)
		})
	}
}

// What one call does must not show in the next one.
func TestWitnessesAnswerAgainAlike(t *testing.T) {
	w := witness(4, 1, true, true)
	for range 3 {
		turnFlags(impl.NewWitness().Sync)
		checkGrant(t, impl.NewWitness(), 0, witness(1, 0, true, true), true)
		checkGrant(t, w, 0, witness(5, 0, true, true), true)
		checkGrant(t, w, 2, w, false)
		checkDrop(t, w, 1, 4, witness(4, 1, false, true), true)
		checkDrop(t, w, 0, 4, w, false)
		checkReadmit(t, witness(4, 1, false, true), 1, 4, w, true)
		checkReadmit(t, witness(4, 1, true, false), 1, 4, impl.Witness{}, false)
		checkSole(t, w, -1)
		checkSole(t, witness(4, 1, false, true), 1)
		checkServes(t, w, 1, 4, true)
		checkServes(t, w, 1, 5, false)
	}
}
