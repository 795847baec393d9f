package tests

import (
	"fmt"
	"maps"
	"math"
	"slices"
	"strings"
	"testing"

	"loop.example/g00223/impl"
)

const (
	mostNet  = 60
	mostTold = 200
	mostActs = 300
)

// node has the flags of these letters: Leads, Ready, Both, Fresh.
func node(flags string, epoch int64, seq int64, values ...string) impl.Node {
	has := func(letter string) bool { return strings.Contains(flags, letter) }
	return impl.Node{Epoch: epoch, Leads: has("L"), Ready: has("R"), Both: has("B"), Fresh: has("F"), Seq: seq, Values: values}
}

// waiting waits for a Put of what n has there.
func waiting(n impl.Node, number int64) impl.Node {
	n.Waits, n.Put = true, put(n.Seq, number, n.Values[number])
	return n
}

func pairOf(w impl.Witness, first impl.Node, second impl.Node, net ...impl.Note) impl.Pair {
	return impl.Pair{Nodes: []impl.Node{first, second}, Witness: w, Net: net}
}

func withTold(p impl.Pair, told ...impl.Put) impl.Pair {
	p.Told = told
	return p
}

func withNet(p impl.Pair, net ...impl.Note) impl.Pair {
	p.Net = net
	return p
}

func granting(who int64) impl.Act {
	return impl.Act{Kind: impl.AcGrant, Who: who}
}

func writing(who int64, number int64, text string) impl.Act {
	return impl.Act{Kind: impl.AcWrite, Who: who, At: number, Text: text}
}

func sending(who int64) impl.Act {
	return impl.Act{Kind: impl.AcSend, Who: who}
}

func delivering(number int64) impl.Act {
	return impl.Act{Kind: impl.AcDeliver, At: number}
}

func losing(number int64) impl.Act {
	return impl.Act{Kind: impl.AcLose, At: number}
}

func doubling(number int64) impl.Act {
	return impl.Act{Kind: impl.AcTwice, At: number}
}

func dropping(who int64) impl.Act {
	return impl.Act{Kind: impl.AcDrop, Who: who}
}

func readmitting(who int64) impl.Act {
	return impl.Act{Kind: impl.AcReadmit, Who: who}
}

func reading(who int64, number int64) impl.Act {
	return impl.Act{Kind: impl.AcRead, Who: who, At: number}
}

func nodeCopy(n impl.Node) impl.Node {
	n.Values = slices.Clone(n.Values)
	return n
}

func noteCopy(n impl.Note) impl.Note {
	n.Values = slices.Clone(n.Values)
	return n
}

func pairCopy(p impl.Pair) impl.Pair {
	own := impl.Pair{Witness: witnessCopy(p.Witness), Told: slices.Clone(p.Told)}
	for _, n := range p.Nodes {
		own.Nodes = append(own.Nodes, nodeCopy(n))
	}
	for _, n := range p.Net {
		own.Net = append(own.Net, noteCopy(n))
	}
	return own
}

func flagsOf(n impl.Node) [5]bool {
	return [5]bool{n.Leads, n.Ready, n.Both, n.Fresh, n.Waits}
}

func sameNode(a impl.Node, b impl.Node) bool {
	return a.Epoch == b.Epoch && flagsOf(a) == flagsOf(b) && a.Seq == b.Seq && a.Put == b.Put && slices.Equal(a.Values, b.Values)
}

func samePair(a impl.Pair, b impl.Pair) bool {
	return slices.EqualFunc(a.Nodes, b.Nodes, sameNode) && sameWitness(a.Witness, b.Witness) && slices.EqualFunc(a.Net, b.Net, sameNote) && slices.Equal(a.Told, b.Told)
}

func tellNode(n impl.Node) string {
	flags := ""
	for i, is := range flagsOf(n) {
		if is {
			flags += "LRBFW"[i : i+1]
		}
	}
	return fmt.Sprintf("{%d %q %d %s %s}", n.Epoch, flags, n.Seq, tellTexts(n.Values), tellPuts([]impl.Put{n.Put}))
}

func tellPair(p impl.Pair) string {
	told := []string{}
	for _, n := range p.Nodes {
		told = append(told, tellNode(n))
	}
	told = append(told, fmt.Sprintf("%+v", p.Witness))
	for _, n := range p.Net {
		told = append(told, tellNote(n))
	}
	return strings.Join(append(told, tellPuts(p.Told)), "\n\t")
}

func tellAct(a impl.Act) string {
	return fmt.Sprintf("{%d %d %d %s}", a.Kind, a.Who, a.At, tellText(a.Text))
}

func plainNodeOk(n impl.Node) bool {
	numbers := 0 <= n.Epoch && n.Epoch <= mostStamp && 0 <= n.Seq && n.Seq <= mostStamp
	values := len(n.Values) == 3 && plainValuesOk(n.Values)
	flags := n.Leads || flagsOf(n) == [5]bool{}
	waits := n.Waits && plainPutOk(n.Put) && n.Put.Seq == n.Seq || !n.Waits && n.Put == put(0, 0, "")
	return numbers && values && flags && waits
}

func plainPairOk(p impl.Pair) bool {
	for _, n := range p.Nodes {
		if !plainNodeOk(n) {
			return false
		}
	}
	for _, n := range p.Net {
		if !plainNoteOk(n) || len(n.Values)%3 != 0 || len(n.Values) > 3 {
			return false
		}
	}
	return len(p.Nodes) == 2 && plainWitnessOk(p.Witness) && len(p.Net) <= 60 && plainPutsOk(p.Told) && len(p.Told) <= 200
}

// plainMay tells whether a right Pair allows that Act.
func plainMay(p impl.Pair, a impl.Act) bool {
	if a.Who != 0 && a.Who != 1 {
		return false
	}
	n := p.Nodes[a.Who]
	_, mayGrant := plainGrant(p.Witness, a.Who)
	serves := plainServes(p.Witness, a.Who, n.Epoch)
	free := n.Leads && n.Ready && !n.Waits && (a.At == 0 || a.At == 1 || a.At == 2)
	underWay := 0 <= a.At && a.At < int64(len(p.Net))
	may := map[int64]bool{
		1: mayGrant,
		2: free && len(a.Text) <= 24 && n.Seq < mostStamp && (n.Both || serves),
		3: n.Leads,
		4: underWay, 5: underWay, 6: underWay,
		7: n.Leads && serves,
		8: n.Fresh && !n.Waits && serves,
		9: free && serves,
	}
	return may[a.Kind]
}

func plainSent(p *impl.Pair, n impl.Note) {
	p.Net = append(p.Net, noteCopy(n))
	p.Net = p.Net[:min(len(p.Net), 60)]
}

func plainTold(p *impl.Pair, told impl.Put) {
	p.Told = append(p.Told, told)
	p.Told = p.Told[:min(len(p.Told), 200)]
}

// plainSettled has n's Put told if it waits.
func plainSettled(p *impl.Pair, n *impl.Node) {
	if n.Waits {
		plainTold(p, n.Put)
	}
	n.Waits, n.Put = false, impl.Put{}
}

// plainDone changes p by an Act that it allows, and tells what was read.
func plainDone(p *impl.Pair, a impl.Act) string {
	n, other := &p.Nodes[a.Who], 1-a.Who
	switch a.Kind {
	case 1:
		p.Witness, _ = plainGrant(p.Witness, a.Who)
		both := p.Witness.Sync[other]
		n.Epoch, n.Leads, n.Ready, n.Both, n.Fresh = p.Witness.Epoch, true, !both, both, false
		n.Waits, n.Put = false, impl.Put{}
	case 2:
		n.Seq++
		n.Values[a.At] = a.Text
		made := put(n.Seq, a.At, a.Text)
		if n.Both {
			n.Waits, n.Put = true, made
			plainSent(p, putNote(other, n.Epoch, n.Seq, a.At, a.Text))
		} else {
			n.Fresh = false
			plainTold(p, made)
		}
	case 3:
		plainSent(p, copyNote(other, n.Epoch, n.Seq, n.Values...))
	case 4:
		heard := p.Net[a.At]
		p.Net = slices.Delete(p.Net, int(a.At), int(a.At)+1)
		plainHeard(p, heard)
	case 5:
		p.Net = slices.Delete(p.Net, int(a.At), int(a.At)+1)
	case 6:
		plainSent(p, p.Net[a.At])
	case 7:
		p.Witness, _ = plainSaid(p.Witness, a.Who, n.Epoch, false)
		n.Both, n.Fresh, n.Ready = false, false, true
		plainSettled(p, n)
	case 8:
		p.Witness, _ = plainSaid(p.Witness, a.Who, n.Epoch, true)
		n.Both = true
	case 9:
		return n.Values[a.At]
	}
	return ""
}

func plainHeard(p *impl.Pair, heard impl.Note) {
	n := &p.Nodes[heard.To]
	back := haveNote(1-heard.To, heard.Epoch, heard.Seq)
	follows := !n.Leads && heard.Epoch == n.Epoch
	switch {
	case heard.Kind == impl.NtPut && follows && heard.At < 3:
		if heard.Seq == n.Seq+1 {
			n.Seq++
			n.Values[heard.At] = heard.Text
		}
		if heard.Seq <= n.Seq {
			plainSent(p, back)
		}
	case heard.Kind == impl.NtCopy && len(heard.Values) == 3 && (heard.Epoch > n.Epoch || follows && heard.Seq >= n.Seq):
		*n = impl.Node{Epoch: heard.Epoch, Seq: heard.Seq, Values: heard.Values}
		plainSent(p, back)
	case heard.Kind == impl.NtHave && n.Leads && heard.Epoch == n.Epoch && heard.Seq == n.Seq:
		n.Ready = n.Ready || n.Both
		n.Fresh = n.Fresh || !n.Both
		plainSettled(p, n)
	}
}

func plainHappen(p impl.Pair, a impl.Act) (impl.Pair, string, int64) {
	if !plainPairOk(p) {
		return impl.Pair{}, "", 2
	}
	if !plainMay(p, a) {
		return p, "", 1
	}
	own := pairCopy(p)
	text := plainDone(&own, a)
	return own, text, 0
}

func plainPlay(p impl.Pair, list []impl.Act) (impl.Pair, []int64) {
	if !plainPairOk(p) || len(list) > 300 {
		return impl.Pair{}, nil
	}
	codes := []int64{}
	for _, a := range list {
		next, _, code := plainHappen(p, a)
		p = next
		codes = append(codes, code)
	}
	return p, codes
}

func plainSteady(p impl.Pair) bool {
	return plainPairOk(p) && len(plainMembers(p.Witness)) == 2 && slices.Equal(p.Nodes[0].Values, p.Nodes[1].Values)
}

func checkPairOk(t *testing.T, p impl.Pair, want bool) {
	t.Helper()
	if got := impl.PairOk(p); got != want {
		t.Errorf("PairOk is %v of\n\t%s", got, tellPair(p))
	}
}

func checkSteady(t *testing.T, p impl.Pair, want bool) {
	t.Helper()
	if got := impl.Steady(p); got != want {
		t.Errorf("Steady is %v of\n\t%s", got, tellPair(p))
	}
}

func checkHappen(t *testing.T, p impl.Pair, a impl.Act, want impl.Pair, wantText string, wantCode int64) {
	t.Helper()
	got, text, code := impl.Happen(p, a)
	if !samePair(got, want) || text != wantText || code != wantCode {
		t.Errorf("Happen of %s: %s and %d, not %s and %d, with\n\t%s\nnot\n\t%s\nof\n\t%s", tellAct(a), tellText(text), code, tellText(wantText), wantCode, tellPair(got), tellPair(want), tellPair(p))
	}
}

func checkDone(t *testing.T, p impl.Pair, a impl.Act, want impl.Pair) {
	t.Helper()
	checkHappen(t, p, a, want, "", 0)
}

// checkNothing asks that nothing is done.
func checkNothing(t *testing.T, p impl.Pair, a impl.Act) {
	t.Helper()
	checkHappen(t, p, a, p, "", 1)
}

func checkPlay(t *testing.T, p impl.Pair, list []impl.Act, want impl.Pair, wantCodes []int64) {
	t.Helper()
	got, codes := impl.Play(p, list)
	if !samePair(got, want) || !slices.Equal(codes, wantCodes) {
		t.Errorf("Play of %d Acts: %v, not %v, with\n\t%s\nnot\n\t%s\nof\n\t%s", len(list), codes, wantCodes, tellPair(got), tellPair(want), tellPair(p))
	}
}

// checkAct holds Happen against the plain one, and tells what it tells.
func checkAct(t *testing.T, p impl.Pair, a impl.Act) int64 {
	t.Helper()
	want, text, code := plainHappen(p, a)
	checkHappen(t, p, a, want, text, code)
	return code
}

// bothPair is one of which number 0 serves, and all is alike.
func bothPair() impl.Pair {
	return pairOf(witness(4, 0, true, true), node("LRB", 4, 7, "a", "b", "c"), node("", 4, 7, "a", "b", "c"))
}

// alonePair is one of which number 1 serves alone.
func alonePair() impl.Pair {
	return pairOf(witness(4, 1, false, true), node("", 3, 9, "x", "", "z"), node("LR", 4, 7, "a", "b", "c"))
}

// waitingPair is one of which number 0 waits for what number 1 has.
func waitingPair() impl.Pair {
	return pairOf(witness(4, 0, true, true), waiting(node("LRB", 4, 8, "a", "n", "c"), 1), node("", 4, 8, "a", "n", "c"), haveNote(0, 4, 8))
}

func manyPuts(count int) []impl.Put {
	list := []impl.Put{}
	for i := range count {
		list = append(list, put(int64(i)+1, int64(i)%3, fmt.Sprint(i)))
	}
	return list
}

func manyHaves(count int) []impl.Note {
	list := []impl.Note{}
	for i := range count {
		list = append(list, haveNote(int64(i)%2, 1, int64(i)))
	}
	return list
}

func TestNewPair(t *testing.T) {
	p := impl.NewPair()
	want := pairOf(witness(0, -1, true, true), node("", 0, 0, "", "", ""), node("", 0, 0, "", "", ""))
	if !samePair(p, want) {
		t.Errorf("NewPair:\n\t%s", tellPair(p))
	}
	checkPairOk(t, p, true)
	checkSteady(t, p, true)
	for kind := int64(-1); kind <= 11; kind++ {
		for who := int64(-1); who <= 2; who++ {
			a := impl.Act{Kind: kind, Who: who}
			if kind == impl.AcGrant && (who == 0 || who == 1) {
				continue
			}
			checkNothing(t, p, a)
		}
	}
	checkDone(t, p, granting(0), pairOf(witness(1, 0, true, true), node("LB", 1, 0, "", "", ""), node("", 0, 0, "", "", "")))
	checkDone(t, p, granting(1), pairOf(witness(1, 1, true, true), node("", 0, 0, "", "", ""), node("LB", 1, 0, "", "", "")))
}

// changedNode is p with one Node changed.
func changedNode(p impl.Pair, who int, change func(n *impl.Node)) impl.Pair {
	own := pairCopy(p)
	change(&own.Nodes[who])
	return own
}

func TestPairOkOfNodes(t *testing.T) {
	most := noughtText(24)
	long := noughtText(25)
	for who := range 2 {
		for _, c := range []struct {
			what   string
			change func(n *impl.Node)
			want   bool
		}{
			{"as it is", func(n *impl.Node) {}, true},
			{"Epoch -1", func(n *impl.Node) { n.Epoch = -1 }, false},
			{"Epoch 0", func(n *impl.Node) { n.Epoch = 0 }, true},
			{"the last Epoch", func(n *impl.Node) { n.Epoch = mostStamp }, true},
			{"an Epoch too great", func(n *impl.Node) { n.Epoch = mostStamp + 1 }, false},
			{"the least Epoch", func(n *impl.Node) { n.Epoch = math.MinInt64 }, false},
			{"the greatest Epoch", func(n *impl.Node) { n.Epoch = math.MaxInt64 }, false},
			{"Seq -1", func(n *impl.Node) { n.Seq = -1 }, false},
			{"Seq 0", func(n *impl.Node) { n.Seq = 0 }, true},
			{"the last Seq", func(n *impl.Node) { n.Seq = mostStamp }, true},
			{"a Seq too great", func(n *impl.Node) { n.Seq = mostStamp + 1 }, false},
			{"the least Seq", func(n *impl.Node) { n.Seq = math.MinInt64 }, false},
			{"the greatest Seq", func(n *impl.Node) { n.Seq = math.MaxInt64 }, false},
			{"no Values", func(n *impl.Node) { n.Values = nil }, false},
			{"one Value", func(n *impl.Node) { n.Values = []string{"a"} }, false},
			{"two Values", func(n *impl.Node) { n.Values = []string{"a", "b"} }, false},
			{"three other Values", func(n *impl.Node) { n.Values = []string{"", "", ""} }, true},
			{"four Values", func(n *impl.Node) { n.Values = []string{"a", "b", "c", ""} }, false},
			{"long Values", func(n *impl.Node) { n.Values = []string{most, most, most} }, true},
			{"a Value too long", func(n *impl.Node) { n.Values = []string{long, "b", "c"} }, false},
			{"the second Value too long", func(n *impl.Node) { n.Values = []string{"a", long, "c"} }, false},
			{"the last Value too long", func(n *impl.Node) { n.Values = []string{"a", "b", long} }, false},
			{"leads", func(n *impl.Node) { n.Leads = true }, true},
			{"leads not, Ready", func(n *impl.Node) { *n = node("R", 4, 7, "a", "b", "c") }, false},
			{"leads not, Both", func(n *impl.Node) { *n = node("B", 4, 7, "a", "b", "c") }, false},
			{"leads not, Fresh", func(n *impl.Node) { *n = node("F", 4, 7, "a", "b", "c") }, false},
			{"leads not, waits", func(n *impl.Node) { *n = waiting(node("", 4, 7, "a", "b", "c"), 1) }, false},
			{"leads not, all flags", func(n *impl.Node) { *n = waiting(node("RBF", 4, 7, "a", "b", "c"), 1) }, false},
			{"leads and is Ready", func(n *impl.Node) { *n = node("LR", 4, 7, "a", "b", "c") }, true},
			{"leads with Both", func(n *impl.Node) { *n = node("LB", 4, 7, "a", "b", "c") }, true},
			{"leads and is Fresh", func(n *impl.Node) { *n = node("LF", 4, 7, "a", "b", "c") }, true},
			{"leads and waits", func(n *impl.Node) { *n = waiting(node("L", 4, 7, "a", "b", "c"), 1) }, true},
			{"leads, all flags", func(n *impl.Node) { *n = waiting(node("LRBF", 4, 7, "a", "b", "c"), 1) }, true},
			{"leads, a Put but waits not", func(n *impl.Node) { n.Leads, n.Put = true, put(7, 1, "b") }, false},
			{"leads not, a Put", func(n *impl.Node) { n.Put = put(7, 1, "b") }, false},
			{"a Put of a Seq alone", func(n *impl.Node) { n.Put.Seq = 7 }, false},
			{"a Put of a Seq below 0", func(n *impl.Node) { n.Put.Seq = -1 }, false},
			{"a Put of an At alone", func(n *impl.Node) { n.Put.At = 1 }, false},
			{"a Put of a Text alone", func(n *impl.Node) { n.Put.Text = "b" }, false},
			{"waits without a Put", func(n *impl.Node) { n.Leads, n.Waits = true, true }, false},
			{"waits without a Put, Seq 0", func(n *impl.Node) { n.Leads, n.Waits, n.Seq = true, true, 0 }, false},
			{"waits, Seq 1 less", func(n *impl.Node) { n.Leads, n.Waits, n.Put = true, true, put(6, 1, "b") }, false},
			{"waits, Seq 1 more", func(n *impl.Node) { n.Leads, n.Waits, n.Put = true, true, put(8, 1, "b") }, false},
			{"waits, Seq 0", func(n *impl.Node) { n.Leads, n.Waits, n.Seq, n.Put = true, true, 0, put(0, 1, "b") }, false},
			{"waits, Seq 1", func(n *impl.Node) { n.Leads, n.Waits, n.Seq, n.Put = true, true, 1, put(1, 1, "b") }, true},
			{"waits, the last Seq", func(n *impl.Node) { n.Leads, n.Waits, n.Seq, n.Put = true, true, mostStamp, put(mostStamp, 1, "b") }, true},
			{"waits, a Seq too great", func(n *impl.Node) { n.Leads, n.Waits, n.Seq, n.Put = true, true, mostStamp+1, put(mostStamp+1, 1, "b") }, false},
			{"waits for another Text", func(n *impl.Node) { n.Leads, n.Waits, n.Put = true, true, put(7, 1, "other") }, true},
			{"waits, At 63", func(n *impl.Node) { n.Leads, n.Waits, n.Put = true, true, put(7, 63, "b") }, true},
			{"waits, At 64", func(n *impl.Node) { n.Leads, n.Waits, n.Put = true, true, put(7, 64, "b") }, false},
			{"waits, At -1", func(n *impl.Node) { n.Leads, n.Waits, n.Put = true, true, put(7, -1, "b") }, false},
			{"waits for a long Text", func(n *impl.Node) { n.Leads, n.Waits, n.Put = true, true, put(7, 1, most) }, true},
			{"waits for a Text too long", func(n *impl.Node) { n.Leads, n.Waits, n.Put = true, true, put(7, 1, long) }, false},
		} {
			base := pairOf(witness(4, 0, true, true), node("", 4, 7, "a", "b", "c"), node("", 4, 7, "a", "b", "c"))
			p := changedNode(base, who, c.change)
			if got := impl.PairOk(p); got != c.want || got != plainPairOk(p) {
				t.Errorf("%s: PairOk is %v of\n\t%s", c.what, got, tellPair(p))
			}
		}
	}
}

func TestPairOkOfTheRest(t *testing.T) {
	base := bothPair()
	for count := range 4 {
		p := impl.Pair{Witness: base.Witness, Nodes: slices.Repeat(base.Nodes[1:], count)}
		checkPairOk(t, p, count == 2)
	}
	for _, w := range rightWitnesses() {
		checkPairOk(t, pairOf(w, base.Nodes[0], base.Nodes[1]), true)
	}
	for _, w := range wrongWitnesses() {
		checkPairOk(t, pairOf(w, base.Nodes[0], base.Nodes[1]), false)
	}
	for _, count := range []int{0, 1, 2, mostNet - 1, mostNet, mostNet + 1, mostNet + 2, 256, 300} {
		checkPairOk(t, withNet(base, manyHaves(count)...), count <= mostNet)
	}
	for _, count := range []int{0, 1, 2, mostTold - 1, mostTold, mostTold + 1, mostTold + 2, 256, 400} {
		checkPairOk(t, withTold(base, manyPuts(count)...), count <= mostTold)
	}
	for _, p := range wrongPuts() {
		checkPairOk(t, withTold(base, p), false)
		checkPairOk(t, withTold(base, put(1, 0, "a"), p), false)
		checkPairOk(t, withTold(base, p, put(1, 0, "a")), false)
	}
	// No word says that what was told is in order, or told once.
	checkPairOk(t, withTold(base, put(9, 63, "a"), put(1, 0, ""), put(9, 63, "a"), put(mostStamp, 2, noughtText(24))), true)
	checkPairOk(t, impl.Pair{}, false)
	checkPairOk(t, impl.Pair{Witness: impl.NewWitness()}, false)
	checkPairOk(t, impl.Pair{Nodes: base.Nodes}, false)
}

func TestPairOkOfNotes(t *testing.T) {
	base := bothPair()
	right := []impl.Note{putNote(0, 4, 8, 1, "n"), putNote(1, 0, 0, 63, noughtText(24)), copyNote(0, 4, 7, "a", "b", "c"), copyNote(1, mostStamp, mostStamp, "", "", ""), copyNote(1, 4, 7), haveNote(0, 4, 7), haveNote(1, 0, 0)}
	for _, n := range right {
		checkPairOk(t, withNet(base, n), true)
		checkPairOk(t, withNet(base, n, n, n), true)
	}
	for count := range 66 {
		n := copyNote(1, 4, 7, make([]string, count)...)
		is := count == 0 || count == 3
		checkPairOk(t, withNet(base, n), is)
		checkPairOk(t, withNet(base, haveNote(0, 4, 7), n), is)
		checkPairOk(t, withNet(base, n, haveNote(0, 4, 7)), is)
	}
	for _, n := range wrongNotes() {
		checkPairOk(t, withNet(base, n), false)
		checkPairOk(t, withNet(base, right[0], n, right[5]), false)
	}
}

// An Act has a Kind and a Who, and At and Text where its Kind asks for them.
func TestHappenOfNoSuchKindOrWho(t *testing.T) {
	p := withNet(waitingPair(), haveNote(0, 4, 8), copyNote(1, 4, 8, "a", "n", "c"))
	for kind := int64(0); kind <= 10; kind++ {
		for _, who := range manyWhos() {
			for _, number := range []int64{-1, 0, 1, 2, 3} {
				a := impl.Act{Kind: kind, Who: who, At: number, Text: "t"}
				if kind == 0 || kind == 10 || who != 0 && who != 1 {
					checkNothing(t, p, a)
					checkNothing(t, alonePair(), a)
				}
				checkAct(t, p, a)
				checkAct(t, alonePair(), a)
				checkAct(t, bothPair(), a)
			}
		}
	}
	for _, wrong := range append(farNumbers(), wrongNumbers()...) {
		for _, who := range []int64{0, 1, wrong} {
			checkNothing(t, p, impl.Act{Kind: wrong, Who: who})
			checkNothing(t, p, impl.Act{Kind: wrong, Who: who, At: wrong})
		}
	}
}

func TestHappenOfWrongPairs(t *testing.T) {
	n := numbers(250)
	for _, p := range n.wrongPairs() {
		checkPairOk(t, p, false)
		checkSteady(t, p, false)
		for kind := int64(0); kind <= 10; kind++ {
			for who := int64(-1); who <= 2; who++ {
				checkHappen(t, p, impl.Act{Kind: kind, Who: who}, impl.Pair{}, "", 2)
			}
		}
		checkPlay(t, p, nil, impl.Pair{}, nil)
		checkPlay(t, p, []impl.Act{granting(0), reading(0, 0)}, impl.Pair{}, nil)
		checkPlay(t, p, make([]impl.Act, mostActs), impl.Pair{}, nil)
	}
}

// farPlaces are no number of a Value.
func farPlaces() []int64 {
	return append(append(farNumbers(), wrongNumbers()...), 3, 4, 63, 64, 255, 256, 257, 258)
}

func TestGrants(t *testing.T) {
	p := bothPair()
	checkDone(t, p, granting(0), pairOf(witness(5, 0, true, true), node("LB", 5, 7, "a", "b", "c"), p.Nodes[1]))
	checkDone(t, p, granting(1), pairOf(witness(5, 1, true, true), p.Nodes[0], node("LB", 5, 7, "a", "b", "c")))
	// It is Ready at once where the other one is not in Sync.
	q := alonePair()
	checkDone(t, q, granting(1), pairOf(witness(5, 1, false, true), q.Nodes[0], node("LR", 5, 7, "a", "b", "c")))
	checkNothing(t, q, granting(0))
	// What it waits for, and what was Fresh, is gone; what it has stays.
	w := withTold(waitingPair(), put(3, 0, "told"))
	w.Nodes[0].Fresh = true
	want := pairOf(witness(5, 0, true, true), node("LB", 5, 8, "a", "n", "c"), w.Nodes[1], w.Net...)
	checkDone(t, w, granting(0), withTold(want, w.Told...))
	checkDone(t, withTold(w), granting(1), pairOf(witness(5, 1, true, true), w.Nodes[0], node("LB", 5, 8, "a", "n", "c"), w.Net...))
	fresh := pairOf(witness(4, 1, false, true), node("", 4, 7, "a", "b", "c"), node("LRF", 4, 7, "a", "b", "c"))
	checkDone(t, fresh, granting(1), pairOf(witness(5, 1, false, true), fresh.Nodes[0], node("LR", 5, 7, "a", "b", "c")))
	// The Node's own Epoch does not count.
	ahead := pairOf(witness(4, 0, true, true), node("L", 900, 7, "a", "b", "c"), node("LR", 800, 7, "a", "b", "c"))
	checkDone(t, ahead, granting(0), pairOf(witness(5, 0, true, true), node("LB", 5, 7, "a", "b", "c"), ahead.Nodes[1]))
	for _, number := range farPlaces() {
		a := granting(0)
		a.At, a.Text = number, noughtText(70)
		checkDone(t, p, a, pairOf(witness(5, 0, true, true), node("LB", 5, 7, "a", "b", "c"), p.Nodes[1]))
	}
}

func TestGrantsAtTheLastEpoch(t *testing.T) {
	for _, epoch := range []int64{mostStamp - 2, mostStamp - 1, mostStamp} {
		p := bothPair()
		p.Witness.Epoch = epoch
		for who := range int64(2) {
			if epoch == mostStamp {
				checkNothing(t, p, granting(who))
			} else if q, _, code := impl.Happen(p, granting(who)); code != 0 || q.Nodes[who].Epoch != epoch+1 || !q.Nodes[who].Leads {
				t.Errorf("Grant of Epoch %d: %d with\n\t%s", epoch, code, tellPair(q))
			}
		}
	}
}

func TestWritesWithBoth(t *testing.T) {
	p := withTold(bothPair(), put(2, 2, "c"))
	for _, c := range []struct {
		number int64
		text   string
		values []string
	}{
		{0, "n", []string{"n", "b", "c"}}, {1, "n", []string{"a", "n", "c"}}, {2, "n", []string{"a", "b", "n"}},
		{0, "", []string{"", "b", "c"}}, {2, "c", []string{"a", "b", "c"}}, {1, noughtText(24), []string{"a", noughtText(24), "c"}},
	} {
		n := node("LRB", 4, 8, c.values...)
		n.Waits, n.Put = true, put(8, c.number, c.text)
		want := withTold(pairOf(p.Witness, n, p.Nodes[1], putNote(1, 4, 8, c.number, c.text)), p.Told...)
		checkDone(t, p, writing(0, c.number, c.text), want)
	}
	// The other one's Note goes the other way; what was under way stays ahead.
	q := pairOf(witness(4, 1, true, true), node("", 4, 7, "a", "b", "c"), node("LRB", 4, 7, "a", "b", "c"), haveNote(1, 4, 7))
	checkDone(t, q, writing(1, 0, "n"), pairOf(q.Witness, q.Nodes[0], waiting(node("LRB", 4, 8, "n", "b", "c"), 0), haveNote(1, 4, 7), putNote(0, 4, 8, 0, "n")))
	// With Both it need not serve, and what is Fresh stays so.
	for _, w := range rightWitnesses() {
		r := pairOf(w, node("LRBF", 4, 7, "a", "b", "c"), node("LR", 5, 7, "a", "b", "c"))
		checkDone(t, r, writing(0, 0, "n"), pairOf(w, waiting(node("LRBF", 4, 8, "n", "b", "c"), 0), r.Nodes[1], putNote(1, 4, 8, 0, "n")))
	}
}

func TestWritesAlone(t *testing.T) {
	p := withTold(alonePair(), put(2, 2, "c"))
	for _, c := range []struct {
		number int64
		text   string
		values []string
	}{
		{0, "n", []string{"n", "b", "c"}}, {1, "n", []string{"a", "n", "c"}}, {2, "n", []string{"a", "b", "n"}},
		{0, "", []string{"", "b", "c"}}, {2, "c", []string{"a", "b", "c"}}, {1, noughtText(24), []string{"a", noughtText(24), "c"}},
	} {
		want := pairOf(p.Witness, p.Nodes[0], node("LR", 4, 8, c.values...))
		checkDone(t, p, writing(1, c.number, c.text), withTold(want, put(2, 2, "c"), put(8, c.number, c.text)))
	}
	// It is not Fresh any more: the other one has not what was written.
	fresh := pairOf(witness(4, 1, false, true), node("", 4, 7, "a", "b", "c"), node("LRF", 4, 7, "a", "b", "c"))
	checkDone(t, fresh, writing(1, 0, "n"), withTold(pairOf(fresh.Witness, fresh.Nodes[0], node("LR", 4, 8, "n", "b", "c")), put(8, 0, "n")))
	// Not Both, though the other one is in Sync: whether it serves counts alone.
	odd := pairOf(witness(4, 1, true, true), node("", 4, 7, "a", "b", "c"), node("LR", 4, 7, "a", "b", "c"))
	checkDone(t, odd, writing(1, 0, "n"), withTold(pairOf(odd.Witness, odd.Nodes[0], node("LR", 4, 8, "n", "b", "c")), put(8, 0, "n")))
	for _, w := range rightWitnesses() {
		q := pairOf(w, p.Nodes[0], p.Nodes[1])
		if w.Holder != 1 || w.Epoch != 4 {
			checkNothing(t, q, writing(1, 0, "n"))
		}
	}
	for _, epoch := range []int64{3, 5} {
		q := alonePair()
		q.Witness.Epoch = epoch
		checkNothing(t, q, writing(1, 0, "n"))
		q = alonePair()
		q.Nodes[1].Epoch = epoch
		checkNothing(t, q, writing(1, 0, "n"))
	}
	q := alonePair()
	q.Witness = witness(4, 0, true, true)
	checkNothing(t, q, writing(1, 0, "n"))
}

// Of a write and of a read each thing that is asked for is not there, one by one.
func TestWritesAndReadsThatAreRefused(t *testing.T) {
	for who := range int64(2) {
		for _, both := range []string{"", "B"} {
			w := witness(4, who, who == 0 || both != "", who == 1 || both != "")
			sides := func(n impl.Node) impl.Pair {
				p := pairOf(w, node("", 4, 7, "a", "b", "c"), node("", 4, 7, "a", "b", "c"))
				p.Nodes[who] = n
				return p
			}
			free := sides(node("LR"+both, 4, 7, "a", "b", "c"))
			if _, _, code := impl.Happen(free, writing(who, 1, "n")); code != 0 {
				t.Errorf("it does not write:\n\t%s", tellPair(free))
			}
			checkHappen(t, free, reading(who, 1), free, "b", 0)
			for _, n := range []impl.Node{node("", 4, 7, "a", "b", "c"), node("L"+both, 4, 7, "a", "b", "c"), node("LF"+both, 4, 7, "a", "b", "c"), waiting(node("LR"+both, 4, 7, "a", "b", "c"), 0), waiting(node("L"+both, 4, 7, "a", "b", "c"), 1)} {
				checkNothing(t, sides(n), writing(who, 1, "n"))
				checkNothing(t, sides(n), reading(who, 1))
			}
			for _, number := range farPlaces() {
				checkNothing(t, free, writing(who, number, "n"))
				checkNothing(t, free, reading(who, number))
			}
			for _, text := range longTexts() {
				checkNothing(t, free, writing(who, 1, text))
			}
			checkNothing(t, free, writing(1-who, 1, "n"))
			checkNothing(t, free, reading(1-who, 1))
		}
	}
}

func TestWritesAtTheLastSeq(t *testing.T) {
	for _, p := range []impl.Pair{bothPair(), alonePair()} {
		who := p.Witness.Holder
		for _, seq := range []int64{0, mostStamp - 2, mostStamp - 1, mostStamp} {
			q := pairCopy(p)
			q.Nodes[who].Seq = seq
			if seq == mostStamp {
				checkNothing(t, q, writing(who, 0, "n"))
				checkHappen(t, q, reading(who, 1), q, "b", 0)
				continue
			}
			r, _, code := impl.Happen(q, writing(who, 0, "n"))
			if code != 0 || r.Nodes[who].Seq != seq+1 {
				t.Errorf("a write behind Seq %d: %d with\n\t%s", seq, code, tellPair(r))
			}
			checkPairOk(t, r, true)
		}
	}
}

func TestSends(t *testing.T) {
	p := bothPair()
	checkDone(t, p, sending(0), withNet(p, copyNote(1, 4, 7, "a", "b", "c")))
	checkNothing(t, p, sending(1))
	q := alonePair()
	checkDone(t, q, sending(1), withNet(q, copyNote(0, 4, 7, "a", "b", "c")))
	checkNothing(t, q, sending(0))
	// Whether it is Ready, waits or serves does not count.
	for _, n := range []impl.Node{node("L", 6, 2, "", "", ""), node("LR", 6, 2, "", "", ""), node("LB", 0, 0, "x", "", ""), waiting(node("LRB", 6, 2, "x", "", noughtText(24)), 0), node("LF", mostStamp, mostStamp, "", "", "")} {
		r := pairOf(p.Witness, n, p.Nodes[1], haveNote(0, 1, 1))
		checkDone(t, r, sending(0), withNet(r, haveNote(0, 1, 1), copyNote(1, n.Epoch, n.Seq, n.Values...)))
	}
	for _, number := range farPlaces() {
		a := sending(0)
		a.At, a.Text = number, noughtText(70)
		checkDone(t, p, a, withNet(p, copyNote(1, 4, 7, "a", "b", "c")))
	}
}

func TestNotesThatAreLostAndComeTwice(t *testing.T) {
	notes := []impl.Note{haveNote(0, 9, 9), putNote(0, 9, 9, 1, "n"), copyNote(1, 1, 1, "x", "y", "z"), copyNote(1, 9, 9)}
	p := withNet(bothPair(), notes...)
	for i := range notes {
		rest := slices.Delete(slices.Clone(notes), i, i+1)
		checkDone(t, p, losing(int64(i)), withNet(p, rest...))
		checkDone(t, p, doubling(int64(i)), withNet(p, append(slices.Clone(notes), notes[i])...))
		// None of these does anything where it is heard.
		checkDone(t, p, delivering(int64(i)), withNet(p, rest...))
		for _, who := range []int64{-1, 2, math.MinInt64, math.MaxInt64} {
			for _, kind := range []int64{impl.AcDeliver, impl.AcLose, impl.AcTwice} {
				checkNothing(t, p, impl.Act{Kind: kind, Who: who, At: int64(i)})
			}
		}
		for _, kind := range []int64{impl.AcDeliver, impl.AcLose, impl.AcTwice} {
			a, b := impl.Act{Kind: kind, At: int64(i)}, impl.Act{Kind: kind, Who: 1, At: int64(i), Text: noughtText(70)}
			first, _, _ := impl.Happen(p, a)
			checkDone(t, p, b, first)
		}
	}
	for _, kind := range []int64{impl.AcDeliver, impl.AcLose, impl.AcTwice} {
		for _, number := range append(append(farNumbers(), wrongNumbers()...), 4, 5, 59, 60, 256, 257) {
			checkNothing(t, p, impl.Act{Kind: kind, At: number})
		}
		checkNothing(t, bothPair(), impl.Act{Kind: kind})
	}
}

func TestDrops(t *testing.T) {
	p := bothPair()
	checkDone(t, p, dropping(0), pairOf(witness(4, 0, true, false), node("LR", 4, 7, "a", "b", "c"), p.Nodes[1]))
	checkNothing(t, p, dropping(1))
	// What waits is told.
	w := withTold(waitingPair(), put(3, 0, "told"))
	want := pairOf(witness(4, 0, true, false), node("LR", 4, 8, "a", "n", "c"), w.Nodes[1], w.Net...)
	checkDone(t, w, dropping(0), withTold(want, put(3, 0, "told"), put(8, 1, "n")))
	// Of one that is not Ready, that is Fresh, that dropped already.
	for _, flags := range []string{"L", "LR", "LB", "LF", "LRB", "LRF", "LRBF"} {
		for _, inSync := range []bool{true, false} {
			q := pairOf(witness(4, 1, inSync, true), node("", 4, 7, "", "", ""), node(flags, 4, 7, "a", "b", "c"))
			checkDone(t, q, dropping(1), pairOf(witness(4, 1, false, true), q.Nodes[0], node("LR", 4, 7, "a", "b", "c")))
		}
	}
	// Drop says false, or it does not lead.
	for _, change := range []func(p *impl.Pair){
		func(p *impl.Pair) { p.Witness.Epoch = 3 },
		func(p *impl.Pair) { p.Witness.Epoch = 5 },
		func(p *impl.Pair) { p.Nodes[0].Epoch = 3 },
		func(p *impl.Pair) { p.Nodes[0].Epoch = 5 },
		func(p *impl.Pair) { p.Witness.Holder = 1 },
		func(p *impl.Pair) { p.Witness = impl.NewWitness() },
		func(p *impl.Pair) { p.Nodes[0] = p.Nodes[1] },
	} {
		q := bothPair()
		change(&q)
		checkPairOk(t, q, true)
		checkNothing(t, q, dropping(0))
	}
	checkNothing(t, pairOf(witness(0, 0, true, true), node("", 0, 0, "", "", ""), node("", 0, 0, "", "", "")), dropping(0))
}

func TestReadmits(t *testing.T) {
	p := pairOf(witness(4, 1, false, true), node("", 4, 7, "a", "b", "c"), node("LRF", 4, 7, "a", "b", "c"))
	checkDone(t, p, readmitting(1), pairOf(witness(4, 1, true, true), p.Nodes[0], node("LRBF", 4, 7, "a", "b", "c")))
	checkNothing(t, p, readmitting(0))
	// Once more, where all is as it will be.
	again := pairOf(witness(4, 1, true, true), p.Nodes[0], node("LRBF", 4, 7, "a", "b", "c"))
	checkDone(t, again, readmitting(1), again)
	// Whether it is Ready does not count.
	early := pairOf(witness(4, 1, false, true), p.Nodes[0], node("LF", 4, 7, "a", "b", "c"))
	checkDone(t, early, readmitting(1), pairOf(witness(4, 1, true, true), p.Nodes[0], node("LBF", 4, 7, "a", "b", "c")))
	for _, change := range []func(p *impl.Pair){
		func(p *impl.Pair) { p.Nodes[1].Fresh = false },
		func(p *impl.Pair) { p.Nodes[1] = waiting(p.Nodes[1], 0) },
		func(p *impl.Pair) { p.Witness.Epoch = 3 },
		func(p *impl.Pair) { p.Witness.Epoch = 5 },
		func(p *impl.Pair) { p.Nodes[1].Epoch = 3 },
		func(p *impl.Pair) { p.Nodes[1].Epoch = 5 },
		func(p *impl.Pair) { p.Witness = witness(4, 0, true, true) },
		func(p *impl.Pair) { p.Witness = impl.NewWitness() },
		func(p *impl.Pair) { p.Nodes[1] = p.Nodes[0] },
	} {
		q := pairCopy(p)
		change(&q)
		checkPairOk(t, q, true)
		checkNothing(t, q, readmitting(1))
	}
}

func TestReads(t *testing.T) {
	p, q := bothPair(), alonePair()
	for number, text := range []string{"a", "b", "c"} {
		checkHappen(t, p, reading(0, int64(number)), p, text, 0)
		checkHappen(t, q, reading(1, int64(number)), q, text, 0)
	}
	long := pairOf(q.Witness, q.Nodes[0], node("LR", 4, 7, "", noughtText(24), "\xff"))
	checkHappen(t, long, reading(1, 0), long, "", 0)
	checkHappen(t, long, reading(1, 1), long, noughtText(24), 0)
	checkHappen(t, long, reading(1, 2), long, "\xff", 0)
	// The Act's Text does not count.
	a := reading(1, 2)
	a.Text = noughtText(70)
	checkHappen(t, long, a, long, "\xff", 0)
	for _, w := range rightWitnesses() {
		r := pairOf(w, p.Nodes[0], p.Nodes[1])
		if w.Holder != 0 || w.Epoch != 4 {
			checkNothing(t, r, reading(0, 0))
		}
	}
	for _, epoch := range []int64{3, 5} {
		r := bothPair()
		r.Witness.Epoch = epoch
		checkNothing(t, r, reading(0, 0))
		r = bothPair()
		r.Nodes[0].Epoch = epoch
		checkNothing(t, r, reading(0, 0))
	}
}

// checkHeardBy delivers a Note to number 1, which is n, and asks for it and for what
// goes back.
func checkHeardBy(t *testing.T, n impl.Node, note impl.Note, want impl.Node, back bool, told ...impl.Put) {
	t.Helper()
	other := node("LR", 2, 2, "p", "q", "r")
	w := witness(4, 1, true, true)
	net, wantNet := []impl.Note{haveNote(0, 1, 1), note, putNote(0, 2, 2, 2, "")}, []impl.Note{haveNote(0, 1, 1), putNote(0, 2, 2, 2, "")}
	if back {
		wantNet = append(wantNet, haveNote(0, note.Epoch, note.Seq))
	}
	p := withTold(pairOf(w, other, n, net...), put(1, 1, "q"))
	q := withTold(pairOf(w, other, want, wantNet...), append([]impl.Put{put(1, 1, "q")}, told...)...)
	checkDone(t, p, delivering(1), q)
	// And the same of number 0.
	for _, r := range []*impl.Pair{&p, &q} {
		*r = pairCopy(*r)
		r.Nodes[0], r.Nodes[1] = r.Nodes[1], r.Nodes[0]
		for i := range r.Net {
			r.Net[i].To = 1 - r.Net[i].To
		}
	}
	checkDone(t, p, delivering(1), q)
}

func TestHeardPuts(t *testing.T) {
	for epoch := int64(3); epoch <= 5; epoch++ {
		for seq := int64(4); seq <= 10; seq++ {
			for number := range int64(5) {
				n := node("", 4, 7, "a", "b", "c")
				note := putNote(1, epoch, seq, number, "n")
				right := epoch == 4 && number <= 2
				want := nodeCopy(n)
				if right && seq == 8 {
					want.Seq = 8
					want.Values[number] = "n"
				}
				checkHeardBy(t, n, note, want, right && seq <= 8)
				for _, flags := range []string{"L", "LR", "LRB", "LRBF"} {
					n := node(flags, 4, 7, "a", "b", "c")
					checkHeardBy(t, n, note, n, false)
				}
				waits := waiting(node("LRB", 4, 7, "a", "b", "c"), 1)
				checkHeardBy(t, waits, note, waits, false)
			}
		}
	}
	n := node("", 4, 0, "a", "b", "c")
	checkHeardBy(t, n, putNote(1, 4, 0, 0, "n"), n, true)
	checkHeardBy(t, n, putNote(1, 4, 1, 2, ""), node("", 4, 1, "a", "b", ""), true)
	checkHeardBy(t, n, putNote(1, 4, mostStamp, 2, ""), n, false)
	checkHeardBy(t, n, putNote(1, 4, 1, 63, "n"), n, false)
	last := node("", 4, mostStamp, "a", "b", "c")
	checkHeardBy(t, last, putNote(1, 4, mostStamp, 0, "n"), last, true)
	checkHeardBy(t, last, putNote(1, 4, 1, 0, "n"), last, true)
	next := node("", mostStamp, mostStamp-1, "a", "b", "c")
	checkHeardBy(t, next, putNote(1, mostStamp, mostStamp, 0, noughtText(24)), node("", mostStamp, mostStamp, noughtText(24), "b", "c"), true)
}

func TestHeardCopies(t *testing.T) {
	for epoch := int64(2); epoch <= 6; epoch++ {
		for seq := int64(5); seq <= 9; seq++ {
			note := copyNote(1, epoch, seq, "x", "", "z")
			taken := node("", epoch, seq, "x", "", "z")
			for _, flags := range []string{"", "L", "LR", "LB", "LRB", "LF", "LRF", "LRBF"} {
				n := node(flags, 4, 7, "a", "b", "c")
				is := epoch > 4 || epoch == 4 && flags == "" && seq >= 7
				want := n
				if is {
					want = taken
				}
				checkHeardBy(t, n, note, want, is)
				checkHeardBy(t, n, copyNote(1, epoch, seq), n, false)
			}
			n := waiting(node("LRBF", 4, 7, "a", "b", "c"), 1)
			if epoch > 4 {
				checkHeardBy(t, n, note, taken, true)
			} else {
				checkHeardBy(t, n, note, n, false)
			}
		}
	}
	n := node("L", 0, 0, "a", "b", "c")
	checkHeardBy(t, n, copyNote(1, mostStamp, mostStamp, noughtText(24), "", ""), node("", mostStamp, mostStamp, noughtText(24), "", ""), true)
	checkHeardBy(t, n, copyNote(1, 0, mostStamp, "", "", ""), n, false)
	checkHeardBy(t, n, copyNote(1, 1, 0, "", "", ""), node("", 1, 0, "", "", ""), true)
	last := node("", mostStamp, mostStamp, "a", "b", "c")
	checkHeardBy(t, last, copyNote(1, mostStamp, mostStamp, "", "", ""), node("", mostStamp, mostStamp, "", "", ""), true)
	checkHeardBy(t, last, copyNote(1, mostStamp, mostStamp-1, "", "", ""), last, false)
}

func TestHeardHaves(t *testing.T) {
	for epoch := int64(3); epoch <= 5; epoch++ {
		for seq := int64(6); seq <= 8; seq++ {
			note := haveNote(1, epoch, seq)
			is := epoch == 4 && seq == 7
			for flags, heard := range map[string]string{"": "", "L": "LF", "LR": "LRF", "LF": "LF", "LRF": "LRF", "LB": "LRB", "LRB": "LRB", "LBF": "LRBF", "LRBF": "LRBF"} {
				n, want := node(flags, 4, 7, "a", "b", "c"), node(flags, 4, 7, "a", "b", "c")
				if is {
					want = node(heard, 4, 7, "a", "b", "c")
				}
				checkHeardBy(t, n, note, want, false)
				if flags == "" {
					continue
				}
				waits := waiting(node(flags, 4, 7, "a", "b", "c"), 2)
				if is {
					checkHeardBy(t, waits, note, want, false, put(7, 2, "c"))
				} else {
					checkHeardBy(t, waits, note, waits, false)
				}
			}
		}
	}
	checkHeardBy(t, node("LB", 0, 0, "", "", ""), haveNote(1, 0, 0), node("LRB", 0, 0, "", "", ""), false)
	last := waiting(node("LRB", mostStamp, mostStamp, "a", "b", "c"), 0)
	checkHeardBy(t, last, haveNote(1, mostStamp, mostStamp), node("LRB", mostStamp, mostStamp, "a", "b", "c"), false, put(mostStamp, 0, "a"))
	// Its Put is told as it is, whatever the Values are.
	far := node("LB", 4, 7, "a", "b", "c")
	far.Waits, far.Put = true, put(7, 63, "far")
	checkHeardBy(t, far, haveNote(1, 4, 7), node("LRB", 4, 7, "a", "b", "c"), false, put(7, 63, "far"))
}

func TestAFullNet(t *testing.T) {
	for count := mostNet - 2; count <= mostNet; count++ {
		net := manyHaves(count)
		with := func(more ...impl.Note) []impl.Note {
			return append(slices.Clone(net), more...)[:min(count+1, mostNet)]
		}
		p := withNet(bothPair(), net...)
		checkDone(t, p, sending(0), withNet(p, with(copyNote(1, 4, 7, "a", "b", "c"))...))
		checkDone(t, p, doubling(5), withNet(p, with(net[5])...))
		checkDone(t, p, doubling(int64(count)-1), withNet(p, with(net[count-1])...))
		checkNothing(t, p, doubling(int64(count)))
		checkDone(t, p, losing(int64(count)-1), withNet(p, net[:count-1]...))
		// The Put is lost, but it waits all the same.
		checkDone(t, p, writing(0, 0, "n"), pairOf(p.Witness, waiting(node("LRB", 4, 8, "n", "b", "c"), 0), p.Nodes[1], with(putNote(1, 4, 8, 0, "n"))...))
	}
	// For what goes back there is the room of what was heard.
	net := append(manyHaves(mostNet-1), copyNote(1, 4, 7, "x", "y", "z"))
	p := withNet(bothPair(), net...)
	want := withNet(p, append(manyHaves(mostNet-1), haveNote(0, 4, 7))...)
	want.Nodes = []impl.Node{p.Nodes[0], node("", 4, 7, "x", "y", "z")}
	checkDone(t, p, delivering(mostNet-1), want)
}

func TestFullTold(t *testing.T) {
	for count := mostTold - 2; count <= mostTold; count++ {
		told := manyPuts(count)
		with := func(more impl.Put) []impl.Put {
			return append(slices.Clone(told), more)[:min(count+1, mostTold)]
		}
		p := withTold(alonePair(), told...)
		checkDone(t, p, writing(1, 0, "n"), withTold(pairOf(p.Witness, p.Nodes[0], node("LR", 4, 8, "n", "b", "c")), with(put(8, 0, "n"))...))
		q := withTold(waitingPair(), told...)
		checkDone(t, q, delivering(0), withTold(pairOf(q.Witness, node("LRB", 4, 8, "a", "n", "c"), q.Nodes[1]), with(put(8, 1, "n"))...))
		checkDone(t, q, dropping(0), withTold(pairOf(witness(4, 0, true, false), node("LR", 4, 8, "a", "n", "c"), q.Nodes[1], q.Net...), with(put(8, 1, "n"))...))
	}
}

func TestPlayOfSome(t *testing.T) {
	p := impl.NewPair()
	checkPlay(t, p, nil, p, nil)
	checkPlay(t, p, []impl.Act{}, p, []int64{})
	checkPlay(t, waitingPair(), nil, waitingPair(), nil)
	full := withTold(withNet(waitingPair(), manyHaves(mostNet)...), manyPuts(mostTold)...)
	checkPlay(t, full, nil, full, nil)
	checkPlay(t, p, []impl.Act{granting(1), granting(2), {}, sending(0), sending(1)},
		pairOf(witness(1, 1, true, true), node("", 0, 0, "", "", ""), node("LB", 1, 0, "", "", ""), copyNote(0, 1, 0, "", "", "")), []int64{0, 1, 1, 1, 0})
	// What one reads is not told by Play, but that it does is.
	checkPlay(t, bothPair(), []impl.Act{reading(0, 0), reading(1, 0), reading(0, 3)}, bothPair(), []int64{0, 1, 1})
	// One writes, the other one has it, it is told; then alone, and both again.
	served := []impl.Act{granting(0), sending(0), delivering(0), delivering(0), writing(0, 2, "x"), delivering(0), delivering(0)}
	codes := slices.Repeat([]int64{0}, 7)
	checkPlay(t, p, served, withTold(pairOf(witness(1, 0, true, true), node("LRB", 1, 1, "", "", "x"), node("", 1, 1, "", "", "x")), put(1, 2, "x")), codes)
	alone := append(served, dropping(0), writing(0, 0, "y"), granting(1), sending(0), delivering(0), delivering(0))
	codes = append(codes, 0, 0, 1, 0, 0, 0)
	told := []impl.Put{put(1, 2, "x"), put(2, 0, "y")}
	checkPlay(t, p, alone, withTold(pairOf(witness(1, 0, true, false), node("LRF", 1, 2, "y", "", "x"), node("", 1, 2, "y", "", "x")), told...), codes)
	checkPlay(t, p, append(alone, readmitting(0), granting(1)), withTold(pairOf(witness(2, 1, true, true), node("LRBF", 1, 2, "y", "", "x"), node("LB", 2, 2, "y", "", "x")), told...), append(codes, 0, 0))
}

func TestPlayOfAsManyAsMayBe(t *testing.T) {
	for _, count := range []int{mostActs - 1, mostActs, mostActs + 1, mostActs + 2, 512, 556, 1000} {
		list := slices.Repeat([]impl.Act{granting(0)}, count)
		if count > mostActs {
			checkPlay(t, impl.NewPair(), list, impl.Pair{}, nil)
			checkPlay(t, impl.NewPair(), make([]impl.Act, count), impl.Pair{}, nil)
			continue
		}
		want := pairOf(witness(int64(count), 0, true, true), node("LB", int64(count), 0, "", "", ""), node("", 0, 0, "", "", ""))
		checkPlay(t, impl.NewPair(), list, want, make([]int64, count))
	}
	// As many are told as there is room for, and those that come behind are lost.
	list := []impl.Act{granting(1), dropping(1)}
	told := []impl.Put{}
	for i := range mostActs - 2 {
		list = append(list, writing(1, 0, fmt.Sprint(i)))
		told = append(told, put(int64(i)+1, 0, fmt.Sprint(i)))
	}
	want := pairOf(witness(1, 1, false, true), node("", 0, 0, "", "", ""), node("LR", 1, mostActs-2, fmt.Sprint(mostActs-3), "", ""))
	checkPlay(t, impl.NewPair(), list, withTold(want, told[:mostTold]...), make([]int64, mostActs))
}

func TestSteadyOfSome(t *testing.T) {
	a, b := node("LRB", 4, 7, "a", "b", "c"), node("", 2, 3, "a", "b", "c")
	for _, c := range []struct {
		p    impl.Pair
		want bool
	}{
		{impl.NewPair(), true}, {bothPair(), true}, {waitingPair(), true},
		{pairOf(witness(4, 0, true, true), a, b), true}, {pairOf(witness(4, 1, true, true), a, b), true}, {pairOf(impl.NewWitness(), a, b), true},
		{pairOf(witness(4, 0, true, false), a, b), false}, {pairOf(witness(4, 1, false, true), a, b), false}, {pairOf(witness(0, -1, true, false), a, b), false}, {pairOf(witness(0, -1, false, true), a, b), false},
		{pairOf(witness(4, 0, true, true), a, node("", 4, 7, "x", "b", "c")), false}, {pairOf(witness(4, 0, true, true), a, node("", 4, 7, "a", "x", "c")), false}, {pairOf(witness(4, 0, true, true), a, node("", 4, 7, "a", "b", "x")), false},
		{pairOf(witness(4, 0, true, true), a, node("", 4, 7, "c", "b", "a")), false}, {pairOf(witness(4, 0, true, true), a, node("", 4, 7, "ab", "", "c")), false}, {pairOf(witness(4, 0, true, true), a, node("", 4, 7, "", "", "")), false},
		{withTold(withNet(bothPair(), manyHaves(mostNet)...), manyPuts(mostTold)...), true},
		{withNet(bothPair(), manyHaves(mostNet+1)...), false}, {withTold(bothPair(), manyPuts(mostTold+1)...), false},
		{impl.Pair{}, false}, {impl.Pair{Witness: impl.NewWitness()}, false}, {impl.Pair{Witness: impl.NewWitness(), Nodes: []impl.Node{b, b, b}}, false}, {impl.Pair{Witness: impl.NewWitness(), Nodes: []impl.Node{b}}, false},
		{pairOf(witness(4, 0, false, true), a, b), false}, {pairOf(impl.NewWitness(), node("R", 1, 1, "", "", ""), node("", 1, 1, "", "", "")), false}, {pairOf(impl.NewWitness(), node("", 1, 1, "a", "b"), node("", 1, 1, "a", "b")), false},
	} {
		checkSteady(t, c.p, c.want)
		if plainSteady(c.p) != c.want {
			t.Errorf("the plain one says %v of\n\t%s", !c.want, tellPair(c.p))
		}
	}
}

// nodeShapes have all flags that a Node may have.
func nodeShapes(epoch int64, seq int64, values ...string) []impl.Node {
	list := []impl.Node{node("", epoch, seq, values...)}
	for shape := range 16 {
		flags := "L"
		for i, letter := range []string{"R", "B", "F"} {
			if shape>>i&1 == 1 {
				flags += letter
			}
		}
		n := node(flags, epoch, seq, values...)
		if shape >= 8 {
			n = waiting(n, seq%3)
		}
		list = append(list, n)
	}
	return list
}

// Every shape of a Node, by a few of the other one, with each Witness and Act.
func TestHappenOfEveryShape(t *testing.T) {
	net := []impl.Note{putNote(0, 4, 7, 1, "h"), putNote(0, 4, 8, 2, "i"), copyNote(0, 4, 7, "j", "k", "l"), copyNote(0, 5, 6, "m", "n", "o"), haveNote(0, 4, 7), haveNote(1, 4, 7), putNote(1, 4, 9, 0, "p"), copyNote(0, 6, 6)}
	counts := map[string]int{}
	for _, first := range nodeShapes(4, 7, "a", "b", "c") {
		for _, second := range []impl.Node{node("", 4, 8, "d", "e", "f"), node("LRB", 5, 6, "d", "e", "f"), waiting(node("LRF", 3, 7, "d", "e", "f"), 0)} {
			for _, w := range []impl.Witness{witness(0, -1, true, true), witness(4, 0, true, true), witness(4, 0, true, false), witness(5, 0, true, true), witness(4, 1, true, true), witness(5, 1, false, true), witness(3, 1, true, true), witness(mostStamp, 0, true, true)} {
				p := withTold(pairOf(w, first, second, net...), put(6, 0, "a"))
				for kind := int64(0); kind <= 10; kind++ {
					for who := int64(-1); who <= 2; who++ {
						for number := int64(-1); number <= 8; number++ {
							code := checkAct(t, p, impl.Act{Kind: kind, Who: who, At: number, Text: "t"})
							counts[fmt.Sprintf("%d %d", kind, code)]++
						}
					}
				}
			}
		}
	}
	for kind := int64(1); kind <= 9; kind++ {
		if done, not := counts[fmt.Sprintf("%d 0", kind)], counts[fmt.Sprintf("%d 1", kind)]; min(done, not) < 100 {
			t.Errorf("of kind %d %d were done and %d not", kind, done, not)
		}
	}
}

// near is that number, or one that is close to it.
func (n *numbers) near(number int64) int64 {
	switch n.below(6) {
	case 0:
		number++
	case 1:
		number--
	case 2:
		number += int64(n.below(7)) - 3
	}
	return min(max(number, 0), mostStamp)
}

func (n *numbers) threeTexts() []string {
	edges := edgeTextsOfPuts()
	texts := []string{}
	for range 3 {
		texts = append(texts, edges[n.below(len(edges))])
	}
	return texts
}

// noteNear is about an Epoch and a Seq that one of p's Nodes has.
func (n *numbers) noteNear(p impl.Pair) impl.Note {
	about := p.Nodes[n.below(2)]
	to, epoch, seq := int64(n.below(2)), n.near(about.Epoch), n.near(about.Seq)
	switch n.below(7) {
	case 0, 1:
		return haveNote(to, epoch, seq)
	case 2, 3:
		q := n.put(1)
		return putNote(to, epoch, seq, q.At, q.Text)
	case 4:
		return copyNote(to, epoch, seq)
	}
	return copyNote(to, epoch, seq, n.threeTexts()...)
}

// pair is a right one, of any shape.
func (n *numbers) pair() impl.Pair {
	epoch, seq := n.stamp(), n.stamp()
	w := rightWitnesses()[n.below(len(rightWitnesses()))]
	if w.Holder >= 0 {
		w.Epoch = n.near(epoch)
	}
	p := impl.Pair{Witness: w}
	for range 2 {
		shapes := nodeShapes(n.near(epoch), max(n.near(seq), 1), n.threeTexts()...)
		p.Nodes = append(p.Nodes, shapes[n.below(len(shapes))])
	}
	if w.Holder >= 0 && n.below(2) == 0 {
		p.Witness.Epoch = p.Nodes[w.Holder].Epoch
	}
	for range []int{0, 1, 3, 6, 12, mostNet - 1, mostNet}[n.below(7)] {
		p.Net = append(p.Net, n.noteNear(p))
	}
	for range []int{0, 0, 1, 5, mostTold - 1, mostTold}[n.below(6)] {
		p.Told = append(p.Told, n.put(int64(n.below(mostStamp))+1))
	}
	return p
}

// act is mostly one that p may allow.
func (n *numbers) act(p impl.Pair) impl.Act {
	a := impl.Act{Kind: int64(n.below(9)) + 1, Who: int64(n.below(2)), At: int64(n.below(3)), Text: n.text(n.below(25))}
	if a.Kind >= impl.AcDeliver && a.Kind <= impl.AcTwice {
		a.At = int64(n.below(len(p.Net) + 1))
	}
	far := farPlaces()
	switch n.below(12) {
	case 0:
		a.At = far[n.below(len(far))]
	case 1:
		a.Who = far[n.below(len(far))]
	case 2:
		a.Text = n.text(20 + n.below(8))
	case 3:
		a.Kind = int64(n.below(14)) - 2
	}
	return a
}

// wrongPair is one with a field changed, mostly so that it is not right any more.
func (n *numbers) wrongPair(p impl.Pair) impl.Pair {
	p = pairCopy(p)
	far := append(farNumbers(), wrongNumbers()...)
	wrong := far[n.below(len(far))]
	if n.below(2) == 0 {
		wrong = int64(n.below(8)) - 2
	}
	x := &p.Nodes[n.below(2)]
	switch n.below(14) {
	case 0:
		x.Epoch = wrong
	case 1:
		x.Seq = wrong
	case 2:
		x.Values = append(x.Values, "")
	case 3:
		x.Values = x.Values[:n.below(3)]
	case 4:
		x.Values[n.below(3)] = n.text(20 + n.below(10))
	case 5:
		x.Put.Seq = wrong
	case 6:
		x.Put.At = wrong
	case 7:
		x.Leads = !x.Leads
	case 8:
		x.Waits = !x.Waits
	case 9:
		p.Nodes = append(p.Nodes, nodeCopy(*x))
	case 10:
		p.Witness = wrongWitnesses()[n.below(len(wrongWitnesses()))]
	case 11:
		p.Net = append(p.Net, wrongNotes()[n.below(40)], haveNote(0, 1, 1))
	case 12:
		p.Told = append(p.Told, impl.Put{Seq: wrong}, put(1, 1, ""))
	case 13:
		p.Nodes = p.Nodes[:n.below(2)]
	}
	return p
}

// wrongPairs are each wrong in one thing, or in more.
func (n *numbers) wrongPairs() []impl.Pair {
	base := waitingPair()
	list := []impl.Pair{{}, {Nodes: base.Nodes}, {Witness: base.Witness}, {Witness: base.Witness, Nodes: base.Nodes[:1]}, {Witness: base.Witness, Nodes: append(slices.Clone(base.Nodes), base.Nodes[1])}}
	list = append(list, withNet(base, manyHaves(mostNet+1)...), withTold(base, manyPuts(mostTold+1)...), withNet(base, copyNote(0, 1, 1, "a", "b")), withNet(base, impl.Note{}))
	for len(list) < 600 {
		if p := n.wrongPair(n.pair()); !plainPairOk(p) {
			list = append(list, p)
		}
	}
	return list
}

func TestPairsAndActsOfManyShapes(t *testing.T) {
	n := numbers(251)
	codes := map[[2]int64]int{}
	for trial := range 8000 {
		p := n.pair()
		checkPairOk(t, p, true)
		if trial%3 == 0 {
			p = n.wrongPair(p)
			checkPairOk(t, p, plainPairOk(p))
		}
		checkSteady(t, p, plainSteady(p))
		for range 4 {
			a := impl.Act{Kind: int64(n.below(11)), Who: int64(n.below(4)) - 1, At: int64(n.below(6)) - 1}
			if plainPairOk(p) {
				a = n.act(p)
			}
			code := checkAct(t, p, a)
			codes[[2]int64{a.Kind, code}]++
			if next, _, _ := impl.Happen(p, a); code != 2 && !impl.PairOk(next) {
				t.Errorf("behind %s it is not right any more:\n\t%s", tellAct(a), tellPair(next))
			}
		}
	}
	for kind := int64(1); kind <= 9; kind++ {
		if done, not, wrong := codes[[2]int64{kind, 0}], codes[[2]int64{kind, 1}], codes[[2]int64{kind, 2}]; min(done, not, wrong) < 100 {
			t.Errorf("of kind %d %d were done, %d not, and %d had no right Pair", kind, done, not, wrong)
		}
	}
}

// Play is its Acts by Happen one by one.
func TestPlayIsItsActs(t *testing.T) {
	n := numbers(252)
	done := 0
	for trial := range 1500 {
		p := impl.NewPair()
		if trial%3 > 0 {
			p = n.pair()
		}
		list, codes, now := []impl.Act{}, []int64{}, p
		for range n.below(80) {
			a := n.act(now)
			next, _, code := impl.Happen(now, a)
			list, codes, now = append(list, a), append(codes, code), next
			if code == 0 {
				done++
			}
		}
		checkPlay(t, p, list, now, codes)
		want, wantCodes := plainPlay(p, list)
		checkPlay(t, p, list, want, wantCodes)
	}
	if done < 10000 {
		t.Errorf("only %d were done", done)
	}
}

const (
	began = iota
	told
	read
)

// sight is one thing that was seen of an At: that the write of this number began,
// that it was told, or what was read.
type sight struct {
	kind, number int
	text         string
}

// order is what may stand in an order of all that was seen: the text that is
// there, and the writes that stand in it though they were not told.
type order struct {
	text   string
	stands [2]uint64
}

func (o order) has(number int) bool {
	return o.stands[number/64]>>(number%64)&1 == 1
}

func (o order) turned(number int) order {
	o.stands[number/64] ^= 1 << (number % 64)
	return o
}

// withMore are all that may follow where some open writes come next.
func withMore(may map[order]bool, open map[int]string) map[order]bool {
	list := slices.Collect(maps.Keys(may))
	all := maps.Clone(may)
	for i := 0; i < len(list); i++ {
		for number, text := range open {
			if list[i].has(number) {
				continue
			}
			next := list[i].turned(number)
			next.text = text
			if !all[next] {
				all[next] = true
				list = append(list, next)
			}
		}
	}
	return all
}

// thatMatter lack the writes that were never told and whose text was never read:
// an order may do without these.
func thatMatter(list []sight) []sight {
	return slices.DeleteFunc(slices.Clone(list), func(s sight) bool {
		return s.kind == began && !slices.ContainsFunc(list, func(other sight) bool {
			return other.kind == told && other.number == s.number || other.kind == read && other.text == s.text
		})
	})
}

// fitsOneOrder goes through what was seen, with all orders that there may be: a
// write comes into one between its begin and when it is told, or later, or not
// at all, where it never is.
func fitsOneOrder(list []sight) bool {
	open, may := map[int]string{}, map[order]bool{{}: true}
	for _, s := range thatMatter(list) {
		if s.kind == began {
			open[s.number] = s.text
			continue
		}
		still := map[order]bool{}
		for o := range withMore(may, open) {
			if s.kind == read && o.text == s.text {
				still[o] = true
			}
			if s.kind == told && o.has(s.number) {
				still[o.turned(s.number)] = true
			}
		}
		if s.kind == told {
			delete(open, s.number)
		}
		if len(still) == 0 {
			return false
		}
		may = still
	}
	return true
}

// What the tests below ask is asked of histories of which one knows it.
func TestFitsOneOrderKnowsOrders(t *testing.T) {
	for _, c := range []struct {
		list []sight
		want bool
	}{
		{nil, true}, {[]sight{{read, 0, ""}}, true}, {[]sight{{read, 0, "a"}}, false},
		{[]sight{{began, 0, "a"}, {told, 0, ""}, {read, 0, "a"}}, true},
		{[]sight{{began, 0, "a"}, {told, 0, ""}, {read, 0, ""}}, false},
		{[]sight{{began, 0, "a"}, {read, 0, ""}, {told, 0, ""}, {read, 0, "a"}}, true},
		{[]sight{{began, 0, "a"}, {read, 0, "a"}, {told, 0, ""}, {read, 0, "a"}}, true},
		{[]sight{{began, 0, "a"}, {read, 0, "a"}, {read, 0, ""}}, false},
		{[]sight{{began, 0, "a"}, {read, 0, ""}, {read, 0, "a"}, {read, 0, "a"}}, true},
		{[]sight{{read, 0, "a"}, {began, 0, "a"}, {told, 0, ""}}, false},
		{[]sight{{began, 0, "a"}, {told, 0, ""}, {began, 1, "b"}, {told, 1, ""}, {read, 0, "a"}}, false},
		{[]sight{{began, 0, "a"}, {began, 1, "b"}, {told, 0, ""}, {told, 1, ""}, {read, 0, "a"}, {read, 0, "a"}}, true},
		{[]sight{{began, 0, "a"}, {began, 1, "b"}, {told, 0, ""}, {told, 1, ""}, {read, 0, "a"}, {read, 0, "b"}}, false},
		{[]sight{{began, 0, "a"}, {began, 1, "b"}, {told, 1, ""}, {read, 0, "b"}, {read, 0, "a"}, {read, 0, "a"}}, true},
		{[]sight{{began, 0, "a"}, {began, 1, "b"}, {told, 1, ""}, {read, 0, "b"}, {read, 0, "a"}, {read, 0, "b"}}, false},
		{[]sight{{began, 0, "a"}, {began, 1, "a"}, {told, 1, ""}, {began, 2, "b"}, {told, 2, ""}, {read, 0, "b"}, {read, 0, "a"}}, true},
		{[]sight{{began, 0, "a"}, {began, 1, "a"}, {told, 1, ""}, {told, 0, ""}, {began, 2, "b"}, {told, 2, ""}, {read, 0, "b"}, {read, 0, "a"}}, false},
		{[]sight{{began, 99, "a"}, {began, 70, "b"}, {read, 0, "b"}, {read, 0, "a"}, {told, 70, ""}}, true},
		{[]sight{{began, 99, "a"}, {told, 99, ""}, {began, 70, "b"}, {read, 0, "b"}, {read, 0, "a"}, {told, 70, ""}}, false},
	} {
		if got := fitsOneOrder(c.list); got != c.want {
			t.Errorf("%v fits one order: %v", c.list, got)
		}
	}
}

// onlooker follows a Pair from a new one on, and sees what was read and told. Of
// each Node it knows the number of the last write.
type onlooker struct {
	p      impl.Pair
	acts   []impl.Act
	codes  []int64
	writes []impl.Act
	last   [2]int
	seen   [3][]sight
}

func newOnlooker() *onlooker {
	return &onlooker{p: impl.NewPair()}
}

func (o *onlooker) copy() *onlooker {
	own := *o
	own.acts, own.codes, own.writes = slices.Clone(o.acts), slices.Clone(o.codes), slices.Clone(o.writes)
	for number, list := range o.seen {
		own.seen[number] = slices.Clone(list)
	}
	return &own
}

func (o *onlooker) tellActs() string {
	list := []string{}
	for i, a := range o.acts {
		if o.codes[i] == 0 {
			list = append(list, tellAct(a))
		}
	}
	return strings.Join(list, " ")
}

// see adds one thing that was seen there.
func (o *onlooker) see(number int64, s sight) {
	o.seen[number] = append(o.seen[number], s)
}

// teller is the number of the Node by whom the Act may have a Put told.
func (o *onlooker) teller(before impl.Pair, a impl.Act) int64 {
	if a.Kind == impl.AcDeliver {
		return before.Net[a.At].To
	}
	return a.Who
}

// do lets the Act happen, sees what comes of it, and tells whether it was done.
func (o *onlooker) do(t *testing.T, a impl.Act) bool {
	t.Helper()
	before := o.p
	after, text, code := impl.Happen(before, a)
	o.p, o.acts, o.codes = after, append(o.acts, a), append(o.codes, code)
	switch {
	case code == 2 || !impl.PairOk(after):
		t.Fatalf("it is not right any more behind %s", o.tellActs())
	case code == 1 && (text != "" || !samePair(after, before)):
		t.Fatalf("nothing is done, but it is another one behind %s and %s", o.tellActs(), tellAct(a))
	case code == 0 && a.Kind == impl.AcRead:
		o.see(a.At, sight{read, 0, text})
	case code == 0 && a.Kind == impl.AcWrite:
		o.last[a.Who] = len(o.writes)
		o.see(a.At, sight{began, len(o.writes), a.Text})
		o.writes = append(o.writes, a)
	}
	o.seeTold(t, before, a)
	o.checkForward(t, before)
	return code == 0
}

// seeTold asks that what the Act has told is what that Node wrote last.
func (o *onlooker) seeTold(t *testing.T, before impl.Pair, a impl.Act) {
	t.Helper()
	count := len(before.Told)
	if len(o.p.Told) == count && slices.Equal(before.Told, o.p.Told) {
		return
	}
	if len(o.p.Told) != count+1 || !slices.Equal(before.Told, o.p.Told[:count]) {
		t.Fatalf("more is told, or less, behind %s", o.tellActs())
	}
	p, number := o.p.Told[count], o.last[o.teller(before, a)]
	if made := o.writes[number]; made.At != p.At || made.Text != p.Text {
		t.Fatalf("%v is told where %s was written, behind %s", p, tellAct(made), o.tellActs())
	}
	o.see(p.At, sight{told, number, ""})
}

// checkForward asks that no Node goes back, and that one serves at most.
func (o *onlooker) checkForward(t *testing.T, before impl.Pair) {
	t.Helper()
	serving := 0
	for who, n := range o.p.Nodes {
		was := before.Nodes[who]
		if n.Epoch < was.Epoch || n.Epoch == was.Epoch && n.Seq < was.Seq || n.Epoch > o.p.Witness.Epoch {
			t.Fatalf("number %d goes back, or ahead of the Witness, behind %s", who, o.tellActs())
		}
		if n.Leads && impl.Serves(o.p.Witness, int64(who), n.Epoch) {
			serving++
		}
	}
	if serving > 1 || serving == 0 && o.p.Witness.Holder >= 0 && o.p.Nodes[o.p.Witness.Holder].Leads {
		t.Fatalf("%d serve behind %s", serving, o.tellActs())
	}
}

func (o *onlooker) checkFits(t *testing.T) {
	t.Helper()
	for number, list := range o.seen {
		if !fitsOneOrder(list) {
			t.Fatalf("what was seen of %d, %v, fits no order, behind %s", number, list, o.tellActs())
		}
	}
}

// readAll reads what whoever serves may read.
func (o *onlooker) readAll(t *testing.T) {
	t.Helper()
	for who := range int64(2) {
		for number := range int64(3) {
			o.do(t, reading(who, number))
		}
	}
}

// checkNothingIsLost lets each one that is in Sync serve alone: it has all that
// was told, whoever that was told by.
func (o *onlooker) checkNothingIsLost(t *testing.T) {
	t.Helper()
	for who, inSync := range o.p.Witness.Sync {
		if !inSync {
			continue
		}
		own := o.copy()
		if !own.do(t, granting(int64(who))) || !own.do(t, dropping(int64(who))) {
			t.Fatalf("number %d does not serve behind %s", who, own.tellActs())
		}
		for number := range int64(3) {
			if !own.do(t, reading(int64(who), number)) {
				t.Fatalf("number %d does not read behind %s", who, own.tellActs())
			}
		}
		own.checkFits(t)
	}
}

// checkBecomesSteady lets one that is in Sync serve, and the other one have all.
func (o *onlooker) checkBecomesSteady(t *testing.T, who int64) {
	t.Helper()
	own := o.copy()
	for len(own.p.Net) > 0 {
		own.do(t, losing(0))
	}
	both := own.p.Witness.Sync[1-who]
	row := []impl.Act{granting(who), sending(who), delivering(0), delivering(0)}
	if !both {
		row = append(row, readmitting(who))
	}
	text := fmt.Sprintf("last%d", len(own.acts))
	row = append(row, reading(who, 0), reading(who, 1), reading(who, 2), writing(who, 1, text), delivering(0), delivering(0), reading(who, 1))
	for _, a := range row {
		if !own.do(t, a) {
			t.Fatalf("%s is not done behind %s", tellAct(a), own.tellActs())
		}
	}
	own.checkFits(t)
	last := own.p.Told[len(own.p.Told)-1]
	if !impl.Steady(own.p) || last.Text != text || len(own.p.Net) > 0 {
		t.Fatalf("it is not steady behind %s:\n\t%s", own.tellActs(), tellPair(own.p))
	}
}

// nextActs are all that may be done to one Value, but that a Note is lost: none
// has to be delivered.
func (o *onlooker) nextActs() []impl.Act {
	list := []impl.Act{}
	for who := range int64(2) {
		list = append(list, granting(who), sending(who), dropping(who), readmitting(who), reading(who, 0), writing(who, 0, fmt.Sprintf("w%d", len(o.acts))))
	}
	for number := range o.p.Net {
		list = append(list, delivering(int64(number)), doubling(int64(number)))
	}
	return slices.DeleteFunc(list, func(a impl.Act) bool { return !plainMay(o.p, a) })
}

// someStarts are rows that lead to where one serves, with the other one in Sync
// or not, and with Notes that are late.
func someStarts() map[string][]impl.Act {
	ready := []impl.Act{granting(0), sending(0), delivering(0), delivering(0)}
	write := append(slices.Clone(ready), writing(0, 0, "s"))
	alone := append(slices.Clone(ready), dropping(0), writing(0, 0, "s"))
	return map[string][]impl.Act{
		"new":       nil,
		"ready":     ready,
		"written":   write,
		"had":       append(slices.Clone(write), doubling(0), delivering(0)),
		"handed on": append(slices.Clone(write), granting(1), sending(1)),
		"alone":     alone,
		"fresh":     append(slices.Clone(alone), sending(0), delivering(0)),
		"back":      append(slices.Clone(alone), sending(0), delivering(0), delivering(0), readmitting(0)),
	}
}

func TestPromise18AllShortRows(t *testing.T) {
	rows := 0
	var follow func(o *onlooker, left int)
	follow = func(o *onlooker, left int) {
		if left == 0 {
			rows++
			o.checkFits(t)
			o.checkNothingIsLost(t)
			return
		}
		for _, a := range o.nextActs() {
			next := o.copy()
			if !next.do(t, a) {
				t.Fatalf("%s is not done behind %s", tellAct(a), next.tellActs())
			}
			follow(next, left-1)
		}
	}
	for what, start := range someStarts() {
		o := newOnlooker()
		for _, a := range start {
			if !o.do(t, a) {
				t.Fatalf("%s: %s is not done", what, tellAct(a))
			}
		}
		follow(o, 4)
	}
	if rows < 20000 {
		t.Errorf("%d rows", rows)
	}
}

// rowAct is one of these kinds, mostly by who serves.
func (n *numbers) rowAct(o *onlooker, kinds []int64) impl.Act {
	a := impl.Act{Kind: kinds[n.below(len(kinds))], Who: max(o.p.Witness.Holder, 0)}
	if n.below(4) == 0 {
		a.Who = int64(n.below(2))
	}
	switch a.Kind {
	case impl.AcWrite:
		a.At, a.Text = int64(n.below(3)), fmt.Sprintf("w%d", len(o.acts))
	case impl.AcRead:
		a.At = int64(n.below(3))
	case impl.AcDeliver, impl.AcLose, impl.AcTwice:
		a.At = int64(n.below(len(o.p.Net) + 1))
		if n.below(3) > 0 {
			a.At = int64(len(o.p.Net)) - 1
		}
	}
	return a
}

// rowKinds are how often each Kind comes: calm rows, wild ones, and some in which
// Notes are late.
func rowKinds() [][]int64 {
	often := func(counts ...int) []int64 {
		list := []int64{}
		for kind, count := range counts {
			list = append(list, slices.Repeat([]int64{int64(kind) + 1}, count)...)
		}
		return list
	}
	return [][]int64{often(1, 6, 3, 14, 1, 1, 1, 3, 6), often(4, 6, 5, 14, 2, 3, 2, 4, 6), often(2, 6, 6, 6, 0, 4, 2, 4, 6), often(3, 8, 5, 14, 0, 0, 0, 1, 6), often(1, 3, 8, 20, 0, 4, 4, 8, 3)}
}

func TestPromise18ManyRows(t *testing.T) {
	n := numbers(253)
	seen, steady := [3]int{}, 0
	done := map[int64]int{}
	for trial := range 4000 {
		kinds := rowKinds()[trial%len(rowKinds())]
		o := newOnlooker()
		for range 84 {
			if a := n.rowAct(o, kinds); o.do(t, a) {
				done[a.Kind]++
			}
		}
		o.readAll(t)
		o.checkFits(t)
		o.checkNothingIsLost(t)
		for who, inSync := range o.p.Witness.Sync {
			if inSync {
				o.checkBecomesSteady(t, int64(who))
			}
		}
		for _, list := range o.seen {
			for _, s := range list {
				seen[s.kind]++
			}
		}
		if impl.Steady(o.p) {
			steady++
		}
		checkPlay(t, impl.NewPair(), o.acts, o.p, o.codes)
	}
	for kind := int64(1); kind <= 9; kind++ {
		if done[kind] < 1000 {
			t.Errorf("of kind %d only %d were done", kind, done[kind])
		}
	}
	if slices.Min(seen[:]) < 10000 || seen[began]-seen[told] < 1000 || steady < 500 || steady > 3500 {
		t.Errorf("seen: %v; %d are steady", seen, steady)
	}
}

// Rows in which few Texts are written again and again, the empty one among them.
func TestPromise18TextsThatComeAgain(t *testing.T) {
	n := numbers(254)
	texts := []string{"", "a", "b"}
	for trial := range 3000 {
		kinds := rowKinds()[trial%len(rowKinds())]
		o := newOnlooker()
		for range 30 {
			a := n.rowAct(o, kinds)
			if a.Kind == impl.AcWrite {
				a.At, a.Text = int64(n.below(2)), texts[n.below(len(texts))]
			}
			o.do(t, a)
		}
		o.readAll(t)
		o.checkFits(t)
		o.checkNothingIsLost(t)
	}
}

// What was under way when another one was granted does no harm, however late.
func TestPromise18OldNotesAreOver(t *testing.T) {
	n := numbers(255)
	for range 300 {
		o := newOnlooker()
		old := []impl.Note{}
		for range 40 {
			o.do(t, n.rowAct(o, rowKinds()[2]))
			old = append(old, o.p.Net...)
		}
		who := int64(n.below(2))
		if !o.p.Witness.Sync[who] {
			who = 1 - who
		}
		for len(o.p.Net) > 0 {
			o.do(t, losing(0))
		}
		o.do(t, granting(who))
		o.do(t, sending(who))
		o.do(t, delivering(0))
		o.do(t, delivering(0))
		n1, n2 := o.p.Nodes[0], o.p.Nodes[1]
		for _, late := range old {
			p := withNet(o.p, late)
			q, _, code := impl.Happen(p, delivering(0))
			if code != 0 || !sameNode(q.Nodes[0], n1) || !sameNode(q.Nodes[1], n2) || len(q.Net) > 0 || !slices.Equal(q.Told, p.Told) {
				t.Fatalf("%s is heard behind %s", tellNote(late), o.tellActs())
			}
		}
	}
}

// part is one list of a Pair.
type part struct {
	tell     func() string
	scribble func()
}

// wholeOf is a list with all the room behind it.
func wholeOf[T any](list []T) []T {
	return list[:cap(list)]
}

// valuesPart is a list of Texts.
func valuesPart(values []string) part {
	return part{
		tell:     func() string { return fmt.Sprintf("%q", wholeOf(values)) },
		scribble: func() { overwriteTexts(values) },
	}
}

// partsOf are all lists of p. Of what stands in one, its numbers and Texts are
// told and written to; lists in it are parts of their own.
func partsOf(p impl.Pair) []part {
	nodes, net, told := wholeOf(p.Nodes), wholeOf(p.Net), wholeOf(p.Told)
	list := []part{
		{func() string {
			all := []string{}
			for _, n := range nodes {
				all = append(all, tellNode(impl.Node{Epoch: n.Epoch, Leads: n.Leads, Ready: n.Ready, Both: n.Both, Fresh: n.Fresh, Waits: n.Waits, Seq: n.Seq, Put: n.Put}))
			}
			return strings.Join(all, " ")
		}, func() {
			for i := range nodes {
				nodes[i].Epoch, nodes[i].Put = spareMark-1, sparePut()
			}
		}},
		{func() string {
			all := []string{}
			for _, n := range net {
				n.Values = nil
				all = append(all, tellNote(n))
			}
			return strings.Join(all, " ")
		}, func() {
			for i := range net {
				net[i].Epoch, net[i].Text = spareMark-1, "overwritten"
			}
		}},
		{func() string { return tellPuts(told) }, func() {
			for i := range told {
				told[i] = impl.Put{Seq: spareMark - 1, Text: "overwritten"}
			}
		}},
		{func() string { return fmt.Sprint(wholeOf(p.Witness.Sync)) }, func() { turnFlags(p.Witness.Sync) }},
	}
	for _, n := range nodes {
		list = append(list, valuesPart(n.Values))
	}
	for _, n := range net {
		list = append(list, valuesPart(n.Values))
	}
	return list
}

func tellParts(list []part) []string {
	all := []string{}
	for _, one := range list {
		all = append(all, one.tell())
	}
	return all
}

func textsOfPair(p impl.Pair) []string {
	texts := textsOfPuts(p.Told)
	for _, n := range p.Nodes {
		texts = append(append(texts, n.Values...), n.Put.Text)
	}
	for _, n := range p.Net {
		texts = append(append(texts, n.Values...), n.Text)
	}
	return texts
}

// withRoom is a copy of list with room behind it, in which marks stand.
func withRoom[T any](list []T, mark T) []T {
	return append(slices.Clone(list), slices.Repeat([]T{mark}, 5)...)[:len(list)]
}

// roomyPair is a copy of p with room behind each list, and texts of its own.
func roomyPair(p impl.Pair) impl.Pair {
	own := impl.Pair{Witness: p.Witness}
	own.Witness.Sync = withRoom(p.Witness.Sync, true)
	for _, n := range p.Nodes {
		n.Values = withRoom(ownTexts(n.Values), "mark")
		n.Put.Text = strings.Clone(n.Put.Text)
		own.Nodes = append(own.Nodes, n)
	}
	for _, n := range p.Net {
		n.Values = withRoom(ownTexts(n.Values), "mark")
		n.Text = strings.Clone(n.Text)
		own.Net = append(own.Net, n)
	}
	own.Nodes = withRoom(own.Nodes, impl.Node{Epoch: spareMark, Values: []string{"mark"}})
	own.Net = withRoom(own.Net, impl.Note{Epoch: spareMark, Values: []string{"mark"}})
	own.Told = withRoom(ownPuts(p.Told), sparePut())
	return own
}

// checkOwnPair asks that an answer shares no memory with what was handed in, nor
// one list of it with another one, and writes to all of it.
func checkOwnPair(t *testing.T, what string, answer impl.Pair, handed []string) {
	t.Helper()
	texts := textsOfPair(answer)
	for i, text := range texts {
		for _, other := range slices.Concat(handed, texts[:i]) {
			if sharesMemory(text, other) {
				t.Errorf("%s: %s shares memory with another text", what, tellText(text))
			}
		}
	}
	list := partsOf(answer)
	before := tellParts(list)
	for i, one := range list {
		one.scribble()
		if now := tellParts(list[i+1:]); !slices.Equal(now, before[i+1:]) {
			t.Errorf("%s: two lists share memory: %v became %v", what, before[i+1:], now)
		}
	}
}

// pairAnswers are all Pairs that one is answered by.
func pairAnswers(p impl.Pair, a impl.Act) map[string]impl.Pair {
	happened, _, _ := impl.Happen(p, a)
	played, _ := impl.Play(p, []impl.Act{a})
	more, _ := impl.Play(p, []impl.Act{a, doubling(0), sending(0), sending(1), doubling(0), delivering(0), a, doubling(1), delivering(0)})
	none, _ := impl.Play(p, nil)
	return map[string]impl.Pair{"Happen": happened, "Play": played, "Play of more": more, "Play of nothing": none, "NewPair": impl.NewPair()}
}

func checkOwnPairs(t *testing.T, given impl.Pair, a impl.Act) {
	t.Helper()
	p := roomyPair(given)
	a.Text = strings.Clone(a.Text)
	handed := append(textsOfPair(p), a.Text)
	list := partsOf(p)
	before := tellParts(list)
	check := func(what string) {
		t.Helper()
		if !slices.Equal(tellParts(list), before) {
			t.Errorf("%s: %s and %s: an argument or the room behind it was written to", what, tellPair(given), tellAct(a))
		}
	}
	impl.PairOk(p)
	impl.Steady(p)
	check("a question")
	first, second := pairAnswers(p, a), pairAnswers(p, a)
	check("an answer")
	was := map[string]impl.Pair{}
	for name, answer := range second {
		was[name] = pairCopy(answer)
	}
	for name, answer := range first {
		checkOwnPair(t, name, answer, handed)
		check(name + ", written to,")
	}
	// Nor is what was answered seen to change with what was handed in.
	for _, one := range list {
		one.scribble()
	}
	for name, answer := range second {
		if !samePair(answer, was[name]) {
			t.Errorf("%s of %s shares memory with it, or with another answer", name, tellAct(a))
		}
	}
}

func TestPromise21PairsAreNewMemory(t *testing.T) {
	n := numbers(256)
	for trial := range 1500 {
		p := n.pair()
		p.Net, p.Told = p.Net[:min(len(p.Net), 6)], p.Told[:min(len(p.Told), 4)]
		if trial%10 == 0 {
			p = n.wrongPair(p)
		}
		checkOwnPairs(t, p, n.act(p))
	}
	for _, p := range []impl.Pair{impl.NewPair(), bothPair(), alonePair(), waitingPair(), withNet(bothPair(), copyNote(1, 4, 7, "x", "y", "z"), copyNote(1, 5, 7, "x", "y", "z"))} {
		for kind := int64(0); kind <= 10; kind++ {
			for who := range int64(3) {
				for number := range int64(3) {
					checkOwnPairs(t, p, impl.Act{Kind: kind, Who: who, At: number, Text: "text"})
				}
			}
		}
	}
}

func TestPromise21WhatIsReadIsNewMemory(t *testing.T) {
	for number := range int64(3) {
		p := pairOf(witness(4, 0, true, true), node("LR", 4, 7, ownTexts([]string{"one", "two", "three"})...), node("", 4, 7, "", "", ""))
		q, text, _ := impl.Happen(p, reading(0, number))
		again, second, _ := impl.Happen(p, reading(0, number))
		texts := slices.Concat(textsOfPair(p), textsOfPair(q), textsOfPair(again), []string{second})
		checkOwnTexts(t, "Happen", []string{text}, texts)
	}
	// The codes of one Play are not those of another one.
	list := []impl.Act{granting(0), {}, sending(0)}
	_, first := impl.Play(impl.NewPair(), list)
	_, second := impl.Play(impl.NewPair(), list)
	overwrite(first)
	if !slices.Equal(second, []int64{0, 1, 0}) || !slices.Equal(list, []impl.Act{granting(0), {}, sending(0)}) {
		t.Errorf("the codes of Play share memory: %v", second)
	}
}

// What was handed in may share lists and Texts; what is answered must not.
func TestPromise21PairsThatShareTheirLists(t *testing.T) {
	values := []string{"one", "two", "three"}
	copied := copyNote(1, 4, 7, values...)
	copied.Values = values
	first, second := node("LRB", 4, 7), node("", 4, 7)
	first.Values, second.Values = values, values
	p := pairOf(witness(4, 0, true, true), first, second, copied, copied, copied)
	for _, a := range []impl.Act{writing(0, 0, "n"), delivering(0), delivering(1), doubling(2), sending(0), reading(0, 0), granting(1), {}} {
		for name, answer := range pairAnswers(p, a) {
			checkOwnPair(t, name, answer, textsOfPair(p))
		}
	}
	if !slices.Equal(values, []string{"one", "two", "three"}) {
		t.Errorf("they became %q", values)
	}
	// A write must not come to a Note that was sent, nor to its double.
	row := []impl.Act{granting(0), sending(0), doubling(0), delivering(0), dropping(0), writing(0, 0, "w"), writing(0, 1, "v")}
	q, _ := impl.Play(impl.NewPair(), row)
	if want := []impl.Note{copyNote(1, 1, 0, "", "", ""), haveNote(0, 1, 0)}; !slices.EqualFunc(q.Net, want, sameNote) || !slices.Equal(q.Nodes[1].Values, []string{"", "", ""}) {
		t.Errorf("what was sent changed:\n\t%s", tellPair(q))
	}
	row = []impl.Act{granting(0), sending(0), doubling(0), delivering(0), delivering(1), writing(0, 0, "w"), delivering(1)}
	q, _ = impl.Play(impl.NewPair(), row)
	if want := []impl.Note{copyNote(1, 1, 0, "", "", ""), haveNote(0, 1, 1)}; !slices.EqualFunc(q.Net, want, sameNote) || q.Nodes[1].Values[0] != "w" {
		t.Errorf("what came twice changed:\n\t%s", tellPair(q))
	}
}

// Pairs grow in two ways, and neither is seen in the other one.
func TestPromise21TwoPairsThatGrowFromOne(t *testing.T) {
	n := numbers(257)
	for range 200 {
		p := impl.NewPair()
		for range 40 {
			before := pairCopy(p)
			a, b := n.act(p), n.act(p)
			left, _, _ := impl.Happen(p, a)
			leftWas := pairCopy(left)
			right, _, _ := impl.Happen(p, b)
			impl.Happen(left, b)
			if !samePair(p, before) || !samePair(left, leftWas) {
				t.Fatalf("behind %s and %s they are not as they were", tellAct(a), tellAct(b))
			}
			p = left
			if n.below(2) == 0 {
				p = right
			}
		}
	}
}

func TestPromise21PairsNeverPanic(t *testing.T) {
	n := numbers(258)
	far := append(append(farNumbers(), wrongNumbers()...), 0, 1, 2, 3, mostStamp)
	pick := func() int64 {
		if n.below(4) > 0 {
			return int64(n.below(4))
		}
		return far[n.below(len(far))]
	}
	flag := func() bool { return n.below(2) == 0 }
	for range 20000 {
		p := impl.Pair{Witness: impl.Witness{Epoch: pick(), Holder: pick(), Sync: []bool{flag(), flag(), flag()}[:n.below(4)]}}
		for range n.below(4) {
			x := impl.Node{Epoch: pick(), Leads: flag(), Ready: flag(), Both: flag(), Fresh: flag(), Waits: flag(), Seq: pick(), Put: put(pick(), pick(), "a")}
			x.Values = n.texts(n.below(5), n.below(26))
			p.Nodes = append(p.Nodes, x)
		}
		for range n.below(4) {
			p.Net = append(p.Net, impl.Note{Kind: pick(), To: pick(), Epoch: pick(), Seq: pick(), At: pick(), Text: n.text(n.below(26)), Values: n.texts(n.below(5), n.below(26))})
		}
		for range n.below(4) {
			p.Told = append(p.Told, put(pick(), pick(), n.text(n.below(26))))
		}
		a := impl.Act{Kind: pick(), Who: pick(), At: pick(), Text: n.text(n.below(30))}
		neverPanics(t, "a call of "+tellPair(p)+" and "+tellAct(a), func() {
			checkPairOk(t, p, plainPairOk(p))
			checkSteady(t, p, plainSteady(p))
			checkAct(t, p, a)
			want, codes := plainPlay(p, []impl.Act{a, a})
			checkPlay(t, p, []impl.Act{a, a}, want, codes)
		})
	}
	for range 3000 {
		p := n.pair()
		a := impl.Act{Kind: int64(n.below(9)) + 1, Who: pick(), At: pick(), Text: n.text(n.below(30))}
		neverPanics(t, "a call of "+tellPair(p)+" and "+tellAct(a), func() { checkAct(t, p, a) })
	}
}

// What one call does must not show in the next one.
func TestPairsAnswerAgainAlike(t *testing.T) {
	p := waitingPair()
	for range 3 {
		impl.NewPair().Nodes[0].Values[0] = "overwritten"
		impl.NewPair().Nodes[1].Epoch = spareMark
		turnFlags(impl.NewPair().Witness.Sync)
		checkDone(t, impl.NewPair(), granting(1), pairOf(witness(1, 1, true, true), node("", 0, 0, "", "", ""), node("LB", 1, 0, "", "", "")))
		checkPairOk(t, p, true)
		checkSteady(t, p, true)
		checkDone(t, p, delivering(0), withTold(pairOf(p.Witness, node("LRB", 4, 8, "a", "n", "c"), p.Nodes[1]), put(8, 1, "n")))
		checkNothing(t, p, reading(0, 1))
		checkNothing(t, p, impl.Act{})
		checkHappen(t, impl.Pair{}, granting(0), impl.Pair{}, "", 2)
		checkPlay(t, p, []impl.Act{delivering(0), reading(0, 1)}, withTold(pairOf(p.Witness, node("LRB", 4, 8, "a", "n", "c"), p.Nodes[1]), put(8, 1, "n")), []int64{0, 0})
		checkPlay(t, p, make([]impl.Act, mostActs+1), impl.Pair{}, nil)
	}
}
