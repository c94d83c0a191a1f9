package tests

import (
	"math"
	"reflect"
	"slices"
	"testing"

	"loop.example/g00234/impl"
)

func leadersByTheWord(w impl.World) bool {
	for _, a := range w.Led {
		for _, b := range w.Led {
			if a.Term == b.Term && a.Id != b.Id {
				return false
			}
		}
	}
	return true
}

// entryAt: the entry of that number, where the log has one.
func entryAt(l impl.Log, number int) (impl.Entry, bool) {
	if number <= l.Base || number > l.Base+len(l.List) {
		return impl.Entry{}, false
	}
	return l.List[number-l.Base-1], true
}

// logsByTheWord holds all that is ahead against each other of each number anew.
func logsByTheWord(a, b impl.Log) bool {
	for number := a.Base + 1; number <= a.Base+len(a.List); number++ {
		ofA, inA := entryAt(a, number)
		ofB, inB := entryAt(b, number)
		if !inA || !inB || ofA.Term != ofB.Term {
			continue
		}
		for ahead := a.Base + 1; ahead <= number; ahead++ {
			ofA, inA = entryAt(a, ahead)
			ofB, inB = entryAt(b, ahead)
			if inA && inB && ofA != ofB {
				return false
			}
		}
	}
	return true
}

func replayByTheWord(list []impl.Cmd) impl.Machine {
	m := machine(leaf())
	for _, c := range list {
		m, _ = machineDoByTheWord(m, c)
	}
	return m
}

// tellsTheSame wants two machines that are right.
func tellsTheSame(a, b impl.Machine) bool {
	return slices.Equal(mapByTheWord(a.T), mapByTheWord(b.T)) && slices.Equal(a.Last, b.Last)
}

func chosenByTheWord(w impl.World) bool {
	for _, n := range w.Nodes {
		if n.Commit > len(w.Chosen) {
			return false
		}
		for number := n.Log.Base + 1; number <= n.Commit; number++ {
			if e, has := entryAt(n.Log, number); has && e.C != w.Chosen[number-1] {
				return false
			}
		}
		if !tellsTheSame(n.Now, replayByTheWord(w.Chosen[:n.Commit])) || !tellsTheSame(n.Snap, replayByTheWord(w.Chosen[:n.Log.Base])) {
			return false
		}
	}
	return true
}

// verdict: what the three judges say, of the leaders, of the logs, and of what was chosen.
type verdict [3]bool

var allWell = verdict{true, true, true}

// judged: P14, of any world: each judge says what the chapter's words do.
func judged(t *testing.T, name string, w impl.World) verdict {
	t.Helper()
	got := verdict{impl.JudgeLeaders(w), impl.JudgeLogs(w), impl.JudgeChosen(w)}
	want := verdict{}
	if worldOkByTheWord(w) {
		want = verdict{leadersByTheWord(w), true, chosenByTheWord(w)}
		for i := range w.Nodes {
			for k := range w.Nodes {
				want[1] = want[1] && (i == k || logsByTheWord(w.Nodes[i].Log, w.Nodes[k].Log))
			}
		}
	}
	if got != want {
		t.Fatal(name, "was judged", got, "and by the word", want, ":", w)
	}
	return got
}

// judgedAs: judged, by a verdict that is known.
func judgedAs(t *testing.T, name string, w impl.World, want verdict) {
	t.Helper()
	if got := judged(t, name, w); got != want {
		t.Error(name, "was judged", got, "and not", want)
	}
}

// replays: what comes of so many is what comes of them one by one.
func replays(t *testing.T, name string, w impl.World, n int) impl.Machine {
	t.Helper()
	got := impl.Replay(w, n)
	want := impl.Machine{}
	if worldOkByTheWord(w) {
		want = replayByTheWord(w.Chosen[:max(0, min(n, len(w.Chosen)))])
	}
	if !sameMachine(got, want) {
		t.Fatal(name, "by", n, "came to", got, "and by the word to", want, "of", w.Chosen)
	}
	return got
}

// agreedRow: some are nothing, some were asked before, one is older, and each of the others turns the machine.
var agreedRow = cmds(
	impl.Cmd{},
	cmd(1, 1, put(4, 8)),
	cmd(2, 1, add(7, 5)),
	cmd(2, 1, add(7, 5)),
	cmd(1, 2, add(4, 1)),
	impl.Cmd{},
	cmd(3, 1, del(4)),
	cmd(1, 1, put(4, 99)),
	cmd(2, 2, get(7)),
	cmd(3, 2, put(9, 1)),
)

var agreedTerms = []int{1, 1, 1, 2, 2, 4, 4, 4, 5, 7}

// agreedNode: one with the entries behind number base, up to number last, that committed those up to number commit.
func agreedNode(id, size, base, commit, last int) impl.Node {
	l := logOf(base, 0)
	for number := base + 1; number <= last; number++ {
		l.List = append(l.List, impl.Entry{Term: agreedTerms[number-1], C: agreedRow[number-1]})
	}
	if base > 0 {
		l.BaseTerm = agreedTerms[base-1]
	}
	return impl.Node{
		Id: id, Term: 8, Vote: -1, Log: l, Snap: replayByTheWord(agreedRow[:base]), Role: id % 3,
		Votes: make([]bool, size), Next: each(size, 1), Match: make([]int, size),
		Commit: commit, Now: replayByTheWord(agreedRow[:commit]),
	}
}

// agreedWorld: ten entries, eight of which are chosen; the first node cut off nothing, the second one some, and the third one all that it committed.
func agreedWorld() impl.World {
	return impl.World{
		Size:   3,
		Nodes:  []impl.Node{agreedNode(0, 3, 0, 8, 10), agreedNode(1, 3, 3, 6, 9), agreedNode(2, 3, 5, 5, 7)},
		Chosen: slices.Clone(agreedRow[:8]),
		Led:    []impl.Lead{{Term: 1, Id: 0}, {Term: 2, Id: 2}, {Term: 4, Id: 1}, {Term: 4, Id: 1}, {Term: 7, Id: 0}},
	}
}

func TestJudgesByHand(t *testing.T) {
	c := cmd(3, 1, put(5, 7))
	w, _ := runs(t, "by hand", newWorld(3), deeds(askOf(0), giveAt(0), giveAt(1), handIn(0, c), feedTo(0, 1), loseAt(0), giveAt(0), giveAt(0)))
	judgedAs(t, "one that goes on", w, allWell)
	if len(w.Chosen) != 2 || len(w.Led) != 1 {
		t.Fatal("no fair question:", w)
	}
	if m := replays(t, "none", w, 0); len(m.Last) != 0 || len(impl.TreeMap(m.T)) != 0 {
		t.Error("none of it came to", m)
	}
	if m := replays(t, "nothing", w, 1); len(m.Last) != 0 {
		t.Error("the entry of nothing came to", m)
	}
	if m := replays(t, "all", w, 2); !slices.Equal(m.Last, []impl.Done{had(3, 1, 7)}) || !slices.Equal(impl.TreeMap(m.T), pairs(5, 7)) || !sameMachine(m, w.Nodes[0].Now) {
		t.Error("all of it came to", m)
	}
	w = tells(t, "cut", w, cutOf(0, 2), impl.WdDone)
	judgedAs(t, "one that was cut", w, allWell)
	w.Led = append(w.Led, impl.Lead{Term: 1, Id: 2})
	judgedAs(t, "two that led", w, verdict{false, true, true})
	w.Nodes[0].Now.Last[0].V = 8
	judgedAs(t, "another one was told", w, verdict{false, true, false})
}

func TestNewWorldsAreJudgedWell(t *testing.T) {
	for size := 1; size <= 5; size++ {
		judgedAs(t, "a new one", newWorld(size), allWell)
		for _, n := range edgeNumbers {
			if m := replays(t, "a new one", newWorld(size), n); !sameMachine(m, impl.MachineNew()) {
				t.Error("of", size, "by", n, "came to", m)
			}
		}
		w := newWorld(size)
		for id := range size {
			w.Nodes[id] = agreedNode(id, size, id, min(2*id, 10-id), 10-id)
		}
		w.Chosen = slices.Clone(agreedRow[:8])
		judgedAs(t, "one that agrees", w, allWell)
		w.Nodes[size-1].Now.Last = nine(4)
		judgedAs(t, "the last one does not agree", w, verdict{true, true, false})
	}
	judgedAs(t, "one that agrees", agreedWorld(), allWell)
	judgedAs(t, "the zero world", impl.World{}, verdict{})
}

func lead(term, id int) impl.Lead { return impl.Lead{Term: term, Id: id} }

func TestJudgeLeaders(t *testing.T) {
	for _, c := range []struct {
		name string
		led  []impl.Lead
		want bool
	}{
		{"none", nil, true},
		{"an empty list", []impl.Lead{}, true},
		{"one", []impl.Lead{lead(3, 1)}, true},
		{"two alike", []impl.Lead{lead(3, 1), lead(3, 1)}, true},
		{"two alike far apart", []impl.Lead{lead(3, 1), lead(4, 0), lead(5, 2), lead(3, 1)}, true},
		{"two Ids of one Term", []impl.Lead{lead(3, 1), lead(3, 2)}, false},
		{"two Ids of one Term, the greater one first", []impl.Lead{lead(3, 2), lead(3, 0)}, false},
		{"two Ids of one Term at the last", []impl.Lead{lead(1, 1), lead(2, 2), lead(3, 0), lead(3, 1)}, false},
		{"two Ids of one Term at the first", []impl.Lead{lead(3, 0), lead(3, 1), lead(1, 1), lead(2, 2)}, false},
		{"two Ids of one Term in the middle", []impl.Lead{lead(2, 0), lead(3, 0), lead(3, 1), lead(4, 2)}, false},
		{"two Ids of one Term far apart", []impl.Lead{lead(3, 0), lead(4, 1), lead(5, 1), lead(3, 1)}, false},
		{"two Ids of one Term, and one of them again", []impl.Lead{lead(3, 0), lead(3, 1), lead(3, 0)}, false},
		{"one Id in two Terms", []impl.Lead{lead(3, 1), lead(4, 1)}, true},
		{"one Id in all Terms", []impl.Lead{lead(9, 1), lead(4, 1), lead(1, 1), lead(5, 1)}, true},
		{"Terms that fall", []impl.Lead{lead(4, 1), lead(3, 2), lead(2, 1)}, true},
		{"Terms of which one is the other's Id", []impl.Lead{lead(1, 2), lead(2, 1)}, true},
		{"Term 0", []impl.Lead{lead(0, 0), lead(0, 1)}, false},
		{"Term 0 twice", []impl.Lead{lead(0, 2), lead(0, 2)}, true},
		{"the greatest Term", []impl.Lead{lead(math.MaxInt, 0), lead(math.MaxInt, 1)}, false},
		{"the least Term", []impl.Lead{lead(math.MinInt, 0), lead(math.MinInt, 1)}, false},
		{"both ends", []impl.Lead{lead(math.MinInt, 0), lead(math.MaxInt, 1), lead(-1, 2)}, true},
		{"Terms alike but for their upper half", []impl.Lead{lead(1, 0), lead(1<<32+1, 1)}, true},
		{"an Id that is none", []impl.Lead{lead(1, 3)}, false},
		{"an Id below 0", []impl.Lead{lead(1, -1)}, false},
	} {
		w := agreedWorld()
		w.Led = c.led
		fine := !slices.ContainsFunc(c.led, func(l impl.Lead) bool { return l.Id < 0 || l.Id > 2 })
		judgedAs(t, c.name, w, verdict{c.want, fine, fine})
	}
}

func TestJudgeLeadersOfAllShortLists(t *testing.T) {
	lists := [][]impl.Lead{nil}
	for at := 0; at < len(lists) && len(lists[at]) < 4; at++ {
		for term := range 2 {
			for id := range 2 {
				lists = append(lists, append(slices.Clone(lists[at]), lead(term, id)))
			}
		}
	}
	fine, wrong := 0, 0
	for _, list := range lists {
		w := newWorld(2)
		w.Led = list
		if judged(t, "a short list", w)[0] {
			fine++
		} else {
			wrong++
		}
	}
	if fine+wrong != 1+4+16+64+256 || min(fine, wrong) < 50 {
		t.Error("the lists are too much alike:", fine, wrong)
	}
}

func TestJudgeLeadersOfAllThatCanHaveLed(t *testing.T) {
	w := newWorld(3)
	for _, count := range []int{1999, 2000} {
		w.Led = leads(count)
		judgedAs(t, "each in a Term of its own", w, allWell)
		w.Led = each(count, lead(7, 2))
		judgedAs(t, "one over and over", w, allWell)
		for _, c := range [][2]int{{0, 1}, {0, count - 1}, {count - 2, count - 1}, {0, 1000}, {999, 1000}, {700, 1300}, {1, count - 1}} {
			w.Led = leads(count)
			w.Led[c[1]] = w.Led[c[0]]
			judgedAs(t, "one twice", w, allWell)
			w.Led[c[1]].Id = (w.Led[c[0]].Id + 1) % 3
			judgedAs(t, "another one in its Term", w, verdict{false, true, true})
		}
	}
	w.Led = leads(2001)
	judgedAs(t, "more than can have led", w, verdict{})
}

// twoLogs: two of so many have these logs, and all others have none of their numbers.
func twoLogs(size, i, k int, a, b impl.Log) impl.World {
	w := newWorld(size)
	for id := range size {
		w.Nodes[id].Term, w.Nodes[id].Log = 100000, logOf(60+id, 50+id)
	}
	w.Nodes[i].Log, w.Nodes[k].Log = a, b
	for id := range size {
		w.Nodes[id].Commit = w.Nodes[id].Log.Base
	}
	return w
}

// marked: a log of these Terms, each of whose entries has the command of its number, but for some that have another one.
func marked(base, baseTerm int, terms []int, others ...int) impl.Log {
	l := logOf(base, baseTerm)
	for i, term := range terms {
		l.List = append(l.List, impl.Entry{Term: term, C: numbered(base + 1 + i)})
	}
	for _, number := range others {
		l.List[number-base-1].C.M.V++
	}
	return l
}

type logPair struct {
	name string
	a, b impl.Log
	want bool
}

func logPairs() []logPair {
	at := func(terms ...int) []int { return terms }
	five := at(1, 1, 2, 3, 3)
	return []logPair{
		{"no entries", logOf(0, 0), logOf(0, 0), true},
		{"entries and none", marked(0, 0, five), logOf(0, 0), true},
		{"alike", marked(0, 0, five), marked(0, 0, five), true},
		{"one longer than the other", marked(0, 0, five), marked(0, 0, five[:3]), true},
		{"two commands at the first", marked(0, 0, five), marked(0, 0, five, 1), false},
		{"two commands in the middle", marked(0, 0, five), marked(0, 0, five, 3), false},
		{"two commands at the last", marked(0, 0, five), marked(0, 0, five, 5), false},
		{"two commands alone", marked(0, 0, at(1)), marked(0, 0, at(1), 1), false},
		{"two commands at the last of the shorter one", marked(0, 0, five), marked(0, 0, five[:3], 3), false},
		{"two commands of two Terms", marked(0, 0, at(1)), marked(0, 0, at(2), 1), true},
		{"one command of two Terms", marked(0, 0, at(1)), marked(0, 0, at(2)), true},
		{"another Term ahead of one that is alike", marked(0, 0, at(1, 3)), marked(0, 0, at(2, 3)), false},
		{"another Term at the first, far ahead", marked(0, 0, at(1, 2, 2, 4, 4)), marked(0, 0, at(2, 2, 2, 4, 4)), false},
		{"another Term and command ahead", marked(0, 0, at(1, 3)), marked(0, 0, at(2, 3), 1), false},
		{"another command ahead", marked(0, 0, at(1, 3)), marked(0, 0, at(1, 3), 1), false},
		{"another command ahead, and the last are of two Terms", marked(0, 0, at(1, 3)), marked(0, 0, at(1, 4), 1), false},
		{"another Term at the last", marked(0, 0, at(1, 1, 2)), marked(0, 0, at(1, 1, 3)), true},
		{"another Term and command at the last", marked(0, 0, at(1, 1, 2)), marked(0, 0, at(1, 1, 3), 3), true},
		{"other Terms behind the last alike", marked(0, 0, at(1, 1, 2, 2, 2)), marked(0, 0, at(1, 1, 3, 3, 4), 3, 4, 5), true},
		{"other Terms behind the last alike, and an other command ahead", marked(0, 0, at(1, 1, 2, 2)), marked(0, 0, at(1, 1, 3, 3), 2, 3, 4), false},
		{"no Term alike", marked(0, 0, at(1, 2, 4)), marked(0, 0, at(2, 3, 5), 1, 2, 3), true},
		{"the same Terms at other numbers", marked(0, 0, at(1, 2, 3)), marked(0, 0, at(2, 3, 4), 1, 2, 3), true},
		{"cut, and alike", marked(0, 0, five), marked(2, 1, five[2:]), true},
		{"cut, and alike, but for what was cut", marked(0, 0, five, 1, 2), marked(2, 1, five[2:]), true},
		{"cut, and of other Terms where it was cut", marked(0, 0, at(0, 0, 2, 3, 3)), marked(2, 1, five[2:]), true},
		{"cut, and another command at the first that both have", marked(0, 0, five), marked(2, 1, five[2:], 3), false},
		{"cut, and another command at the last that both have", marked(0, 0, five), marked(2, 1, five[2:], 5), false},
		{"cut, and another Term ahead", marked(0, 0, at(1, 1, 2, 3)), marked(2, 1, at(3, 3)), false},
		{"cut, and another Term behind", marked(0, 0, at(1, 1, 2, 2)), marked(2, 1, at(2, 3), 4), true},
		{"both cut, one more than the other", marked(1, 1, five[1:]), marked(3, 2, five[3:]), true},
		{"both cut, and another command", marked(1, 1, five[1:]), marked(3, 2, five[3:], 4), false},
		{"both cut, and another command that only one has", marked(1, 1, five[1:], 2, 3), marked(3, 2, five[3:]), true},
		{"both cut at one number", marked(3, 2, five[3:]), marked(3, 2, five[3:]), true},
		{"both cut at one number, of two Terms", marked(3, 2, five[3:]), marked(3, 1, five[3:]), true},
		{"both cut at one number, and another command", marked(3, 2, five[3:]), marked(3, 2, five[3:], 4), false},
		{"one cut up to the last of the other", marked(0, 0, five, 1, 2, 3, 4, 5), marked(5, 3, at(3, 3)), true},
		{"one cut beyond the last of the other", marked(0, 0, five, 1, 2, 3), marked(8, 3, at(3, 3)), true},
		{"one number in both", marked(0, 0, five), marked(4, 3, at(3, 3)), true},
		{"one number in both, of two commands", marked(0, 0, five), marked(4, 3, at(3, 3), 5), false},
		{"one number in both, of two Terms", marked(0, 0, five), marked(4, 3, at(4, 4), 5), true},
		{"all cut at one number", logOf(5, 3), logOf(5, 4), true},
		{"the last numbers that there are", marked(99998, 7, at(7, 7)), marked(99999, 7, at(7)), true},
		{"another command at the last number that there is", marked(99998, 7, at(7, 7)), marked(99999, 7, at(7), 100000), false},
	}
}

func TestJudgeLogs(t *testing.T) {
	for _, c := range logPairs() {
		for size := 2; size <= 5; size++ {
			for i := range size {
				for k := range size {
					if i == k {
						continue
					}
					w := twoLogs(size, i, k, c.a, c.b)
					if got := impl.JudgeLogs(w); got != c.want || !impl.WorldOk(w) {
						t.Fatal(c.name, "was judged", got, "at", i, k, "of", size)
					}
				}
			}
		}
		if logsByTheWord(c.a, c.b) != c.want || logsByTheWord(c.b, c.a) != c.want {
			t.Error(c.name, "is", !c.want, "by the word")
		}
		alone := twoLogs(1, 0, 0, c.a, c.b)
		judgedAs(t, c.name+": one that is alone", alone, verdict{true, true, alone.Nodes[0].Commit == 0})
	}
}

// Each field of an entry counts.
func TestJudgeLogsByEachField(t *testing.T) {
	for _, c := range otherCmds(cmd(2, 3, add(7, 5))) {
		a, b := marked(0, 0, []int{1, 1, 2}), marked(0, 0, []int{1, 1, 2})
		a.List[1].C, b.List[1].C = cmd(2, 3, add(7, 5)), c
		if w := twoLogs(3, 0, 2, a, b); impl.JudgeLogs(w) || !impl.WorldOk(w) {
			t.Error(c, "counts as the other one")
		}
	}
}

// otherCmds: one each that differs in one thing alone, and what differs in all.
func otherCmds(c impl.Cmd) []impl.Cmd {
	client, seq, op, k, v := c, c, c, c, c
	client.Client++
	seq.Seq++
	op.M.Op = impl.MsPut + impl.MsAdd - c.M.Op
	k.M.K++
	v.M.V++
	return cmds(client, seq, op, k, v, impl.Cmd{}, cmd(9, 100000, get(0)))
}

// A third one that both agree with settles nothing between two that differ.
func TestJudgeLogsOfThree(t *testing.T) {
	w := newWorld(3)
	for id := range w.Nodes {
		w.Nodes[id].Term = 9
		w.Nodes[id].Log = marked(0, 0, []int{1, 1, 2})
	}
	judgedAs(t, "three alike", w, allWell)
	w.Nodes[0].Log = marked(0, 0, []int{1, 1, 3})
	judgedAs(t, "one with another Term behind", w, allWell)
	w.Nodes[2].Log = marked(0, 0, []int{1, 1, 2}, 3)
	judgedAs(t, "the last two differ", w, verdict{true, false, true})
	w.Nodes[1].Log = marked(0, 0, []int{1, 1, 4})
	judgedAs(t, "three Terms", w, allWell)
	w.Nodes[0].Log = logOf(0, 0)
	w.Nodes[1].Log = marked(0, 0, []int{1, 1}, 1)
	judgedAs(t, "the last two differ, and the first one has nothing", w, verdict{true, false, true})
}

func TestJudgeLogsOfAllShortLogs(t *testing.T) {
	t.Parallel()
	var logs []impl.Log
	for base := range 3 {
		for _, terms := range risingTerms(1, 3) {
			for bits := range 1 << len(terms) {
				var others []int
				for i := range terms {
					if bits>>i&1 == 1 {
						others = append(others, base+1+i)
					}
				}
				logs = append(logs, marked(base, 1, terms, others...))
			}
		}
	}
	fine, wrong := 0, 0
	for _, a := range logs {
		for _, b := range logs {
			want := logsByTheWord(a, b)
			if got := impl.JudgeLogs(twoLogs(2, 0, 1, a, b)); got != want {
				t.Fatal("was judged", got, ":", a, b)
			}
			if want {
				fine++
			} else {
				wrong++
			}
		}
	}
	if min(fine, wrong) < 5000 {
		t.Error("the logs are too much alike:", fine, wrong)
	}
}

// Of what two come to that were one once, and were put to, cut off and turned since.
func TestJudgeLogsOfThrownLogs(t *testing.T) {
	t.Parallel()
	d := &dice{141}
	fine, wrong := 0, 0
	for range 4000 {
		l := thrownLog(d, 14)
		w := newWorld(2 + d.below(4))
		for id := range w.Nodes {
			own := impl.LogCut(l, l.Base+d.below(len(l.List)+1))
			number, _ := impl.LastOf(own)
			prev := own.Base + d.below(number-own.Base+1)
			if d.below(3) == 0 {
				term := impl.TermAt(own, prev) + d.below(3)
				own, _ = impl.LogPut(own, prev, impl.TermAt(own, prev), entries(d.below(3), term, term+d.below(2)))
			}
			if len(own.List) > 0 && d.below(8) == 0 {
				own.List[d.below(len(own.List))].C = numbered(1 + d.below(9))
			}
			w.Nodes[id].Term, w.Nodes[id].Log, w.Nodes[id].Commit = 100000, own, own.Base
		}
		if !impl.WorldOk(w) {
			t.Fatal("no fair question:", w)
		}
		if judged(t, "thrown logs", w)[1] {
			fine++
		} else {
			wrong++
		}
	}
	if min(fine, wrong) < 1000 {
		t.Error("the logs are too much alike:", fine, wrong)
	}
}

func TestJudgeLogsOfLongLogs(t *testing.T) {
	whole, cut := longLog(0, 7, 100000), longLog(0, 7, 100000)
	cut = impl.LogCut(cut, 50000)
	for _, c := range []struct {
		at   int
		want bool
	}{{0, true}, {1, true}, {50000, true}, {50001, false}, {50002, false}, {99999, false}, {100000, false}} {
		other := logOf(whole.Base, whole.BaseTerm, slices.Clone(whole.List)...)
		if c.at > 0 {
			other.List[c.at-1].C.M.V++
		}
		for _, w := range []impl.World{twoLogs(3, 0, 2, other, cut), twoLogs(3, 2, 1, other, cut)} {
			if got := impl.JudgeLogs(w); got != c.want {
				t.Error("another one at", c.at, "was judged", got)
			}
		}
		if got := impl.JudgeLogs(twoLogs(2, 0, 1, whole, other)); got != (c.at == 0) {
			t.Error("another one at", c.at, "was judged", got, "where nothing was cut off")
		}
	}
}

// Each place of Base, Commit and the last number, and as many chosen as there may be.
func TestJudgeChosenOfHowMany(t *testing.T) {
	for base := range 9 {
		for commit := base; commit <= 8; commit++ {
			for last := commit; last <= 9; last++ {
				for chosen := range 11 {
					w := newWorld(2)
					w.Nodes[1] = agreedNode(1, 2, base, commit, last)
					w.Chosen = slices.Clone(agreedRow[:chosen])
					judgedAs(t, "a part of what is chosen", w, verdict{true, true, commit <= chosen})
				}
			}
		}
	}
}

type judgeCase struct {
	name string
	turn func(n *impl.Node)
	want verdict
}

func turnedCases() []judgeCase {
	chosen, logs := verdict{true, true, false}, verdict{true, false, true}
	both := verdict{true, false, false}
	return []judgeCase{
		{"as it is", func(n *impl.Node) {}, allWell},
		{"Commit as many as are chosen", func(n *impl.Node) { n.Commit, n.Now = 8, replayByTheWord(agreedRow[:8]) }, allWell},
		{"Commit one below", func(n *impl.Node) { n.Commit, n.Now = 7, replayByTheWord(agreedRow[:7]) }, allWell},
		{"Commit one above", func(n *impl.Node) { n.Commit, n.Now = 9, replayByTheWord(agreedRow[:9]) }, chosen},
		{"Commit one above, and Now behind what is chosen", func(n *impl.Node) { n.Commit, n.Now = 9, replayByTheWord(agreedRow[:8]) }, chosen},
		{"Commit beyond Now", func(n *impl.Node) { n.Commit = 7 }, chosen},
		{"Commit ahead of Now", func(n *impl.Node) { n.Commit = 4 }, chosen},
		{"Base at Commit", func(n *impl.Node) { *n = agreedNode(n.Id, 3, 6, 6, 9) }, allWell},
		{"Base at all that are chosen", func(n *impl.Node) { *n = agreedNode(n.Id, 3, 8, 8, 9) }, allWell},
		{"Base at 0", func(n *impl.Node) { *n = agreedNode(n.Id, 3, 0, 6, 9) }, allWell},
		{"nothing committed", func(n *impl.Node) { *n = agreedNode(n.Id, 3, 0, 0, 9) }, allWell},
		{"nothing at all", func(n *impl.Node) { *n = agreedNode(n.Id, 3, 0, 0, 0) }, allWell},
		{"nothing at all, but Snap", func(n *impl.Node) { m := n.Snap; *n = agreedNode(n.Id, 3, 0, 0, 0); n.Snap = m }, chosen},
		{"nothing at all, but Now", func(n *impl.Node) { m := n.Now; *n = agreedNode(n.Id, 3, 0, 0, 0); n.Now = m }, chosen},
		{"Base beyond what is chosen", func(n *impl.Node) { *n = agreedNode(n.Id, 3, 9, 9, 10) }, chosen},
		{"Base far beyond", func(n *impl.Node) { n.Log, n.Commit = logOf(100000, 5), 100000 }, chosen},
		{"another command behind Base", func(n *impl.Node) { n.Log.List[0].C = cmd(5, 5, get(5)) }, both},
		{"another command at Commit", func(n *impl.Node) { n.Log.List[2].C = cmd(5, 5, get(5)) }, both},
		{"another command behind Commit", func(n *impl.Node) { n.Log.List[3].C = cmd(5, 5, get(5)) }, logs},
		{"another command at the last", func(n *impl.Node) { n.Log.List[5].C = cmd(5, 5, get(5)) }, logs},
		{"nothing, where the same was asked before", func(n *impl.Node) { n.Log.List[0].C = impl.Cmd{} }, both},
		{"another Term behind Base", func(n *impl.Node) { n.Log.List[0].Term = 1 }, logs},
		{"another Term at all that both have", func(n *impl.Node) {
			for i := range n.Log.List {
				n.Log.List[i].Term = 8
			}
		}, allWell},
		{"another BaseTerm", func(n *impl.Node) { n.Log.BaseTerm = 0 }, allWell},
		{"another V in Now", func(n *impl.Node) { n.Now.T.Pairs[0].V++ }, chosen},
		{"another K in Now", func(n *impl.Node) { n.Now.T.Pairs[0].K++ }, chosen},
		{"one pair more in Now", func(n *impl.Node) { n.Now.T.Pairs = append(n.Now.T.Pairs, impl.Pair{K: 900, V: 1}) }, chosen},
		{"no pairs in Now", func(n *impl.Node) { n.Now.T.Pairs = nil }, chosen},
		{"one message more in Now", func(n *impl.Node) { n.Now.T = withBuf(fork(cuts(500), n.Now.T, leaf()), put(900, 1)) }, chosen},
		{"another V of Last in Now", func(n *impl.Node) { n.Now.Last[0].V++ }, chosen},
		{"another Has of Last in Now", func(n *impl.Node) { n.Now.Last[1].Has = !n.Now.Last[1].Has }, chosen},
		{"another Seq of Last in Now", func(n *impl.Node) { n.Now.Last[1].Seq++ }, chosen},
		{"one less in Last of Now", func(n *impl.Node) { n.Now.Last = n.Now.Last[1:] }, chosen},
		{"one more in Last of Now", func(n *impl.Node) { n.Now.Last = append(n.Now.Last, had(9, 1, 1)) }, chosen},
		{"Now that tells the same", func(n *impl.Node) { n.Now.T = fork(cuts(5), n.Now.T, leaf()); n.Now.T.Kids = split(n.Now.T) }, allWell},
		{"Now that tells the same by a message", func(n *impl.Node) {
			n.Now.T = withBuf(fork(cuts(5), leaf(4, 1), leaf()), put(4, 9), put(7, 2), add(7, 3))
		}, allWell},
		{"another V in Snap", func(n *impl.Node) { n.Snap.T.Pairs[0].V++ }, chosen},
		{"one pair less in Snap", func(n *impl.Node) { n.Snap.T.Pairs = n.Snap.T.Pairs[1:] }, chosen},
		{"another V of Last in Snap", func(n *impl.Node) { n.Snap.Last[1].V++ }, chosen},
		{"no Last in Snap", func(n *impl.Node) { n.Snap.Last = nil }, chosen},
		{"Snap that tells the same", func(n *impl.Node) {
			n.Snap.T = withBuf(fork(cuts(5, 600), leaf(), leaf(), leaf()), put(4, 8), put(7, 5), del(900))
		}, allWell},
		{"Snap is Now", func(n *impl.Node) { n.Snap = n.Now }, chosen},
		{"Now is Snap", func(n *impl.Node) { n.Now = n.Snap }, chosen},
		{"both of them new", func(n *impl.Node) { n.Snap, n.Now = impl.MachineNew(), impl.MachineNew() }, chosen},
		{"each is the other one", func(n *impl.Node) { n.Snap, n.Now = n.Now, n.Snap }, chosen},
		{"another Term, Vote and Role", func(n *impl.Node) { n.Term, n.Vote, n.Role = 100000, 0, impl.RoLead }, allWell},
		{"other Votes, Next and Match", func(n *impl.Node) {
			n.Votes, n.Next, n.Match = each(3, true), each(3, 7), each(3, 6)
		}, allWell},
	}
}

// split: two kids, with the pairs of the first one put to where they belong by the cut.
func split(t impl.Tree) []impl.Tree {
	low, high := leaf(), leaf()
	for _, p := range t.Kids[0].Pairs {
		if p.K < t.Cuts[0] {
			low.Pairs = append(low.Pairs, p)
		} else {
			high.Pairs = append(high.Pairs, p)
		}
	}
	return []impl.Tree{low, high}
}

// Whichever node it is that was turned: the others have all that it has.
func TestJudgeChosen(t *testing.T) {
	for _, c := range turnedCases() {
		for id := range 3 {
			w := agreedWorld()
			for other := range w.Nodes {
				w.Nodes[other] = agreedNode(other, 3, 0, 8, 10)
			}
			w.Nodes[id] = agreedNode(id, 3, 3, 6, 9)
			c.turn(&w.Nodes[id])
			if !worldOkByTheWord(w) {
				t.Fatal("no fair question:", c.name)
			}
			judgedAs(t, c.name, w, c.want)
			w.Net, w.Acks = onTheWay(1, 30), each(2000, had(9, 9, 9))
			judgedAs(t, c.name+", and more on its way", w, c.want)
		}
	}
}

// What is chosen is another one at each place in turn: the nodes that have it, or what comes of it, do not agree.
func TestJudgeChosenOfOthersChosen(t *testing.T) {
	for at := range 8 {
		for _, c := range append(otherCmds(agreedRow[at]), cmd(8, 8, put(800, 8))) {
			w := agreedWorld()
			if w.Chosen[at] = c; !cmdOkByTheWord(c) || c == agreedRow[at] {
				continue
			}
			judgedAs(t, "another one chosen", w, verdict{true, true, false})
			w.Nodes[0], w.Nodes[1] = agreedNode(0, 3, 6, 6, 9), agreedNode(1, 3, 4, 5, 9)
			judged(t, "another one chosen, where most was cut off", w)
		}
	}
	w := agreedWorld()
	w.Chosen[3] = impl.Cmd{}
	w.Nodes[0], w.Nodes[1] = agreedNode(0, 3, 4, 6, 9), agreedNode(1, 3, 5, 8, 9)
	judgedAs(t, "another one chosen of which the same comes, and it was cut off", w, allWell)
	w.Nodes[1] = agreedNode(1, 3, 3, 8, 9)
	judgedAs(t, "another one chosen of which the same comes, and one has it", w, verdict{true, true, false})
}

// Machines grow beyond a leaf, and are the same whether they come of all commands or of a part behind a Snap.
func TestJudgeChosenOfMany(t *testing.T) {
	list := fewKeys(2000)
	l := impl.Log{List: make([]impl.Entry, 2000)}
	for i, c := range list {
		l.List[i].C = c
	}
	w := newWorld(5)
	w.Chosen = list
	for id, base := range []int{0, 1, 700, 1999, 2000} {
		n := &w.Nodes[id]
		n.Log, n.Commit = impl.LogCut(l, base), min(2000, base+1000*(id%3))
		n.Snap, n.Now = impl.MachineAll(impl.MachineNew(), list[:base]), impl.MachineAll(impl.MachineNew(), list[:n.Commit])
	}
	if !impl.JudgeLogs(w) || !impl.JudgeChosen(w) || impl.TreeDepth(w.Nodes[4].Now.T) < 3 {
		t.Error("many were judged wrongly")
	}
	for id := range w.Nodes {
		now, snap := w.Nodes[id].Now, w.Nodes[id].Snap
		for _, m := range []*impl.Machine{&w.Nodes[id].Now, &w.Nodes[id].Snap} {
			was := *m
			m.T = impl.Drain(m.T)
			if !impl.JudgeChosen(w) {
				t.Error("number", id, "drained was judged wrongly")
			}
			m.T = impl.Inject(m.T, add(3, 1))
			if impl.JudgeChosen(w) {
				t.Error("number", id, "with one more was judged wrongly")
			}
			*m = was
		}
		if !sameMachine(now, w.Nodes[id].Now) || !sameMachine(snap, w.Nodes[id].Snap) {
			t.Fatal("no fair question")
		}
	}
}

// By the chapter's words a Commit beyond Chosen is wrong, also where Chosen has no room for what was committed.
func TestJudgeChosenWhereAllIsChosen(t *testing.T) {
	w := newWorld(1)
	n := &w.Nodes[0]
	w.Chosen = row(2000)
	n.Log, n.Commit = logOf(2000, 0), 2000
	n.Now = impl.MachineAll(impl.MachineNew(), w.Chosen)
	n.Snap = n.Now
	if !impl.JudgeChosen(w) {
		t.Error("all that can be chosen was judged wrongly")
	}
	w, code := impl.WorldDo(w, askOf(0))
	if code != impl.WdDone || w.Nodes[0].Commit != 2001 || len(w.Chosen) != 2000 || impl.JudgeChosen(w) || !impl.JudgeLogs(w) || !impl.JudgeLeaders(w) {
		t.Error("one more was judged wrongly:", code, w.Nodes[0].Commit)
	}
}

func TestReplay(t *testing.T) {
	w := agreedWorld()
	for _, n := range append([]int{3, 4, 5, 6, 7, 8, 9, 10}, edgeNumbers...) {
		m := replays(t, "some", w, n)
		if n <= 0 && !sameMachine(m, impl.MachineNew()) || n >= 8 && !sameMachine(m, w.Nodes[0].Now) {
			t.Error("by", n, "came to", m)
		}
		if !sameMachine(m, impl.MachineAll(impl.MachineNew(), agreedRow[:max(0, min(n, 8))])) {
			t.Error("by", n, "came to", m, "and not to what all come to")
		}
	}
	for n, want := range map[int][]impl.Pair{1: nil, 2: pairs(4, 8), 3: pairs(4, 8, 7, 5), 4: pairs(4, 8, 7, 5), 5: pairs(4, 9, 7, 5), 6: pairs(4, 9, 7, 5), 7: pairs(7, 5), 8: pairs(7, 5)} {
		if m := replays(t, "by hand", w, n); !slices.Equal(impl.TreeMap(m.T), want) || len(m.Last) != []int{0, 0, 1, 2, 2, 2, 2, 3, 3}[n] {
			t.Error("by", n, "came to", m)
		}
	}
	d := &dice{142}
	for range 60 {
		w := newWorld(1 + d.below(5))
		for _, c := range thrownCmds(d, 60, 40) {
			if cmdOkByTheWord(c) {
				w.Chosen = append(w.Chosen, c)
			}
		}
		have := len(w.Chosen)
		for _, n := range []int{-1, 0, 1, d.below(have), have - 1, have, have + 1, math.MaxInt, math.MinInt} {
			replays(t, "thrown ones", w, n)
		}
	}
	w.Chosen = fewKeys(2000)
	if whole := impl.Replay(w, 2000); !sameMachine(whole, impl.Replay(w, 2001)) || !sameAs(whole, fewKeys(2000)) || sameAs(whole, fewKeys(1999)) || !sameAs(impl.Replay(w, 1999), fewKeys(1999)) {
		t.Error("all that can be chosen came to", whole)
	}
}

// fewKeys: so many commands, each of which turns a tree that stays of less than the depth at which nothing is done any more.
func fewKeys(count int) []impl.Cmd {
	list := row(count)
	for i := range list {
		list[i].M = add(i*7%40, 1+i)
	}
	return list
}

// Of what the nodes have, and of what is on its way, Replay asks nothing but that it is right.
func TestReplayAsksChosenAlone(t *testing.T) {
	want := impl.Replay(agreedWorld(), 8)
	for _, c := range turnedCases() {
		w := agreedWorld()
		w.Nodes[1] = agreedNode(1, 3, 3, 6, 9)
		if c.turn(&w.Nodes[1]); !sameMachine(impl.Replay(w, 8), want) {
			t.Error(c.name, "came to", impl.Replay(w, 8))
		}
	}
}

func TestWhatIsNoWorldIsNotJudged(t *testing.T) {
	t.Parallel()
	for _, c := range badWorldTurns() {
		w := turnedWorld(c)
		judgedAs(t, c.name, w, verdict{})
		for _, n := range []int{-1, 0, 1, len(w.Chosen), math.MaxInt, math.MinInt} {
			if m := replays(t, c.name, w, n); !reflect.DeepEqual(m, impl.Machine{}) {
				t.Error(c.name, "by", n, "came to", m)
			}
		}
	}
	for _, n := range edgeNumbers {
		if m := impl.Replay(impl.World{}, n); !reflect.DeepEqual(m, impl.Machine{}) {
			t.Error("the zero world by", n, "came to", m)
		}
	}
}

func TestGoodWorldsAreJudgedByTheWord(t *testing.T) {
	t.Parallel()
	for _, c := range goodWorldTurns() {
		w := turnedWorld(c)
		if len(w.Chosen) > 1000 || slices.ContainsFunc(w.Nodes, func(n impl.Node) bool { return len(n.Log.List) > 1000 }) {
			impl.JudgeLogs(w)
			impl.JudgeChosen(w)
			continue
		}
		judged(t, c.name, w)
		replays(t, c.name, w, 5)
	}
}

// Each world that agrees, with one number of it at an end.
func TestJudgedNumbersAtTheirEnds(t *testing.T) {
	t.Parallel()
	w := agreedWorld()
	count := len(listNumbers(&w)) + len(freeNumbers(&w))
	for i := range count {
		for _, end := range edgeNumbers {
			w := agreedWorld()
			*slices.Concat(listNumbers(&w), freeNumbers(&w))[i] = end
			judged(t, "an end as a number", w)
			replays(t, "an end as a number", w, 8)
		}
	}
	for i := range numbersIn(&w.Nodes[1]) {
		for _, end := range edgeNumbers {
			w := agreedWorld()
			*numbersIn(&w.Nodes[1])[i] = end
			judged(t, "an end as a number of a node", w)
			replays(t, "an end as a number of a node", w, 8)
		}
	}
	for _, end := range edgeNumbers {
		w := agreedWorld()
		w.Nodes[2].Log.Base = end
		judged(t, "an end as Base", w)
		w.Nodes[2].Commit = end
		judged(t, "an end as Base and Commit", w)
		w = agreedWorld()
		w.Nodes[1].Log.BaseTerm = end
		judged(t, "an end as BaseTerm", w)
		w = agreedWorld()
		w.Nodes[1].Log.List[1].Term = end
		judged(t, "an end as a Term", w)
	}
}

// judgeTally counts the verdicts, so that a test can tell that they were not all alike.
type judgeTally struct {
	wrong [3]int
	well  int
}

func (c *judgeTally) of(v verdict) {
	for i, fine := range v {
		if !fine {
			c.wrong[i]++
		}
	}
	if v == allWell {
		c.well++
	}
}

func TestThrownWorldsAreJudged(t *testing.T) {
	t.Parallel()
	d := &dice{143}
	var c judgeTally
	for i := range 600 {
		w := thrownWorld(d, 1+i%5)
		if len(w.Chosen) > 1000 {
			continue
		}
		c.of(judged(t, "a thrown one", w))
		marred := marredWorld(d, w)
		judged(t, "a marred one", marred)
		replays(t, "a thrown one", w, d.below(len(w.Chosen)+3)-1)
		replays(t, "a marred one", marred, d.below(len(w.Chosen)+3)-1)
	}
	if c.wrong[2] < 100 {
		t.Error("the worlds are too much alike:", c)
	}
}

// P14 over a while, in new worlds of each size: whatever is done, all hold; and of what is turned by hand then just that is found.
func TestJudgesOverAWhile(t *testing.T) {
	t.Parallel()
	d := &dice{144}
	cut, uncut, chosen, led, differ := 0, 0, 0, 0, 0
	var c judgeTally
	for i := range 80 {
		w := newWorld(1 + i%5)
		for at, next := range thrownCmds(d, 350, 60) {
			deed := likelyDeed(d, w, next)
			if i%4 == 0 && deed.Kind == impl.DoCut {
				continue // so that there are worlds in which nothing was cut off
			}
			came, code := impl.WorldDo(w, deed)
			if code != impl.WdDone {
				continue
			}
			if w = came; at%5 == 0 {
				wellJudged(t, w)
			}
			if at%50 == 0 {
				c.of(judged(t, "over a while, turned", shaken(d, w)))
			}
		}
		judgedAs(t, "over a while", w, allWell)
		n := d.below(len(w.Chosen)+3) - 1
		replays(t, "over a while", w, n)
		chosen, led = chosen+len(w.Chosen), led+len(w.Led)
		for _, n := range w.Nodes {
			if n.Log.Base > 0 {
				cut++
			} else if len(n.Log.List) > 0 {
				uncut++
			}
			if n.Log.Base+len(n.Log.List) > n.Commit {
				differ++
			}
		}
		for range 20 {
			c.of(judged(t, "turned", shaken(d, w)))
		}
	}
	if min(cut, uncut, differ) < 20 || chosen < 500 || led < 100 {
		t.Error("too little happens:", cut, uncut, differ, chosen, led)
	}
	if min(c.wrong[0], c.wrong[1], c.wrong[2], c.well) < 100 {
		t.Error("the worlds are too much alike:", c)
	}
}

func wellJudged(t *testing.T, w impl.World) {
	t.Helper()
	if !impl.JudgeLeaders(w) || !impl.JudgeLogs(w) || !impl.JudgeChosen(w) {
		t.Fatal("came of deeds, and was judged", judged(t, "over a while", w), ":", w)
	}
}

// shaken: one thing of it is another one, which still makes a world.
func shaken(d *dice, was impl.World) impl.World {
	w, _ := impl.WorldRun(was, nil)
	n := &w.Nodes[d.below(w.Size)]
	other := w.Nodes[d.below(w.Size)]
	at := d.below(len(n.Log.List) + 1)
	c := numbered(1 + d.below(20))
	switch kind := d.below(15); {
	case kind < 3 && at < len(n.Log.List):
		n.Log.List[at].C = c
	case kind < 5 && at < len(n.Log.List):
		n.Log.List[at].Term += d.below(3) - 1
	case kind == 5 && len(w.Chosen) > 0:
		w.Chosen[d.below(len(w.Chosen))] = c
	case kind == 6:
		w.Chosen = append(w.Chosen, c)
	case kind == 7:
		w.Chosen = w.Chosen[:max(0, len(w.Chosen)-1-d.below(3))]
	case kind == 8:
		n.Now = other.Now
	case kind == 9:
		n.Snap = other.Snap
	case kind == 10:
		n.Now.T = impl.Drain(n.Now.T)
	case kind > 10 && kind < 14 && len(w.Led) > 0:
		w.Led = append(w.Led, impl.Lead{Term: w.Led[d.below(len(w.Led))].Term, Id: d.below(w.Size)})
	default:
		n.Commit += d.below(3) - 1
	}
	if !worldOkByTheWord(w) {
		return was
	}
	return w
}

// judgesInTheirOwnMemory: nothing is written into the world, nor into the room behind its lists, and no machine shares memory with it.
func judgesInTheirOwnMemory(t *testing.T, name string, plain impl.World) {
	t.Helper()
	a, wholes := roomyWorld(plain)
	_, kept := roomyWorld(plain)
	for _, of := range []impl.World{a, plain} {
		for range 2 {
			impl.JudgeLeaders(of)
			impl.JudgeLogs(of)
			impl.JudgeChosen(of)
			for _, n := range []int{-1, 0, 1, len(of.Chosen), len(of.Chosen) + 1} {
				m := impl.Replay(of, n)
				apart(t, name, m, of)
				ownMachine(t, name, m)
			}
		}
	}
	if !reflect.DeepEqual(wholes, kept) || !sameWorld(plain, a) {
		t.Fatal("written into, or memory shared with an answer:", name)
	}
}

func TestJudgesWriteIntoNothing(t *testing.T) {
	t.Parallel()
	big := agreedWorld()
	for i := range 60 {
		big.Chosen = append(big.Chosen, cmd(4, 1+i, put(i*13%100, i)))
	}
	for _, w := range []impl.World{agreedWorld(), big, ledWorld(), newWorld(1), newWorld(5), {}} {
		judgesInTheirOwnMemory(t, "a plain one", w)
	}
	for _, role := range roles {
		judgesInTheirOwnMemory(t, "one memory", oneMemoryWorld(role))
	}
	for _, c := range turnedCases() {
		w := agreedWorld()
		w.Nodes[1] = agreedNode(1, 3, 3, 6, 9)
		c.turn(&w.Nodes[1])
		judgesInTheirOwnMemory(t, c.name, w)
	}
	seen := map[string]bool{}
	for _, c := range slices.Concat(goodWorldTurns(), badWorldTurns()) {
		w := turnedWorld(c)
		if seen[c.name] || len(w.Nodes) > 1000 || len(w.Net) > 1000 {
			continue
		}
		seen[c.name] = true
		judgesInTheirOwnMemory(t, c.name, w)
	}
}

// Trees that hold themselves, or one list ever again: all calls end.
func TestJudgesOfStrangeWorlds(t *testing.T) {
	for _, c := range append(strangeTrees(), treeCase{name: "one met ever again", tree: manyfold()}) {
		snap, now, net := agreedWorld(), agreedWorld(), agreedWorld()
		snap.Nodes[1].Snap.T, now.Nodes[2].Now.T = c.tree, c.tree
		net.Net = []impl.Rpc{toIt(impl.RpPut), toIt(impl.RpAsk)}
		net.Net[0].Snap.T = c.tree
		for _, w := range []impl.World{snap, now} {
			if impl.JudgeLeaders(w) || impl.JudgeLogs(w) || impl.JudgeChosen(w) || !reflect.DeepEqual(impl.Replay(w, 5), impl.Machine{}) {
				t.Error(c.name, "is no world, and was judged")
			}
		}
		if !impl.JudgeLeaders(net) || !impl.JudgeLogs(net) || !impl.JudgeChosen(net) || !sameMachine(impl.Replay(net, 8), impl.Replay(agreedWorld(), 8)) {
			t.Error(c.name, "is on its way where it is not asked for, and was judged")
		}
	}
}
