package tests

import (
	"fmt"
	"math"
	"reflect"
	"slices"
	"testing"

	"loop.example/g00234/impl"
)

// firstByTheWord goes from the last one to the first, so that the first one stays.
func firstByTheWord(chosen []impl.Cmd, client, seq int) int {
	first := -1
	for at := len(chosen) - 1; at >= 0; at-- {
		if chosen[at].Client == client && chosen[at].Seq == seq {
			first = at
		}
	}
	return first
}

// toldByTheWord replays all that is ahead anew.
func toldByTheWord(w impl.World, client, seq int) (impl.Done, bool) {
	at := firstByTheWord(w.Chosen, client, seq)
	if at < 0 || !worldOkByTheWord(w) {
		return impl.Done{}, false
	}
	_, d := machineDoByTheWord(replayByTheWord(w.Chosen[:at]), w.Chosen[at])
	return d, true
}

func acksByTheWord(w impl.World) bool {
	if !worldOkByTheWord(w) {
		return false
	}
	for _, a := range w.Acks {
		if d, told := toldByTheWord(w, a.Client, a.Seq); !told || d != a {
			return false
		}
	}
	return true
}

// isTold: P15, of any world and anybody who asks.
func isTold(t *testing.T, name string, w impl.World, client, seq int) (impl.Done, bool) {
	t.Helper()
	if got, want := impl.FirstOf(w, client, seq), firstByTheWord(w.Chosen, client, seq); got != want {
		t.Fatal(name, "has", client, seq, "at", got, "and by the word at", want, "of", w.Chosen)
	}
	d, told := impl.Told(w, client, seq)
	if want, wanted := toldByTheWord(w, client, seq); d != want || told != wanted {
		t.Fatal(name, "told", client, seq, d, told, "and by the word", want, wanted, "of", w.Chosen)
	}
	if again, same := impl.Told(w, client, seq); again != d || same != told {
		t.Fatal(name, "told", client, seq, "another thing when asked again:", d, told, again, same)
	}
	return d, told
}

// isToldAs: isTold, where it is known.
func isToldAs(t *testing.T, name string, w impl.World, client, seq, at int, want impl.Done) {
	t.Helper()
	d, told := isTold(t, name, w, client, seq)
	if d != want || told != (at >= 0) || impl.FirstOf(w, client, seq) != at {
		t.Error(name, "told", client, seq, d, told, "at", impl.FirstOf(w, client, seq), "and not", want, "at", at)
	}
}

// acked: P15, of any world: what both judges say is what the chapter's words say.
func acked(t *testing.T, name string, w impl.World) (acks, all bool) {
	t.Helper()
	acks, all = impl.JudgeAcks(w), impl.JudgeAll(w)
	if want := acksByTheWord(w); acks != want || all != (want && judged(t, name, w) == allWell) {
		t.Fatal(name, "was judged", acks, all, "and by the word", want, ":", w.Acks, "of", w.Chosen)
	}
	return acks, all
}

// ackedAs: acked, where it is known, in a world in which the other judges find nothing.
func ackedAs(t *testing.T, name string, w impl.World, want bool) {
	t.Helper()
	if acks, all := acked(t, name, w); acks != want || all != want {
		t.Error(name, "was judged", acks, all, "and not", want)
	}
}

// chosenWorld: a new one in which these are chosen, and no node has committed anything.
func chosenWorld(size int, list ...impl.Cmd) impl.World {
	w := newWorld(size)
	w.Chosen = list
	return w
}

func TestClientsByHand(t *testing.T) {
	c, next := cmd(3, 1, add(5, 7)), cmd(3, 2, add(5, 1))
	w, _ := runs(t, "by hand", newWorld(3), deeds(askOf(0), giveAt(0), giveAt(1), handIn(0, c)))
	isToldAs(t, "not chosen yet", w, 3, 1, -1, impl.Done{})
	tells(t, "not done yet", w, answerOf(0, 3), impl.WdIdle)
	w, _ = runs(t, "by hand", w, deeds(feedTo(0, 1), loseAt(0), giveAt(0), giveAt(0), answerOf(0, 3), answerOf(0, 3)))
	isToldAs(t, "chosen", w, 3, 1, 1, had(3, 1, 7))
	isToldAs(t, "the next one is not chosen", w, 3, 2, -1, impl.Done{})
	isToldAs(t, "nobody", w, 2, 1, -1, impl.Done{})
	ackedAs(t, "told twice", w, true)
	if !slices.Equal(w.Acks, []impl.Done{had(3, 1, 7), had(3, 1, 7)}) {
		t.Fatal("no fair question:", w.Acks)
	}
	// It asks again, in another place, and is served once.
	w, _ = runs(t, "asked twice", w, deeds(handIn(0, c), handIn(0, next), feedTo(0, 2), giveAt(0), giveAt(0), answerOf(0, 3), fallOf(0), answerOf(2, 3)))
	if len(w.Chosen) != 4 || w.Chosen[1] != c || w.Chosen[2] != c {
		t.Fatal("no fair question:", w)
	}
	isToldAs(t, "asked twice", w, 3, 1, 1, had(3, 1, 7))
	isToldAs(t, "the next one", w, 3, 2, 3, had(3, 2, 8))
	if !slices.Equal(w.Acks, []impl.Done{had(3, 1, 7), had(3, 1, 7), had(3, 2, 8), had(3, 1, 7)}) {
		t.Error("was told", w.Acks)
	}
	ackedAs(t, "told by two nodes", w, true)
	w.Acks = append(w.Acks, had(3, 1, 14))
	ackedAs(t, "told as if it was done twice", w, false)
}

func TestFirstOf(t *testing.T) {
	c, d := put(4, 8), add(4, 1)
	for _, x := range []struct {
		name        string
		client, seq int
		want        int
		chosen      []impl.Cmd
	}{
		{"none chosen", 1, 1, -1, nil},
		{"an empty list", 1, 1, -1, cmds()},
		{"alone", 1, 1, 0, cmds(cmd(1, 1, c))},
		{"the first of two", 1, 1, 0, cmds(cmd(1, 1, c), cmd(1, 1, d))},
		{"the first of two, with others between", 2, 3, 1, cmds(cmd(1, 1, c), cmd(2, 3, c), cmd(2, 4, c), cmd(1, 3, c), cmd(2, 3, c), cmd(2, 3, d))},
		{"the first of many alike", 2, 3, 0, each(50, cmd(2, 3, c))},
		{"the last one", 2, 3, 2, cmds(cmd(2, 2, c), cmd(3, 3, c), cmd(2, 3, c))},
		{"the Client with another Seq", 2, 3, -1, cmds(cmd(2, 2, c), cmd(2, 4, c), cmd(2, 1, c))},
		{"the Seq with another Client", 2, 3, -1, cmds(cmd(1, 3, c), cmd(3, 3, c), cmd(9, 3, c))},
		{"both, but not of one", 2, 3, -1, cmds(cmd(2, 4, c), cmd(1, 3, c))},
		{"the other way round", 2, 3, -1, cmds(cmd(3, 2, c))},
		{"both numbers in other ones ahead", 2, 3, 2, cmds(cmd(2, 4, c), cmd(1, 3, c), cmd(2, 3, c))},
		{"the sum of another one", 2, 3, -1, cmds(cmd(1, 4, c), cmd(3, 2, c), cmd(4, 1, c))},
		{"behind an older one", 2, 3, 1, cmds(cmd(2, 9, c), cmd(2, 3, c))},
		{"nothing ahead", 2, 3, 2, cmds(impl.Cmd{}, impl.Cmd{}, cmd(2, 3, c))},
		{"the least of all", 1, 1, 1, cmds(cmd(1, 2, c), cmd(1, 1, c))},
		{"the greatest of all", 9, 100000, 1, cmds(cmd(9, 99999, c), cmd(9, 100000, c))},
		{"Client 0", 0, 1, -1, cmds(cmd(1, 1, c), impl.Cmd{})},
		{"Seq 0", 1, 0, -1, cmds(cmd(1, 1, c), impl.Cmd{})},
		{"Client and Seq 0", 0, 0, 1, cmds(cmd(1, 1, c), impl.Cmd{}, impl.Cmd{})},
		{"Client and Seq 0, and nothing like it", 0, 0, -1, cmds(cmd(1, 1, c))},
		{"Client below 0", -1, 1, -1, cmds(cmd(1, 1, c), impl.Cmd{})},
		{"Seq below 0", 1, -1, -1, cmds(cmd(1, 1, c), impl.Cmd{})},
		{"Client beyond", 10, 1, -1, cmds(cmd(1, 1, c), cmd(9, 1, c))},
		{"Seq beyond", 1, 100001, -1, cmds(cmd(1, 1, c), cmd(1, 100000, c))},
		{"the least number", math.MinInt, math.MinInt, -1, cmds(cmd(1, 1, c), impl.Cmd{})},
		{"the greatest number", math.MaxInt, math.MaxInt, -1, cmds(cmd(1, 1, c), impl.Cmd{})},
		{"alike but for the upper half", 1<<32 + 1, 1<<32 + 1, -1, cmds(cmd(1, 1, c))},
	} {
		w := chosenWorld(3, x.chosen...)
		if got := impl.FirstOf(w, x.client, x.seq); got != x.want || !impl.WorldOk(w) {
			t.Error(x.name, "is at", got, "and not at", x.want)
		}
		if d, told := isTold(t, x.name, w, x.client, x.seq); told != (x.want >= 0) {
			t.Error(x.name, "told", d, told)
		}
		// FirstOf asks no more than Chosen: of what is no world it tells the same, and Told tells nothing.
		if got := impl.FirstOf(impl.World{Chosen: x.chosen}, x.client, x.seq); got != x.want {
			t.Error(x.name, "of no world is at", got, "and not at", x.want)
		}
		isToldAs(t, x.name+", of no world", impl.World{}, x.client, x.seq, -1, impl.Done{})
		if d, told := impl.Told(impl.World{Size: 3, Chosen: x.chosen}, x.client, x.seq); told || d != (impl.Done{}) {
			t.Error(x.name, "of no world told", d, told)
		}
	}
}

func TestFirstOfAllThatCanBeChosen(t *testing.T) {
	w := chosenWorld(1, row(2000)...)
	for number := 1; number <= 2000; number++ {
		c := numbered(number)
		if at := impl.FirstOf(w, c.Client, c.Seq); at != number-1 {
			t.Fatal("number", number, "is at", at)
		}
		if at := impl.FirstOf(w, c.Client%9+1, c.Seq); at != -1 {
			t.Fatal("number", number, "of another one is at", at)
		}
	}
	w.Chosen[1999] = numbered(1)
	if at := impl.FirstOf(w, numbered(1).Client, 1); at != 0 {
		t.Error("the first one is at", at)
	}
	if at := impl.FirstOf(w, numbered(2000).Client, 2000); at != -1 {
		t.Error("one that is there no more is at", at)
	}
	if at := impl.FirstOf(impl.World{Chosen: row(3000)}, numbered(3000).Client, 3000); at != 2999 {
		t.Error("of more than can be chosen, the last one is at", at)
	}
}

// toldRow has at each place one that comes to something else; at tells in the test what.
var toldRow = cmds(
	cmd(1, 1, add(4, 8)),   // the first of all
	impl.Cmd{},             // nothing
	cmd(2, 5, put(7, 5)),   // a Seq that was left out ahead
	cmd(2, 3, put(7, 99)),  // comes to nothing, since a later one stands ahead
	cmd(1, 1, add(4, 8)),   // asked twice
	cmd(1, 2, get(4)),      // asks
	cmd(3, 1, get(5)),      // asks, and nothing is there
	cmd(3, 2, add(5, 2)),   // adds to nothing
	cmd(1, 3, add(4, 1)),   // turns
	cmd(1, 1, add(4, 8)),   // asked again, with others between
	cmd(3, 3, del(4)),      // strikes
	cmd(1, 4, get(4)),      // asks for what was struck
	cmd(2, 5, put(7, 6)),   // another message of a number that was done
	cmd(2, 3, put(7, 99)),  // comes to nothing again
	cmd(4, 1, put(7, -3)),  // below 0
	cmd(9, 100000, get(7)), // the last of all
)

func TestTold(t *testing.T) {
	w := chosenWorld(3, toldRow...)
	for _, x := range []struct {
		client, seq, at int
		want            impl.Done
	}{
		{1, 1, 0, had(1, 1, 8)},
		{0, 0, 1, impl.Done{}},
		{2, 5, 2, had(2, 5, 5)},
		{2, 3, 3, impl.Done{}},
		{1, 2, 5, had(1, 2, 8)},
		{3, 1, 6, none(3, 1)},
		{3, 2, 7, had(3, 2, 2)},
		{1, 3, 8, had(1, 3, 9)},
		{3, 3, 10, none(3, 3)},
		{1, 4, 11, none(1, 4)},
		{4, 1, 14, had(4, 1, -3)},
		{9, 100000, 15, had(9, 100000, -3)},
		{2, 4, -1, impl.Done{}},
		{2, 1, -1, impl.Done{}},
		{4, 2, -1, impl.Done{}},
		{5, 1, -1, impl.Done{}},
		{1, 5, -1, impl.Done{}},
		{1, 0, -1, impl.Done{}},
		{0, 1, -1, impl.Done{}},
		{-1, -1, -1, impl.Done{}},
		{10, 1, -1, impl.Done{}},
		{9, 100001, -1, impl.Done{}},
	} {
		isToldAs(t, "a row by hand", w, x.client, x.seq, x.at, x.want)
		// Of what is chosen behind it, it is told the same; ahead of its place nothing.
		for count := range len(toldRow) + 1 {
			if count <= x.at {
				isToldAs(t, "ahead of it", chosenWorld(1, toldRow[:count]...), x.client, x.seq, -1, impl.Done{})
			} else {
				isToldAs(t, "behind it", chosenWorld(1, toldRow[:count]...), x.client, x.seq, x.at, x.want)
			}
		}
	}
}

// A row, and each of it with what it is told, is what Replay and MachineDo come to.
func TestToldIsWhatReplayTells(t *testing.T) {
	w := chosenWorld(2, toldRow...)
	for _, c := range toldRow {
		at := impl.FirstOf(w, c.Client, c.Seq)
		_, want := impl.MachineDo(impl.Replay(w, at), w.Chosen[at])
		if d, told := impl.Told(w, c.Client, c.Seq); !told || d != want {
			t.Error(c, "was told", d, told, "and not", want)
		}
	}
}

// So many keys that the tree comes to where nothing more is done: who was told ahead of that is told the same again, and all others nothing.
func TestToldOfATreeThatIsTooDeep(t *testing.T) {
	w := chosenWorld(1, row(120)...)
	full := slices.IndexFunc(w.Chosen, func(c impl.Cmd) bool {
		_, d := impl.MachineDo(impl.Replay(w, c.Seq-1), c)
		return d == (impl.Done{})
	})
	if full < 20 || full > 100 {
		t.Fatal("no fair question:", full)
	}
	early, late := w.Chosen[full-1], w.Chosen[full]
	w.Chosen = append(w.Chosen, early, late)
	isToldAs(t, "ahead", w, early.Client, early.Seq, full-1, had(early.Client, early.Seq, early.M.V))
	isToldAs(t, "too deep", w, late.Client, late.Seq, full, impl.Done{})
	isToldAs(t, "the last one", w, numbered(120).Client, 120, 119, impl.Done{})
	w.Acks = []impl.Done{had(early.Client, early.Seq, early.M.V)}
	ackedAs(t, "told ahead", w, true)
	w.Acks = []impl.Done{had(late.Client, late.Seq, late.M.V)}
	ackedAs(t, "told though it is too deep", w, false)
	w.Acks = []impl.Done{none(late.Client, late.Seq)}
	ackedAs(t, "told that nothing is there", w, false)
}

// All rows of up to four out of a few, all who could have asked, and what they could have been told.
func TestToldOfAllShortRows(t *testing.T) {
	t.Parallel()
	few := cmds(impl.Cmd{}, cmd(1, 1, add(3, 1)), cmd(1, 2, add(3, 1)), cmd(1, 1, put(3, 9)), cmd(2, 1, add(3, 4)), cmd(2, 2, get(3)))
	rows := [][]impl.Cmd{nil}
	for at := 0; at < len(rows) && len(rows[at]) < 4; at++ {
		for _, c := range few {
			rows = append(rows, append(slices.Clone(rows[at]), c))
		}
	}
	found, came, fine := 0, 0, 0
	for _, list := range rows {
		w := chosenWorld(1, list...)
		for client := range 3 {
			for seq := range 3 {
				d, told := isTold(t, "a short row", w, client, seq)
				if told {
					found++
				}
				if d == (impl.Done{}) {
					continue
				}
				came++
				w.Acks = append(w.Acks, d)
			}
		}
		if !impl.JudgeAcks(w) || !impl.JudgeAll(w) {
			t.Fatal("what was told was judged wrongly:", w.Acks, "of", list)
		}
		w.Acks = nil
		for v := range 12 {
			w.Acks = []impl.Done{had(1+v%2, 1+v/2%2, v)}
			if acks, _ := acked(t, "a short row", w); acks {
				fine++
			}
		}
	}
	if len(rows) != 1+6+36+216+1296 || found < 4000 || came < 3000 || fine < 200 {
		t.Error("the rows are too much alike:", len(rows), found, came, fine)
	}
}

func TestToldOfThrownRows(t *testing.T) {
	t.Parallel()
	d := &dice{151}
	found, nothing, never, fine, wrong := 0, 0, 0, 0, 0
	for i := range 150 {
		w := newWorld(1 + i%5)
		for _, c := range thrownCmds(d, 10+d.below(90), []int{2, 9, 60, 1000}[i%4]) {
			if cmdOkByTheWord(c) {
				w.Chosen = append(w.Chosen, c)
			}
		}
		for range 25 {
			client, seq := d.below(11), d.below(12)
			if d.below(2) == 0 {
				c := w.Chosen[d.below(len(w.Chosen))]
				client, seq = c.Client, c.Seq
			}
			switch was, told := isTold(t, "a thrown row", w, client, seq); {
			case !told:
				never++
			case was == impl.Done{}:
				nothing++
			default:
				found++
				w.Acks = append(w.Acks, was)
			}
		}
		ackedAs(t, "what was told", w, true)
		for range 6 {
			turned := w
			turned.Acks = slices.Clone(w.Acks)
			if a := turnedAck(d, turned); acksByTheWord(turned) {
				fine++
			} else {
				wrong++
				if w.Acks[a] == turned.Acks[a] {
					t.Fatal("no fair question")
				}
			}
			acked(t, "turned", turned)
		}
	}
	if min(found, nothing, never, fine, wrong) < 40 {
		t.Error("the rows are too much alike:", found, nothing, never, fine, wrong)
	}
}

// turnedAck turns one number of one of Acks, or nothing now and then, and tells of which.
func turnedAck(d *dice, w impl.World) int {
	at := d.below(len(w.Acks))
	a := &w.Acks[at]
	switch d.below(6) {
	case 0:
		a.V += 1 - 2*d.below(2)
	case 1:
		a.Has = !a.Has
	case 2:
		a.Seq = max(1, a.Seq+1-2*d.below(2))
	case 3:
		a.Client = 1 + d.below(9)
	case 4:
		*a = w.Acks[d.below(len(w.Acks))]
	}
	return at
}

func TestJudgeAcks(t *testing.T) {
	one := had(1, 1, 8)
	for _, x := range []struct {
		name string
		acks []impl.Done
		want bool
	}{
		{"none", nil, true},
		{"an empty list", []impl.Done{}, true},
		{"the first of all", []impl.Done{one}, true},
		{"told twice", []impl.Done{one, one}, true},
		{"told twice, with another one between", []impl.Done{one, had(1, 3, 9), one}, true},
		{"the later one first", []impl.Done{had(1, 3, 9), had(1, 2, 8), one}, true},
		{"one that asks", []impl.Done{had(1, 2, 8)}, true},
		{"one that finds nothing", []impl.Done{none(3, 1)}, true},
		{"one that strikes", []impl.Done{none(3, 3)}, true},
		{"the last of all", []impl.Done{had(9, 100000, -3)}, true},
		{"all of them", []impl.Done{one, had(2, 5, 5), had(1, 2, 8), none(3, 1), had(3, 2, 2), had(1, 3, 9), none(3, 3), none(1, 4), had(4, 1, -3), had(9, 100000, -3)}, true},
		{"all the other way round", []impl.Done{had(9, 100000, -3), had(4, 1, -3), none(1, 4), none(3, 3), had(1, 3, 9), had(3, 2, 2), none(3, 1), had(1, 2, 8), had(2, 5, 5), one}, true},
		{"another V", []impl.Done{had(1, 1, 9)}, false},
		{"V 0", []impl.Done{had(1, 1, 0)}, false},
		{"V alike but for the upper half", []impl.Done{had(1, 1, 1<<32+8)}, false},
		{"V below 0", []impl.Done{had(1, 1, -8)}, false},
		{"V at an end", []impl.Done{had(1, 1, math.MinInt)}, false},
		{"another Has", []impl.Done{{Client: 1, Seq: 1, V: 8}}, false},
		{"another Has of what found nothing", []impl.Done{had(3, 1, 0)}, false},
		{"another V of what found nothing", []impl.Done{{Client: 3, Seq: 1, V: 2}}, false},
		{"another Seq", []impl.Done{had(1, 3, 8)}, false},
		{"another Client", []impl.Done{had(2, 1, 8)}, false},
		{"never chosen", []impl.Done{none(5, 1)}, false},
		{"never chosen, of a Client that asked", []impl.Done{none(1, 5)}, false},
		{"never chosen, ahead of one that was", []impl.Done{had(2, 4, 5)}, false},
		{"as if it was done twice", []impl.Done{had(1, 1, 16)}, false},
		{"as if it was done when it was asked again", []impl.Done{had(1, 1, 17)}, false},
		{"as if the later message was done", []impl.Done{had(2, 5, 6)}, false},
		{"what came to nothing", []impl.Done{none(2, 3)}, false},
		{"what came to nothing, as if it was done", []impl.Done{had(2, 3, 99)}, false},
		{"what came to nothing, as if nothing was done", []impl.Done{had(2, 3, 5)}, false},
		{"as if another one was done ahead", []impl.Done{had(1, 3, 17)}, false},
		{"as it is at last", []impl.Done{none(1, 2)}, false},
		{"the first one is wrong", []impl.Done{had(1, 1, 9), one, one}, false},
		{"the middle one is wrong", []impl.Done{one, had(1, 1, 9), one}, false},
		{"the last one is wrong", []impl.Done{one, one, had(1, 1, 9)}, false},
		{"all are wrong", []impl.Done{had(1, 1, 9), had(1, 3, 10), none(5, 1)}, false},
	} {
		for size := 1; size <= 5; size++ {
			w := chosenWorld(size, toldRow...)
			w.Acks = x.acks
			ackedAs(t, fmt.Sprint(x.name, " of ", size), w, x.want)
		}
		w := chosenWorld(3)
		w.Acks = x.acks
		ackedAs(t, x.name+": none is chosen", w, len(x.acks) == 0)
	}
}

// What the second place would tell where the first one is not counted: never that.
func TestJudgeAcksBySecondPlaces(t *testing.T) {
	for _, x := range []struct {
		name   string
		chosen []impl.Cmd
		first  impl.Done
		second impl.Done
	}{
		{"two messages", cmds(cmd(1, 1, put(4, 8)), cmd(1, 1, put(4, 9))), had(1, 1, 8), had(1, 1, 9)},
		{"two keys", cmds(cmd(1, 1, put(4, 8)), cmd(1, 1, put(5, 9))), had(1, 1, 8), had(1, 1, 9)},
		{"done twice", cmds(cmd(1, 1, add(4, 8)), cmd(1, 1, add(4, 8))), had(1, 1, 8), had(1, 1, 16)},
		{"another one of it between", cmds(cmd(1, 1, add(4, 8)), cmd(1, 2, add(4, 1)), cmd(1, 1, add(4, 8))), had(1, 1, 8), had(1, 1, 17)},
		{"another one between", cmds(cmd(1, 1, get(4)), cmd(2, 1, put(4, 3)), cmd(1, 1, get(4))), none(1, 1), had(1, 1, 3)},
		{"struck between", cmds(cmd(2, 1, put(4, 3)), cmd(1, 1, get(4)), cmd(2, 2, del(4)), cmd(1, 1, get(4))), had(1, 1, 3), none(1, 1)},
		{"asks first, and then turns", cmds(cmd(1, 1, get(4)), cmd(1, 1, put(4, 3))), none(1, 1), had(1, 1, 3)},
		{"turns first, and then asks another key", cmds(cmd(1, 1, put(4, 3)), cmd(1, 1, get(5))), had(1, 1, 3), none(1, 1)},
	} {
		w := chosenWorld(3, x.chosen...)
		isToldAs(t, x.name, w, 1, 1, firstByTheWord(x.chosen, 1, 1), x.first)
		w.Acks = []impl.Done{x.first}
		ackedAs(t, x.name, w, true)
		w.Acks = []impl.Done{x.second}
		ackedAs(t, x.name+", by the second place", w, false)
		w.Acks = []impl.Done{x.first, x.second}
		ackedAs(t, x.name+", by both places", w, false)
	}
	// The first place came to nothing, so that nobody can have been told of it, whatever the second one would come to.
	w := chosenWorld(3, cmd(1, 2, put(4, 8)), cmd(1, 1, put(4, 9)), cmd(1, 1, put(4, 9)))
	isToldAs(t, "nothing came of it", w, 1, 1, 1, impl.Done{})
	for _, a := range []impl.Done{had(1, 1, 9), had(1, 1, 8), none(1, 1)} {
		w.Acks = []impl.Done{a}
		ackedAs(t, "nothing came of it", w, false)
	}
}

func TestJudgeAcksOfAllThatCanBeTold(t *testing.T) {
	w := chosenWorld(5, fewKeys(2000)...)
	m := impl.MachineNew()
	for _, c := range w.Chosen {
		var d impl.Done
		m, d = impl.MachineDo(m, c)
		w.Acks = append(w.Acks, d)
	}
	if !impl.JudgeAcks(w) || !impl.JudgeAll(w) || len(w.Acks) != 2000 {
		t.Error("all that can be told was judged wrongly")
	}
	for _, at := range []int{0, 1, 1000, 1998, 1999} {
		was := w.Acks[at]
		if d, told := impl.Told(w, was.Client, was.Seq); !told || d != was {
			t.Error("number", at, "was told", d, told, "and not", was)
		}
		for _, a := range []impl.Done{had(was.Client, was.Seq, was.V+1), {Client: was.Client, Seq: was.Seq, V: was.V}, had(was.Client, was.Seq+1, was.V)} {
			if w.Acks[at] = a; impl.JudgeAcks(w) || impl.JudgeAll(w) {
				t.Error("another one at", at, "was judged wrongly:", a)
			}
		}
		if w.Acks[at] = w.Acks[7]; !impl.JudgeAcks(w) {
			t.Error("one that is told twice, at", at, "was judged wrongly")
		}
		w.Acks[at] = was
	}
	w.Acks = each(2000, w.Acks[1999])
	if !impl.JudgeAcks(w) || !impl.JudgeAll(w) {
		t.Error("one over and over was judged wrongly")
	}
	w.Acks = append(w.Acks, w.Acks[0])
	if impl.JudgeAcks(w) || impl.JudgeAll(w) {
		t.Error("more than can be told was judged wrongly")
	}
	w.Acks, w.Chosen = nil, fewKeys(2001)
	if d, told := impl.Told(w, w.Chosen[0].Client, w.Chosen[0].Seq); told || d != (impl.Done{}) || impl.JudgeAcks(w) || impl.JudgeAll(w) {
		t.Error("more than can be chosen told", d, told)
	}
}

// agreedAcks: the agreed world, in which each was told what it came to.
func agreedAcks() impl.World {
	w := agreedWorld()
	w.Acks = []impl.Done{had(1, 1, 8), had(2, 1, 5), had(1, 2, 9), had(2, 1, 5), none(3, 1)}
	return w
}

// Each of the four judges says no where the three others find nothing.
func TestJudgeAll(t *testing.T) {
	if w := agreedAcks(); !impl.JudgeAll(w) || impl.JudgeAll(impl.World{}) {
		t.Error("what agrees was judged wrongly")
	}
	for size := 1; size <= 5; size++ {
		ackedAs(t, "a new one", newWorld(size), true)
	}
	for _, x := range []struct {
		name string
		turn func(w *impl.World)
		want [4]bool
	}{
		{"the leaders", func(w *impl.World) { w.Led = append(w.Led, lead(7, 1)) }, [4]bool{false, true, true, true}},
		{"the logs", func(w *impl.World) { w.Nodes[1].Log.List[5].C = cmd(5, 5, get(5)) }, [4]bool{true, false, true, true}},
		{"what is chosen", func(w *impl.World) { w.Nodes[2].Now.T = impl.TreeNew() }, [4]bool{true, true, false, true}},
		{"what is told", func(w *impl.World) { w.Acks[4].Has = true }, [4]bool{true, true, true, false}},
		{"what is told, at the first", func(w *impl.World) { w.Acks[0].V++ }, [4]bool{true, true, true, false}},
		{"all four", func(w *impl.World) {
			w.Led = append(w.Led, lead(7, 1))
			w.Nodes[1].Log.List[5].C = cmd(5, 5, get(5))
			w.Nodes[2].Now.T = impl.TreeNew()
			w.Acks[4].Has = true
		}, [4]bool{}},
		{"no world", func(w *impl.World) { w.Nodes[0].Id = 1 }, [4]bool{}},
		{"none of them", func(w *impl.World) {}, [4]bool{true, true, true, true}},
	} {
		w := agreedAcks()
		x.turn(&w)
		acked(t, x.name, w)
		got := [4]bool{impl.JudgeLeaders(w), impl.JudgeLogs(w), impl.JudgeChosen(w), impl.JudgeAcks(w)}
		if want := x.want == [4]bool{true, true, true, true}; got != x.want || impl.JudgeAll(w) != want {
			t.Error(x.name, "were judged", got, impl.JudgeAll(w), "and not", x.want)
		}
	}
}

// Acks hang on what is chosen alone: what the nodes have of it says nothing, nor what is on its way.
func TestJudgeAcksAsksChosenAlone(t *testing.T) {
	for _, c := range turnedCases() {
		w := agreedAcks()
		w.Nodes[1] = agreedNode(1, 3, 3, 6, 9)
		w.Net, w.Led = onTheWay(1, 30), []impl.Lead{lead(7, 1), lead(7, 2)}
		c.turn(&w.Nodes[1])
		if d, told := impl.Told(w, 1, 2); !impl.JudgeAcks(w) || impl.JudgeAll(w) || !told || d != had(1, 2, 9) {
			t.Error(c.name, "was judged", impl.JudgeAcks(w), "and told", d, told)
		}
	}
	// A node has done what is not chosen: who was told of that was told wrongly.
	w := agreedAcks()
	w.Nodes[0] = agreedNode(0, 3, 0, 10, 10)
	w.Acks = append(w.Acks, w.Nodes[0].Now.Last[2])
	if impl.JudgeAcks(w) || !slices.Contains(w.Nodes[0].Now.Last, had(3, 2, 1)) {
		t.Error("told of what is not chosen was judged wrongly")
	}
	w.Chosen = slices.Clone(agreedRow)
	ackedAs(t, "chosen since", w, true)
}

// In what is no world nobody was told, and no judge says yes; FirstOf tells the place all the same.
func TestClientsOfNoWorld(t *testing.T) {
	t.Parallel()
	for _, c := range badWorldTurns() {
		w := turnedWorld(c)
		if d, told := impl.Told(w, 2, 1); told || d != (impl.Done{}) {
			t.Error(c.name, "told", d, told)
		}
		isTold(t, c.name, w, 2, 1)
		isTold(t, c.name, w, 0, 0)
		isTold(t, c.name, w, math.MaxInt, math.MinInt)
		ackedAs(t, c.name, w, false)
		if w.Acks = nil; !impl.WorldOk(w) {
			ackedAs(t, c.name+", and no Acks", w, false)
		}
	}
	for _, end := range edgeNumbers {
		for _, other := range edgeNumbers {
			isToldAs(t, "the zero world", impl.World{}, end, other, -1, impl.Done{})
		}
	}
}

func TestGoodWorldsTellByTheWord(t *testing.T) {
	t.Parallel()
	for _, c := range goodWorldTurns() {
		w := turnedWorld(c)
		if len(w.Chosen) > 1000 || slices.ContainsFunc(w.Nodes, func(n impl.Node) bool { return len(n.Log.List) > 1000 }) {
			impl.JudgeAll(w)
			continue
		}
		acked(t, c.name, w)
		isTold(t, c.name, w, 3, 2)
		w.Acks = nil
		for _, x := range w.Chosen {
			if d, told := isTold(t, c.name, w, x.Client, x.Seq); told && d != (impl.Done{}) {
				w.Acks = append(w.Acks, d)
			}
		}
		if acks, _ := acked(t, c.name, w); !acks {
			t.Error(c.name, "was judged wrongly")
		}
	}
}

func TestToldNumbersAtTheirEnds(t *testing.T) {
	t.Parallel()
	for _, end := range edgeNumbers {
		for _, other := range append([]int{3, 9, 10}, edgeNumbers...) {
			isTold(t, "an end", agreedAcks(), end, other)
			isTold(t, "an end", chosenWorld(1, toldRow...), other, end)
		}
	}
	w := agreedAcks()
	count := len(listNumbers(&w)) + len(freeNumbers(&w))
	for i := range count {
		for _, end := range edgeNumbers {
			w := agreedAcks()
			*slices.Concat(listNumbers(&w), freeNumbers(&w))[i] = end
			acked(t, "an end as a number", w)
			isTold(t, "an end as a number", w, 1, 2)
			isTold(t, "an end as a number", w, end, end)
		}
	}
}

func TestThrownWorldsTell(t *testing.T) {
	t.Parallel()
	d := &dice{152}
	told := 0
	for i := range 300 {
		w := thrownWorld(d, 1+i%5)
		if len(w.Chosen) > 1000 {
			continue
		}
		for range 3 {
			client, seq := d.below(11), d.below(11)
			if len(w.Chosen) > 0 {
				c := w.Chosen[d.below(len(w.Chosen))]
				client, seq = c.Client, c.Seq
			}
			if d, was := isTold(t, "a thrown one", w, client, seq); was && d.Client > 0 {
				told++
				w.Acks = append(w.Acks, d)
			}
			acked(t, "a thrown one", w)
			w.Acks = slices.Clone(w.Acks[min(len(w.Acks), d.below(5)):])
		}
		marred := marredWorld(d, w)
		acked(t, "a marred one", marred)
		isTold(t, "a marred one", marred, 1+d.below(9), 1+d.below(9))
	}
	if told < 100 {
		t.Error("the worlds are too much alike:", told)
	}
}

// asker keeps what clients handed in: how many answers there were when each command was handed in first.
type asker map[[2]int]int

func (a asker) handsIn(c impl.Cmd, acks int) {
	key := [2]int{c.Client, c.Seq}
	if _, before := a[key]; !before {
		a[key] = acks
	}
}

// isBehind: P15, a command that was handed in behind an answer is chosen behind that one. It tells how many such pairs there are.
func (a asker) isBehind(t *testing.T, w impl.World) int {
	t.Helper()
	pairs := 0
	for key, acks := range a {
		at := impl.FirstOf(w, key[0], key[1])
		if at < 0 {
			continue
		}
		for _, ack := range w.Acks[:acks] {
			if impl.FirstOf(w, ack.Client, ack.Seq) >= at {
				t.Fatal(key, "was handed in behind", ack, "and is chosen at", at, "ahead of it:", w.Chosen)
			}
			pairs++
		}
	}
	return pairs
}

// likelyAsk: now and then somebody asks again what was asked before, or what is older.
func likelyAsk(d *dice, w impl.World, before []impl.Cmd, next impl.Cmd) impl.Deed {
	deed := likelyDeed(d, w, next)
	if deed.Kind == impl.DoPropose && len(before) > 0 && d.below(3) == 0 {
		deed.C = before[max(0, len(before)-1-d.below(8))]
	}
	if deed.Kind == impl.DoPropose && d.below(6) == 0 {
		deed.C.Seq -= d.below(4)
	}
	n := impl.Node{}
	if deed.A >= 0 && deed.A < w.Size {
		n = w.Nodes[deed.A]
	}
	if deed.Kind == impl.DoAnswer && len(n.Now.Last) > 0 {
		deed.B = n.Now.Last[d.below(len(n.Now.Last))].Client
	}
	return deed
}

// P15 over a while, in new worlds of each size, with clients that ask twice and are told twice: all hold, and each of Acks is what is told.
func TestClientsOverAWhile(t *testing.T) {
	t.Parallel()
	d := &dice{153}
	chosen, twice, acks, again, pairs, nothing := 0, 0, 0, 0, 0, 0
	for i := range 60 {
		w := newWorld(1 + i%5)
		asked, before := asker{}, []impl.Cmd(nil)
		for at, next := range thrownCmds(d, 400, 60) {
			deed := likelyAsk(d, w, before, next)
			came, code := impl.WorldDo(w, deed)
			if code != impl.WdDone {
				continue
			}
			if deed.Kind == impl.DoPropose {
				asked.handsIn(deed.C, len(w.Acks))
				before = append(before, deed.C)
			}
			if w = came; at%5 == 0 && !impl.JudgeAll(w) {
				t.Fatal("came of deeds, and was judged wrongly:", w)
			}
		}
		ackedAs(t, "over a while", w, true)
		pairs += asked.isBehind(t, w)
		for _, a := range w.Acks {
			if was, told := isTold(t, "over a while", w, a.Client, a.Seq); !told || was != a {
				t.Fatal(a, "was told, and then", was, told)
			}
		}
		for at, c := range w.Chosen {
			if c.Client > 0 && impl.FirstOf(w, c.Client, c.Seq) < at {
				twice++
			}
			if was, _ := impl.Told(w, c.Client, c.Seq); c.Client > 0 && was == (impl.Done{}) {
				nothing++
			}
		}
		for at, a := range w.Acks {
			if slices.Contains(w.Acks[:at], a) {
				again++
			}
		}
		chosen, acks = chosen+len(w.Chosen), acks+len(w.Acks)
	}
	if min(chosen, acks, pairs) < 500 || min(twice, again, nothing) < 50 {
		t.Error("too little happens:", chosen, twice, acks, again, pairs, nothing)
	}
}

// What was told stays told: whatever is done to a world, what is told of what was chosen is the same ever after.
func TestWhatWasToldStays(t *testing.T) {
	t.Parallel()
	d := &dice{154}
	kept := 0
	for i := range 25 {
		w := newWorld(1 + i%5)
		was := map[[2]int]impl.Done{}
		for at, next := range thrownCmds(d, 300, 40) {
			if came, code := impl.WorldDo(w, likelyDeed(d, w, next)); code == impl.WdDone {
				w = came
			}
			if at%25 != 0 {
				continue
			}
			for _, c := range w.Chosen {
				was[[2]int{c.Client, c.Seq}], _ = impl.Told(w, c.Client, c.Seq)
			}
		}
		for key, before := range was {
			if now, told := impl.Told(w, key[0], key[1]); !told || now != before {
				t.Fatal(key, "was told", before, "and then", now, told)
			}
			kept++
		}
	}
	if kept < 200 {
		t.Error("too little happens:", kept)
	}
}

// clientsInTheirOwnMemory: nothing is written into the world, nor into the room behind its lists.
func clientsInTheirOwnMemory(t *testing.T, name string, plain impl.World) {
	t.Helper()
	a, wholes := roomyWorld(plain)
	_, kept := roomyWorld(plain)
	for _, of := range []impl.World{a, plain} {
		for range 2 {
			impl.JudgeAcks(of)
			impl.JudgeAll(of)
			for _, key := range [][2]int{{1, 1}, {2, 1}, {3, 1}, {0, 0}, {-77, -77}, {77%9 + 1, 77}} {
				impl.FirstOf(of, key[0], key[1])
				impl.Told(of, key[0], key[1])
			}
		}
	}
	if !reflect.DeepEqual(wholes, kept) || !sameWorld(plain, a) {
		t.Fatal("written into:", name)
	}
	if at := impl.FirstOf(a, 77%9+1, 77); at != firstByTheWord(plain.Chosen, 77%9+1, 77) {
		t.Error(name, "has in its room what is at", at)
	}
}

func TestClientsWriteIntoNothing(t *testing.T) {
	t.Parallel()
	for _, w := range []impl.World{agreedAcks(), chosenWorld(2, toldRow...), chosenWorld(1, row(200)...), ledWorld(), newWorld(1), newWorld(5), {}} {
		clientsInTheirOwnMemory(t, "a plain one", w)
	}
	for _, role := range roles {
		clientsInTheirOwnMemory(t, "one memory", oneMemoryWorld(role))
	}
	seen := map[string]bool{}
	for _, c := range slices.Concat(goodWorldTurns(), badWorldTurns()) {
		w := turnedWorld(c)
		if seen[c.name] || len(w.Nodes) > 1000 || len(w.Net) > 1000 {
			continue
		}
		seen[c.name] = true
		clientsInTheirOwnMemory(t, c.name, w)
	}
}

// Trees that hold themselves, or one list ever again: all calls end.
func TestClientsOfStrangeWorlds(t *testing.T) {
	for _, c := range append(strangeTrees(), treeCase{name: "one met ever again", tree: manyfold()}) {
		snap, now, net := agreedAcks(), agreedAcks(), agreedAcks()
		snap.Nodes[1].Snap.T, now.Nodes[2].Now.T = c.tree, c.tree
		net.Net = []impl.Rpc{toIt(impl.RpPut), toIt(impl.RpAsk)}
		net.Net[0].Snap.T = c.tree
		for _, w := range []impl.World{snap, now} {
			d, told := impl.Told(w, 1, 1)
			if told || d != (impl.Done{}) || impl.JudgeAcks(w) || impl.JudgeAll(w) || impl.FirstOf(w, 1, 1) != 1 {
				t.Error(c.name, "is no world, and told", d, told)
			}
		}
		if d, told := impl.Told(net, 1, 2); !told || d != had(1, 2, 9) || !impl.JudgeAcks(net) || !impl.JudgeAll(net) {
			t.Error(c.name, "is on its way where it is not asked for, and told", d, told)
		}
	}
}
