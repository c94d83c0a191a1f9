package tests

import (
	"math"
	"reflect"
	"slices"
	"testing"

	"loop.example/g00234/impl"
)

// The codes and the kinds are written out here as numbers: one that moved would show.
func TestDeedNumbers(t *testing.T) {
	kinds := []int{impl.DoAsk, impl.DoGive, impl.DoLose, impl.DoCopy, impl.DoFeed, impl.DoPropose, impl.DoFall, impl.DoCut, impl.DoAnswer}
	codes := []int{impl.WdDone, impl.WdBad, impl.WdNone, impl.WdIdle, impl.WdFull}
	if !slices.Equal(kinds, []int{1, 2, 3, 4, 5, 6, 7, 8, 9}) || !slices.Equal(codes, []int{0, 1, 2, 3, 4}) || impl.MaxDeeds != 400 {
		t.Error("told", kinds, codes, impl.MaxDeeds)
	}
}

var deedKinds = []int{1, 2, 3, 4, 5, 6, 7, 8, 9}

// isOfPlace: of the kinds whose A is a place of Net.
func isOfPlace(kind int) bool { return kind >= 2 && kind <= 4 }

// deedByTheWord has each sentence of the chapter at its place, one kind behind the other.
func deedByTheWord(w impl.World, d impl.Deed) (impl.World, int) {
	if !worldOkByTheWord(w) || d.Kind < 1 || d.Kind > 9 {
		return impl.World{}, 1
	}
	switch {
	case isOfPlace(d.Kind) && (d.A < 0 || d.A >= len(w.Net)):
		return w, 2
	case !isOfPlace(d.Kind) && (d.A < 0 || d.A >= w.Size):
		return w, 2
	case d.Kind == 5 && (d.B < 0 || d.B >= w.Size || d.B == d.A):
		return w, 2
	}
	if isOfPlace(d.Kind) {
		return placeDeedByTheWord(w, d)
	}
	n := w.Nodes[d.A]
	switch d.Kind {
	case 1:
		asked, list := askByTheWord(n, w.Size)
		if asked.Term == n.Term {
			return w, 3
		}
		return sendByTheWord(noteByTheWord(w, d.A, asked), list), 0
	case 5:
		r, ok := feedByTheWord(n, w.Size, d.B)
		if !ok {
			return w, 3
		}
		if len(w.Net) >= 30 {
			return w, 4
		}
		return sendByTheWord(w, []impl.Rpc{r}), 0
	case 6:
		took, ok := proposeByTheWord(n, w.Size, d.C)
		if !ok || d.C.Client == 0 || len(w.Chosen) >= 2000 {
			return w, 3
		}
		return noteByTheWord(w, d.A, took), 0
	case 7:
		return putInByTheWord(w, d.A, riseByTheWord(n, w.Size)), 0
	case 8:
		came := compactByTheWord(n, w.Size, d.B)
		if came.Log.Base == n.Log.Base {
			return w, 3
		}
		return putInByTheWord(w, d.A, came), 0
	}
	for _, last := range n.Now.Last {
		if last.Client == d.B && len(w.Acks) < 2000 {
			w.Acks = append(slices.Clone(w.Acks), last)
			return w, 0
		}
	}
	return w, 3
}

func placeDeedByTheWord(w impl.World, d impl.Deed) (impl.World, int) {
	r := w.Net[d.A]
	if d.Kind == 4 {
		if len(w.Net) >= 30 {
			return w, 4
		}
		w.Net = append(slices.Clone(w.Net), r)
		return w, 0
	}
	w.Net = slices.Delete(slices.Clone(w.Net), d.A, d.A+1)
	if d.Kind == 2 {
		came, list := hearByTheWord(w.Nodes[r.To], w.Size, r)
		return sendByTheWord(noteByTheWord(w, r.To, came), list), 0
	}
	return w, 0
}

func putInByTheWord(w impl.World, i int, n impl.Node) impl.World {
	w.Nodes = slices.Clone(w.Nodes)
	w.Nodes[i] = n
	return w
}

// does: P13, of any world and any deed.
func does(t *testing.T, name string, w impl.World, d impl.Deed) (impl.World, int) {
	t.Helper()
	came, code := impl.WorldDo(w, d)
	want, wanted := deedByTheWord(w, d)
	if code != wanted || !sameWorld(came, want) {
		t.Fatal(name, d, "came to", code, came, "and by the word to", wanted, want, "of", w)
	}
	refusesByNothing(t, name, w, came, code)
	return came, code
}

// refusesByNothing: what is refused leaves the world as it was, or the zero one; what is done leaves one that is right, to whose lists it was only added.
func refusesByNothing(t *testing.T, name string, w, came impl.World, code int) {
	t.Helper()
	switch code {
	case 0:
		added(t, name, w.Chosen, came.Chosen, alike)
		added(t, name, w.Led, came.Led, alike)
		added(t, name, w.Acks, came.Acks, alike)
		if !impl.WorldOk(came) {
			t.Fatal(name, "left what is no world:", came)
		}
	case 1:
		if !reflect.DeepEqual(came, impl.World{}) {
			t.Fatal(name, "is bad, and came to", came)
		}
	default:
		if !sameWorld(came, w) {
			t.Fatal(name, "was refused by", code, "and turned", w, "to", came)
		}
	}
}

// tells: does, whose code is known.
func tells(t *testing.T, name string, w impl.World, d impl.Deed, code int) impl.World {
	t.Helper()
	came, got := does(t, name, w, d)
	if got != code {
		t.Fatal(name, d, "told", got, "and not", code)
	}
	return came
}

// runs: what comes of a run comes of its deeds one by one, and of its two halves; a code each.
func runs(t *testing.T, name string, w impl.World, list []impl.Deed) (impl.World, []int) {
	t.Helper()
	came, codes := impl.WorldRun(w, list)
	if len(codes) != len(list) {
		t.Fatal(name, "told", len(codes), "codes of", len(list))
	}
	one := w
	for i, d := range list {
		next, code := impl.WorldDo(one, d)
		if code != codes[i] {
			t.Fatal(name, "told", codes[i], "of number", i, "and alone", code)
		}
		if code == impl.WdDone {
			one = next
		}
	}
	if !sameWorld(came, one) {
		t.Fatal(name, "came to", came, "and one by one to", one)
	}
	for _, at := range []int{0, len(list) / 2, len(list)} {
		half, ahead := impl.WorldRun(w, list[:at])
		whole, behind := impl.WorldRun(half, list[at:])
		if !sameWorld(whole, came) || !slices.Equal(slices.Concat(ahead, behind), codes) {
			t.Fatal(name, "cut at", at, "came to", whole, ahead, behind, "and not to", came, codes)
		}
	}
	return came, codes
}

func askOf(a int) impl.Deed               { return impl.Deed{Kind: impl.DoAsk, A: a} }
func giveAt(at int) impl.Deed             { return impl.Deed{Kind: impl.DoGive, A: at} }
func loseAt(at int) impl.Deed             { return impl.Deed{Kind: impl.DoLose, A: at} }
func copyAt(at int) impl.Deed             { return impl.Deed{Kind: impl.DoCopy, A: at} }
func feedTo(a, b int) impl.Deed           { return impl.Deed{Kind: impl.DoFeed, A: a, B: b} }
func handIn(a int, c impl.Cmd) impl.Deed  { return impl.Deed{Kind: impl.DoPropose, A: a, C: c} }
func fallOf(a int) impl.Deed              { return impl.Deed{Kind: impl.DoFall, A: a} }
func cutOf(a, b int) impl.Deed            { return impl.Deed{Kind: impl.DoCut, A: a, B: b} }
func answerOf(a, b int) impl.Deed         { return impl.Deed{Kind: impl.DoAnswer, A: a, B: b} }
func deeds(list ...impl.Deed) []impl.Deed { return list }

// ledWorld: the plain one, of whose nodes the first one leads, the second one stands, and the third one follows; each has told two clients.
func ledWorld() impl.World {
	w := plainWorld()
	for id := range w.Nodes {
		w.Nodes[id].Role = []int{impl.RoLead, impl.RoStand, impl.RoFollow}[id]
		w.Nodes[id].Now.Last = []impl.Done{had(2, 7, 5), none(4, 9)}
		w.Nodes[id].Next = []int{6, 1, 5}
	}
	return w
}

// doneDeeds: one of each kind, which is done in ledWorld.
func doneDeeds() []impl.Deed {
	return deeds(askOf(2), giveAt(1), loseAt(2), copyAt(3), feedTo(0, 1), handIn(0, numbered(9)), fallOf(1), cutOf(2, 3), answerOf(1, 4))
}

func TestDeedsOfEachKind(t *testing.T) {
	for i, d := range doneDeeds() {
		if d.Kind != 1+i {
			t.Fatal("no fair question:", d)
		}
		came := tells(t, "each kind", ledWorld(), d, impl.WdDone)
		if sameWorld(came, ledWorld()) {
			t.Error("nothing came of", d)
		}
	}
	runs(t, "each kind", ledWorld(), doneDeeds())
	backwards := doneDeeds()
	slices.Reverse(backwards)
	runs(t, "each kind", ledWorld(), backwards)
}

// A leader is chosen, is handed a command, feeds, commits, cuts, and falls.
func TestDeedsByHand(t *testing.T) {
	c := cmd(3, 1, put(5, 7))
	w, codes := runs(t, "by hand", newWorld(3), deeds(askOf(0), giveAt(0), giveAt(1), handIn(0, c), feedTo(0, 1), feedTo(0, 2)))
	if !slices.Equal(codes, make([]int, 6)) || len(w.Net) != 3 || len(w.Chosen) != 0 || !slices.Equal(w.Led, []impl.Lead{{Term: 1, Id: 0}}) {
		t.Fatal("came to", w, codes)
	}
	w, codes = runs(t, "by hand", w, deeds(loseAt(0), giveAt(0), answerOf(0, 3), giveAt(1), answerOf(0, 3), answerOf(1, 3), answerOf(0, 4)))
	if !slices.Equal(codes, []int{0, 0, 3, 0, 0, 3, 3}) || !slices.Equal(w.Chosen, cmds(impl.Cmd{}, c)) || !slices.Equal(w.Acks, []impl.Done{had(3, 1, 7)}) {
		t.Fatal("came to", w, codes)
	}
	w, codes = runs(t, "by hand", w, deeds(cutOf(0, 2), cutOf(1, 1), fallOf(0), askOf(0), feedTo(0, 1), answerOf(0, 3)))
	if !slices.Equal(codes, []int{0, 3, 0, 0, 3, 0}) || w.Nodes[0].Log.Base != 2 || w.Nodes[0].Term != 2 || len(w.Net) != 3 || len(w.Acks) != 2 || len(w.Led) != 1 {
		t.Fatal("came to", w, codes)
	}
	agree(t, w)
}

func TestDoAsk(t *testing.T) {
	for size := 1; size <= 5; size++ {
		for a := -1; a <= size+1; a++ {
			code := impl.WdDone
			if a < 0 || a >= size {
				code = impl.WdNone
			}
			came := tells(t, "a new one", newWorld(size), askOf(a), code)
			if code != impl.WdDone {
				continue
			}
			led, chosen := 0, 0
			if size == 1 {
				led, chosen = 1, 1
			}
			if len(came.Net) != size-1 || came.Nodes[a].Term != 1 || came.Nodes[a].Vote != a || len(came.Led) != led || len(came.Chosen) != chosen {
				t.Error("of", size, "number", a, "came to", came)
			}
		}
	}
	tells(t, "one that leads", ledWorld(), askOf(0), impl.WdIdle)
	for _, role := range roles {
		for _, term := range []int{5, 99998, 99999, 100000} {
			w := ledWorld()
			w.Nodes[1].Role, w.Nodes[1].Term = role, term
			code := impl.WdDone
			if role == impl.RoLead || term == 100000 {
				code = impl.WdIdle
			}
			tells(t, "one of that Term", w, askOf(1), code)
		}
	}
	for have := 24; have <= 30; have++ {
		w := newWorld(5)
		w.Net = onTheWay(1, have)
		came := tells(t, "with little room", w, askOf(3), impl.WdDone)
		if len(came.Net) != min(30, have+4) || came.Nodes[3].Role != impl.RoStand || have < 30 && came.Net[have].To != 0 {
			t.Error("behind", have, "came to", came)
		}
	}
}

// Who is alone, and has no room for the entry of nothing, has another Term for all that.
func TestDoAskWhereTheLogIsFull(t *testing.T) {
	w := newWorld(1)
	w.Nodes[0].Log, w.Nodes[0].Commit = logOf(100000, 0), 100000
	came := tells(t, "a full one", w, askOf(0), impl.WdDone)
	if n := came.Nodes[0]; n.Term != 1 || n.Role != impl.RoFollow || len(came.Led) != 0 || len(came.Chosen) != 0 {
		t.Error("came to", came)
	}
}

// places: the ends of a list of so many, and what is beside them.
func places(count int) []int {
	return slices.Concat(edgeNumbers, []int{count - 2, count - 1, count, count + 1})
}

func TestDoAtPlaces(t *testing.T) {
	for _, have := range []int{0, 1, 2, 5, 28, 29, 30} {
		for _, at := range places(have) {
			w := ledWorld()
			w.Net = onTheWay(1, have)
			for i := range w.Net {
				w.Net[i].To = 1 + i%2
				w.Net[i].From = 0
			}
			there := at >= 0 && at < have
			for _, kind := range []int{impl.DoGive, impl.DoLose, impl.DoCopy} {
				code, behind := impl.WdDone, have-1
				switch {
				case !there:
					code, behind = impl.WdNone, have
				case kind == impl.DoCopy && have == 30:
					code, behind = impl.WdFull, have
				case kind == impl.DoCopy:
					behind = have + 1
				}
				came := tells(t, "at a place", w, impl.Deed{Kind: kind, A: at}, code)
				if len(came.Net) != behind {
					t.Error("kind", kind, "at", at, "of", have, "left", len(came.Net))
				}
			}
		}
	}
}

func TestDoLose(t *testing.T) {
	for at := range 30 {
		w := ledWorld()
		w.Net = onTheWay(1, 30)
		came := tells(t, "one that is lost", w, loseAt(at), impl.WdDone)
		if want := slices.Concat(onTheWay(1, at), onTheWay(at+2, 29-at)); !slices.EqualFunc(came.Net, want, sameRpc) {
			t.Error("at", at, "left", came.Net)
		}
	}
}

func TestDoCopy(t *testing.T) {
	for at := range 29 {
		w := ledWorld()
		w.Net = onTheWay(1, 29)
		came := tells(t, "one that is copied", w, copyAt(at), impl.WdDone)
		if want := slices.Concat(onTheWay(1, 29), onTheWay(at+1, 1)); !slices.EqualFunc(came.Net, want, sameRpc) {
			t.Error("at", at, "left", came.Net)
		}
		tells(t, "one more", came, copyAt(at), impl.WdFull)
		tells(t, "a place that is none", came, copyAt(30), impl.WdNone)
	}
	for at, kind := range rpcKinds {
		w := plainWorld()
		came := tells(t, "each Kind", w, copyAt(at), impl.WdDone)
		if !sameRpc(came.Net[5], plainRpc(kind)) || len(came.Net) != 6 {
			t.Error("Kind", kind, "came to", came.Net)
		}
	}
}

// What is heard is on its way no more, and what is told stands behind all: there is room for it, even where the net was full.
func TestDoGive(t *testing.T) {
	heard := 0
	for _, have := range []int{1, 2, 29, 30} {
		for at := range have {
			for _, kind := range rpcKinds {
				for _, role := range roles {
					for _, term := range []int{4, 5, 6} {
						w := plainWorld()
						w.Nodes[1].Role = role
						w.Net = onTheWay(1, have)
						w.Net[at] = toIt(kind)
						w.Net[at].Term, w.Net[at].Entries = term, nil
						came := tells(t, "one that is given", w, giveAt(at), impl.WdDone)
						_, list := hearByTheWord(w.Nodes[1], 3, w.Net[at])
						left := slices.Delete(slices.Clone(w.Net), at, at+1)
						if !slices.EqualFunc(came.Net, slices.Concat(left, list), sameRpc) {
							t.Fatal("at", at, "of", have, "left", came.Net)
						}
						heard += len(list)
					}
				}
			}
		}
		if have > 5 && heard < 500 {
			t.Error("too little is told:", heard)
		}
	}
}

// Each node hears just what is to it.
func TestDoGiveToEach(t *testing.T) {
	for size := 2; size <= 5; size++ {
		for to := range size {
			for from := range size {
				if from == to {
					continue
				}
				w := newWorld(size)
				w.Net = []impl.Rpc{{Kind: impl.RpAsk, From: from, To: to, Term: 3}}
				came := tells(t, "to each", w, giveAt(0), impl.WdDone)
				for id, n := range came.Nodes {
					if id != to && !sameNode(n, w.Nodes[id]) || id == to && (n.Term != 3 || n.Vote != from) {
						t.Error("from", from, "to", to, "came to", came)
					}
				}
				if len(came.Net) != 1 || came.Net[0].To != from || came.Net[0].From != to || !came.Net[0].Ok {
					t.Error("from", from, "to", to, "told", came.Net)
				}
			}
		}
	}
}

// What is given may choose a leader, and commit: both are noted.
func TestDoGiveIsNoted(t *testing.T) {
	w := ledWorld()
	w.Net = []impl.Rpc{vote(0, 1, 5, true), hasUpTo(1, 0, 5, true, 6)}
	w.Nodes[1].Votes = []bool{false, true, false}
	w.Nodes[0].Term, w.Nodes[0].Log = 5, termLog(2, 1, 1, 2, 5, 5)
	w.Nodes[0].Match, w.Nodes[0].Next = []int{6, 0, 0}, []int{7, 3, 3}
	w.Chosen = row(4)
	came := tells(t, "a vote", w, giveAt(0), impl.WdDone)
	if !slices.Equal(added(t, "a vote", w.Led, came.Led, alike), []impl.Lead{{Term: 5, Id: 1}}) || len(came.Chosen) != 4 {
		t.Error("came to", came)
	}
	came = tells(t, "what it has", w, giveAt(1), impl.WdDone)
	if n := w.Nodes[0]; len(came.Chosen) != 6 || came.Chosen[4] != n.Log.List[2].C || came.Chosen[5] != n.Log.List[3].C || len(came.Led) != 3 {
		t.Error("came to", came)
	}
}

func TestDoFeed(t *testing.T) {
	for _, have := range []int{0, 1, 28, 29, 30} {
		for _, a := range append([]int{3, 4}, edgeNumbers...) {
			for _, b := range append([]int{3, 4}, edgeNumbers...) {
				w := ledWorld()
				w.Net = onTheWay(1, have)
				code := impl.WdDone
				switch {
				case a < 0 || a > 2 || b < 0 || b > 2 || a == b:
					code = impl.WdNone
				case a != 0:
					code = impl.WdIdle
				case have == 30:
					code = impl.WdFull
				}
				came := tells(t, "one that feeds", w, feedTo(a, b), code)
				if code != impl.WdDone {
					continue
				}
				want, _ := feedByTheWord(w.Nodes[0], 3, b)
				if len(came.Net) != have+1 || !sameRpc(came.Net[have], want) || !sameNode(came.Nodes[0], w.Nodes[0]) {
					t.Error("to", b, "behind", have, "came to", came.Net)
				}
			}
		}
	}
	for kind, next := range map[int]int{impl.RpSnap: 2, impl.RpPut: 3} {
		w := ledWorld()
		w.Nodes[0].Next[1] = next
		if came := tells(t, "by Next", w, feedTo(0, 1), impl.WdDone); came.Net[5].Kind != kind {
			t.Error("of Next", next, "told", came.Net[5])
		}
	}
	for size := 1; size <= 5; size++ {
		for b := -1; b <= 5; b++ {
			w := newWorld(size)
			w.Nodes[size-1].Role = impl.RoLead
			code := impl.WdDone
			if b < 0 || b >= size-1 {
				code = impl.WdNone
			}
			tells(t, "one of so many", w, feedTo(size-1, b), code)
		}
	}
}

func TestDoPropose(t *testing.T) {
	for _, c := range slices.Concat(goodCmds, badCmds, cmds(impl.Cmd{})) {
		for a := -1; a <= 3; a++ {
			code := impl.WdDone
			switch {
			case a < 0 || a > 2:
				code = impl.WdNone
			case a != 0 || c.Client == 0 || !cmdOkByTheWord(c):
				code = impl.WdIdle
			}
			came := tells(t, "one that is handed in", ledWorld(), handIn(a, c), code)
			if code == impl.WdDone && came.Nodes[0].Log.List[3] != (impl.Entry{Term: 5, C: c}) {
				t.Error(c, "came to", came.Nodes[0])
			}
		}
	}
	for _, have := range []int{0, 1, 6, 1998, 1999, 2000} {
		code := impl.WdDone
		if have == 2000 {
			code = impl.WdIdle
		}
		w := ledWorld()
		w.Chosen = row(have)
		tells(t, "where so many are chosen", w, handIn(0, numbered(1)), code)
		tells(t, "where so many are chosen, and it follows", w, handIn(2, numbered(1)), impl.WdIdle)
		alone := newWorld(1)
		alone.Nodes[0].Role, alone.Chosen = impl.RoLead, row(have)
		alone.Nodes[0].Log, alone.Nodes[0].Commit = logOf(have, 0), have
		came := tells(t, "alone, where so many are chosen", alone, handIn(0, numbered(7)), code)
		if want := min(2000, have+1); len(came.Chosen) != want || have < 2000 && came.Chosen[have] != numbered(7) {
			t.Error("behind", have, "came to", len(came.Chosen))
		}
	}
	for last, code := range map[int]int{99998: 0, 99999: 0, 100000: 3} {
		w := newWorld(3)
		w.Nodes[1].Role, w.Nodes[1].Log, w.Nodes[1].Commit = impl.RoLead, logOf(last, 0), last
		tells(t, "a long log", w, handIn(1, numbered(1)), code)
	}
}

func TestDoFall(t *testing.T) {
	for _, role := range roles {
		for a := -1; a <= 3; a++ {
			w := ledWorld()
			code := impl.WdNone
			if a >= 0 && a < 3 {
				w.Nodes[a].Role = role
				code = impl.WdDone
			}
			came := tells(t, "one that falls", w, fallOf(a), code)
			if code != impl.WdDone {
				continue
			}
			n := came.Nodes[a]
			if n.Role != impl.RoFollow || n.Commit != 2 || n.Term != 5 || !sameMachine(n.Now, w.Nodes[a].Snap) || !sameLog(n.Log, w.Nodes[a].Log) {
				t.Error("came to", n)
			}
			came.Nodes[a] = w.Nodes[a]
			if !sameWorld(came, w) {
				t.Error("turned more than the node:", came)
			}
			tells(t, "and once more", came, fallOf(a), impl.WdDone)
		}
	}
}

func TestDoCut(t *testing.T) {
	for _, b := range append([]int{3, 4, 5, 6, 7}, edgeNumbers...) {
		for a := -1; a <= 3; a++ {
			w := ledWorld()
			code := impl.WdIdle
			switch {
			case a < 0 || a > 2:
				code = impl.WdNone
			case b > 2 && b <= 4:
				code = impl.WdDone
			}
			came := tells(t, "one that cuts", w, cutOf(a, b), code)
			if code != impl.WdDone {
				continue
			}
			if n := came.Nodes[a]; n.Log.Base != b || n.Commit != 4 || n.Role != w.Nodes[a].Role || len(n.Log.List) != 5-b {
				t.Error("at", b, "came to", n)
			}
			came.Nodes[a] = w.Nodes[a]
			if !sameWorld(came, w) {
				t.Error("turned more than the node:", came)
			}
		}
	}
	w := tells(t, "a first one", ledWorld(), cutOf(0, 3), impl.WdDone)
	tells(t, "at its Base", w, cutOf(0, 3), impl.WdIdle)
	w = tells(t, "up to its Commit", w, cutOf(0, 4), impl.WdDone)
	tells(t, "beyond its Commit", w, cutOf(0, 5), impl.WdIdle)
}

// By what the chapter says neither who falls nor who cuts is noted: what it has beyond what is chosen is not chosen by that.
func TestFallAndCutChooseNothing(t *testing.T) {
	for have := range 7 {
		w := ledWorld()
		w.Chosen = row(have)
		for _, d := range deeds(fallOf(0), cutOf(0, 3), cutOf(0, 4)) {
			came := tells(t, "with less chosen than committed", w, d, impl.WdDone)
			if len(came.Chosen) != have || len(came.Led) != len(w.Led) {
				t.Error(d, "came to", came.Chosen, came.Led)
			}
		}
	}
}

func TestDoAnswer(t *testing.T) {
	for _, b := range append([]int{3, 4, 5, 9, 10}, edgeNumbers...) {
		for a := -1; a <= 3; a++ {
			for _, have := range []int{0, 3, 1999, 2000} {
				w := ledWorld()
				w.Acks = each(have, had(1, 1, 1))
				code := impl.WdIdle
				switch {
				case a < 0 || a > 2:
					code = impl.WdNone
				case (b == 2 || b == 4) && have < 2000:
					code = impl.WdDone
				}
				came := tells(t, "one that answers", w, answerOf(a, b), code)
				want := map[int]impl.Done{2: had(2, 7, 5), 4: none(4, 9)}[b]
				if code == impl.WdDone && (len(came.Acks) != have+1 || came.Acks[have] != want) {
					t.Error("to", b, "came to", came.Acks)
				}
			}
		}
	}
	w := ledWorld()
	w.Nodes[1].Now.Last, w.Nodes[1].Snap.Last = nil, []impl.Done{had(1, 1, 1)}
	tells(t, "nobody in Now", w, answerOf(1, 1), impl.WdIdle)
	for client := 1; client <= 9; client++ {
		w.Nodes[1].Now.Last = append(w.Nodes[1].Now.Last, had(client, 10*client, client))
	}
	for client := -1; client <= 11; client++ {
		code := impl.WdDone
		if client < 1 || client > 9 {
			code = impl.WdIdle
		}
		came := tells(t, "one of nine", w, answerOf(1, client), code)
		if code == impl.WdDone && came.Acks[3] != had(client, 10*client, client) {
			t.Error("to", client, "came to", came.Acks)
		}
	}
}

// WdBad comes ahead of WdNone, that ahead of WdIdle, and that ahead of WdFull.
func TestWhichCodeComesFirst(t *testing.T) {
	full := ledWorld()
	full.Net = onTheWay(1, 30)
	brimming := full
	brimming.Acks, brimming.Chosen, brimming.Led = each(2000, had(1, 1, 1)), row(2000), leads(2000)
	wrong := full
	wrong.Net = onTheWay(1, 31)
	for _, c := range []struct {
		name string
		w    impl.World
		d    impl.Deed
		code int
	}{
		{"no world, and no kind", wrong, impl.Deed{Kind: 10, A: -1}, 1},
		{"no world, and no node", wrong, askOf(7), 1},
		{"no world, and full", wrong, copyAt(0), 1},
		{"no world, and done otherwise", wrong, fallOf(0), 1},
		{"no kind, and no node", full, impl.Deed{Kind: 10, A: -1}, 1},
		{"no kind, and a node", full, impl.Deed{Kind: 0, A: 0}, 1},
		{"DoAsk of no node", full, askOf(3), 2},
		{"DoAsk of one that leads", full, askOf(0), 3},
		{"DoAsk without room", full, askOf(1), 0},
		{"DoAsk without any room", brimming, askOf(1), 0},
		{"DoGive of no place, which is a node", newWorld(3), giveAt(0), 2},
		{"DoGive of a place that is no node", full, giveAt(29), 0},
		{"DoGive behind the last place", full, giveAt(30), 2},
		{"DoLose of a place that is no node", full, loseAt(29), 0},
		{"DoLose behind the last place", full, loseAt(30), 2},
		{"DoCopy at no place, and full", full, copyAt(30), 2},
		{"DoCopy at -1, and full", full, copyAt(-1), 2},
		{"DoCopy at a place, and full", full, copyAt(29), 4},
		{"DoFeed with A no node, and full", full, feedTo(3, 0), 2},
		{"DoFeed with B no node, and full", full, feedTo(0, 3), 2},
		{"DoFeed with both no nodes", full, feedTo(-1, -1), 2},
		{"DoFeed with B = A, and full", full, feedTo(0, 0), 2},
		{"DoFeed with B = A, of one that feeds nothing", full, feedTo(2, 2), 2},
		{"DoFeed of one that feeds nothing, and full", full, feedTo(1, 0), 3},
		{"DoFeed of one that leads, and full", full, feedTo(0, 1), 4},
		{"DoPropose at no node, of no command", full, handIn(3, badCmds[0]), 2},
		{"DoPropose of nothing", full, handIn(0, impl.Cmd{}), 3},
		{"DoPropose without room on the way", full, handIn(0, numbered(1)), 0},
		{"DoPropose where all are chosen", brimming, handIn(0, numbered(1)), 3},
		{"DoPropose at no node, where all are chosen", brimming, handIn(-1, numbered(1)), 2},
		{"DoFall of no node", full, fallOf(3), 2},
		{"DoFall where all is full", brimming, fallOf(0), 0},
		{"DoCut of no node, at what is none", full, cutOf(3, 99), 2},
		{"DoCut where all is full", brimming, cutOf(0, 3), 0},
		{"DoAnswer of no node, of no client", full, answerOf(3, 0), 2},
		{"DoAnswer of no node, and full", brimming, answerOf(-1, 2), 2},
		{"DoAnswer of no client, and full", brimming, answerOf(0, 3), 3},
		{"DoAnswer where all are told", brimming, answerOf(0, 2), 3},
	} {
		tells(t, c.name, c.w, c.d, c.code)
	}
}

func TestNoKinds(t *testing.T) {
	for _, kind := range slices.Concat(edgeNumbers, []int{-1, 0, 10, 11, 100, 256 + 1, 1<<32 + 1}) {
		if kind >= 1 && kind <= 9 {
			continue
		}
		for _, w := range []impl.World{ledWorld(), newWorld(1), {}} {
			tells(t, "no kind", w, impl.Deed{Kind: kind}, impl.WdBad)
			came, codes := impl.WorldRun(w, deeds(impl.Deed{Kind: kind}))
			want := []int{impl.WdBad}
			if !worldOkByTheWord(w) {
				want = nil
			}
			if !sameWorld(came, w) || !slices.Equal(codes, want) {
				t.Error("kind", kind, "came to", came, codes)
			}
		}
	}
}

func TestDeedsInWhatIsNoWorld(t *testing.T) {
	t.Parallel()
	for _, c := range badWorldTurns() {
		w := turnedWorld(c)
		for _, d := range append(doneDeeds(), impl.Deed{}) {
			came, code := impl.WorldDo(w, d)
			if code != impl.WdBad || !reflect.DeepEqual(came, impl.World{}) {
				t.Fatal(c.name, "came to", code, came)
			}
		}
		came, codes := impl.WorldRun(w, doneDeeds())
		if len(codes) != 0 || !sameWorld(came, w) {
			t.Fatal(c.name, "ran to", codes, came)
		}
	}
	for _, d := range append(doneDeeds(), impl.Deed{}) {
		tells(t, "the zero world", impl.World{}, d, impl.WdBad)
	}
	tells(t, "the zero deed", ledWorld(), impl.Deed{}, impl.WdBad)
}

func TestDeedsInEachGoodWorld(t *testing.T) {
	for _, c := range goodWorldTurns() {
		w := turnedWorld(c)
		for _, d := range doneDeeds() {
			does(t, c.name, w, d)
		}
	}
}

// deedNumbers: each number of a deed but its Kind.
func deedNumbers(d *impl.Deed) []*int {
	return []*int{&d.A, &d.B, &d.C.Client, &d.C.Seq, &d.C.M.Op, &d.C.M.K, &d.C.M.V}
}

func TestDeedNumbersAtTheirEnds(t *testing.T) {
	for _, d := range doneDeeds() {
		for i := range deedNumbers(&d) {
			for _, end := range edgeNumbers {
				turned := d
				*deedNumbers(&turned)[i] = end
				does(t, "an end as a number", ledWorld(), turned)
				all := impl.Deed{Kind: d.Kind, A: end, B: end, C: cmd(end, end, impl.Msg{Op: end, K: end, V: end})}
				does(t, "an end as all numbers", ledWorld(), all)
			}
		}
	}
}

// What is not named of a deed says nothing.
func TestWhatADeedDoesNotName(t *testing.T) {
	for _, d := range doneDeeds() {
		want, _ := impl.WorldDo(ledWorld(), d)
		for _, end := range edgeNumbers {
			other := d
			if d.Kind != impl.DoFeed && d.Kind != impl.DoCut && d.Kind != impl.DoAnswer {
				other.B = end
			}
			if d.Kind != impl.DoPropose {
				other.C = cmd(end, end, put(end, end))
			}
			if came := tells(t, "other numbers", ledWorld(), other, impl.WdDone); !sameWorld(came, want) {
				t.Error(other, "came to", came, "and not to", want)
			}
		}
	}
}

func TestWorldRun(t *testing.T) {
	for _, w := range []impl.World{newWorld(1), newWorld(5), plainWorld(), ledWorld()} {
		for _, list := range [][]impl.Deed{nil, {}} {
			if came, codes := impl.WorldRun(w, list); !sameWorld(came, w) || len(codes) != 0 {
				t.Error("of none came to", came, codes)
			}
		}
		for _, d := range append(doneDeeds(), impl.Deed{}, askOf(9), copyAt(0)) {
			came, codes := impl.WorldRun(w, deeds(d))
			next, code := impl.WorldDo(w, d)
			if code == impl.WdBad {
				next = w
			}
			if !sameWorld(came, next) || !slices.Equal(codes, []int{code}) {
				t.Error(d, "came to", came, codes)
			}
		}
	}
}

func TestWorldRunOfHowMany(t *testing.T) {
	for _, count := range []int{1, 2, 399, 400, 401, 402, 1000, 100000} {
		list := each(count, askOf(0))
		came, codes := impl.WorldRun(newWorld(3), list)
		if count > 400 {
			if len(codes) != 0 || !sameWorld(came, newWorld(3)) {
				t.Error("of", count, "came to", codes, came)
			}
			continue
		}
		if !slices.Equal(codes, make([]int, count)) || came.Nodes[0].Term != count || len(came.Net) != min(30, 2*count) {
			t.Error("of", count, "came to", codes, came)
		}
		runs(t, "of so many", newWorld(3), list)
	}
	came, codes := impl.WorldRun(ledWorld(), each(401, impl.Deed{}))
	if len(codes) != 0 || !sameWorld(came, ledWorld()) {
		t.Error("too many that are none came to", codes)
	}
	came, codes = impl.WorldRun(ledWorld(), each(400, impl.Deed{}))
	if !slices.Equal(codes, each(400, impl.WdBad)) || !sameWorld(came, ledWorld()) {
		t.Error("as many as may be that are none came to", codes)
	}
}

// What is refused among others leaves them what they are.
func TestWorldRunWithRefusals(t *testing.T) {
	for _, refused := range deeds(impl.Deed{}, impl.Deed{Kind: 10}, askOf(3), giveAt(-1), loseAt(99), copyAt(99), feedTo(0, 0), feedTo(0, 9), handIn(7, numbered(1)), fallOf(-1), cutOf(0, 99), answerOf(0, 9)) {
		var list, plain []impl.Deed
		for _, d := range doneDeeds() {
			list, plain = append(list, refused, d, refused), append(plain, d)
		}
		came, codes := runs(t, "with refusals", ledWorld(), list)
		want, wanted := runs(t, "without", ledWorld(), plain)
		if !sameWorld(came, want) {
			t.Error(refused, "came to", came, "and not to", want)
		}
		for i, code := range wanted {
			if codes[3*i] == impl.WdDone || codes[3*i+1] != code || codes[3*i+2] == impl.WdDone {
				t.Error(refused, "told", codes)
			}
		}
	}
}

// A net that is full of copies, and empty again.
func TestNetFillsAndEmpties(t *testing.T) {
	w := tells(t, "it asks", newWorld(5), askOf(4), impl.WdDone)
	for have := 4; have < 30; have++ {
		w = tells(t, "one more", w, copyAt(have%4), impl.WdDone)
	}
	tells(t, "one too many", w, copyAt(0), impl.WdFull)
	came := tells(t, "asked without room", w, askOf(2), impl.WdDone)
	if !slices.EqualFunc(came.Net, w.Net, sameRpc) || came.Nodes[2].Term != 1 {
		t.Error("came to", came)
	}
	for have := 30; have > 0; have-- {
		w = tells(t, "one less", w, loseAt(have*7%have), impl.WdDone)
	}
	for _, kind := range []int{impl.DoGive, impl.DoLose, impl.DoCopy} {
		tells(t, "an empty one", w, impl.Deed{Kind: kind}, impl.WdNone)
	}
}

// thrownDeed: one of any kind, most of which fit the world; now and then with a number that is far off.
func thrownDeed(d *dice, w impl.World, next impl.Cmd) impl.Deed {
	size := max(1, len(w.Nodes))
	deed := impl.Deed{Kind: 1 + d.below(9), A: d.below(size), B: d.below(size), C: next}
	n := impl.Node{}
	if len(w.Nodes) > 0 {
		n = w.Nodes[deed.A]
	}
	switch {
	case isOfPlace(deed.Kind):
		deed.A = d.below(len(w.Net)+3) - 1
	case deed.Kind == impl.DoCut:
		deed.B = n.Log.Base - 1 + d.below(6)
	case deed.Kind == impl.DoAnswer:
		deed.B = d.below(11)
	}
	switch d.below(24) {
	case 0:
		numbers := append(deedNumbers(&deed), &deed.Kind)
		*numbers[d.below(len(numbers))] = edgeNumbers[d.below(len(edgeNumbers))]
	case 1:
		numbers := append(deedNumbers(&deed), &deed.Kind)
		*numbers[d.below(len(numbers))] += d.below(3) - 1
	case 2:
		deed.A = d.below(2)*(len(w.Net)+size+1) - 1
	}
	return deed
}

// deedTally counts how often a deed of each kind told each code, so that a test can tell that they were not all alike.
type deedTally [10][5]int

func (c *deedTally) of(kind, code int) {
	if kind >= 1 && kind <= 9 {
		c[kind][code]++
	}
}

// isFair: each code that a kind can tell was told that often.
func (c *deedTally) isFair(least int, codes ...[]int) bool {
	for i, list := range codes {
		for _, code := range list {
			if c[1+i][code] < least {
				return false
			}
		}
	}
	return true
}

func TestThrownDeeds(t *testing.T) {
	t.Parallel()
	d := &dice{131}
	var c deedTally
	for i := range 1000 {
		w := thrownWorld(d, 1+i%5)
		if d.below(2) == 0 {
			w.Nodes[d.below(w.Size)].Role = impl.RoLead
		}
		if d.below(20) == 0 {
			w.Acks = each(1999+d.below(2), had(1, 1, 1))
		}
		next := thrownCmds(d, 1, 30)[0]
		for range 8 {
			deed := thrownDeed(d, w, next)
			if isOfPlace(deed.Kind) && len(w.Net) > 0 && d.below(2) == 0 {
				at := d.below(len(w.Net))
				w.Net[at] = likelyHeard(d, w, w.Net[at])
			}
			_, code := does(t, "a thrown one", w, deed)
			c.of(deed.Kind, code)
		}
		marred := marredWorld(d, w)
		deed := thrownDeed(d, marred, next)
		_, code := does(t, "in a marred one", marred, deed)
		c.of(deed.Kind, code)
	}
	if !c.isFair(20, []int{0, 1, 2, 3}, []int{0, 1, 2}, []int{0, 1, 2}, []int{0, 1, 2, 4}, []int{0, 1, 2, 3, 4}, []int{0, 1, 2, 3}, []int{0, 1, 2}, []int{0, 1, 2, 3}, []int{0, 1, 2, 3}) {
		t.Error("the deeds are too much alike:", c)
	}
}

// likelyHeard: something on its way that turns one of the nodes, if there is any; else what was there.
func likelyHeard(d *dice, w impl.World, was impl.Rpc) impl.Rpc {
	if r := thrownHeard(d, w.Nodes[d.below(w.Size)], w.Size); rpcOkByTheWord(r, w.Size) {
		return r
	}
	return was
}

// likelyDeed: what makes a world go on most of the time: who leads is asked more often than others, and is seldom put down.
func likelyDeed(d *dice, w impl.World, next impl.Cmd) impl.Deed {
	a, b := d.below(w.Size), d.below(w.Size)
	leads := slices.IndexFunc(w.Nodes, func(n impl.Node) bool { return n.Role == impl.RoLead })
	if leads >= 0 && d.below(4) > 0 {
		a = leads
	}
	at := d.below(len(w.Net) + 1)
	n := w.Nodes[a]
	switch d.below(30) {
	case 0:
		return loseAt(at)
	case 1, 2, 21, 22:
		return copyAt(at)
	case 3, 4:
		return cutOf(a, n.Log.Base+d.below(n.Commit-n.Log.Base+2))
	case 5, 6:
		return answerOf(a, d.below(10))
	case 7, 8, 9, 10, 11:
		return handIn(a, next)
	case 12, 13, 14, 15, 16, 17:
		return feedTo(a, b)
	case 18:
		return thrownDeed(d, w, next)
	case 19:
		if d.below(4) == 0 {
			return fallOf(a)
		}
	case 20:
		if leads < 0 || d.below(4) == 0 {
			return askOf(a)
		}
	}
	return giveAt(at)
}

// P13 over a while, in new worlds of each size: what is refused changes nothing, what was chosen stays, and all nodes have just that.
func TestDeedsOverAWhile(t *testing.T) {
	t.Parallel()
	d := &dice{132}
	var c deedTally
	chosen, led, acks := 0, 0, 0
	for i := range 60 {
		start := newWorld(1 + i%5)
		w := start
		var list []impl.Deed
		var told []int
		for at, next := range thrownCmds(d, 400, 60) {
			deed := likelyDeed(d, w, next)
			came, code := impl.WorldDo(w, deed)
			if at%8 == 0 {
				came, code = does(t, "over a while", w, deed)
			}
			refusesByNothing(t, "over a while", w, came, code)
			c.of(deed.Kind, code)
			list, told = append(list, deed), append(told, code)
			if code != impl.WdDone {
				continue
			}
			if w = came; at%4 == 0 {
				agree(t, w)
			}
		}
		agree(t, w)
		if came, codes := runs(t, "over a while", start, list); !sameWorld(came, w) || !slices.Equal(codes, told) {
			t.Fatal("in one go came to", came, codes, "and not to", w, told)
		}
		chosen, led, acks = chosen+len(w.Chosen), led+len(w.Led), acks+len(w.Acks)
	}
	if chosen < 500 || led < 100 || acks < 100 {
		t.Error("too little happens:", chosen, led, acks)
	}
	if !c.isFair(4, []int{0, 3}, []int{0, 2}, []int{0, 2}, []int{0, 2, 4}, []int{0, 2, 3, 4}, []int{0, 3}, []int{0}, []int{0, 3}, []int{0, 3}) {
		t.Error("the deeds are too much alike:", c)
	}
}

// A world goes on to where no more can be chosen: what leads is handed nothing any more, and all else is as before.
func TestDeedsUpToAllThatCanBeChosen(t *testing.T) {
	w := tells(t, "alone", newWorld(1), askOf(0), impl.WdDone)
	number := 1
	for range 6 {
		var list []impl.Deed
		var want []int
		for range 400 {
			number++
			list = append(list, handIn(0, numbered(number)))
			if number <= 2000 {
				want = append(want, impl.WdDone)
			} else {
				want = append(want, impl.WdIdle)
			}
		}
		came, codes := impl.WorldRun(w, list)
		if !slices.Equal(codes, want) || len(came.Chosen) != min(number, 2000) {
			t.Fatal("up to", number, "came to", len(came.Chosen))
		}
		w = came
	}
	if !slices.Equal(w.Chosen[1:], row(2000)[1:]) || w.Chosen[0] != (impl.Cmd{}) {
		t.Error("was chosen:", w.Chosen)
	}
	tells(t, "all chosen", w, handIn(0, numbered(2)), impl.WdIdle)
	tells(t, "all chosen", w, cutOf(0, 2000), impl.WdDone)
	tells(t, "all chosen", w, fallOf(0), impl.WdDone)
	tells(t, "all chosen", w, answerOf(0, 2), impl.WdDone)
}

// deedsInTheirOwnMemory: nothing is written into what is handed in, nor into the room behind its lists, and no answer shares memory with it, nor two lists of one.
func deedsInTheirOwnMemory(t *testing.T, name string, plain impl.World, list []impl.Deed) {
	t.Helper()
	a, wholes := roomyWorld(plain)
	_, kept := roomyWorld(plain)
	roomed, whole := roomy(list, fallOf(-77))
	for _, of := range []impl.World{a, plain} {
		var answers []impl.World
		for _, d := range list {
			came, _ := impl.WorldDo(of, d)
			ran, codes := impl.WorldRun(of, deeds(d))
			apart(t, name, struct {
				W impl.World
				C []int
			}{ran, codes}, of)
			answers = append(answers, came, ran)
		}
		ran, _ := impl.WorldRun(of, roomed)
		none, _ := impl.WorldRun(of, nil)
		more, _ := impl.WorldRun(of, each(401, askOf(0)))
		for _, came := range append(answers, ran, none, more) {
			apart(t, name, came, of)
			spoilWorld(came)
		}
	}
	if !reflect.DeepEqual(wholes, kept) || !sameWorld(plain, a) || !slices.Equal(roomed, list) || whole()[len(list)] != fallOf(-77) {
		t.Fatal("written into, or memory shared with an answer:", name)
	}
}

func TestDeedsAreNotWrittenInto(t *testing.T) {
	t.Parallel()
	var giving []impl.Deed
	for at := -1; at <= 30; at++ {
		giving = append(giving, giveAt(at), copyAt(at), loseAt(at))
	}
	several := slices.Concat(doneDeeds(), deeds(impl.Deed{}, askOf(0), askOf(1), feedTo(0, 2), feedTo(1, 2), fallOf(0), cutOf(0, 4), cutOf(1, 3), answerOf(0, 2), askOf(9)), giving)
	for _, w := range []impl.World{ledWorld(), newWorld(1), newWorld(3), {}} {
		deedsInTheirOwnMemory(t, "a plain one", w, several)
	}
	for _, role := range roles {
		w := oneMemoryWorld(role)
		w.Nodes[1].Match = slices.Clone(w.Nodes[1].Match)
		deedsInTheirOwnMemory(t, "one memory", w, several)
		for _, kind := range rpcKinds {
			w := ledWorld()
			w.Nodes[1] = busy(role, 14)
			w.Net = heardBy(kind)
			deedsInTheirOwnMemory(t, "a busy one", w, several)
		}
	}
	seen := map[string]bool{}
	for _, c := range slices.Concat(goodWorldTurns(), badWorldTurns()) {
		w := turnedWorld(c)
		if seen[c.name] || len(w.Nodes) > 1000 || len(w.Net) > 1000 {
			continue
		}
		seen[c.name] = true
		deedsInTheirOwnMemory(t, c.name, w, doneDeeds())
	}
}

// Trees that hold themselves, or one list ever again: all calls end, and what they answer is theirs.
func TestDeedsInStrangeWorlds(t *testing.T) {
	for _, c := range append(strangeTrees(), treeCase{name: "one met ever again", tree: manyfold()}) {
		depth := 12
		if len(c.tree.Kids) > 2 {
			depth = 1
		}
		wrong, right := ledWorld(), ledWorld()
		wrong.Nodes[1].Now.T = c.tree
		right.Net = []impl.Rpc{toIt(impl.RpPut), toIt(impl.RpAsk)}
		right.Net[0].Snap.T = c.tree
		for _, d := range doneDeeds() {
			if came, code := impl.WorldDo(wrong, d); code != impl.WdBad || !reflect.DeepEqual(came, impl.World{}) {
				t.Error(c.name, "was no world, and told", code)
			}
			impl.WorldDo(right, d)
		}
		same, codes := impl.WorldRun(wrong, doneDeeds())
		if len(codes) != 0 || !sameDown(depth, same.Nodes[1].Now.T, c.tree) {
			t.Error(c.name, "did not stay")
		}
		came, code := impl.WorldDo(right, copyAt(0))
		if code != impl.WdDone || !sameDown(depth, came.Net[0].Snap.T, c.tree) || !sameDown(depth, came.Net[2].Snap.T, c.tree) {
			t.Error(c.name, "did not stay on its way:", code)
		}
		if came, code := impl.WorldDo(right, giveAt(0)); code != impl.WdDone || len(came.Net) != 2 {
			t.Error(c.name, "was not heard:", code)
		}
	}
}

// Numbers of 64 bits as what the world has: none of them is done anything with.
func TestDeedsWithWorldNumbersAtTheirEnds(t *testing.T) {
	for _, end := range []int{math.MinInt, -1, math.MaxInt} {
		w := ledWorld()
		for i := range listNumbers(&w) {
			turned := ledWorld()
			turned.Chosen, turned.Acks, turned.Led = slices.Clone(w.Chosen), slices.Clone(w.Acks), slices.Clone(w.Led)
			*listNumbers(&turned)[i] = end
			for _, d := range doneDeeds() {
				does(t, "an end as a number", turned, d)
			}
		}
	}
}
