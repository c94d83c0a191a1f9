package tests

import (
	"math"
	"reflect"
	"runtime"
	"slices"
	"sync"
	"testing"

	"loop.example/g00234/impl"
)

func sameWorld(a, b impl.World) bool {
	return a.Size == b.Size && slices.EqualFunc(a.Nodes, b.Nodes, sameNode) && slices.EqualFunc(a.Net, b.Net, sameRpc) &&
		slices.Equal(a.Chosen, b.Chosen) && slices.Equal(a.Acks, b.Acks) && slices.Equal(a.Led, b.Led)
}

// worldOkByTheWord has each sentence of the chapter at its place.
func worldOkByTheWord(w impl.World) bool {
	if w.Size < 1 || w.Size > 5 || len(w.Nodes) != w.Size {
		return false
	}
	for i, n := range w.Nodes {
		if !nodeOkByTheWord(n, w.Size) || n.Id != i {
			return false
		}
	}
	if len(w.Net) > 30 || len(w.Chosen) > 2000 || len(w.Acks) > 2000 || len(w.Led) > 2000 {
		return false
	}
	for _, r := range w.Net {
		if !rpcOkByTheWord(r, w.Size) {
			return false
		}
	}
	for _, c := range w.Chosen {
		if !cmdOkByTheWord(c) {
			return false
		}
	}
	for _, a := range w.Acks {
		if a.Client < 1 || a.Client > 9 || a.Seq < 1 || a.Seq > 100000 {
			return false
		}
	}
	for _, l := range w.Led {
		if l.Id < 0 || l.Id >= w.Size {
			return false
		}
	}
	return true
}

func sendByTheWord(w impl.World, list []impl.Rpc) impl.World {
	w.Net = slices.Clone(w.Net)
	for _, r := range list {
		if len(w.Net) >= 30 {
			break
		}
		w.Net = append(w.Net, r)
	}
	return w
}

// noteByTheWord asks for one entry at a time, by its number.
func noteByTheWord(w impl.World, i int, n impl.Node) impl.World {
	if i < 0 || i >= w.Size || i >= len(w.Nodes) {
		return w
	}
	was := w.Nodes[i]
	w.Nodes, w.Chosen, w.Led = slices.Clone(w.Nodes), slices.Clone(w.Chosen), slices.Clone(w.Led)
	w.Nodes[i] = n
	for len(w.Chosen) < n.Commit && len(w.Chosen) < 2000 {
		list := entriesFromByTheWord(n.Log, len(w.Chosen)+1)
		if len(list) == 0 {
			break
		}
		w.Chosen = append(w.Chosen, list[0].C)
	}
	if n.Role == 2 && (was.Role != 2 || was.Term != n.Term) && len(w.Led) < 2000 {
		w.Led = append(w.Led, impl.Lead{Term: n.Term, Id: n.Id})
	}
	return w
}

// added: what an answer has more than it was handed in; it is an error where something of that was turned.
func added[E any](t *testing.T, name string, was, came []E, same func(a, b E) bool) []E {
	t.Helper()
	if len(came) < len(was) || !slices.EqualFunc(came[:len(was)], was, same) {
		t.Fatal(name, "turned", was, "to", came)
	}
	return came[len(was):]
}

func alike[E comparable](a, b E) bool { return a == b }

// sends: P12, of any world and any list.
func sends(t *testing.T, name string, w impl.World, list ...impl.Rpc) impl.World {
	t.Helper()
	came := impl.Send(w, list)
	if want := sendByTheWord(w, list); !sameWorld(came, want) {
		t.Fatal(name, "came to", came, "and by the word to", want)
	}
	behind := added(t, name, w.Net, came.Net, sameRpc)
	if len(behind) > len(list) || !slices.EqualFunc(behind, list[:len(behind)], sameRpc) {
		t.Fatal(name, "sent", behind, "of", list)
	}
	return came
}

// notes: what was chosen stays, and so does all that is not told of.
func notes(t *testing.T, name string, w impl.World, i int, n impl.Node) impl.World {
	t.Helper()
	came := impl.Note(w, i, n)
	if want := noteByTheWord(w, i, n); !sameWorld(came, want) {
		t.Fatal(name, "came to", came, "and by the word to", want)
	}
	added(t, name, w.Chosen, came.Chosen, alike)
	if led := added(t, name, w.Led, came.Led, alike); len(led) > 1 {
		t.Fatal(name, "led", led)
	}
	return came
}

// onTheWay: so many, each with an Index of its own.
func onTheWay(from, count int) []impl.Rpc {
	var list []impl.Rpc
	for i := range count {
		list = append(list, hasUpTo(1, 0, 2, true, from+i))
	}
	return list
}

// row: the commands number 1 to count, each of which tells its number.
func row(count int) []impl.Cmd {
	var list []impl.Cmd
	for number := 1; number <= count; number++ {
		list = append(list, numbered(number))
	}
	return list
}

func numbered(number int) impl.Cmd { return cmd(1+number%9, number, put(number%1000, number)) }

// numberedLog: the entries behind number base, of Term 1, each with the command of its number.
func numberedLog(base, count int) impl.Log {
	l := logOf(base, 1)
	for i := range count {
		l.List = append(l.List, impl.Entry{Term: 1, C: numbered(base + 1 + i)})
	}
	return l
}

func leads(count int) []impl.Lead {
	var list []impl.Lead
	for i := range count {
		list = append(list, impl.Lead{Term: i, Id: i % 3})
	}
	return list
}

func newWorld(size int) impl.World {
	w, _ := impl.WorldNew(size)
	return w
}

// plainWorld: three nodes with short logs, all of whose numbers stand between their limits, something of each Kind on its way, and something in each list.
func plainWorld() impl.World {
	w := impl.World{
		Size:   3,
		Chosen: row(6),
		Acks:   []impl.Done{had(1, 1, 5), none(2, 7), had(1, 1, 5)},
		Led:    []impl.Lead{{Term: 1, Id: 2}, {Term: 4, Id: 0}, {Term: 5, Id: 1}},
	}
	for id := range 3 {
		n := small(3)
		n.Id = id
		w.Nodes = append(w.Nodes, n)
	}
	for _, kind := range rpcKinds {
		w.Net = append(w.Net, plainRpc(kind))
	}
	return w
}

type worldTurn struct {
	name string
	turn func(w *impl.World)
}

func turnedWorld(c worldTurn) impl.World {
	w := plainWorld()
	c.turn(&w)
	return w
}

// listNumbers: each number of the lists that has a limit of its own.
func listNumbers(w *impl.World) []*int {
	list := []*int{&w.Size}
	for i := range w.Chosen {
		list = append(list, &w.Chosen[i].Client, &w.Chosen[i].Seq, &w.Chosen[i].M.Op, &w.Chosen[i].M.K, &w.Chosen[i].M.V)
	}
	for i := range w.Acks {
		list = append(list, &w.Acks[i].Client, &w.Acks[i].Seq)
	}
	for i := range w.Led {
		list = append(list, &w.Led[i].Id)
	}
	return list
}

// freeNumbers: those for which the chapter names no limit.
func freeNumbers(w *impl.World) []*int {
	var list []*int
	for i := range w.Acks {
		list = append(list, &w.Acks[i].V)
	}
	for i := range w.Led {
		list = append(list, &w.Led[i].Term)
	}
	return list
}

// goodWorldTurns: of plainWorld. The limits are written out here as numbers: a limit that moved would show.
func goodWorldTurns() []worldTurn {
	list := []worldTurn{
		{"as it is", func(w *impl.World) {}},
		{"nothing but nodes", func(w *impl.World) { *w = impl.World{Size: 3, Nodes: w.Nodes} }},
		{"empty lists", func(w *impl.World) {
			w.Net, w.Chosen, w.Acks, w.Led = []impl.Rpc{}, []impl.Cmd{}, []impl.Done{}, []impl.Lead{}
		}},
		{"nothing on its way", func(w *impl.World) { w.Net = nil }},
		{"one less than all on its way", func(w *impl.World) { w.Net = onTheWay(1, 29) }},
		{"all that can be on its way", func(w *impl.World) { w.Net = onTheWay(1, 30) }},
		{"the same on its way, over and over", func(w *impl.World) { w.Net = each(30, plainRpc(impl.RpSnap)) }},
		{"nothing chosen", func(w *impl.World) { w.Chosen = nil }},
		{"one less than all chosen", func(w *impl.World) { w.Chosen = row(1999) }},
		{"all chosen", func(w *impl.World) { w.Chosen = row(2000) }},
		{"all chosen, and nothing each", func(w *impl.World) { w.Chosen = make([]impl.Cmd, 2000) }},
		{"each good command", func(w *impl.World) { w.Chosen = append(slices.Clone(goodCmds), impl.Cmd{}) }},
		{"one less than all Acks", func(w *impl.World) { w.Acks = each(1999, had(1, 1, 1)) }},
		{"all Acks", func(w *impl.World) { w.Acks = each(2000, had(9, 100000, 1)) }},
		{"one less than all Led", func(w *impl.World) { w.Led = leads(1999) }},
		{"all Led", func(w *impl.World) { w.Led = leads(2000) }},
		{"all lists full", func(w *impl.World) {
			w.Net, w.Chosen, w.Acks, w.Led = onTheWay(1, 30), row(2000), each(2000, had(1, 1, 1)), leads(2000)
		}},
		{"Acks at their limits", func(w *impl.World) {
			w.Acks = []impl.Done{none(1, 1), none(9, 1), none(1, 100000), none(9, 100000), none(2, 2), none(8, 99999)}
		}},
		{"Acks of any V", func(w *impl.World) {
			w.Acks = []impl.Done{had(1, 1, 1000000001), had(1, 1, -1000000001), {Client: 1, Seq: 1, V: 4}, had(1, 1, math.MaxInt), had(1, 1, math.MinInt)}
		}},
		{"Acks that fall", func(w *impl.World) { w.Acks = []impl.Done{none(3, 3), none(2, 2), none(3, 1)} }},
		{"Led at its limits", func(w *impl.World) { w.Led = []impl.Lead{{Id: 0}, {Id: 2}} }},
		{"Led of any Term", func(w *impl.World) { w.Led = []impl.Lead{{Term: -1}, {Term: 100001}, {Term: 0}} }},
		{"two that led in one Term", func(w *impl.World) { w.Led = []impl.Lead{{Term: 4, Id: 0}, {Term: 4, Id: 1}, {Term: 4, Id: 1}} }},
		{"two that lead in one Term", func(w *impl.World) { w.Nodes[0].Role, w.Nodes[2].Role = 2, 2 }},
		{"all lead", func(w *impl.World) { w.Nodes[0].Role, w.Nodes[1].Role, w.Nodes[2].Role = 2, 2, 2 }},
		{"less chosen than committed", func(w *impl.World) { w.Chosen = row(1) }},
		{"others chosen than committed", func(w *impl.World) { w.Chosen = each(6, cmd(3, 3, get(3))) }},
	}
	for _, end := range edgeNumbers {
		w := plainWorld()
		for i := range freeNumbers(&w) {
			list = append(list, worldTurn{"a number without a limit", func(w *impl.World) { *freeNumbers(w)[i] = end }})
		}
	}
	for id := range 3 {
		for _, c := range goodTurns() {
			list = append(list, worldTurn{"a good node: " + c.name, func(w *impl.World) { c.turn(&w.Nodes[id]); w.Nodes[id].Id = id }})
		}
	}
	for at := range rpcKinds {
		for _, c := range goodRpcTurns() {
			list = append(list, worldTurn{"on its way: " + c.name, func(w *impl.World) { c.turn(&w.Net[at]) }})
		}
	}
	return list
}

func badWorldTurns() []worldTurn {
	list := []worldTurn{
		{"the zero value", func(w *impl.World) { *w = impl.World{} }},
		{"the zero value of Size 1", func(w *impl.World) { *w = impl.World{Size: 1} }},
		{"Size at -1", func(w *impl.World) { w.Size = -1 }},
		{"Size at 0", func(w *impl.World) { w.Size = 0 }},
		{"Size at 0, and no nodes", func(w *impl.World) { w.Size, w.Nodes = 0, nil }},
		{"Size at 0, and nothing at all", func(w *impl.World) { *w = impl.World{Nodes: []impl.Node{}} }},
		{"Size one less", func(w *impl.World) { w.Size = 2 }},
		{"Size one more", func(w *impl.World) { w.Size = 4 }},
		{"Size at MaxNodes", func(w *impl.World) { w.Size = 5 }},
		{"Size beyond", func(w *impl.World) { w.Size = 6 }},
		{"no nodes", func(w *impl.World) { w.Nodes = nil }},
		{"one node less", func(w *impl.World) { w.Nodes = w.Nodes[:2] }},
		{"one node more", func(w *impl.World) { w.Nodes = append(w.Nodes, w.Nodes[2]) }},
		{"very many nodes", func(w *impl.World) { w.Nodes = each(100000, w.Nodes[0]) }},
		{"two nodes the other way round", func(w *impl.World) { w.Nodes[0], w.Nodes[1] = w.Nodes[1], w.Nodes[0] }},
		{"all nodes the other way round", func(w *impl.World) { slices.Reverse(w.Nodes) }},
		{"one node over and over", func(w *impl.World) { w.Nodes = each(3, w.Nodes[1]) }},
		{"one more than all on its way", func(w *impl.World) { w.Net = onTheWay(1, 31) }},
		{"very much on its way", func(w *impl.World) { w.Net = onTheWay(1, 10000) }},
		{"one more than all chosen", func(w *impl.World) { w.Chosen = row(2001) }},
		{"one more than all Acks", func(w *impl.World) { w.Acks = each(2001, had(1, 1, 1)) }},
		{"one more than all Led", func(w *impl.World) { w.Led = leads(2001) }},
		{"Client of Acks at 0", func(w *impl.World) { w.Acks[0].Client = 0 }},
		{"Client of Acks one beyond", func(w *impl.World) { w.Acks[1].Client = 10 }},
		{"Seq of Acks at 0", func(w *impl.World) { w.Acks[2].Seq = 0 }},
		{"Seq of Acks one beyond", func(w *impl.World) { w.Acks[0].Seq = 100001 }},
		{"the zero value in Acks", func(w *impl.World) { w.Acks = []impl.Done{{}} }},
		{"Id of Led at -1", func(w *impl.World) { w.Led[0].Id = -1 }},
		{"Id of Led at Size", func(w *impl.World) { w.Led[2].Id = 3 }},
		{"on its way to a fourth one", func(w *impl.World) { w.Net[0].To = 3 }},
		{"on its way from a fourth one", func(w *impl.World) { w.Net[4].From = 3 }},
		{"the zero value on its way", func(w *impl.World) { w.Net = []impl.Rpc{{}} }},
		{"the last of all on its way", func(w *impl.World) { w.Net = onTheWay(1, 30); w.Net[29].Term = -1 }},
		{"the first of all on its way", func(w *impl.World) { w.Net = onTheWay(1, 30); w.Net[0].Index = 100001 }},
		{"the last one chosen", func(w *impl.World) { w.Chosen = row(2000); w.Chosen[1999] = badCmds[0] }},
		{"the last one of Acks", func(w *impl.World) { w.Acks = each(2000, had(1, 1, 1)); w.Acks[1999].Seq = 100001 }},
		{"the last one of Led", func(w *impl.World) { w.Led = leads(2000); w.Led[1999].Id = 3 }},
	}
	for _, c := range badCmds {
		for _, at := range []int{0, 2, 5} {
			list = append(list, worldTurn{"no command", func(w *impl.World) { w.Chosen[at] = c }})
		}
	}
	for _, end := range []int{math.MinInt, math.MinInt + 1, math.MaxInt - 1, math.MaxInt} {
		w := plainWorld()
		for i := range listNumbers(&w) {
			list = append(list, worldTurn{"an end as a number", func(w *impl.World) { *listNumbers(w)[i] = end }})
		}
	}
	for id := range 3 {
		for _, c := range badTurns() {
			list = append(list, worldTurn{"a bad node: " + c.name, func(w *impl.World) {
				own := w.Nodes[id].Id
				w.Nodes[id].Id = 1
				if c.turn(&w.Nodes[id]); w.Nodes[id].Id == 1 {
					w.Nodes[id].Id = own
				}
			}})
		}
	}
	for at := range rpcKinds {
		for _, c := range badRpcTurns() {
			list = append(list, worldTurn{"on its way: " + c.name, func(w *impl.World) { c.turn(&w.Net[at]) }})
		}
	}
	return list
}

func TestWorldLimits(t *testing.T) {
	if impl.MaxNet != 30 || impl.MaxList != 2000 {
		t.Error("limits", impl.MaxNet, impl.MaxList)
	}
}

func TestWorldOk(t *testing.T) {
	for _, c := range goodWorldTurns() {
		if w := turnedWorld(c); !impl.WorldOk(w) || !worldOkByTheWord(w) {
			t.Error("refused", c.name)
		}
	}
	for _, c := range badWorldTurns() {
		if w := turnedWorld(c); impl.WorldOk(w) || worldOkByTheWord(w) {
			t.Error("accepted", c.name)
		}
	}
	for at, kind := range rpcKinds {
		for i, m := range badSnaps() {
			w := plainWorld()
			w.Net[at].Snap = m
			if got := impl.WorldOk(w); got != (kind != impl.RpSnap) {
				t.Error("of Kind", kind, "with what is no machine, number", i, "told", got)
			}
		}
	}
}

func TestWorldOkBySize(t *testing.T) {
	for count := range 8 {
		w := impl.World{}
		for id := range count {
			n := small(count)
			n.Id = id
			w.Nodes = append(w.Nodes, n)
		}
		for _, size := range append([]int{3, 4, 5, 6, 7}, edgeNumbers...) {
			w.Size = size
			want := count == size && count >= 1 && count <= 5
			w.Net, w.Led = nil, nil
			if got := impl.WorldOk(w); got != want {
				t.Error("told", got, "of", count, "as", size)
			}
			for id := -1; id <= 6; id++ {
				w.Led = []impl.Lead{{Id: id}}
				if got := impl.WorldOk(w); got != (want && id >= 0 && id < size) {
					t.Error("told", got, "of", count, "as", size, "where number", id, "led")
				}
				w.Led = nil
				for to := -1; to <= 6; to++ {
					w.Net = []impl.Rpc{vote(id, to, 1, true)}
					if got := impl.WorldOk(w); got != (want && rpcOkByTheWord(w.Net[0], size)) {
						t.Error("told", got, "of", count, "as", size, "where number", id, "tells number", to)
					}
				}
				w.Net = nil
			}
		}
	}
}

func TestWorldNew(t *testing.T) {
	for _, size := range append([]int{3, 4, 5, 6, 7}, edgeNumbers...) {
		w, ok := impl.WorldNew(size)
		if size < 1 || size > 5 {
			if ok || !sameWorld(w, impl.World{}) {
				t.Error("made one of", size, w)
			}
			continue
		}
		want := impl.World{Size: size}
		for id := range size {
			n, _ := impl.NodeNew(id, size)
			want.Nodes = append(want.Nodes, n)
		}
		if !ok || !sameWorld(w, want) || !impl.WorldOk(w) {
			t.Error("of", size, "came to", w, ok)
		}
		apart(t, "a new one", w, size)
	}
}

func TestSend(t *testing.T) {
	for _, have := range []int{0, 1, 2, 27, 28, 29, 30, 31, 32, 60} {
		for _, count := range []int{0, 1, 2, 3, 28, 29, 30, 31, 60} {
			w := plainWorld()
			w.Net = onTheWay(1, have)
			came := sends(t, "some", w, onTheWay(500, count)...)
			want := max(have, min(30, have+count))
			if len(came.Net) != want || impl.WorldOk(came) != (have <= 30) {
				t.Error("of", count, "behind", have, "came to", len(came.Net))
			}
			for i, r := range came.Net {
				if i < have && r.Index != 1+i || i >= have && r.Index != 500+i-have {
					t.Error("at", i, "behind", have, "stands", r)
				}
			}
		}
	}
	for _, w := range []impl.World{newWorld(3), plainWorld()} {
		if !sameWorld(sends(t, "nothing", w), w) || !sameWorld(sends(t, "an empty list", w, []impl.Rpc{}...), w) {
			t.Error("nothing was sent, and it did not stay:", w)
		}
		again := sends(t, "what is on its way", w, w.Net...)
		if len(again.Net) != 2*len(w.Net) {
			t.Error("came to", again.Net)
		}
	}
}

// One behind the other they come to the same as all at once.
func TestSendOneByOne(t *testing.T) {
	for have := range 33 {
		w := newWorld(3)
		w.Net = onTheWay(1, have)
		list := onTheWay(700, 7)
		all, one := sends(t, "all", w, list...), w
		for _, r := range list {
			one = sends(t, "one", one, r)
		}
		if !sameWorld(all, one) {
			t.Error("behind", have, "came to", one.Net, "and not to", all.Net)
		}
	}
}

// What is sent is not asked for more than room, nor is the world.
func TestSendOfWhatIsWrong(t *testing.T) {
	for _, kind := range rpcKinds {
		for _, c := range slices.Concat(goodRpcTurns(), badRpcTurns()) {
			r := plainRpc(kind)
			c.turn(&r)
			came := sends(t, c.name, newWorld(3), r)
			if len(came.Net) != 1 || impl.WorldOk(came) != rpcOkByTheWord(r, 3) {
				t.Error(c.name, "came to", came.Net)
			}
		}
	}
	for _, c := range badWorldTurns() {
		w := turnedWorld(c)
		if len(w.Nodes) > 1000 {
			continue
		}
		came := sends(t, c.name, w, onTheWay(3, 2)...)
		if len(came.Net) != max(len(w.Net), min(30, len(w.Net)+2)) {
			t.Error(c.name, "came to", len(came.Net))
		}
	}
	if came := sends(t, "the zero value", impl.World{}, impl.Rpc{}); len(came.Net) != 1 || came.Size != 0 {
		t.Error("came to", came)
	}
}

// noted: what comes of a world of three in which so many are chosen, when its node number 1 is another one.
func noted(t *testing.T, name string, chosen int, n impl.Node) impl.World {
	t.Helper()
	w := newWorld(3)
	w.Chosen = row(chosen)
	came := notes(t, name, w, 1, n)
	if !sameNode(came.Nodes[1], n) || !sameNode(came.Nodes[0], w.Nodes[0]) || !sameNode(came.Nodes[2], w.Nodes[2]) || came.Size != 3 || len(came.Net) != 0 || len(came.Acks) != 0 {
		t.Fatal(name, "came to", came)
	}
	return came
}

// committer: number 1 of three, with the entries behind number base, that committed those up to number commit.
func committer(base, count, commit int) impl.Node {
	n, _ := impl.NodeNew(1, 3)
	n.Term, n.Log, n.Commit = 1, numberedLog(base, count), commit
	return n
}

// Each number is chosen once, at its place: none that was chosen already, none ahead of which one is lacking, and none that is not committed.
func TestNoteChooses(t *testing.T) {
	grew, lacked := 0, 0
	for base := range 6 {
		for count := range 6 {
			for commit := -1; commit <= base+count+2; commit++ {
				for chosen := range 13 {
					want := chosen
					if chosen >= base {
						want = max(chosen, min(commit, base+count))
					}
					came := noted(t, "one that committed", chosen, committer(base, count, commit))
					if !slices.Equal(came.Chosen, row(want)) {
						t.Error("entries behind", base, "committed to", commit, "where", chosen, "are chosen came to", came.Chosen)
					}
					if want > chosen {
						grew++
					}
					if chosen < base && commit > base {
						lacked++
					}
				}
			}
		}
	}
	if grew < 200 || lacked < 200 {
		t.Error("too much alike:", grew, lacked)
	}
}

// The row of what is chosen, and the ends of it, by hand.
func TestNoteByHand(t *testing.T) {
	for _, c := range []struct {
		name                              string
		base, count, commit, chosen, want int
	}{
		{"nothing", 0, 0, 0, 0, 0},
		{"entries that are not committed", 0, 3, 0, 0, 0},
		{"the first one", 0, 3, 1, 0, 1},
		{"some of them", 0, 3, 2, 0, 2},
		{"all of them", 0, 3, 3, 0, 3},
		{"one more", 0, 3, 3, 2, 3},
		{"as many as chosen", 0, 3, 3, 3, 3},
		{"less than chosen", 0, 3, 2, 3, 3},
		{"far less than chosen", 0, 3, 1, 50, 50},
		{"Base at what is chosen", 5, 3, 7, 5, 7},
		{"Base below what is chosen", 5, 3, 8, 6, 8},
		{"Base above what is chosen", 5, 3, 8, 4, 4},
		{"Base far above what is chosen", 5, 3, 8, 0, 0},
		{"Base above what is chosen, and Commit there", 5, 3, 5, 4, 4},
		{"Base above what is chosen, and no entries", 5, 0, 5, 2, 2},
		{"Commit beyond the last one", 0, 3, 9, 1, 3},
		{"Commit beyond the last one, and all chosen", 0, 3, 9, 3, 3},
		{"Commit beyond the last one, and more chosen", 0, 3, 9, 4, 4},
		{"up to one less than the limit", 1990, 20, 1999, 1995, 1999},
		{"up to the limit", 1990, 20, 2000, 1995, 2000},
		{"up to one more than the limit", 1990, 20, 2001, 1995, 2000},
		{"far beyond the limit", 1990, 20, 2010, 1999, 2000},
		{"one less than full", 1990, 20, 2000, 1999, 2000},
		{"a full one", 1990, 20, 2001, 2000, 2000},
		{"a full one, and much more", 1990, 20, 2010, 2000, 2000},
		{"one that has one too many", 1990, 20, 2010, 2001, 2001},
		{"one that has many too many", 1990, 20, 2010, 2005, 2005},
		{"all at once", 0, 2500, 2500, 0, 2000},
		{"all at once, up to the limit", 0, 2000, 2000, 0, 2000},
		{"all at once, up to one less", 0, 1999, 1999, 0, 1999},
	} {
		came := noted(t, c.name, c.chosen, committer(c.base, c.count, c.commit))
		if !slices.Equal(came.Chosen, row(c.want)) {
			t.Error(c.name, "came to", len(came.Chosen), "and not to", c.want)
		}
	}
}

// Numbers of 64 bits: there is no entry beyond the greatest one, and none ahead of the first.
func TestNoteNumbersAtTheirEnds(t *testing.T) {
	for _, commit := range edgeNumbers {
		for _, base := range edgeNumbers {
			for _, chosen := range []int{0, 1, 3, 1998, 2000, 2001} {
				n := committer(base, 0, commit)
				n.Log = numberedLog(0, 4)
				n.Log.Base = base
				came := noted(t, "an end as Commit or Base", chosen, n)
				if base == 0 && chosen == 1 && len(came.Chosen) != max(1, min(4, commit)) {
					t.Error("Commit", commit, "came to", came.Chosen)
				}
			}
		}
	}
	n := committer(0, 4, 4)
	for i := range numbersIn(&n) {
		for _, end := range edgeNumbers {
			for _, role := range roles {
				n := committer(0, 4, 4)
				n.Role = role
				*numbersIn(&n)[i] = end
				noted(t, "an end as a number", 2, n)
			}
		}
	}
}

func TestNoteLed(t *testing.T) {
	for _, role := range append([]int{-1, 3, math.MaxInt, math.MinInt}, roles...) {
		for _, wasRole := range append([]int{-1, 3}, roles...) {
			for term := range 4 {
				for wasTerm := range 4 {
					for id := range 3 {
						w := plainWorld()
						w.Nodes[id].Role, w.Nodes[id].Term = wasRole, wasTerm
						n := w.Nodes[id]
						n.Role, n.Term = role, term
						came := notes(t, "one that may lead", w, id, n)
						led := came.Led[3:]
						want := role == impl.RoLead && (wasRole != impl.RoLead || wasTerm != term)
						if want && !slices.Equal(led, []impl.Lead{{Term: term, Id: id}}) || !want && len(led) != 0 {
							t.Error("Role", role, "of Term", term, "behind Role", wasRole, "of Term", wasTerm, "came to", led)
						}
						if again := notes(t, "the same", came, id, n); !sameWorld(again, came) {
							t.Error("noted twice it came to", again.Led)
						}
					}
				}
			}
		}
	}
}

// Who led in a Term, fell, and leads in it again is told of twice; another one that leads does not count.
func TestNoteLedAgain(t *testing.T) {
	w := newWorld(3)
	n := w.Nodes[1]
	n.Term, n.Role = 4, impl.RoLead
	w = notes(t, "it leads", w, 1, n)
	w = notes(t, "it rose", w, 1, impl.Rise(n, 3))
	w = notes(t, "it leads again", w, 1, n)
	o := w.Nodes[2]
	o.Term, o.Role = 4, impl.RoLead
	w = notes(t, "another one leads", w, 2, o)
	if want := []impl.Lead{{Term: 4, Id: 1}, {Term: 4, Id: 1}, {Term: 4, Id: 2}}; !slices.Equal(w.Led, want) {
		t.Error("came to", w.Led)
	}
}

func TestNoteLedAtTheLimit(t *testing.T) {
	for _, have := range []int{0, 1, 1998, 1999, 2000, 2001, 2002} {
		w := newWorld(3)
		w.Led = leads(have)
		n := w.Nodes[2]
		n.Term, n.Role = 100000, impl.RoLead
		want := leads(have)
		if have < 2000 {
			want = append(want, impl.Lead{Term: 100000, Id: 2})
		}
		came := notes(t, "one that leads", w, 2, n)
		if !slices.Equal(came.Led, want) || !sameNode(came.Nodes[2], n) || impl.WorldOk(came) != (have <= 2000) {
			t.Error("behind", have, "came to", len(came.Led))
		}
	}
}

// A list that is full leaves the others their room, and the node its place.
func TestNoteWhereAllIsFull(t *testing.T) {
	n := committer(0, 2001, 2001)
	n.Role = impl.RoLead
	for _, c := range []struct{ chosen, led, wantChosen, wantLed int }{
		{2000, 7, 2000, 8}, {1999, 2000, 2000, 2000}, {2000, 2000, 2000, 2000}, {1999, 1999, 2000, 2000}, {2001, 2001, 2001, 2001},
	} {
		w := newWorld(3)
		w.Chosen, w.Led, w.Net, w.Acks = row(c.chosen), leads(c.led), onTheWay(1, 30), each(2000, had(1, 1, 1))
		came := notes(t, "a full one", w, 1, n)
		if len(came.Chosen) != c.wantChosen || len(came.Led) != c.wantLed || !sameNode(came.Nodes[1], n) || len(came.Net) != 30 || len(came.Acks) != 2000 {
			t.Error("of", c, "came to", len(came.Chosen), len(came.Led))
		}
	}
}

func TestNoteWhereThereIsNoNode(t *testing.T) {
	for size := 1; size <= 5; size++ {
		for _, i := range append([]int{3, 4, 5, 6}, edgeNumbers...) {
			w := newWorld(size)
			n := small(size)
			n.Role = impl.RoLead
			came := notes(t, "some place", w, i, n)
			if there := i >= 0 && i < size; there != (len(came.Led) == 1) || there != !sameWorld(came, w) {
				t.Error("place", i, "of", size, "came to", came)
			}
		}
	}
	n := committer(0, 3, 3)
	n.Role = impl.RoLead
	for _, size := range edgeNumbers {
		w := plainWorld()
		w.Size = size
		for i := -1; i <= 4; i++ {
			came := notes(t, "another Size", w, i, n)
			if there := i >= 0 && i < min(size, 3); there != !sameWorld(came, w) {
				t.Error("place", i, "of three as", size, "came to", came)
			}
		}
	}
	if came := notes(t, "the zero value", impl.World{}, 0, n); !sameWorld(came, impl.World{}) {
		t.Error("came to", came)
	}
}

// What is noted is not asked whether it is right, nor is the world.
func TestNoteOfWhatIsWrong(t *testing.T) {
	for _, c := range slices.Concat(goodTurns(), badTurns()) {
		n := turnedNode(c)
		for i := range 3 {
			came := notes(t, c.name, plainWorld(), i, n)
			if !sameNode(came.Nodes[i], n) || impl.WorldOk(came) != (nodeOkByTheWord(n, 3) && n.Id == i) {
				t.Error(c.name, "came to", came.Nodes[i])
			}
		}
	}
	n := committer(0, 9, 9)
	n.Role = impl.RoLead
	for _, c := range badWorldTurns() {
		if w := turnedWorld(c); len(w.Nodes) < 1000 {
			notes(t, c.name, w, 1, n)
		}
	}
	n.Log.List[7].C, n.Id = badCmds[3], 77
	came := notes(t, "what is no command", plainWorld(), 1, n)
	if len(came.Chosen) != 9 || came.Chosen[7] != badCmds[3] || came.Led[3] != (impl.Lead{Term: 1, Id: 77}) {
		t.Error("came to", came)
	}
}

// thrownWorld: one of so many that is right, whose nodes cut off little, so that what is chosen is about as long as their logs.
func thrownWorld(d *dice, size int) impl.World {
	w := impl.World{Size: size}
	longest, least := 0, 0
	if d.below(5) == 0 {
		least = 1994 // so that what is chosen comes to its limit
	}
	for id := range size {
		n := thrownNodeOf(d, size)
		base := least + d.below(6)
		n.Id, n.Commit, n.Log.Base = id, n.Commit-n.Log.Base+base, base
		last := base + len(n.Log.List)
		for i := range size {
			n.Next[i], n.Match[i] = 1+d.below(last+1), d.below(last+1)
		}
		w.Nodes = append(w.Nodes, n)
		longest = max(longest, last)
	}
	w.Chosen = row(min(2000, d.below(longest+4)))
	w.Led = leadsOf(d, size, d.below(5))
	for range d.below(5) {
		w.Acks = append(w.Acks, impl.Done{Client: 1 + d.below(9), Seq: 1 + d.below(100000), V: d.below(50) - 25, Has: d.below(2) > 0})
	}
	w.Net = thrownNet(d, size, []int{0, 1, 3, 10, 28, 29, 30}[d.below(7)])
	if least > 0 {
		w.Chosen = row(1996 + d.below(5))
	}
	if d.below(12) == 0 {
		w.Led = leadsOf(d, size, 1998+d.below(3))
	}
	return w
}

func leadsOf(d *dice, size, count int) []impl.Lead {
	var list []impl.Lead
	for i := range count {
		list = append(list, impl.Lead{Term: i, Id: d.below(size)})
	}
	return list
}

// thrownNet: so many that are right; none where there is nobody who tells something.
func thrownNet(d *dice, size, count int) []impl.Rpc {
	var list []impl.Rpc
	for size > 1 && len(list) < count {
		if r := thrownRpc(d, size); rpcOkByTheWord(r, size) {
			list = append(list, r)
		}
	}
	return list
}

// marredWorld: something of it is another number, or another thing.
func marredWorld(d *dice, w impl.World) impl.World {
	w.Nodes, w.Net, w.Chosen, w.Acks, w.Led = slices.Clone(w.Nodes), slices.Clone(w.Net), slices.Clone(w.Chosen), slices.Clone(w.Acks), slices.Clone(w.Led)
	numbers := slices.Concat(listNumbers(&w), freeNumbers(&w))
	at := numbers[d.below(len(numbers))]
	id := d.below(len(w.Nodes))
	switch d.below(10) {
	case 0:
		*at = edgeNumbers[d.below(len(edgeNumbers))]
	case 1:
		*at += d.below(3) - 1
	case 2:
		w.Size += d.below(3) - 1
	case 3:
		w.Nodes[id] = marredNode(d, w.Nodes[id])
	case 4:
		w.Nodes[id].Id = d.below(w.Size)
	case 5:
		w.Nodes = append(w.Nodes[:len(w.Nodes)-d.below(2)], slices.Clone(w.Nodes[:d.below(2)])...)
	case 6:
		w.Net = append(w.Net, thrownRpc(d, w.Size))
	case 7:
		w.Chosen = append(w.Chosen, thrownCmds(d, 1, 1001)...)
	case 8:
		w.Acks = append(w.Acks, impl.Done{Client: d.below(12) - 1, Seq: 1})
	default:
		w.Led = append(w.Led, impl.Lead{Id: d.below(w.Size+2) - 1})
	}
	return w
}

// thrownNoted: what the node at that place may come to, or another one altogether.
func thrownNoted(d *dice, w impl.World, i int) impl.Node {
	size := max(1, min(w.Size, 5))
	if i < 0 || i >= len(w.Nodes) || d.below(4) == 0 {
		return marredNode(d, thrownNodeOf(d, size))
	}
	n := w.Nodes[i]
	last, _ := impl.LastOf(n.Log)
	switch d.below(7) {
	case 0:
		n, _ = impl.Ask(n, size)
	case 1:
		n.Role = impl.RoLead
	case 2:
		n.Role, n.Term = impl.RoLead, n.Term+d.below(3)-1
	case 3:
		n = impl.Rise(n, size)
	case 4:
		n, _ = impl.Hear(n, size, thrownHeard(d, n, size))
	default:
		n = impl.CommitTo(n, size, last-d.below(3))
	}
	return n
}

// worldTally counts what thrown worlds came to, so that a test can tell that they were not all alike.
type worldTally struct{ fine, wrong, sent, part, chosen, full, lacked, led, stayed int }

func (c *worldTally) of(w, sent, noted impl.World, list int, i int, n impl.Node) {
	count := func(here *int, is bool) {
		if is {
			*here++
		}
	}
	count(&c.fine, worldOkByTheWord(w))
	count(&c.wrong, !worldOkByTheWord(w))
	count(&c.sent, list > 0 && len(sent.Net) == len(w.Net)+list)
	count(&c.part, len(sent.Net) > len(w.Net) && len(sent.Net) < len(w.Net)+list)
	count(&c.chosen, len(noted.Chosen) > len(w.Chosen))
	count(&c.full, n.Commit > len(noted.Chosen) && len(noted.Chosen) == 2000)
	count(&c.lacked, i >= 0 && i < len(w.Nodes) && n.Commit > len(w.Chosen) && n.Log.Base > len(w.Chosen))
	count(&c.led, len(noted.Led) > len(w.Led))
	count(&c.stayed, sameWorld(noted, w))
}

// worldByTheWord: one world held against the chapter's words, and P12.
func worldByTheWord(t *testing.T, d *dice, c *worldTally, w impl.World) {
	t.Helper()
	fine := worldOkByTheWord(w)
	if impl.WorldOk(w) != fine {
		t.Fatal("not as by the word:", w)
	}
	var list []impl.Rpc
	for range d.below(5) {
		list = append(list, thrownRpc(d, max(1, min(w.Size, 5))))
	}
	sent := sends(t, "a thrown one", w, list...)
	i := d.below(len(w.Nodes)+3) - 1
	n := thrownNoted(d, w, i)
	came := notes(t, "a thrown one", w, i, n)
	c.of(w, sent, came, len(list), i, n)
	if fine && nodeOkByTheWord(n, w.Size) && n.Id == i && !impl.WorldOk(came) {
		t.Fatal("is no world any more:", came)
	}
	if again := notes(t, "again", came, i, n); !sameWorld(again, came) {
		t.Fatal("noted twice it came to", again, "and not to", came)
	}
}

func TestThrownWorlds(t *testing.T) {
	t.Parallel()
	d := &dice{121}
	var c worldTally
	for i := range 2000 {
		w := thrownWorld(d, 1+i%5)
		if !worldOkByTheWord(w) {
			t.Fatal("no fair question:", w)
		}
		worldByTheWord(t, d, &c, w)
		worldByTheWord(t, d, &c, marredWorld(d, w))
	}
	if min(c.fine, c.wrong, c.sent, c.part, c.chosen, c.full, c.lacked, c.led, c.stayed) < 50 {
		t.Error("the worlds are too much alike:", c)
	}
}

// agree: what the nodes of a world know of what was chosen, and that no Term has two that led.
func agree(t *testing.T, w impl.World) {
	t.Helper()
	if !impl.WorldOk(w) {
		t.Fatal("is no world any more:", w)
	}
	for _, n := range w.Nodes {
		for i := n.Log.Base + 1; i <= n.Commit; i++ {
			if i > len(w.Chosen) || w.Chosen[i-1] != n.Log.List[i-n.Log.Base-1].C {
				t.Fatal("number", i, "was not chosen so:", n, w.Chosen)
			}
		}
		if n.Commit > len(w.Chosen) || !sameAs(n.Now, w.Chosen[:n.Commit]) || !sameAs(n.Snap, w.Chosen[:n.Log.Base]) {
			t.Fatal("has another machine than comes of what was chosen:", n, w.Chosen)
		}
		if n.Role == impl.RoLead && !slices.Contains(w.Led, impl.Lead{Term: n.Term, Id: n.Id}) {
			t.Fatal("leads, and was not noted:", n, w.Led)
		}
	}
	ids := map[int]int{}
	for _, l := range w.Led {
		if first, has := ids[l.Term]; has && first != l.Id {
			t.Fatal("two led in one Term:", w.Led)
		}
		ids[l.Term] = l.Id
	}
}

// moved: a world in which something happened, by what the nodes come to and tell.
func moved(t *testing.T, d *dice, w impl.World, next impl.Cmd) impl.World {
	t.Helper()
	n := w.Nodes[d.below(w.Size)]
	switch d.below(16) {
	case 0:
		asked, list := impl.Ask(n, w.Size)
		return sends(t, "asked", notes(t, "asked", w, n.Id, asked), list...)
	case 1, 2, 3:
		for to := range w.Size {
			if r, ok := impl.Feed(n, w.Size, to); ok {
				w = sends(t, "fed", w, r)
			}
		}
		return w
	case 4, 5, 6:
		took, _ := impl.Propose(n, w.Size, next)
		return notes(t, "handed in", w, n.Id, took)
	case 7:
		return notes(t, "made compact", w, n.Id, impl.Compact(n, w.Size, n.Log.Base+d.below(n.Commit-n.Log.Base+1)))
	case 8:
		return notes(t, "risen", w, n.Id, impl.Rise(n, w.Size))
	}
	if len(w.Net) == 0 {
		return w
	}
	at := d.below(len(w.Net))
	r := w.Net[at]
	w.Net = slices.Delete(slices.Clone(w.Net), at, at+1)
	if d.below(12) == 0 {
		return w
	}
	came, list := impl.Hear(w.Nodes[r.To], w.Size, r)
	return sends(t, "heard", notes(t, "heard", w, r.To, came), list...)
}

// P12 over a while, in worlds of each size: they stay right, what was chosen stays, and all nodes have just that.
func TestWorldsOverAWhile(t *testing.T) {
	d := &dice{122}
	chosen, led, full := 0, 0, 0
	for i := range 60 {
		w := newWorld(1 + i%5)
		for _, next := range thrownCmds(d, 250, 60) {
			was := w
			w = moved(t, d, w, next)
			added(t, "over a while", was.Chosen, w.Chosen, alike)
			added(t, "over a while", was.Led, w.Led, alike)
			agree(t, w)
			if len(w.Net) == 30 {
				full++
			}
		}
		chosen, led = chosen+len(w.Chosen), led+len(w.Led)
	}
	if chosen < 500 || led < 100 || full < 20 {
		t.Error("too little happens:", chosen, led, full)
	}
}

// A world in which a leader is chosen, feeds, and commits, step by step.
func TestWorldByHand(t *testing.T) {
	w := newWorld(3)
	c := cmd(2, 1, put(5, 7))
	asked, list := impl.Ask(w.Nodes[0], 3)
	w = sends(t, "asked", notes(t, "asked", w, 0, asked), list...)
	if len(w.Net) != 2 || len(w.Led) != 0 || w.Nodes[0].Role != impl.RoStand {
		t.Fatal("asked, it came to", w)
	}
	heard1, list := impl.Hear(w.Nodes[1], 3, w.Net[0])
	w.Net = w.Net[1:]
	w = sends(t, "voted", notes(t, "voted", w, 1, heard1), list...)
	led, list := impl.Hear(w.Nodes[0], 3, w.Net[1])
	w = sends(t, "led", notes(t, "led", w, 0, led), list...)
	if !slices.Equal(w.Led, []impl.Lead{{Term: 1, Id: 0}}) || len(w.Chosen) != 0 || len(w.Net) != 2 {
		t.Fatal("chosen, it came to", w)
	}
	took, _ := impl.Propose(w.Nodes[0], 3, c)
	w = notes(t, "handed in", w, 0, took)
	r, _ := impl.Feed(w.Nodes[0], 3, 1)
	w = sends(t, "fed", w, r)
	has, list := impl.Hear(w.Nodes[1], 3, w.Net[2])
	w = sends(t, "heard", notes(t, "heard", w, 1, has), list...)
	got, list := impl.Hear(w.Nodes[0], 3, w.Net[3])
	w = sends(t, "counted", notes(t, "counted", w, 0, got), list...)
	if !slices.Equal(w.Chosen, cmds(impl.Cmd{}, c)) || len(w.Net) != 4 || len(w.Led) != 1 {
		t.Error("committed, it came to", w)
	}
	agree(t, w)
}

// Who is alone leads and commits at once: both are noted in one go.
func TestNoteOfWhoIsAlone(t *testing.T) {
	w := newWorld(1)
	n, _ := impl.Ask(w.Nodes[0], 1)
	w = notes(t, "alone", w, 0, n)
	if !slices.Equal(w.Led, []impl.Lead{{Term: 1}}) || !slices.Equal(w.Chosen, cmds(impl.Cmd{})) {
		t.Error("came to", w)
	}
	for number := 2; number <= 5; number++ {
		n, _ = impl.Propose(w.Nodes[0], 1, numbered(number))
		w = notes(t, "handed in", w, 0, n)
		if len(w.Chosen) != number || w.Chosen[number-1] != numbered(number) || len(w.Led) != 1 {
			t.Error("came to", w)
		}
		agree(t, w)
	}
}

// All that a world has run for itself is over when the call answers, and calls side by side tell the same, however often.
func TestWorldOkSideBySide(t *testing.T) {
	good, bad := plainWorld(), plainWorld()
	good.Net = slices.Concat(good.Net, onTheWay(1, 25))
	bad.Net = slices.Concat(onTheWay(1, 29), []impl.Rpc{vote(0, 0, 1, true)})
	before := runtime.NumGoroutine()
	var all sync.WaitGroup
	var wrong [20]bool
	for i := range wrong {
		all.Add(1)
		go func() {
			defer all.Done()
			for range 100 {
				wrong[i] = wrong[i] || !impl.WorldOk(good) || impl.WorldOk(bad)
			}
		}()
	}
	all.Wait()
	if slices.Contains(wrong[:], true) {
		t.Error("told another thing:", wrong)
	}
	for range 1000000 {
		if runtime.NumGoroutine() <= before {
			return
		}
		runtime.Gosched() // who is over may still be on its way out
	}
	t.Error("still at work:", runtime.NumGoroutine()-before)
}

// roomyWorld: the same world, each list of which has room behind it that is filled; and these lists with their room.
func roomyWorld(w impl.World) (impl.World, []any) {
	var wholes []any
	var nodes []impl.Node
	for _, n := range w.Nodes {
		roomed, list := roomyNode(n)
		nodes, wholes = append(nodes, roomed), append(wholes, list...)
	}
	var net []impl.Rpc
	for _, r := range w.Net {
		roomed, list := roomyRpc(r)
		net, wholes = append(net, roomed), append(wholes, list...)
	}
	var wholeNodes, wholeNet, wholeChosen, wholeAcks, wholeLed func() []any
	w.Nodes, wholeNodes = roomyAny(nodes, impl.Node{Id: -77})
	w.Net, wholeNet = roomyAny(net, impl.Rpc{Kind: -77})
	w.Chosen, wholeChosen = roomyAny(w.Chosen, numbered(77))
	w.Acks, wholeAcks = roomyAny(w.Acks, none(-77, -77))
	w.Led, wholeLed = roomyAny(w.Led, impl.Lead{Term: -77})
	return w, slices.Concat(wholes, wholeNodes(), wholeNet(), wholeChosen(), wholeAcks(), wholeLed())
}

func roomyAny[E any](list []E, filler E) ([]E, func() []any) {
	roomed, whole := roomy(list, filler)
	return roomed, func() []any { return []any{whole()} }
}

func spoilWorld(w impl.World) {
	for _, n := range w.Nodes {
		spoilNode(n)
	}
	for _, r := range w.Net {
		spoilRpc(r)
	}
	spoil(w.Nodes, impl.Node{Id: -88})
	spoil(w.Net, impl.Rpc{Kind: -88})
	spoil(w.Chosen, numbered(88))
	spoil(w.Acks, none(-88, -88))
	spoil(w.Led, impl.Lead{Term: -88})
}

type worldArgument struct {
	W impl.World
	L []impl.Rpc
	N impl.Node
}

// worldsInTheirOwnMemory: nothing is written into what is handed in, nor into the room behind its lists, and no answer shares memory with it.
func worldsInTheirOwnMemory(t *testing.T, name string, plain worldArgument) {
	t.Helper()
	roomed := func() (worldArgument, []any) {
		w, wholes := roomyWorld(plain.W)
		n, more := roomyNode(plain.N)
		l, whole := roomy(plain.L, impl.Rpc{Kind: -77})
		return worldArgument{w, l, n}, slices.Concat(wholes, more, []any{whole()})
	}
	a, wholes := roomed()
	_, kept := roomed()
	for _, of := range []worldArgument{a, plain} {
		impl.WorldOk(of.W)
		answers := []impl.World{impl.Send(of.W, of.L), impl.Send(of.W, of.W.Net), impl.Send(of.W, nil)}
		for i := -1; i <= len(of.W.Nodes); i++ {
			answers = append(answers, impl.Note(of.W, i, of.N))
			if i >= 0 && i < len(of.W.Nodes) {
				answers = append(answers, impl.Note(of.W, i, of.W.Nodes[i]))
			}
		}
		for _, came := range answers {
			apart(t, name, came, of)
			spoilWorld(came)
		}
	}
	if !reflect.DeepEqual(wholes, kept) || !sameWorld(plain.W, a.W) || !sameNode(plain.N, a.N) || !slices.EqualFunc(plain.L, a.L, sameRpc) {
		t.Fatal("written into, or memory shared with an answer:", name)
	}
}

// oneMemoryWorld: a world whose lists of one kind are one.
func oneMemoryWorld(role int) impl.World {
	n := rightOneMemory(role)
	w := impl.World{Size: 3, Nodes: each(3, n), Net: heardBy(impl.RpSnap), Chosen: row(4)}
	for id := range w.Nodes {
		w.Nodes[id].Id = id
	}
	for i := range w.Net {
		w.Net[i].Entries, w.Net[i].Snap = n.Log.List, n.Snap
	}
	w.Acks = n.Now.Last
	return w
}

func TestWorldsAreNotWrittenInto(t *testing.T) {
	t.Parallel()
	for _, role := range roles {
		n := busy(role, 14)
		n.Log.Base, n.Commit = 2, 8
		w := oneMemoryWorld(role)
		worldsInTheirOwnMemory(t, "one memory", worldArgument{w, w.Net, w.Nodes[1]})
		worldsInTheirOwnMemory(t, "one memory, and a busy one", worldArgument{w, heardBy(impl.RpPut), n})
		worldsInTheirOwnMemory(t, "a busy one", worldArgument{plainWorld(), heardBy(impl.RpPut), n})
		worldsInTheirOwnMemory(t, "a new one", worldArgument{newWorld(3), heardBy(impl.RpSnap), n})
		worldsInTheirOwnMemory(t, "the zero value", worldArgument{impl.World{}, heardBy(impl.RpSnap), n})
		for _, c := range sharing() {
			w := plainWorld()
			for i := range w.Nodes {
				w.Nodes[i].Snap.T, w.Nodes[i].Now.T = c.tree, c.tree
			}
			for i := range w.Net {
				w.Net[i].Snap.T = c.tree
			}
			worldsInTheirOwnMemory(t, c.name, worldArgument{w, w.Net, w.Nodes[0]})
		}
	}
	n := committer(0, 9, 9)
	n.Role = impl.RoLead
	seen := map[string]bool{}
	for _, c := range slices.Concat(goodWorldTurns(), badWorldTurns()) {
		w := turnedWorld(c)
		if seen[c.name] || len(w.Nodes) > 1000 || len(w.Net) > 1000 {
			continue
		}
		seen[c.name] = true
		worldsInTheirOwnMemory(t, c.name, worldArgument{w, onTheWay(9, 3), n})
	}
}

// Two new ones share nothing, nor do the nodes of one.
func TestNewWorldsAreApart(t *testing.T) {
	for size := 1; size <= 5; size++ {
		first, second := newWorld(size), newWorld(size)
		apart(t, "two new ones", first, second)
		spoilWorld(first)
		if again := newWorld(size); !impl.WorldOk(second) || !sameWorld(again, second) {
			t.Error("share memory:", again)
		}
	}
}

// Trees that hold themselves, or one list ever again: all calls end, and what they answer is theirs.
func TestStrangeWorldsStay(t *testing.T) {
	for _, c := range append(strangeTrees(), treeCase{name: "one met ever again", tree: manyfold()}) {
		depth := 12
		if len(c.tree.Kids) > 2 {
			depth = 1
		}
		strange := small(3)
		strange.Id, strange.Now.T = 1, c.tree
		w := newWorld(3)
		w.Nodes[1] = strange
		other := newWorld(3)
		other.Net = []impl.Rpc{toIt(impl.RpPut)}
		other.Net[0].Snap.T = c.tree
		if impl.WorldOk(w) || !impl.WorldOk(other) {
			t.Error(c.name, "is told of wrongly")
		}
		for _, came := range []impl.World{impl.Send(w, onTheWay(1, 1)), impl.Note(w, 0, small(3)), impl.Note(w, 7, small(3)), impl.Note(newWorld(3), 1, strange)} {
			got := came.Nodes[1].Now.T
			if impl.WorldOk(came) || !sameDown(depth, got, c.tree) {
				t.Error(c.name, "did not stay")
			}
			got.Kids[0].Leaf = !got.Kids[0].Leaf
			if c.tree.Kids[0].Leaf == got.Kids[0].Leaf {
				t.Error(c.name, "shares memory with the answer")
			}
		}
		for _, came := range []impl.World{impl.Send(other, onTheWay(1, 1)), impl.Note(other, 0, small(3)), impl.Send(newWorld(3), other.Net)} {
			if got := came.Net[0].Snap.T; !sameDown(depth, got, c.tree) {
				t.Error(c.name, "did not stay on its way")
			}
		}
	}
}
