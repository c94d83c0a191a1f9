package tests

import (
	"math"
	"reflect"
	"slices"
	"testing"

	"loop.example/g00234/impl"
)

func sameRpc(a, b impl.Rpc) bool {
	return a.Kind == b.Kind && a.From == b.From && a.To == b.To && a.Term == b.Term && a.Index == b.Index && a.IndexTerm == b.IndexTerm &&
		a.Commit == b.Commit && a.Ok == b.Ok && slices.Equal(a.Entries, b.Entries) && sameMachine(a.Snap, b.Snap)
}

var rpcKinds = []int{impl.RpAsk, impl.RpVote, impl.RpPut, impl.RpGot, impl.RpSnap}

// plainRpc: from number 0 to number 2 of three, all of whose numbers stand between their limits.
func plainRpc(kind int) impl.Rpc {
	return impl.Rpc{
		Kind: kind, From: 0, To: 2, Term: 5, Index: 3, IndexTerm: 4, Commit: 2,
		Entries: entries(0, 3, 3, 4), Snap: machine(leaf(1, 1), had(1, 1, 1)),
	}
}

type rpcTurn struct {
	name string
	turn func(r *impl.Rpc)
}

// rpcNumbers: each number of what is told but those of its entries and machine.
func rpcNumbers(r *impl.Rpc) []*int {
	return []*int{&r.Kind, &r.From, &r.To, &r.Term, &r.Index, &r.IndexTerm, &r.Commit}
}

// goodRpcTurns: of plainRpc, of any Kind. The limits are written out here as numbers: a limit that moved would show.
func goodRpcTurns() []rpcTurn {
	list := []rpcTurn{
		{"as it is", func(r *impl.Rpc) {}},
		{"Ok", func(r *impl.Rpc) { r.Ok = true }},
		{"the other way round", func(r *impl.Rpc) { r.From, r.To = 2, 0 }},
		{"side by side", func(r *impl.Rpc) { r.From, r.To = 0, 1 }},
		{"from the last one", func(r *impl.Rpc) { r.From, r.To = 2, 1 }},
		{"all at 0", func(r *impl.Rpc) {
			r.To, r.Term, r.Index, r.IndexTerm, r.Commit, r.Entries = 1, 0, 0, 0, 0, nil
		}},
		{"Term at 0, and entries of it", func(r *impl.Rpc) { r.Term, r.Entries = 0, entries(0, 0, 0) }},
		{"Term at its limit", func(r *impl.Rpc) { r.Term = 100000 }},
		{"Index at 0", func(r *impl.Rpc) { r.Index = 0 }},
		{"Index at its limit", func(r *impl.Rpc) { r.Index = 100000 }},
		{"IndexTerm at 0", func(r *impl.Rpc) { r.IndexTerm = 0 }},
		{"IndexTerm above Term", func(r *impl.Rpc) { r.IndexTerm = 6 }},
		{"IndexTerm at its limit", func(r *impl.Rpc) { r.IndexTerm = 100000 }},
		{"Commit at 0", func(r *impl.Rpc) { r.Commit = 0 }},
		{"Commit beyond what comes", func(r *impl.Rpc) { r.Commit = 50 }},
		{"Commit at its limit", func(r *impl.Rpc) { r.Commit = 100000 }},
		{"all at their limits", func(r *impl.Rpc) { r.Term, r.Index, r.IndexTerm, r.Commit = 100000, 100000, 100000, 100000 }},
		{"no entries", func(r *impl.Rpc) { r.Entries = nil }},
		{"an empty list", func(r *impl.Rpc) { r.Entries = []impl.Entry{} }},
		{"entries of Term 0", func(r *impl.Rpc) { r.Entries = entries(0, 0, 0) }},
		{"entries up to Term", func(r *impl.Rpc) { r.Entries = entries(0, 0, 3, 5) }},
		{"entries of Term alone", func(r *impl.Rpc) { r.Entries = entries(0, 5, 5) }},
		{"Terms that fall", func(r *impl.Rpc) { r.Entries = entries(0, 5, 0, 4) }},
		{"Terms below IndexTerm", func(r *impl.Rpc) { r.IndexTerm, r.Entries = 4, entries(0, 1) }},
		{"a Term at the limit", func(r *impl.Rpc) { r.Term, r.Entries = 100000, entries(0, 99999, 100000) }},
		{"entries beyond the greatest number", func(r *impl.Rpc) { r.Index, r.Entries = 100000, entries(0, 1, 1) }},
	}
	for _, c := range goodCmds {
		list = append(list, rpcTurn{"a good command", func(r *impl.Rpc) {
			r.Entries = []impl.Entry{{Term: 1, C: c}, entry(2, 2), {Term: 5, C: c}}
		}})
	}
	for _, last := range goodLasts {
		list = append(list, rpcTurn{"a good Last", func(r *impl.Rpc) { r.Snap.Last = last }})
	}
	for _, c := range goodTrees() {
		list = append(list, rpcTurn{"a good tree: " + c.name, func(r *impl.Rpc) { r.Snap.T = c.tree }})
	}
	return list
}

func badRpcTurns() []rpcTurn {
	list := []rpcTurn{
		{"the zero value", func(r *impl.Rpc) { *r = impl.Rpc{} }},
		{"the zero value to another one", func(r *impl.Rpc) { *r = impl.Rpc{To: 1} }},
		{"Kind at 0", func(r *impl.Rpc) { r.Kind = 0 }},
		{"Kind at 6", func(r *impl.Rpc) { r.Kind = 6 }},
		{"Kind at -1", func(r *impl.Rpc) { r.Kind = -1 }},
		{"to itself, at 0", func(r *impl.Rpc) { r.From, r.To = 0, 0 }},
		{"to itself, in the middle", func(r *impl.Rpc) { r.From, r.To = 1, 1 }},
		{"to itself, at size - 1", func(r *impl.Rpc) { r.From, r.To = 2, 2 }},
		{"From at -1", func(r *impl.Rpc) { r.From = -1 }},
		{"From at size", func(r *impl.Rpc) { r.From = 3 }},
		{"To at -1", func(r *impl.Rpc) { r.To = -1 }},
		{"To at size", func(r *impl.Rpc) { r.To = 3 }},
		{"both beyond", func(r *impl.Rpc) { r.From, r.To = 3, 4 }},
		{"both below 0", func(r *impl.Rpc) { r.From, r.To = -1, -2 }},
		{"Term at -1", func(r *impl.Rpc) { r.Term = -1 }},
		{"Term at -1, and no entries", func(r *impl.Rpc) { r.Term, r.Entries = -1, nil }},
		{"Term one beyond", func(r *impl.Rpc) { r.Term = 100001 }},
		{"Index at -1", func(r *impl.Rpc) { r.Index = -1 }},
		{"Index one beyond", func(r *impl.Rpc) { r.Index = 100001 }},
		{"IndexTerm at -1", func(r *impl.Rpc) { r.IndexTerm = -1 }},
		{"IndexTerm one beyond", func(r *impl.Rpc) { r.IndexTerm = 100001 }},
		{"Commit at -1", func(r *impl.Rpc) { r.Commit = -1 }},
		{"Commit one beyond", func(r *impl.Rpc) { r.Commit = 100001 }},
		{"Term 0, and an entry of 1", func(r *impl.Rpc) { r.Term, r.Entries = 0, entries(0, 0, 1) }},
		{"a Term beyond the limit", func(r *impl.Rpc) { r.Term, r.Entries = 100000, entries(0, 100001) }},
	}
	for _, term := range []int{-1, 6, math.MinInt, math.MinInt + 1, math.MaxInt - 1, math.MaxInt} {
		for i := range 3 {
			list = append(list, rpcTurn{"an entry of another Term", func(r *impl.Rpc) { r.Entries[i].Term = term }})
		}
	}
	for _, c := range badCmds {
		for i := range 3 {
			list = append(list, rpcTurn{"no command", func(r *impl.Rpc) { r.Entries[i].C = c }})
		}
	}
	for _, end := range []int{math.MinInt, math.MinInt + 1, math.MaxInt - 1, math.MaxInt} {
		var r impl.Rpc
		for i := range rpcNumbers(&r) {
			list = append(list, rpcTurn{"an end as a number", func(r *impl.Rpc) { *rpcNumbers(r)[i] = end }})
		}
		list = append(list, rpcTurn{"ends as all numbers", func(r *impl.Rpc) {
			for _, x := range rpcNumbers(r) {
				*x = end
			}
		}})
	}
	return list
}

// badSnaps: machines that are none.
func badSnaps() []impl.Machine {
	list := []impl.Machine{{}}
	for _, last := range badLasts {
		list = append(list, machine(leaf(1, 1), last...))
	}
	for _, c := range slices.Concat(badTrees(), strangeTrees(), []treeCase{{name: "one met ever again", tree: manyfold()}}) {
		list = append(list, machine(c.tree))
	}
	return list
}

func TestRpcKinds(t *testing.T) {
	for i, kind := range rpcKinds {
		if kind != i+1 {
			t.Error("Kind", i+1, "is", kind)
		}
	}
}

func TestRpcOk(t *testing.T) {
	for _, kind := range rpcKinds {
		for _, c := range goodRpcTurns() {
			r := plainRpc(kind)
			if c.turn(&r); !impl.RpcOk(r, 3) || !rpcOkByTheWord(r, 3) {
				t.Error("refused of Kind", kind, c.name)
			}
		}
		for _, c := range badRpcTurns() {
			r := plainRpc(kind)
			if c.turn(&r); impl.RpcOk(r, 3) || rpcOkByTheWord(r, 3) {
				t.Error("accepted of Kind", kind, c.name)
			}
		}
		for i, m := range badSnaps() {
			r := plainRpc(kind)
			r.Snap = m
			if got := impl.RpcOk(r, 3); got != (kind != 5) {
				t.Error("of Kind", kind, "with what is no machine, number", i, "told", got)
			}
		}
	}
}

func TestRpcOkBySize(t *testing.T) {
	numbers := append([]int{3, 4, 5, 6}, edgeNumbers...)
	for _, size := range numbers {
		for _, from := range numbers {
			for _, to := range numbers {
				r := plainRpc(impl.RpPut)
				r.From, r.To = from, to
				want := size <= 5 && from >= 0 && from < size && to >= 0 && to < size && from != to
				if got := impl.RpcOk(r, size); got != want {
					t.Error("told", got, "from", from, "to", to, "of", size)
				}
			}
		}
	}
}

// From and To are right at every size from 2 on, so that the limit of size alone decides beyond MaxNodes.
func TestRpcOkAtTheLimitOfSize(t *testing.T) {
	for _, kind := range rpcKinds {
		r := plainRpc(kind)
		r.From, r.To = 0, 1
		for _, size := range []int{2, 3, 4, impl.MaxNodes} {
			if !impl.RpcOk(r, size) || !rpcOkByTheWord(r, size) {
				t.Error("refused of Kind", kind, "at size", size)
			}
		}
		for _, size := range []int{math.MinInt, -1, 0, 1, impl.MaxNodes + 1, impl.MaxNodes + 2, 1 << 40, math.MaxInt - 1, math.MaxInt} {
			if impl.RpcOk(r, size) || rpcOkByTheWord(r, size) {
				t.Error("accepted of Kind", kind, "at size", size)
			}
		}
		r.From, r.To = impl.MaxNodes-1, impl.MaxNodes-2
		if !impl.RpcOk(r, impl.MaxNodes) || impl.RpcOk(r, impl.MaxNodes-1) || impl.RpcOk(r, impl.MaxNodes+1) {
			t.Error("of Kind", kind, "from the last one of MaxNodes")
		}
	}
}

func rpcOkByTheWord(r impl.Rpc, size int) bool {
	switch r.Kind {
	case 1, 2, 3, 4:
	case 5:
		if !machineOkByTheWord(r.Snap) {
			return false
		}
	default:
		return false
	}
	if size > 5 || r.From < 0 || r.From >= size || r.To < 0 || r.To >= size || r.From == r.To {
		return false
	}
	for _, x := range []int{r.Term, r.Index, r.IndexTerm, r.Commit} {
		if x < 0 || x > 100000 {
			return false
		}
	}
	for _, e := range r.Entries {
		if e.Term < 0 || e.Term > r.Term || !cmdOkByTheWord(e.C) {
			return false
		}
	}
	return true
}

// countByTheWord tries all numbers from the last one down, where the program asks for one.
func countByTheWord(n impl.Node, size int) impl.Node {
	for i := n.Log.Base + len(n.Log.List); i > n.Commit; i-- {
		have := 0
		for _, match := range n.Match {
			if match >= i {
				have++
			}
		}
		if termAtByTheWord(n.Log, i) == n.Term && 2*have > size {
			return commitByTheWord(n, size, i)
		}
	}
	return n
}

func enteredByTheWord(n impl.Node, size int, c impl.Cmd) impl.Node {
	n.Log.List = append(slices.Clone(n.Log.List), impl.Entry{Term: n.Term, C: c})
	n.Match = slices.Clone(n.Match)
	n.Match[n.Id] = n.Log.Base + len(n.Log.List)
	return countByTheWord(n, size)
}

// leadByTheWord: Next is what it is ahead of the entry that comes. It wants a node that is right.
func leadByTheWord(n impl.Node, size int) impl.Node {
	last := n.Log.Base + len(n.Log.List)
	n.Role, n.Next, n.Match = 2, each(size, last+1), each(size, 0)
	if last == 100000 {
		n.Role = 0
		return n
	}
	return enteredByTheWord(n, size, impl.Cmd{})
}

func askByTheWord(n impl.Node, size int) (impl.Node, []impl.Rpc) {
	if !nodeOkByTheWord(n, size) || n.Term == 100000 || n.Role == 2 {
		return n, nil
	}
	n.Term, n.Vote, n.Role, n.Votes = n.Term+1, n.Id, 1, each(size, false)
	n.Votes[n.Id] = true
	last := n.Log.Base + len(n.Log.List)
	var list []impl.Rpc
	for to := range size {
		if to != n.Id {
			list = append(list, impl.Rpc{Kind: 1, From: n.Id, To: to, Term: n.Term, Index: last, IndexTerm: termAtByTheWord(n.Log, last)})
		}
	}
	if size == 1 {
		n = leadByTheWord(n, size)
	}
	return n, list
}

func feedByTheWord(n impl.Node, size, to int) (impl.Rpc, bool) {
	if !nodeOkByTheWord(n, size) || n.Role != 2 || to < 0 || to >= size || to == n.Id {
		return impl.Rpc{}, false
	}
	r := impl.Rpc{From: n.Id, To: to, Term: n.Term}
	if next := n.Next[to]; next <= n.Log.Base {
		r.Kind, r.Index, r.IndexTerm, r.Snap = 5, n.Log.Base, n.Log.BaseTerm, n.Snap
	} else {
		r.Kind, r.Index, r.IndexTerm, r.Commit = 3, next-1, termAtByTheWord(n.Log, next-1), n.Commit
		r.Entries = entriesFromByTheWord(n.Log, next)
	}
	return r, true
}

func proposeByTheWord(n impl.Node, size int, c impl.Cmd) (impl.Node, bool) {
	if !nodeOkByTheWord(n, size) || n.Role != 2 || !cmdOkByTheWord(c) || n.Log.Base+len(n.Log.List) == 100000 {
		return n, false
	}
	return enteredByTheWord(n, size, c), true
}

// asks: what comes of one that asks, and what it tells; that it has voted for itself, and that what it tells is right.
func asks(t *testing.T, name string, n impl.Node, size int, want impl.Node, told ...impl.Rpc) {
	t.Helper()
	got, list := impl.Ask(n, size)
	if !sameNode(got, want) || !slices.EqualFunc(list, told, sameRpc) {
		t.Fatal(name, "came to", got, list, "and not to", want, told)
	}
	if got.Vote != got.Id || got.Term != n.Term+1 || !got.Votes[got.Id] || !impl.NodeOk(got, size) {
		t.Fatal(name, "has not voted for itself:", got)
	}
	for _, r := range list {
		if !impl.RpcOk(r, size) || !impl.Newer(n.Log, r.Index, r.IndexTerm) {
			t.Fatal(name, "told what is not right:", r)
		}
	}
}

func asksNot(t *testing.T, name string, n impl.Node, size int) {
	t.Helper()
	if got, list := impl.Ask(n, size); !sameNode(got, n) || len(list) != 0 {
		t.Fatal(name, "came to", got, list)
	}
}

// ask: what number from tells number to, of its last entry.
func ask(from, to, term, index, indexTerm int) impl.Rpc {
	return impl.Rpc{Kind: impl.RpAsk, From: from, To: to, Term: term, Index: index, IndexTerm: indexTerm}
}

func TestAsk(t *testing.T) {
	for _, role := range []int{impl.RoFollow, impl.RoStand} {
		for commit := 10; commit <= 18; commit++ {
			for vote := -1; vote <= 2; vote++ {
				n := busy(role, commit)
				n.Vote = vote
				want := busy(impl.RoStand, commit)
				want.Term, want.Vote, want.Votes = 9, 1, []bool{false, true, false}
				asks(t, "a busy one", n, 3, want, ask(1, 0, 9, 18, 7), ask(1, 2, 9, 18, 7))
			}
		}
		n := busy(role, 14)
		n.Log, n.Commit, n.Next, n.Match = logOf(14, 6), 14, each(3, 15), each(3, 14)
		want := n
		want.Role, want.Term, want.Vote, want.Votes = impl.RoStand, 9, 1, []bool{false, true, false}
		asks(t, "one whose entries were all cut off", n, 3, want, ask(1, 0, 9, 14, 6), ask(1, 2, 9, 14, 6))
	}
	for commit := 10; commit <= 18; commit++ {
		asksNot(t, "who leads", busy(impl.RoLead, commit), 3)
	}
}

func TestAskAgain(t *testing.T) {
	n, list := impl.Ask(busy(impl.RoFollow, 12), 3)
	for term := 10; term <= 30; term++ {
		want := n
		want.Term = term
		asks(t, "again", n, 3, want, ask(1, 0, term, 18, 7), ask(1, 2, term, 18, 7))
		n, list = impl.Ask(n, 3)
	}
	if n.Term != 30 || len(list) != 2 {
		t.Error("came to", n, list)
	}
}

func TestAskOfEachSize(t *testing.T) {
	for size := 2; size <= 5; size++ {
		for id := range size {
			n, _ := impl.NodeNew(id, size)
			want := n
			want.Term, want.Vote, want.Role, want.Votes = 1, id, impl.RoStand, each(size, false)
			want.Votes[id] = true
			var told []impl.Rpc
			for to := range size {
				if to != id {
					told = append(told, ask(id, to, 1, 0, 0))
				}
			}
			asks(t, "who has nothing yet", n, size, want, told...)
			if len(told) != size-1 {
				t.Error("no fair question")
			}
		}
	}
}

func TestAskAtTheLastTerm(t *testing.T) {
	for _, role := range roles {
		for size := 1; size <= 5; size++ {
			n := small(size)
			n.Role, n.Term = role, 100000
			asksNot(t, "the greatest Term", n, size)
			n.Term = 99999
			if got, list := impl.Ask(n, size); role != impl.RoLead && (got.Term != 100000 || len(list) != size-1 || !impl.NodeOk(got, size)) {
				t.Error("one below the greatest Term came to", got, list)
			}
		}
	}
	n := small(3)
	n.Term = 99999
	want := small(3)
	want.Term, want.Vote, want.Votes = 100000, 1, []bool{false, true, false}
	asks(t, "one below the greatest Term", n, 3, want, ask(1, 0, 100000, 5, 4), ask(1, 2, 100000, 5, 4))
	asksNot(t, "the greatest Term then", want, 3)
}

// alone: a world of one, with that log, of which it committed those up to number commit.
func alone(role, term, commit int, l impl.Log) impl.Node {
	last, _ := impl.LastOf(l)
	return impl.Node{
		Term: term, Vote: -1, Log: l, Snap: machine(leaf(1, 1)), Role: role,
		Votes: []bool{false}, Next: []int{1}, Match: []int{last}, Commit: commit, Now: machine(leaf(2, 2), had(3, 1, 5)),
	}
}

func TestAskAlone(t *testing.T) {
	n, _ := impl.NodeNew(0, 1)
	want := impl.Node{
		Term: 1, Log: logOf(0, 0, impl.Entry{Term: 1}), Snap: machine(leaf()), Role: impl.RoLead,
		Votes: []bool{true}, Next: []int{1}, Match: []int{1}, Commit: 1, Now: machine(leaf()),
	}
	asks(t, "a new one", n, 1, want)
	asksNot(t, "a new one that leads", want, 1)
	for _, role := range []int{impl.RoFollow, impl.RoStand} {
		l := logOf(4, 2, impl.Entry{Term: 2, C: cmd(1, 1, put(7, 8))}, impl.Entry{Term: 3, C: cmd(3, 1, put(7, 9))}, impl.Entry{Term: 3, C: cmd(3, 2, add(7, 1))})
		for commit, row := range map[int]impl.Machine{
			4: machine(leaf(2, 2, 7, 9), had(1, 1, 8), had(3, 2, 9)),
			5: machine(leaf(2, 2, 7, 1), had(3, 2, 1)),
			6: machine(leaf(2, 2, 7, 1), had(3, 2, 1)),
			7: machine(leaf(2, 2), had(3, 1, 5)),
		} {
			want := alone(impl.RoLead, 4, 8, logOf(4, 2, append(slices.Clone(l.List), impl.Entry{Term: 4})...))
			want.Vote, want.Votes, want.Next, want.Match, want.Now = 0, []bool{true}, []int{8}, []int{8}, row
			asks(t, "one that has entries", alone(role, 3, commit, l), 1, want)
		}
		want := alone(impl.RoLead, 3, 7, logOf(6, 2, impl.Entry{Term: 3}))
		want.Vote, want.Votes, want.Next, want.Match = 0, []bool{true}, []int{7}, []int{7}
		asks(t, "one whose entries were all cut off", alone(role, 2, 6, logOf(6, 2)), 1, want)
	}
}

// A log that is full has no room for an entry of who leads: it follows again, in the Term in which it stood.
func TestAskAloneWithAFullLog(t *testing.T) {
	for _, role := range []int{impl.RoFollow, impl.RoStand} {
		for _, l := range []impl.Log{logOf(100000, 2), termLog(99998, 2, 2, 3), longLog(0, 3, 100000)} {
			for _, commit := range []int{l.Base, 100000} {
				n := alone(role, 3, commit, l)
				want := n
				want.Term, want.Vote, want.Role, want.Votes, want.Next, want.Match = 4, 0, impl.RoFollow, []bool{true}, []int{100001}, []int{0}
				asks(t, "a full one", n, 1, want)
			}
		}
		for _, l := range []impl.Log{logOf(99999, 2), termLog(99997, 2, 2, 3), longLog(0, 3, 99999)} {
			n := alone(role, 3, 99999, l)
			want := n
			want.Log.List = append(slices.Clone(l.List), impl.Entry{Term: 4})
			want.Term, want.Vote, want.Role, want.Votes, want.Next, want.Match, want.Commit = 4, 0, impl.RoLead, []bool{true}, []int{100000}, []int{100000}, 100000
			asks(t, "one with room for one", n, 1, want)
			asksNot(t, "a full one that leads", want, 1)
		}
		n := alone(role, 100000, 100000, logOf(100000, 2))
		asksNot(t, "a full one in the greatest Term", n, 1)
	}
}

// Who is not alone stands with a full log as with any other.
func TestAskWithAFullLog(t *testing.T) {
	n := small(2)
	n.Log, n.Commit = longLog(0, 3, 100000), 70000
	want := n
	want.Term, want.Vote, want.Votes = 6, 1, []bool{false, true}
	asks(t, "a full one", n, 2, want, ask(1, 0, 6, 100000, 3))
}

func TestAskOfWhatIsNoNode(t *testing.T) {
	for _, role := range roles {
		for _, c := range badTurns() {
			n := small(3)
			n.Role = role
			c.turn(&n)
			asksNot(t, c.name, n, 3)
		}
		n := busy(role, 14)
		for _, size := range append([]int{4, 5, 6}, edgeNumbers...) {
			asksNot(t, "one of another size", n, size)
		}
		for _, size := range []int{0, 6, 7} {
			n := small(size)
			n.Role = role
			asksNot(t, "one of too few or too many", n, size)
		}
	}
	for size := range 7 {
		asksNot(t, "the zero value", impl.Node{}, size)
	}
}

// feeds: what a leader feeds, and that it fits.
func feeds(t *testing.T, name string, n impl.Node, size, to int, want impl.Rpc) {
	t.Helper()
	got, ok := impl.Feed(n, size, to)
	if !ok || !sameRpc(got, want) {
		t.Fatal(name, "fed", got, ok, "and not", want)
	}
	fits(t, name, n, size, got)
}

// fits: P10: to a log that has what is said to be ahead of it what is fed can be put, and what comes is the leader's.
func fits(t *testing.T, name string, n impl.Node, size int, r impl.Rpc) {
	t.Helper()
	if !impl.RpcOk(r, size) || r.From != n.Id || r.Term != n.Term {
		t.Fatal(name, "fed what is not right:", r)
	}
	if r.Kind == impl.RpSnap {
		came, ok := impl.LogPut(logOf(r.Index, r.IndexTerm), r.Index, r.IndexTerm, impl.EntriesFrom(n.Log, r.Index+1))
		if !ok || !sameLog(came, n.Log) || !sameMachine(r.Snap, n.Snap) {
			t.Fatal(name, "fed what does not fit ahead of its log:", r)
		}
		return
	}
	for at := n.Log.Base; at <= r.Index; at++ {
		rest := impl.LogCut(n.Log, at)
		short := rest
		short.List = rest.List[:r.Index-at]
		if came, ok := impl.LogPut(short, r.Index, r.IndexTerm, r.Entries); !ok || !sameLog(came, rest) {
			t.Fatal(name, "fed what does not fit:", r, "as a log came to", came)
		}
		if came, ok := impl.LogPut(rest, r.Index, r.IndexTerm, r.Entries); !ok || !sameLog(came, rest) {
			t.Fatal(name, "fed what turns its own log:", r)
		}
	}
}

func feedsNot(t *testing.T, name string, n impl.Node, size, to int) {
	t.Helper()
	if got, ok := impl.Feed(n, size, to); ok || !sameRpc(got, impl.Rpc{}) {
		t.Fatal(name, "fed", got, "to", to)
	}
}

func TestFeed(t *testing.T) {
	for commit := 10; commit <= 18; commit++ {
		for _, to := range []int{0, 2} {
			for next := 1; next <= 19; next++ {
				n := busy(impl.RoLead, commit)
				n.Next = []int{7, 7, 7}
				n.Next[to] = next
				want := impl.Rpc{Kind: impl.RpSnap, From: 1, To: to, Term: 8, Index: 10, IndexTerm: 3, Snap: behind(0)}
				if next > 10 {
					term := []int{3, 3, 3, 4, 4, 4, 6, 6, 7}[next-11]
					want = impl.Rpc{Kind: impl.RpPut, From: 1, To: to, Term: 8, Index: next - 1, IndexTerm: term, Commit: commit, Entries: n.Log.List[next-11:]}
				}
				feeds(t, "a busy one", n, 3, to, want)
			}
		}
	}
}

// Who has nothing yet is fed from the first entry on, or with what is behind those that were cut off.
func TestFeedOfWhoHasNothingYet(t *testing.T) {
	for size := 2; size <= 5; size++ {
		for id := range size {
			n, _ := impl.NodeNew(id, size)
			n.Role, n.Term = impl.RoLead, 3
			for to := range size {
				if to == id {
					feedsNot(t, "itself", n, size, to)
					continue
				}
				feeds(t, "a new one", n, size, to, impl.Rpc{Kind: impl.RpPut, From: id, To: to, Term: 3})
				more := n
				more.Log = termLog(0, 0, 1, 3)
				feeds(t, "one that has two", more, size, to, impl.Rpc{Kind: impl.RpPut, From: id, To: to, Term: 3, Entries: more.Log.List})
				more.Log, more.Commit = logOf(0, 2), 0
				feeds(t, "one with BaseTerm alone", more, size, to, impl.Rpc{Kind: impl.RpPut, From: id, To: to, Term: 3, IndexTerm: 2})
				more.Log, more.Commit, more.Snap = termLog(1, 2, 3), 1, machine(leaf(5, 5))
				feeds(t, "one that cut the first off", more, size, to, impl.Rpc{Kind: impl.RpSnap, From: id, To: to, Term: 3, Index: 1, IndexTerm: 2, Snap: more.Snap})
				more.Log = logOf(1, 2)
				feeds(t, "one that cut all off", more, size, to, impl.Rpc{Kind: impl.RpSnap, From: id, To: to, Term: 3, Index: 1, IndexTerm: 2, Snap: more.Snap})
				more.Next = each(size, 2)
				feeds(t, "one whose Next is behind all that was cut off", more, size, to, impl.Rpc{Kind: impl.RpPut, From: id, To: to, Term: 3, Index: 1, IndexTerm: 2, Commit: 1})
			}
		}
	}
}

func TestFeedAtItsLimits(t *testing.T) {
	n := small(3)
	n.Role, n.Log, n.Commit, n.Term, n.Next, n.Match = impl.RoLead, logOf(100000, 100000), 100000, 100000, []int{100001, 1, 100000}, each(3, 0)
	feeds(t, "Next at the limit", n, 3, 0, impl.Rpc{Kind: impl.RpPut, From: 1, To: 0, Term: 100000, Index: 100000, IndexTerm: 100000, Commit: 100000})
	feeds(t, "Base at the limit", n, 3, 2, impl.Rpc{Kind: impl.RpSnap, From: 1, To: 2, Term: 100000, Index: 100000, IndexTerm: 100000, Snap: n.Snap})
	n.Log = longLog(0, 7, 100000)
	n.Next = []int{1, 1, 100000}
	all, ok := impl.Feed(n, 3, 0)
	if !ok || !impl.RpcOk(all, 3) || all.Index != 0 || all.IndexTerm != 7 || !slices.Equal(all.Entries, n.Log.List) {
		t.Error("a full log is not fed as a whole:", all.Index, all.IndexTerm, len(all.Entries))
	}
	one, ok := impl.Feed(n, 3, 2)
	if !ok || one.Index != 99999 || one.IndexTerm != 7 || !slices.Equal(one.Entries, n.Log.List[99999:]) {
		t.Error("the last one of a full log is not fed:", one.Index, one.IndexTerm, len(one.Entries))
	}
}

func TestFeedRefuses(t *testing.T) {
	nobodies := append([]int{3, 4, 5}, math.MinInt, math.MinInt+1, -2, -1, 100000, math.MaxInt-1, math.MaxInt)
	for _, to := range append([]int{1}, nobodies...) {
		feedsNot(t, "who leads", busy(impl.RoLead, 14), 3, to)
	}
	for _, to := range append([]int{0, 1, 2}, nobodies...) {
		feedsNot(t, "who follows", busy(impl.RoFollow, 14), 3, to)
		feedsNot(t, "who stands", busy(impl.RoStand, 14), 3, to)
		for _, size := range append([]int{4, 5, 6}, edgeNumbers...) {
			feedsNot(t, "one of another size", busy(impl.RoLead, 14), size, to)
		}
		feedsNot(t, "who is alone", alone(impl.RoLead, 3, 6, logOf(6, 2)), 1, to)
		feedsNot(t, "the zero value", impl.Node{}, 3, to)
		feedsNot(t, "the zero value that leads", impl.Node{Role: impl.RoLead}, 3, to)
		for _, c := range badTurns() {
			n := small(3)
			n.Role = impl.RoLead
			c.turn(&n)
			feedsNot(t, c.name, n, 3, to)
		}
		for _, size := range []int{0, 6, 7} {
			n := small(size)
			n.Role, n.Id = impl.RoLead, 1
			feedsNot(t, "one of too few or too many", n, size, to)
		}
	}
}

// proposes: what comes of a leader to which a command is handed in.
func proposes(t *testing.T, name string, n impl.Node, size int, c impl.Cmd, want impl.Node) {
	t.Helper()
	got, ok := impl.Propose(n, size, c)
	if !ok || !sameNode(got, want) || !impl.NodeOk(got, size) {
		t.Fatal(name, "came to", got, ok, "and not to", want)
	}
	was, _ := impl.LastOf(n.Log)
	last, term := impl.LastOf(got.Log)
	if last != was+1 || term != n.Term || got.Match[n.Id] != last || got.Log.List[len(got.Log.List)-1].C != c {
		t.Fatal(name, "has not the command as its last entry:", got)
	}
}

func proposesNot(t *testing.T, name string, n impl.Node, size int, c impl.Cmd) {
	t.Helper()
	if got, ok := impl.Propose(n, size, c); ok || !sameNode(got, n) {
		t.Fatal(name, "came to", got, ok)
	}
}

// leaderOf: number id of as many as match.
func leaderOf(id, term, commit int, l impl.Log, match ...int) impl.Node {
	last, _ := impl.LastOf(l)
	return impl.Node{
		Id: id, Term: term, Vote: id, Log: l, Snap: machine(leaf(1, 1)), Role: impl.RoLead,
		Votes: each(len(match), true), Next: each(len(match), last), Match: match, Commit: commit, Now: machine(leaf(2, 2)),
	}
}

// Entries 3 to 6 are of the Terms 1, 2, 4 and 4; what is handed in is number 7.
func TestProposeCounts(t *testing.T) {
	for _, c := range []struct {
		id, term, commit int
		match            []int
		want             int
	}{
		{0, 4, 2, []int{0}, 7},
		{0, 4, 6, []int{6}, 7},
		{0, 5, 2, []int{3}, 7},
		{0, 5, 6, []int{0}, 7},

		{0, 4, 2, []int{0, 6}, 6},
		{0, 4, 2, []int{6, 6}, 6},
		{0, 4, 2, []int{6, 5}, 5},
		{0, 4, 4, []int{6, 5}, 5},
		{0, 4, 5, []int{6, 5}, 5},
		{0, 4, 6, []int{6, 5}, 6},
		{0, 4, 2, []int{6, 4}, 2}, // an entry of an older Term is not counted
		{0, 4, 2, []int{6, 0}, 2},
		{0, 5, 2, []int{6, 6}, 2},
		{0, 5, 5, []int{6, 6}, 5},
		{1, 4, 2, []int{6, 0}, 6},
		{1, 4, 2, []int{5, 6}, 5},
		{1, 4, 2, []int{0, 6}, 2},

		{2, 4, 2, []int{6, 0, 0}, 6},
		{2, 4, 2, []int{0, 6, 0}, 6},
		{2, 4, 2, []int{5, 4, 6}, 5},
		{2, 4, 2, []int{5, 6, 6}, 6},
		{2, 4, 2, []int{4, 3, 6}, 2},
		{0, 4, 2, []int{0, 5, 5}, 5},
		{1, 4, 3, []int{4, 6, 4}, 3},
		{1, 5, 3, []int{6, 6, 6}, 3},

		{1, 4, 2, []int{6, 0, 5, 0}, 5},
		{1, 4, 2, []int{6, 0, 6, 0}, 6},
		{1, 4, 2, []int{0, 0, 6, 6}, 6},
		{1, 4, 2, []int{6, 6, 4, 3}, 2},
		{1, 4, 2, []int{6, 6, 0, 0}, 2},
		{1, 4, 5, []int{6, 6, 5, 5}, 5},
		{3, 4, 2, []int{5, 5, 5, 0}, 5},
		{0, 5, 4, []int{0, 6, 6, 6}, 4},

		{4, 4, 2, []int{6, 5, 0, 0, 0}, 5},
		{4, 4, 2, []int{0, 5, 0, 6, 6}, 5},
		{4, 4, 2, []int{6, 6, 6, 6, 0}, 6},
		{4, 4, 2, []int{6, 4, 4, 4, 6}, 2},
		{4, 4, 2, []int{6, 0, 0, 0, 6}, 2},
		{0, 4, 2, []int{6, 5, 5, 5, 5}, 5},
		{0, 4, 6, []int{6, 5, 5, 5, 5}, 6},
		{0, 5, 6, []int{6, 6, 6, 6, 6}, 6},
	} {
		n := leaderOf(c.id, c.term, c.commit, termLog(2, 1, 1, 2, 4, 4), c.match...)
		given := cmd(2, 50, add(2, 5))
		want := n
		want.Log = logOf(2, 1, append(slices.Clone(n.Log.List), impl.Entry{Term: c.term, C: given})...)
		want.Match = slices.Clone(c.match)
		want.Match[c.id], want.Commit = 7, c.want
		for i := c.commit; i < c.want; i++ {
			want.Now, _ = impl.MachineDo(want.Now, want.Log.List[i-2].C)
		}
		proposes(t, "one that counts", n, len(c.match), given, want)
	}
}

func TestPropose(t *testing.T) {
	for commit := 10; commit <= 18; commit++ {
		for _, c := range goodCmds {
			n := busy(impl.RoLead, commit)
			want := busy(impl.RoLead, commit)
			want.Log.List = append(want.Log.List, impl.Entry{Term: 8, C: c})
			want.Match[1] = 19
			proposes(t, "a busy one", n, 3, c, want)

			n.Term, n.Match = 7, []int{0, 3, 18} // number 18 is of this Term, and two of three have it
			want = busy(impl.RoLead, 18)
			want.Log.List = append(want.Log.List, impl.Entry{Term: 7, C: c})
			want.Term, want.Match = 7, []int{0, 19, 18}
			proposes(t, "a busy one that counts", n, 3, c, want)

			n.Match[2] = 17 // which is of an older Term
			want = busy(impl.RoLead, commit)
			want.Log.List = append(want.Log.List, impl.Entry{Term: 7, C: c})
			want.Term, want.Match = 7, []int{0, 19, 17}
			proposes(t, "a busy one that has no number to count", n, 3, c, want)
		}
	}
}

func TestProposeAlone(t *testing.T) {
	n, _ := impl.NodeNew(0, 1)
	n, _ = impl.Ask(n, 1)
	row := slices.Concat(busyRow, cmds(cmd(2, 2, add(7, -6)), impl.Cmd{}, cmd(2, 3, add(7, 1))))
	want := n
	for i, c := range row {
		want.Log.List = append(slices.Clone(want.Log.List), impl.Entry{Term: 1, C: c})
		want.Match, want.Commit = []int{i + 2}, i+2
		want.Now = impl.MachineAll(impl.MachineNew(), row[:i+1])
		proposes(t, "who is alone", n, 1, c, want)
		n, _ = impl.Propose(n, 1, c)
	}
	if v, ok := impl.TreeGet(n.Now.T, 7); !ok || v != 0 || n.Commit != 12 {
		t.Error("came to", n)
	}
}

func TestProposeAtTheLimits(t *testing.T) {
	c := cmd(1, 1, put(1, 1))
	for _, base := range []impl.Log{logOf(100000, 2), termLog(99998, 2, 2, 3), longLog(0, 3, 100000)} {
		for size := 1; size <= 5; size++ {
			n := leaderOf(0, 3, 100000, base, each(size, 100000)...)
			proposesNot(t, "a full one", n, size, c)
			proposesNot(t, "a full one, and nothing", n, size, impl.Cmd{})
		}
	}
	for _, base := range []impl.Log{logOf(99999, 2), termLog(99997, 2, 2, 3), longLog(0, 3, 99999)} {
		n := leaderOf(2, 3, 99999, base, 0, 99999, 0)
		want := n
		want.Log.List = append(slices.Clone(base.List), impl.Entry{Term: 3, C: c})
		want.Match = []int{0, 99999, 100000}
		proposes(t, "one with room for one", n, 3, c, want)
		proposesNot(t, "a full one then", want, 3, c)
	}
	n := leaderOf(0, 100000, 3, termLog(2, 100000, 100000), 3)
	want := leaderOf(0, 100000, 4, logOf(2, 100000, n.Log.List[0], impl.Entry{Term: 100000, C: c}), 4)
	want.Next, want.Now = n.Next, machine(leaf(1, 1, 2, 2), had(1, 1, 1))
	proposes(t, "the greatest Term", n, 1, c, want)
	n, _ = impl.NodeNew(0, 1)
	n.Role = impl.RoLead
	want = n
	want.Log, want.Match, want.Commit, want.Now = logOf(0, 0, impl.Entry{C: c}), []int{1}, 1, machine(leaf(1, 1), had(1, 1, 1))
	proposes(t, "Term 0", n, 1, c, want)
}

func TestProposeRefuses(t *testing.T) {
	for commit := 10; commit <= 18; commit++ {
		for _, c := range goodCmds {
			proposesNot(t, "who follows", busy(impl.RoFollow, commit), 3, c)
			proposesNot(t, "who stands", busy(impl.RoStand, commit), 3, c)
			for _, size := range append([]int{4, 5, 6}, edgeNumbers...) {
				proposesNot(t, "one of another size", busy(impl.RoLead, commit), size, c)
			}
		}
		for _, role := range roles {
			for _, c := range badCmds {
				proposesNot(t, "no command", busy(role, commit), 3, c)
			}
		}
	}
	for _, c := range badCmds {
		proposesNot(t, "no command for who is alone", alone(impl.RoLead, 3, 6, logOf(6, 2)), 1, c)
	}
}

func TestProposeToWhatIsNoNode(t *testing.T) {
	for _, c := range []impl.Cmd{{}, cmd(1, 1, put(1, 1)), {Seq: 1}} {
		for _, turn := range badTurns() {
			n := small(3)
			n.Role = impl.RoLead
			turn.turn(&n)
			proposesNot(t, turn.name, n, 3, c)
		}
		for _, size := range []int{0, 6, 7} {
			n := small(size)
			n.Role = impl.RoLead
			proposesNot(t, "one of too few or too many", n, size, c)
		}
		for size := range 7 {
			proposesNot(t, "the zero value", impl.Node{}, size, c)
			proposesNot(t, "the zero value that leads", impl.Node{Role: impl.RoLead}, size, c)
		}
	}
}

// What is no node stays, even where one entry more, or Match of itself, would mend it.
func TestProposeMendsNothing(t *testing.T) {
	for _, c := range []nodeTurn{
		{"Next one beyond", func(n *impl.Node) { n.Next[0] = 20 }},
		{"Next of itself one beyond", func(n *impl.Node) { n.Next[1] = 20 }},
		{"Match one beyond", func(n *impl.Node) { n.Match[2] = 19 }},
		{"Match of itself one beyond", func(n *impl.Node) { n.Match[1] = 19 }},
		{"Match of itself below 0", func(n *impl.Node) { n.Match[1] = -1 }},
		{"the greatest Match of itself", func(n *impl.Node) { n.Match[1] = math.MaxInt }},
		{"the least Match of itself", func(n *impl.Node) { n.Match[1] = math.MinInt }},
		{"Commit one beyond", func(n *impl.Node) { n.Commit = 19 }},
		{"all one beyond", func(n *impl.Node) { n.Next, n.Match, n.Commit = each(3, 20), each(3, 19), 19 }},
	} {
		n := busy(impl.RoLead, 14)
		c.turn(&n)
		proposesNot(t, c.name, n, 3, cmd(1, 5, put(1, 1)))
		proposesNot(t, c.name, n, 3, impl.Cmd{})
		feedsNot(t, c.name, n, 3, 0)
	}
}

// A machine that does no more is committed all the same.
func TestProposeToWhatIsTooDeep(t *testing.T) {
	n := alone(impl.RoLead, 3, 6, logOf(6, 2))
	n.Now = machine(tower(6, 0, 999), had(1, 1, 8))
	got, ok := impl.Propose(n, 1, cmd(1, 2, put(1, 1)))
	if !ok || got.Commit != 7 || !sameMachine(got.Now, n.Now) || len(got.Log.List) != 1 {
		t.Error("came to", got, ok)
	}
}

// tellsByTheWord: one node, and what it tells, held against the words of the chapter. It tells how much of it was done.
func tellsByTheWord(t *testing.T, n impl.Node, size int, list ...impl.Cmd) (asked, fed, took int) {
	t.Helper()
	fine := nodeOkByTheWord(n, size)
	got, told := impl.Ask(n, size)
	want, wanted := askByTheWord(n, size)
	if !sameNode(got, want) || !slices.EqualFunc(told, wanted, sameRpc) || impl.NodeOk(got, size) != fine {
		t.Fatal("asked it came to", got, told, "and by the word to", want, wanted, "of", n, size)
	}
	if got.Term != n.Term {
		asked++
		if got.Vote != n.Id || !got.Votes[n.Id] {
			t.Fatal("it has not voted for itself:", got)
		}
	}
	for _, r := range told {
		if !impl.RpcOk(r, size) {
			t.Fatal("told what is not right:", r)
		}
	}
	for to := -1; to <= size; to++ {
		r, ok := impl.Feed(n, size, to)
		wanted, fine := feedByTheWord(n, size, to)
		if ok != fine || !sameRpc(r, wanted) {
			t.Fatal("fed", r, ok, "and by the word", wanted, fine, "of", n, size, to)
		}
		if ok {
			fed++
			fits(t, "one by the word", n, size, r)
		}
	}
	for _, c := range list {
		got, ok := impl.Propose(n, size, c)
		want, done := proposeByTheWord(n, size, c)
		if ok != done || !sameNode(got, want) || impl.NodeOk(got, size) != fine {
			t.Fatal("took", c, "and came to", got, ok, "and by the word to", want, done, "of", n, size)
		}
		if ok {
			took++
		}
	}
	return asked, fed, took
}

func TestTellersByTheWord(t *testing.T) {
	for _, c := range slices.Concat(goodTurns(), badTurns()) {
		for _, role := range roles {
			n := small(3)
			n.Role = role
			c.turn(&n)
			tellsByTheWord(t, n, 3, impl.Cmd{}, cmd(4, 4, del(4)), cmd(4, 0, del(4)))
		}
	}
}

func TestThrownTellers(t *testing.T) {
	d := &dice{101}
	var asked, fed, took int
	for i := range 600 {
		size := 1 + i%5
		n := thrownNodeOf(d, size)
		if d.below(3) == 0 {
			n.Role = impl.RoLead
		}
		a, f, p := tellsByTheWord(t, n, size, thrownCmds(d, 5, 30)...)
		asked, fed, took = asked+a, fed+f, took+p
	}
	if min(asked, fed, took) < 200 {
		t.Error("the nodes are too much alike:", asked, fed, took)
	}
}

func TestThrownWrongTellers(t *testing.T) {
	t.Parallel()
	d := &dice{102}
	var asked, fed, took int
	for i := range 2000 {
		size := 1 + i%5
		n := marredNode(d, thrownNodeOf(d, size))
		if d.below(3) == 0 {
			n.Role = impl.RoLead
		}
		list := append(thrownCmds(d, 1, 30), badCmds[d.below(len(badCmds))], impl.Cmd{})
		a, f, p := tellsByTheWord(t, n, size, list...)
		asked, fed, took = asked+a, fed+f, took+p
		tellsByTheWord(t, n, size+1, list...)
		tellsByTheWord(t, n, size-1, list...)
	}
	if min(asked, fed, took) < 200 {
		t.Error("the nodes are too much alike:", asked, fed, took)
	}
}

// thrownRpc: one of so many, that is right most of the time.
func thrownRpc(d *dice, size int) impl.Rpc {
	r := impl.Rpc{
		Kind: 1 + d.below(5), From: d.below(size), To: d.below(size), Term: d.below(10), Index: d.below(100001),
		IndexTerm: d.below(100001), Commit: d.below(100001), Ok: d.below(2) == 0, Snap: machine(grown(d, 1+d.below(4), 0, 1000), goodLasts[d.below(len(goodLasts))]...),
	}
	for range d.below(5) {
		r.Entries = append(r.Entries, entry(d.below(r.Term+1), d.below(1000)))
	}
	numbers := rpcNumbers(&r)
	at := numbers[d.below(len(numbers))]
	switch d.below(8) {
	case 0:
		*at = edgeNumbers[d.below(len(edgeNumbers))]
	case 1:
		*at += d.below(3) - 1
	case 2:
		r.Snap.T = marred(d, r.Snap.T)
	case 3:
		r.Snap = impl.Machine{}
	case 4:
		for i := range r.Entries {
			r.Entries[i].Term += d.below(3) - 1
		}
	case 5:
		for i := range r.Entries {
			r.Entries[i].C = thrownCmds(d, 1, 1001)[0]
		}
	}
	return r
}

func TestThrownRpcs(t *testing.T) {
	d := &dice{103}
	fine, wrong := 0, 0
	for i := range 5000 {
		size := 2 + i%4
		r := thrownRpc(d, size)
		for _, as := range []int{size, size - 1, size + 1} {
			if impl.RpcOk(r, as) != rpcOkByTheWord(r, as) {
				t.Fatal("not as by the word:", r, "of", as)
			}
		}
		if rpcOkByTheWord(r, size) {
			fine++
		} else {
			wrong++
		}
	}
	if min(fine, wrong) < 500 {
		t.Error("what is told is too much alike:", fine, wrong)
	}
}

// P10 over a while: a node that asks, leads, takes commands, is made compact, falls and rises stays right, and what it feeds fits.
func TestTellersOverAWhile(t *testing.T) {
	d := &dice{104}
	for i := range 60 {
		size := 1 + i%5
		n, _ := impl.NodeNew(d.below(size), size)
		for _, c := range thrownCmds(d, 40, 30) {
			last, _ := impl.LastOf(n.Log)
			switch d.below(10) {
			case 0:
				n, _ = impl.Ask(n, size)
			case 1:
				n = impl.Compact(n, size, n.Log.Base+d.below(n.Commit-n.Log.Base+1))
			case 2:
				n = impl.Rise(n, size)
			case 3, 4:
				n.Role, n.Next = impl.RoLead, each(size, 1+d.below(last+1))
			case 5:
				n.Match[d.below(size)] = d.below(last + 1)
			default:
				n, _ = impl.Propose(n, size, c)
			}
			if !impl.NodeOk(n, size) {
				t.Fatal("came to", n)
			}
			tellsByTheWord(t, n, size, c)
		}
	}
}

func spoilRpc(r impl.Rpc) {
	spoil(r.Entries, entry(-88, 88))
	spoil(r.Snap.Last, none(-88, -88))
	for _, part := range partsOf(&r.Snap.T) {
		spoil(part.Pairs, impl.Pair{K: -88})
		spoil(part.Cuts, -88)
		spoil(part.Buf, impl.Msg{Op: -88})
	}
}

// tellsInItsOwnMemory: nothing is written into the node, nor into the room behind its lists, and no answer shares memory with it.
func tellsInItsOwnMemory(t *testing.T, name string, plain impl.Node, size int) {
	t.Helper()
	n, wholes := roomyNode(plain)
	_, kept := roomyNode(plain)
	for _, of := range []impl.Node{n, plain} {
		asked, list := impl.Ask(of, size)
		apart(t, name, struct {
			N impl.Node
			L []impl.Rpc
		}{asked, list}, of)
		spoilNode(asked)
		for _, r := range list {
			spoilRpc(r)
		}
		spoil(list, impl.Rpc{Kind: -88})
		for to := -1; to <= size; to++ {
			r, _ := impl.Feed(of, size, to)
			apart(t, name, r, of)
			spoilRpc(r)
		}
		for _, c := range []impl.Cmd{{}, cmd(1, 5, put(3, 3)), {Seq: 1}} {
			came, _ := impl.Propose(of, size, c)
			apart(t, name, came, of)
			spoilNode(came)
		}
	}
	if !reflect.DeepEqual(wholes, kept) || !sameNode(plain, n) {
		t.Fatal("written into, or memory shared with an answer:", name)
	}
}

func TestTellersAreNotWrittenInto(t *testing.T) {
	t.Parallel()
	for _, c := range nodesToKeep() {
		for _, role := range roles {
			n := small(3)
			n.Role = role
			c.turn(&n)
			tellsInItsOwnMemory(t, c.name, n, 3)
			tellsInItsOwnMemory(t, c.name, n, 2)
		}
	}
	for _, role := range roles {
		tellsInItsOwnMemory(t, "who is alone", alone(role, 3, 5, termLog(4, 2, 2, 3, 3)), 1)
		tellsInItsOwnMemory(t, "who is alone, and full", alone(role, 3, 99999, termLog(99998, 2, 3, 3)), 1)
		n := busy(role, 14)
		n.Next = []int{10, 11, 19}
		tellsInItsOwnMemory(t, "a busy one", n, 3)
		n.Term, n.Match = 7, []int{18, 18, 18}
		tellsInItsOwnMemory(t, "a busy one that counts", n, 3)
	}
}

func TestRpcsAreNotWrittenInto(t *testing.T) {
	for _, kind := range rpcKinds {
		for _, c := range slices.Concat(goodRpcTurns(), badRpcTurns()) {
			r := plainRpc(kind)
			c.turn(&r)
			list, whole := roomy(r.Entries, entry(-77, 77))
			snap, wholes := roomyMachine(r.Snap)
			_, kept := roomyMachine(r.Snap)
			r.Entries, r.Snap = list, snap
			wasList, was := slices.Clone(whole()), r
			impl.RpcOk(r, 3)
			if !sameRpc(r, was) || !slices.Equal(whole(), wasList) || !reflect.DeepEqual(wholes, kept) {
				t.Error("written into", c.name)
			}
		}
	}
}

func TestStrangeTellersStay(t *testing.T) {
	for _, c := range append(strangeTrees(), treeCase{name: "one met ever again", tree: manyfold()}) {
		depth := 12
		if len(c.tree.Kids) > 2 {
			depth = 1
		}
		for _, role := range roles {
			n := busy(role, 14)
			for _, at := range []*impl.Machine{&n.Snap, &n.Now} {
				was := at.T
				at.T = c.tree
				asked, list := impl.Ask(n, 3)
				took, ok := impl.Propose(n, 3, cmd(1, 5, put(1, 1)))
				if len(list) != 0 || ok {
					t.Error(c.name, "told", list, ok)
				}
				for _, got := range []impl.Node{asked, took} {
					if !sameDown(depth, got.Snap.T, n.Snap.T) || !sameDown(depth, got.Now.T, n.Now.T) || got.Role != role || got.Term != 8 || !sameLog(got.Log, n.Log) {
						t.Error(c.name, "did not stay")
					}
				}
				feedsNot(t, c.name, n, 3, 0)
				at.T = was
			}
		}
	}
	n := small(3)
	n.Role = impl.RoLead
	n.Votes, n.Next, n.Match = each(1000000, true), each(1000000, 1), each(1000000, 0)
	for _, size := range []int{3, 1000000, math.MaxInt} {
		asksNot(t, "one of very many", n, size)
		feedsNot(t, "one of very many", n, size, 0)
		proposesNot(t, "one of very many", n, size, impl.Cmd{})
	}
}
