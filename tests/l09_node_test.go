package tests

import (
	"cmp"
	"math"
	"reflect"
	"slices"
	"testing"

	"loop.example/g00234/impl"
)

func sameNode(a, b impl.Node) bool {
	return a.Id == b.Id && a.Term == b.Term && a.Vote == b.Vote && sameLog(a.Log, b.Log) && sameMachine(a.Snap, b.Snap) &&
		a.Role == b.Role && slices.Equal(a.Votes, b.Votes) && slices.Equal(a.Next, b.Next) && slices.Equal(a.Match, b.Match) &&
		a.Commit == b.Commit && sameMachine(a.Now, b.Now)
}

// each: a list that has the same everywhere.
func each[E any](count int, x E) []E {
	list := make([]E, count)
	for i := range list {
		list[i] = x
	}
	return list
}

// busyRow: what the entries of the busy node ask for. Some are nothing, some were asked before, one is older.
var busyRow = cmds(
	cmd(1, 2, add(4, 1)),
	impl.Cmd{},
	cmd(2, 1, put(7, 5)),
	cmd(2, 1, put(7, 5)),
	cmd(1, 1, put(4, 99)),
	cmd(1, 3, del(4)),
	cmd(9, 1, get(7)),
	cmd(2, 2, add(7, -6)),
)

// busyTold: the pairs and the last ones behind so many of these, worked out by hand.
var busyTold = []struct {
	pairs []impl.Pair
	last  []impl.Done
}{
	{pairs(4, 8), []impl.Done{had(1, 1, 8)}},
	{pairs(4, 9), []impl.Done{had(1, 2, 9)}},
	{pairs(4, 9), []impl.Done{had(1, 2, 9)}},
	{pairs(4, 9, 7, 5), []impl.Done{had(1, 2, 9), had(2, 1, 5)}},
	{pairs(4, 9, 7, 5), []impl.Done{had(1, 2, 9), had(2, 1, 5)}},
	{pairs(4, 9, 7, 5), []impl.Done{had(1, 2, 9), had(2, 1, 5)}},
	{pairs(7, 5), []impl.Done{none(1, 3), had(2, 1, 5)}},
	{pairs(7, 5), []impl.Done{none(1, 3), had(2, 1, 5), had(9, 1, 5)}},
	{pairs(7, -1), []impl.Done{none(1, 3), had(2, 2, -1), had(9, 1, 5)}},
}

// behind: the machine behind so many of the busy node's entries.
func behind(count int) impl.Machine {
	return machine(impl.Tree{Leaf: true, Pairs: slices.Clone(busyTold[count].pairs)}, slices.Clone(busyTold[count].last)...)
}

// busy: number 1 of three, with the entries 11 to 18, of which it committed those up to number commit.
func busy(role, commit int) impl.Node {
	terms := []int{3, 3, 4, 4, 4, 6, 6, 7}
	l := logOf(10, 3)
	for i, c := range busyRow {
		l.List = append(l.List, impl.Entry{Term: terms[i], C: c})
	}
	return impl.Node{
		Id: 1, Term: 8, Vote: 2, Log: l, Snap: behind(0), Role: role,
		Votes: []bool{true, false, true}, Next: []int{19, 1, 14}, Match: []int{0, 18, 13},
		Commit: commit, Now: behind(commit - 10),
	}
}

var roles = []int{impl.RoFollow, impl.RoStand, impl.RoLead}

// small: one of so many with a short log, all of whose numbers stand between their limits.
func small(size int) impl.Node {
	return impl.Node{
		Id: size / 2, Term: 5, Log: termLog(2, 1, 1, 2, 4), Snap: machine(leaf(1, 1)), Role: impl.RoStand,
		Votes: each(size, true), Next: each(size, 4), Match: each(size, 3), Commit: 4, Now: machine(leaf(2, 2)),
	}
}

type nodeTurn struct {
	name string
	turn func(n *impl.Node)
}

// numbersIn: each number of a node but those of its log and machines.
func numbersIn(n *impl.Node) []*int {
	list := []*int{&n.Id, &n.Term, &n.Vote, &n.Role, &n.Commit}
	for i := range n.Next {
		list = append(list, &n.Next[i])
	}
	for i := range n.Match {
		list = append(list, &n.Match[i])
	}
	return list
}

// goodTurns: of small(3). The limits are written out here as numbers: a limit that moved would show.
func goodTurns() []nodeTurn {
	list := []nodeTurn{
		{"as it is", func(n *impl.Node) {}},
		{"Id at 0", func(n *impl.Node) { n.Id = 0 }},
		{"Id at size - 1", func(n *impl.Node) { n.Id = 2 }},
		{"Vote of nobody", func(n *impl.Node) { n.Vote = -1 }},
		{"Vote at 0", func(n *impl.Node) { n.Vote = 0 }},
		{"Vote for itself", func(n *impl.Node) { n.Vote = 1 }},
		{"Vote at size - 1", func(n *impl.Node) { n.Vote = 2 }},
		{"Term at its limit", func(n *impl.Node) { n.Term = 100000 }},
		{"Term one below its limit", func(n *impl.Node) { n.Term = 99999 }},
		{"Term as the last one of the log", func(n *impl.Node) { n.Term = 4 }},
		{"Term as BaseTerm, and no entries", func(n *impl.Node) { n.Term, n.Log = 1, logOf(4, 1) }},
		{"Term 0", func(n *impl.Node) { n.Term, n.Log = 0, termLog(2, 0, 0, 0, 0) }},
		{"Term 0, and nothing", func(n *impl.Node) {
			*n = impl.Node{Snap: n.Snap, Now: n.Now, Votes: n.Votes, Next: each(3, 1), Match: each(3, 0)}
		}},
		{"all Terms at the limit", func(n *impl.Node) { n.Term, n.Log = 100000, termLog(2, 100000, 100000, 100000, 100000) }},
		{"RoFollow", func(n *impl.Node) { n.Role = 0 }},
		{"RoStand", func(n *impl.Node) { n.Role = 1 }},
		{"RoLead", func(n *impl.Node) { n.Role = 2 }},
		{"no Votes", func(n *impl.Node) { n.Votes = each(3, false) }},
		{"Next at 1", func(n *impl.Node) { n.Next = each(3, 1) }},
		{"Next at one more than the last", func(n *impl.Node) { n.Next = each(3, 6) }},
		{"Next at Base", func(n *impl.Node) { n.Next = each(3, 2) }},
		{"Match at 0", func(n *impl.Node) { n.Match = each(3, 0) }},
		{"Match at the last", func(n *impl.Node) { n.Match = each(3, 5) }},
		{"Match at what was cut off", func(n *impl.Node) { n.Match = each(3, 1) }},
		{"Match beyond Next", func(n *impl.Node) { n.Next, n.Match = each(3, 1), each(3, 5) }},
		{"Commit at Base", func(n *impl.Node) { n.Commit = 2 }},
		{"Commit at the last", func(n *impl.Node) { n.Commit = 5 }},
		{"Commit without entries", func(n *impl.Node) { n.Log = logOf(4, 5) }},
		{"the greatest Base", func(n *impl.Node) {
			n.Log, n.Commit, n.Next, n.Match = logOf(100000, 5), 100000, each(3, 100001), each(3, 100000)
		}},
		{"the greatest last one", func(n *impl.Node) {
			n.Log, n.Commit, n.Next, n.Match = termLog(99998, 5, 5, 5), 100000, each(3, 100001), each(3, 100000)
		}},
		{"no entries at all", func(n *impl.Node) { n.Log, n.Commit, n.Next, n.Match = impl.Log{}, 0, each(3, 1), each(3, 0) }},
		{"machines that have nothing of each other", func(n *impl.Node) { n.Snap, n.Now = machine(stairs(), nine(7)...), impl.MachineNew() }},
	}
	for _, last := range goodLasts {
		list = append(list, nodeTurn{"a good Last of Snap", func(n *impl.Node) { n.Snap.Last = last }}, nodeTurn{"a good Last of Now", func(n *impl.Node) { n.Now.Last = last }})
	}
	for _, c := range goodTrees() {
		list = append(list, nodeTurn{"a good tree of Snap: " + c.name, func(n *impl.Node) { n.Snap.T = c.tree }}, nodeTurn{"a good tree of Now: " + c.name, func(n *impl.Node) { n.Now.T = c.tree }})
	}
	return list
}

func badTurns() []nodeTurn {
	list := []nodeTurn{
		{"the zero value", func(n *impl.Node) { *n = impl.Node{} }},
		{"Id at -1", func(n *impl.Node) { n.Id = -1 }},
		{"Id at -2", func(n *impl.Node) { n.Id = -2 }},
		{"Id at size", func(n *impl.Node) { n.Id = 3 }},
		{"Vote at -2", func(n *impl.Node) { n.Vote = -2 }},
		{"Vote at size", func(n *impl.Node) { n.Vote = 3 }},
		{"Term at -1", func(n *impl.Node) { n.Term = -1 }},
		{"Term at -1, and nothing", func(n *impl.Node) {
			*n = impl.Node{Term: -1, Snap: n.Snap, Now: n.Now, Votes: n.Votes, Next: each(3, 1), Match: each(3, 0)}
		}},
		{"Term beyond", func(n *impl.Node) { n.Term = 100001 }},
		{"Term less than the last one", func(n *impl.Node) { n.Term = 3 }},
		{"Term less than BaseTerm", func(n *impl.Node) { n.Term = 0 }},
		{"Term less than BaseTerm, and no entries", func(n *impl.Node) { n.Term, n.Log = 1, logOf(4, 2) }},
		{"Term less than a Term at the limit", func(n *impl.Node) { n.Term, n.Log = 99999, termLog(2, 1, 1, 2, 100000) }},
		{"Role at -1", func(n *impl.Node) { n.Role = -1 }},
		{"Role at 3", func(n *impl.Node) { n.Role = 3 }},
		{"no list of Votes", func(n *impl.Node) { n.Votes = nil }},
		{"no list of Next", func(n *impl.Node) { n.Next = nil }},
		{"no list of Match", func(n *impl.Node) { n.Match = nil }},
		{"one of Votes too few", func(n *impl.Node) { n.Votes = n.Votes[:2] }},
		{"one of Next too few", func(n *impl.Node) { n.Next = n.Next[:2] }},
		{"one of Match too few", func(n *impl.Node) { n.Match = n.Match[:2] }},
		{"one of Votes too many", func(n *impl.Node) { n.Votes = each(4, true) }},
		{"one of Next too many", func(n *impl.Node) { n.Next = each(4, 3) }},
		{"one of Match too many", func(n *impl.Node) { n.Match = each(4, 3) }},
		{"one of all too few", func(n *impl.Node) { n.Votes, n.Next, n.Match = n.Votes[:2], n.Next[:2], n.Match[:2] }},
		{"one of all too many", func(n *impl.Node) { n.Votes, n.Next, n.Match = each(4, true), each(4, 3), each(4, 3) }},
		{"Commit one below Base", func(n *impl.Node) { n.Commit = 1 }},
		{"Commit at 0", func(n *impl.Node) { n.Commit = 0 }},
		{"Commit one beyond the last", func(n *impl.Node) { n.Commit = 6 }},
		{"Commit one beyond Base, and no entries", func(n *impl.Node) { n.Log = logOf(3, 1) }},
		{"the zero value as Snap", func(n *impl.Node) { n.Snap = impl.Machine{} }},
		{"the zero value as Now", func(n *impl.Node) { n.Now = impl.Machine{} }},
	}
	for i := range 3 {
		for _, next := range []int{0, -1, 7, 8} {
			list = append(list, nodeTurn{"Next beyond its limits", func(n *impl.Node) { n.Next[i] = next }})
		}
		for _, match := range []int{-1, -2, 6, 7} {
			list = append(list, nodeTurn{"Match beyond its limits", func(n *impl.Node) { n.Match[i] = match }})
		}
	}
	for _, end := range []int{math.MinInt, math.MinInt + 1, math.MaxInt - 1, math.MaxInt} {
		n := small(3)
		for i := range numbersIn(&n) {
			list = append(list, nodeTurn{"an end as a number", func(n *impl.Node) { *numbersIn(n)[i] = end }})
		}
		list = append(list, nodeTurn{"ends as all numbers", func(n *impl.Node) {
			for _, x := range numbersIn(n) {
				*x = end
			}
		}})
	}
	for _, last := range badLasts {
		list = append(list, nodeTurn{"a bad Last of Snap", func(n *impl.Node) { n.Snap.Last = last }}, nodeTurn{"a bad Last of Now", func(n *impl.Node) { n.Now.Last = last }})
	}
	for _, c := range badTrees() {
		list = append(list, nodeTurn{"a bad tree of Snap: " + c.name, func(n *impl.Node) { n.Snap.T = c.tree }}, nodeTurn{"a bad tree of Now: " + c.name, func(n *impl.Node) { n.Now.T = c.tree }})
	}
	for _, c := range badLogs() {
		if len(c.log.List) > 1000 {
			continue
		}
		list = append(list, nodeTurn{"a bad log: " + c.name, func(n *impl.Node) { n.Term, n.Log = 100000, c.log }}, nodeTurn{"a bad log, and Commit there: " + c.name, func(n *impl.Node) {
			n.Term, n.Log, n.Commit = 100000, c.log, c.log.Base
			n.Next, n.Match = each(3, 1), each(3, 0)
		}})
	}
	return list
}

func turnedNode(c nodeTurn) impl.Node {
	n := small(3)
	c.turn(&n)
	return n
}

func TestNodeLimits(t *testing.T) {
	if impl.MaxNodes != 5 || impl.RoFollow != 0 || impl.RoStand != 1 || impl.RoLead != 2 {
		t.Error("limits", impl.MaxNodes, impl.RoFollow, impl.RoStand, impl.RoLead)
	}
}

func TestNodeOk(t *testing.T) {
	for _, c := range goodTurns() {
		if n := turnedNode(c); !impl.NodeOk(n, 3) || !nodeOkByTheWord(n, 3) {
			t.Error("refused", c.name)
		}
	}
	for _, c := range badTurns() {
		if n := turnedNode(c); impl.NodeOk(n, 3) || nodeOkByTheWord(n, 3) {
			t.Error("accepted", c.name)
		}
	}
	for _, role := range roles {
		for commit := 10; commit <= 18; commit++ {
			if !impl.NodeOk(busy(role, commit), 3) {
				t.Error("refused a busy one", role, commit)
			}
		}
	}
}

func TestNodeOkBySize(t *testing.T) {
	for count := 0; count <= 7; count++ {
		for _, size := range append([]int{3, 4, 5, 6, 7}, edgeNumbers...) {
			n := small(count)
			want := count == size && count >= 1 && count <= 5
			if got := impl.NodeOk(n, size); got != want {
				t.Error("told", got, "of", count, "as", size)
			}
			for id := -2; id <= count+1; id++ {
				n.Id, n.Vote = id, -1
				if got := impl.NodeOk(n, size); got != (want && id >= 0 && id < size) {
					t.Error("told", got, "of Id", id, "of", count, "as", size)
				}
				n.Id, n.Vote = 0, id
				if got := impl.NodeOk(n, size); got != (want && id >= -1 && id < size) {
					t.Error("told", got, "of Vote", id, "of", count, "as", size)
				}
			}
		}
	}
}

// nodeOkByTheWord goes over all Terms of the log, where the program asks for the last one.
func nodeOkByTheWord(n impl.Node, size int) bool {
	switch {
	case size < 1 || size > 5 || n.Id < 0 || n.Id >= size || n.Term < 0 || n.Term > 100000 || n.Vote < -1 || n.Vote >= size:
		return false
	case !logOkByTheWord(n.Log) || n.Log.BaseTerm > n.Term || !machineOkByTheWord(n.Snap) || !machineOkByTheWord(n.Now):
		return false
	case n.Role != 0 && n.Role != 1 && n.Role != 2:
		return false
	case len(n.Votes) != size || len(n.Next) != size || len(n.Match) != size:
		return false
	}
	for _, e := range n.Log.List {
		if e.Term > n.Term {
			return false
		}
	}
	last := n.Log.Base + len(n.Log.List)
	for i := range size {
		if n.Next[i] < 1 || n.Next[i] > last+1 || n.Match[i] < 0 || n.Match[i] > last {
			return false
		}
	}
	return n.Log.Base <= n.Commit && n.Commit <= last
}

func TestNodeNew(t *testing.T) {
	made := 0
	for _, size := range append([]int{3, 4, 5, 6, 7}, edgeNumbers...) {
		for _, id := range append([]int{3, 4, 5, 6, 7}, edgeNumbers...) {
			n, ok := impl.NodeNew(id, size)
			if size < 1 || size > 5 || id < 0 || id >= size {
				if ok || !sameNode(n, impl.Node{}) {
					t.Error("made number", id, "of", size, n)
				}
				continue
			}
			made++
			want := impl.Node{
				Id: id, Vote: -1, Snap: machine(leaf()), Now: machine(leaf()),
				Votes: each(size, false), Next: each(size, 1), Match: each(size, 0),
			}
			if !ok || !sameNode(n, want) || !impl.NodeOk(n, size) {
				t.Error("number", id, "of", size, "came to", n, ok)
			}
			if !sameNode(impl.Rise(n, size), n) || !sameNode(impl.CommitTo(n, size, 0), n) || !sameNode(impl.CommitTo(n, size, 1), n) || !sameNode(impl.Compact(n, size, 0), n) || !sameNode(impl.Compact(n, size, 1), n) {
				t.Error("a new one did not stay:", id, size)
			}
		}
	}
	if made != 15 {
		t.Error("made", made)
	}
}

func TestMost(t *testing.T) {
	for size, want := range map[int]int{
		0: 1, 1: 1, 2: 2, 3: 2, 4: 3, 5: 3, 6: 4, 7: 4, 100000: 50001, 100001: 50001,
		-1: 0, -2: 0, -3: -1, -4: -1, -5: -2, // more than a half of these, too
		math.MaxInt: 1 << 62, math.MaxInt - 1: 1 << 62, math.MaxInt - 2: 1<<62 - 1,
		math.MinInt: -(1 << 62) + 1, math.MinInt + 1: -(1 << 62) + 1, math.MinInt + 2: -(1 << 62) + 2,
	} {
		if got := impl.Most(size); got != want {
			t.Error("of", size, "told", got)
		}
	}
	for size := -3000; size <= 3000; size++ {
		if most := impl.Most(size); 2*most <= size || 2*(most-1) > size {
			t.Error("of", size, "told", most)
		}
	}
}

func TestRise(t *testing.T) {
	for _, role := range roles {
		for commit := 10; commit <= 18; commit++ {
			for id := range 3 {
				for vote := -1; vote < 3; vote++ {
					n := busy(role, commit)
					n.Id, n.Vote = id, vote
					want := impl.Node{
						Id: id, Term: 8, Vote: vote, Log: busy(0, 10).Log, Snap: behind(0), Role: impl.RoFollow,
						Votes: []bool{false, false, false}, Next: []int{1, 1, 1}, Match: []int{0, 0, 0},
						Commit: 10, Now: behind(0),
					}
					got := impl.Rise(n, 3)
					if !sameNode(got, want) || !impl.NodeOk(got, 3) {
						t.Error("rose as", got, "and not as", want)
					}
					if !sameNode(impl.Rise(got, 3), want) {
						t.Error("rose again as", impl.Rise(got, 3))
					}
				}
			}
		}
	}
	for size := 1; size <= 5; size++ {
		n := small(size)
		want := n
		want.Role, want.Votes, want.Next, want.Match, want.Commit, want.Now = 0, each(size, false), each(size, 1), each(size, 0), 2, n.Snap
		if got := impl.Rise(n, size); !sameNode(got, want) {
			t.Error("one of", size, "rose as", got)
		}
	}
}

// Now need not be what comes of Snap: what rose has what was written, and nothing else.
func TestRiseTakesSnap(t *testing.T) {
	for _, c := range goodTrees() {
		for _, last := range goodLasts {
			n := small(3)
			n.Snap, n.Now = machine(c.tree, last...), machine(leaf(9, 9), nine(4)...)
			if got := impl.Rise(n, 3); !sameMachine(got.Snap, n.Snap) || !sameMachine(got.Now, n.Snap) || got.Commit != 2 {
				t.Error(c.name, last, "rose as", got)
			}
			n.Snap, n.Now = n.Now, n.Snap
			if got := impl.Rise(n, 3); !sameMachine(got.Snap, n.Snap) || !sameMachine(got.Now, n.Snap) {
				t.Error(c.name, last, "rose as", got)
			}
		}
	}
}

func TestCommitTo(t *testing.T) {
	for _, role := range roles {
		for commit := 10; commit <= 18; commit++ {
			n := busy(role, commit)
			step := n
			for i := commit + 1; i <= 18; i++ {
				want := busy(role, i)
				got := impl.CommitTo(n, 3, i)
				step = impl.CommitTo(step, 3, i)
				if !sameNode(got, want) || !sameNode(step, want) {
					t.Error("committed from", commit, "to", i, "came to", got, "and one by one to", step, "and not to", want)
				}
				if v, ok := impl.MapGet(busyTold[i-10].pairs, 7); ok {
					if x, there := impl.TreeGet(got.Now.T, 7); !there || x != v {
						t.Error("committed to", i, "told", x, there)
					}
				}
			}
			for _, i := range append([]int{commit, commit - 1, 10, 9, 19, 20}, edgeNumbers...) {
				if i > commit && i <= 18 {
					continue
				}
				if got := impl.CommitTo(n, 3, i); !sameNode(got, n) {
					t.Error("committed from", commit, "to", i, "came to", got)
				}
			}
		}
	}
}

func TestCompact(t *testing.T) {
	for _, role := range roles {
		for commit := 10; commit <= 18; commit++ {
			n := busy(role, commit)
			step := n
			for i := 11; i <= commit; i++ {
				want := busy(role, commit)
				want.Log = logOf(i, n.Log.List[i-11].Term, n.Log.List[i-10:]...)
				want.Snap = behind(i - 10)
				got := impl.Compact(n, 3, i)
				step = impl.Compact(step, 3, i)
				if !sameNode(got, want) || !sameNode(step, want) || !impl.NodeOk(got, 3) {
					t.Error("made compact at", i, "of", commit, "came to", got, "and one by one to", step, "and not to", want)
				}
				for again := range i + 1 {
					if !sameNode(impl.Compact(got, 3, again), want) {
						t.Error("made compact at", i, "and then at", again, "came to", impl.Compact(got, 3, again))
					}
				}
			}
			for _, i := range append([]int{10, 9, 8, commit + 1, commit + 2, 18, 19}, edgeNumbers...) {
				if i > 10 && i <= commit {
					continue
				}
				if got := impl.Compact(n, 3, i); !sameNode(got, n) {
					t.Error("made compact at", i, "of", commit, "came to", got)
				}
			}
		}
	}
}

// P9: what is made compact, falls, rises and commits again knows what it knew.
func TestCompactThenRisenThenCommitted(t *testing.T) {
	for _, role := range roles {
		for commit := 11; commit <= 18; commit++ {
			for i := 11; i <= commit; i++ {
				rose := impl.Rise(impl.Compact(busy(role, commit), 3, i), 3)
				if rose.Commit != i || rose.Role != impl.RoFollow || rose.Term != 8 || rose.Vote != 2 || !sameMachine(rose.Now, behind(i-10)) {
					t.Fatal("made compact at", i, "it rose as", rose)
				}
				for to := i; to <= 18; to++ {
					again := impl.CommitTo(rose, 3, to)
					if again.Commit != to || again.Log.Base != i || !sameMachine(again.Now, behind(to-10)) {
						t.Fatal("made compact at", i, "risen and committed to", to, "it came to", again)
					}
				}
			}
		}
	}
}

// What is applied is what the entries ask for, in a tree that grows by them.
func TestCommitOfManyKeys(t *testing.T) {
	n := small(1)
	n.Log, n.Term, n.Snap, n.Now, n.Commit = impl.Log{}, 3, impl.MachineNew(), impl.MachineNew(), 0
	n.Next, n.Match = each(1, 1), each(1, 0)
	var all []impl.Pair
	for i := range 60 {
		m := put(i*7%50, i)
		n.Log.List = append(n.Log.List, impl.Entry{Term: 1 + i/25, C: cmd(1+i%9, 1+i/9, m)})
		all = impl.MapDo(all, m)
	}
	got := impl.CommitTo(n, 1, 60)
	if !slices.Equal(impl.TreeMap(got.Now.T), all) || len(got.Now.Last) != 9 || !sameMachine(got.Snap, impl.MachineNew()) {
		t.Error("came to", got.Now)
	}
	for i := 1; i <= 60; i++ {
		part := impl.Compact(impl.CommitTo(n, 1, i), 1, i)
		if len(part.Log.List) != 60-i || !sameMachine(part.Snap, part.Now) || !sameMachine(impl.CommitTo(part, 1, 60).Now, got.Now) {
			t.Fatal("made compact at", i, "it came to", part)
		}
	}
}

// A machine that does no more is committed all the same: the numbers go on, and the machine stays.
func TestCommitOfWhatIsTooDeep(t *testing.T) {
	n := busy(impl.RoLead, 10)
	deep := machine(tower(6, 0, 999), had(1, 1, 8))
	n.Snap, n.Now = deep, deep
	got := impl.CommitTo(n, 3, 18)
	if got.Commit != 18 || !sameMachine(got.Now, deep) || !impl.NodeOk(got, 3) {
		t.Error("came to", got)
	}
	if cut := impl.Compact(got, 3, 18); cut.Log.Base != 18 || len(cut.Log.List) != 0 || cut.Log.BaseTerm != 7 || !sameMachine(cut.Snap, deep) {
		t.Error("came to", cut)
	}
}

func TestWhatIsNoNodeStays(t *testing.T) {
	for _, c := range badTurns() {
		n := turnedNode(c)
		if got := impl.Rise(n, 3); !sameNode(got, n) {
			t.Error(c.name, "rose as", got)
		}
		for _, i := range append([]int{3, 4, 5, 6}, edgeNumbers...) {
			if got := impl.CommitTo(n, 3, i); !sameNode(got, n) {
				t.Error(c.name, "committed to", i, "came to", got)
			}
			if got := impl.Compact(n, 3, i); !sameNode(got, n) {
				t.Error(c.name, "made compact at", i, "came to", got)
			}
		}
	}
	n := busy(impl.RoLead, 14)
	for _, size := range append([]int{4, 5, 6}, edgeNumbers...) {
		if !sameNode(impl.Rise(n, size), n) || !sameNode(impl.CommitTo(n, size, 16), n) || !sameNode(impl.Compact(n, size, 12), n) {
			t.Error("turned as one of", size)
		}
	}
	for _, size := range []int{0, 6} {
		n := small(size)
		if !sameNode(impl.Rise(n, size), n) || !sameNode(impl.CommitTo(n, size, 5), n) || !sameNode(impl.Compact(n, size, 3), n) {
			t.Error("turned one of", size)
		}
	}
}

func riseByTheWord(n impl.Node, size int) impl.Node {
	if !nodeOkByTheWord(n, size) {
		return n
	}
	return impl.Node{
		Id: n.Id, Term: n.Term, Vote: n.Vote, Log: n.Log, Snap: n.Snap,
		Votes: each(size, false), Next: each(size, 1), Match: each(size, 0), Commit: n.Log.Base, Now: n.Snap,
	}
}

func commitByTheWord(n impl.Node, size, i int) impl.Node {
	if !nodeOkByTheWord(n, size) || i > n.Log.Base+len(n.Log.List) {
		return n
	}
	for n.Commit < i {
		n.Now, _ = machineDoByTheWord(n.Now, n.Log.List[n.Commit-n.Log.Base].C)
		n.Commit++
	}
	return n
}

func compactByTheWord(n impl.Node, size, i int) impl.Node {
	if !nodeOkByTheWord(n, size) || i > n.Commit {
		return n
	}
	for n.Log.Base < i {
		e := n.Log.List[0]
		n.Snap, _ = machineDoByTheWord(n.Snap, e.C)
		n.Log = logOf(n.Log.Base+1, e.Term, n.Log.List[1:]...)
	}
	return n
}

// thrownNodeOf: one of so many whose Now is what comes of Snap by its log.
func thrownNodeOf(d *dice, size int) impl.Node {
	n := impl.Node{Id: d.below(size), Vote: d.below(size+1) - 1, Log: thrownLog(d, 12), Role: d.below(3)}
	keys := []int{3, 30, 1000}[d.below(3)]
	for i, c := range thrownCmds(d, len(n.Log.List), keys) {
		if cmdOkByTheWord(c) {
			n.Log.List[i].C = c
		}
	}
	last, term := impl.LastOf(n.Log)
	n.Term = min(100000, term+d.below(4))
	n.Commit = n.Log.Base + d.below(len(n.Log.List)+1)
	n.Snap = machine(grown(d, 1+d.below(5), 0, 1000), goodLasts[d.below(len(goodLasts))]...)
	n.Now = n.Snap
	for _, e := range n.Log.List[:n.Commit-n.Log.Base] {
		n.Now, _ = machineDoByTheWord(n.Now, e.C)
	}
	for range size {
		n.Votes = append(n.Votes, d.below(2) == 0)
		n.Next = append(n.Next, 1+d.below(last+1))
		n.Match = append(n.Match, d.below(last+1))
	}
	return n
}

// wentOn: P9, of one node that is as it should be.
func wentOn(t *testing.T, d *dice, n impl.Node, size int) {
	t.Helper()
	last, _ := impl.LastOf(n.Log)
	rose := impl.Rise(n, size)
	again := impl.CommitTo(rose, size, n.Commit)
	if !sameLog(rose.Log, n.Log) || rose.Term != n.Term || rose.Vote != n.Vote || again.Commit != n.Commit || !sameMachine(again.Now, n.Now) {
		t.Fatal("rose as", rose, "and committed again to", again, "of", n)
	}
	i, to := n.Log.Base+d.below(n.Commit-n.Log.Base+1), n.Commit+d.below(last-n.Commit+1)
	cut := impl.Compact(n, size, i)
	if cut.Log.Base != i || cut.Commit != n.Commit || !sameMachine(cut.Now, n.Now) || !impl.NodeOk(cut, size) {
		t.Fatal("made compact at", i, "came to", cut, "of", n)
	}
	for j := i; j <= last+1; j++ {
		if impl.TermAt(cut.Log, j) != impl.TermAt(n.Log, j) || j > i && !slices.Equal(impl.EntriesFrom(cut.Log, j), impl.EntriesFrom(n.Log, j)) {
			t.Fatal("made compact at", i, "it has another one at", j, "in", cut, "of", n)
		}
	}
	whole, part := impl.CommitTo(n, size, to), impl.CommitTo(cut, size, to)
	late := impl.CommitTo(impl.Rise(part, size), size, to)
	if !sameMachine(part.Now, whole.Now) || !sameMachine(late.Now, whole.Now) || whole.Commit != to || part.Commit != to || late.Commit != to {
		t.Fatal("made compact at", i, "it does not know all that it knew:", part, late, "of", n)
	}
	if !sameNode(impl.Compact(whole, size, i), part) {
		t.Fatal("committed first it came to", impl.Compact(whole, size, i), "and made compact first to", part)
	}
}

// nodeByTheWord: one node held against the chapter's words.
func nodeByTheWord(t *testing.T, n impl.Node, size int, numbers []int) {
	t.Helper()
	fine := nodeOkByTheWord(n, size)
	if impl.NodeOk(n, size) != fine {
		t.Fatal("not as by the word:", n, size)
	}
	if got, want := impl.Rise(n, size), riseByTheWord(n, size); !sameNode(got, want) || impl.NodeOk(got, size) != fine {
		t.Fatal("rose as", got, "and by the word as", want, "of", n)
	}
	for _, i := range numbers {
		if got, want := impl.CommitTo(n, size, i), commitByTheWord(n, size, i); !sameNode(got, want) || impl.NodeOk(got, size) != fine {
			t.Fatal("committed to", i, "came to", got, "and by the word to", want, "of", n)
		}
		if got, want := impl.Compact(n, size, i), compactByTheWord(n, size, i); !sameNode(got, want) || impl.NodeOk(got, size) != fine {
			t.Fatal("made compact at", i, "came to", got, "and by the word to", want, "of", n)
		}
	}
}

func TestThrownNodes(t *testing.T) {
	t.Parallel()
	d := &dice{91}
	for i := range 300 {
		size := 1 + i%5
		n := thrownNodeOf(d, size)
		if !nodeOkByTheWord(n, size) {
			t.Fatal("no fair question:", n)
		}
		nodeByTheWord(t, n, size, numbersOf(n.Log))
		for range 4 {
			wentOn(t, d, n, size)
		}
		if d.below(2) == 0 { // one whose Now has nothing of Snap
			n.Now = machine(grown(d, 1+d.below(5), 0, 1000), nine(3)...)
			nodeByTheWord(t, n, size, numbersOf(n.Log))
		}
	}
}

// marredNode: something of it is another number, or another thing.
func marredNode(d *dice, n impl.Node) impl.Node {
	n.Next, n.Match, n.Votes = slices.Clone(n.Next), slices.Clone(n.Match), slices.Clone(n.Votes)
	numbers := numbersIn(&n)
	at := numbers[d.below(len(numbers))]
	last, term := impl.LastOf(n.Log)
	switch d.below(10) {
	case 0:
		*at = edgeNumbers[d.below(len(edgeNumbers))]
	case 1, 2:
		*at += d.below(3) - 1
	case 3:
		*at = last + d.below(4) - 1
	case 4:
		*at = n.Log.Base + d.below(3) - 1
	case 5:
		n.Term = term - d.below(2)
	case 6:
		n.Log.BaseTerm, n.Log.List = n.Term+d.below(3)-1, nil
	case 7:
		n.Snap.T = marred(d, n.Snap.T)
	case 8:
		n.Now.T = marred(d, n.Now.T)
	default:
		n.Next, n.Match, n.Votes = n.Next[:len(n.Next)-d.below(2)], append(n.Match, make([]int, d.below(2))...), append(n.Votes, make([]bool, d.below(2))...)
	}
	return n
}

func TestThrownWrongNodes(t *testing.T) {
	t.Parallel()
	d := &dice{92}
	fine, wrong := 0, 0
	for i := range 2000 {
		size := 1 + i%5
		n := marredNode(d, thrownNodeOf(d, size))
		if nodeOkByTheWord(n, size) {
			fine++
		} else {
			wrong++
		}
		last, _ := impl.LastOf(n.Log)
		nodeByTheWord(t, n, size, []int{math.MinInt, n.Log.Base, n.Log.Base + 1, n.Commit, last, math.MaxInt})
		nodeByTheWord(t, n, size+1, []int{n.Commit, last})
	}
	if fine < 300 || wrong < 300 {
		t.Error("the nodes are too much alike:", fine, wrong)
	}
}

// span: the memory that a list stands in, with the room behind it.
type span struct{ from, to uintptr }

// spansOf goes through all lists that a value holds; it wants one that does not hold itself.
func spansOf(v reflect.Value) []span {
	var list []span
	switch v.Kind() {
	case reflect.Struct:
		for i := range v.NumField() {
			list = append(list, spansOf(v.Field(i))...)
		}
	case reflect.Slice:
		if v.Cap() > 0 {
			list = append(list, span{v.Pointer(), v.Pointer() + uintptr(v.Cap())*v.Type().Elem().Size()})
		}
		for i := range v.Len() {
			list = append(list, spansOf(v.Index(i))...)
		}
	}
	return list
}

// apart: no list of an answer shares memory with another one of it, nor with one of the argument; those of the argument may.
func apart(t *testing.T, name string, answer, argument any) {
	t.Helper()
	own, given := spansOf(reflect.ValueOf(answer)), spansOf(reflect.ValueOf(argument))
	byPlace := func(a, b span) int { return cmp.Compare(a.from, b.from) }
	slices.SortFunc(own, byPlace)
	for i, a := range own {
		if i > 0 && a.from < own[i-1].to {
			t.Fatal(name, "has two lists in one memory")
		}
	}
	for _, b := range given {
		at, found := slices.BinarySearchFunc(own, b, byPlace)
		if found || at > 0 && own[at-1].to > b.from || at < len(own) && own[at].from < b.to {
			t.Fatal(name, "shares memory with the argument")
		}
	}
}

// roomyNode: the same node, each list of which has room behind it that is filled; and these lists with their room.
func roomyNode(n impl.Node) (impl.Node, []any) {
	list, wholeList := roomy(n.Log.List, entry(-77, 77))
	votes, wholeVotes := roomy(n.Votes, true)
	next, wholeNext := roomy(n.Next, -77)
	match, wholeMatch := roomy(n.Match, -77)
	var wholeSnap, wholeNow []any
	n.Snap, wholeSnap = roomyMachine(n.Snap)
	n.Now, wholeNow = roomyMachine(n.Now)
	n.Log.List, n.Votes, n.Next, n.Match = list, votes, next, match
	return n, slices.Concat(wholeSnap, wholeNow, []any{wholeList(), wholeVotes(), wholeNext(), wholeMatch()})
}

func spoilNode(n impl.Node) {
	spoil(n.Log.List, entry(-88, 88))
	spoil(n.Votes, true)
	spoil(n.Next, -88)
	spoil(n.Match, -88)
	for _, m := range []impl.Machine{n.Snap, n.Now} {
		spoil(m.Last, none(-88, -88))
		for _, part := range partsOf(&m.T) {
			spoil(part.Pairs, impl.Pair{K: -88})
			spoil(part.Cuts, -88)
			spoil(part.Buf, impl.Msg{Op: -88})
		}
	}
}

// oneMemory: a node whose lists of one kind are one.
func oneMemory(role int) impl.Node {
	n := busy(role, 14)
	both := []int{11, 12, 13}
	n.Next, n.Match = both, both[:3:3]
	shared := machine(sharing()[1].tree, nine(3)...)
	n.Snap, n.Now = shared, shared
	return n
}

func nodesToKeep() []nodeTurn {
	list := slices.Concat(goodTurns(), badTurns())
	for _, role := range roles {
		list = append(list, nodeTurn{"a busy one", func(n *impl.Node) { *n = busy(role, 14) }}, nodeTurn{"one memory", func(n *impl.Node) { *n = oneMemory(role) }})
	}
	for _, c := range sharing() {
		list = append(list, nodeTurn{c.name, func(n *impl.Node) { *n = busy(impl.RoLead, 14); n.Snap.T, n.Now.T = c.tree, c.tree }})
	}
	return list
}

func TestNodesAreNotWrittenInto(t *testing.T) {
	t.Parallel()
	for _, c := range nodesToKeep() {
		plain := turnedNode(c)
		n, wholes := roomyNode(plain)
		_, kept := roomyNode(plain)
		for _, size := range []int{3, 2} {
			impl.NodeOk(n, size)
			for _, i := range []int{plain.Log.Base, plain.Log.Base + 1, plain.Commit, plain.Commit + 1, plain.Log.Base + len(plain.Log.List), 0, -1} {
				for _, of := range []impl.Node{n, plain} {
					for _, got := range []impl.Node{impl.Rise(of, size), impl.CommitTo(of, size, i), impl.Compact(of, size, i)} {
						apart(t, c.name, got, of)
						spoilNode(got)
					}
				}
			}
		}
		if !reflect.DeepEqual(wholes, kept) || !sameNode(plain, n) {
			t.Fatal("written into, or memory shared with an answer:", c.name)
		}
	}
	for size := 1; size <= 5; size++ {
		first, _ := impl.NodeNew(0, size)
		apart(t, "a new one", first, first.Id)
		spoilNode(first)
		if again, ok := impl.NodeNew(0, size); !ok || !sameNode(impl.Rise(again, size), again) || again.Next[0] != 1 {
			t.Error("two new ones share memory:", again)
		}
	}
}

func TestStrangeNodesStay(t *testing.T) {
	for _, c := range append(strangeTrees(), treeCase{name: "one met ever again", tree: manyfold()}) {
		depth := 12
		if len(c.tree.Kids) > 2 {
			depth = 1
		}
		n := busy(impl.RoLead, 14)
		for _, at := range []*impl.Machine{&n.Snap, &n.Now} {
			was := at.T
			at.T = c.tree
			if impl.NodeOk(n, 3) {
				t.Error(c.name, "is no node")
			}
			for _, got := range []impl.Node{impl.Rise(n, 3), impl.CommitTo(n, 3, 16), impl.Compact(n, 3, 12)} {
				if !sameDown(depth, got.Snap.T, n.Snap.T) || !sameDown(depth, got.Now.T, n.Now.T) || got.Role != impl.RoLead || got.Commit != 14 || !sameLog(got.Log, n.Log) {
					t.Error(c.name, "did not stay")
				}
			}
			at.T = was
		}
	}
	n := small(3)
	n.Votes, n.Next, n.Match = each(1000000, true), each(1000000, 1), each(1000000, 0)
	for _, size := range []int{3, 1000000} {
		if impl.NodeOk(n, size) || !sameNode(impl.Rise(n, size), n) || !sameNode(impl.CommitTo(n, size, 5), n) || !sameNode(impl.Compact(n, size, 3), n) {
			t.Error("one of very many did not stay")
		}
	}
}

// A log that is as long as can be, with few commands in it.
func TestNodesOfLongLogs(t *testing.T) {
	n := small(2)
	n.Log = impl.Log{List: each(100000, impl.Entry{Term: 5})}
	n.Log.List[0].C, n.Log.List[49999].C, n.Log.List[99999].C = cmd(1, 1, put(3, 3)), cmd(1, 2, add(3, 4)), cmd(2, 1, add(3, 5))
	n.Snap, n.Now, n.Commit = impl.MachineNew(), impl.MachineNew(), 0
	all := impl.CommitTo(n, 2, 100000)
	if !impl.NodeOk(all, 2) || all.Commit != 100000 || !sameMachine(all.Now, machine(leaf(3, 12), had(1, 2, 7), had(2, 1, 12))) {
		t.Error("came to", all.Now)
	}
	if got := impl.CommitTo(n, 2, 99999); got.Commit != 99999 || !sameMachine(got.Now, machine(leaf(3, 7), had(1, 2, 7))) {
		t.Error("came to", got.Now)
	}
	if got := impl.CommitTo(n, 2, 100001); !sameNode(got, n) {
		t.Error("committed beyond the last")
	}
	half := impl.Compact(all, 2, 50000)
	if half.Log.Base != 50000 || len(half.Log.List) != 50000 || !sameMachine(half.Snap, machine(leaf(3, 7), had(1, 2, 7))) || !sameMachine(half.Now, all.Now) {
		t.Error("came to", half.Snap)
	}
	none := impl.Compact(half, 2, 100000)
	if !impl.NodeOk(none, 2) || none.Log.Base != 100000 || len(none.Log.List) != 0 || !sameMachine(none.Snap, all.Now) {
		t.Error("came to", none.Snap)
	}
	if rose := impl.Rise(none, 2); rose.Commit != 100000 || !sameMachine(rose.Now, all.Now) {
		t.Error("rose as", rose)
	}
}
