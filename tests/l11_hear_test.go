package tests

import (
	"math"
	"reflect"
	"slices"
	"testing"

	"loop.example/g00234/impl"
)

// followByTheWord: it follows a Term.
func followByTheWord(n impl.Node, term int) impl.Node {
	if term > n.Term {
		n.Term, n.Vote = term, -1
	}
	n.Role = 0
	return n
}

// hearByTheWord has each sentence of the chapter at its place, one Kind behind the other.
func hearByTheWord(n impl.Node, size int, r impl.Rpc) (impl.Node, []impl.Rpc) {
	if !nodeOkByTheWord(n, size) || !rpcOkByTheWord(r, size) || r.To != n.Id {
		return n, nil
	}
	if r.Term > n.Term {
		n = followByTheWord(n, r.Term)
	}
	answer := impl.Rpc{From: n.Id, To: r.From}
	switch r.Kind {
	case 1:
		n, answer = askHeardByTheWord(n, r, answer)
	case 2:
		n = voteHeardByTheWord(n, size, r)
	case 3:
		n, answer = putHeardByTheWord(n, size, r, answer)
	case 4:
		n = gotHeardByTheWord(n, size, r)
	case 5:
		n, answer = snapHeardByTheWord(n, size, r, answer)
	}
	if answer.Kind == 0 {
		return n, nil
	}
	answer.Term = n.Term
	return n, []impl.Rpc{answer}
}

func askHeardByTheWord(n impl.Node, r, answer impl.Rpc) (impl.Node, impl.Rpc) {
	answer.Kind = 2
	if r.Term == n.Term && (n.Vote == -1 || n.Vote == r.From) && newerByTheWord(n.Log, r.Index, r.IndexTerm) {
		answer.Ok, n.Vote = true, r.From
	}
	return n, answer
}

func voteHeardByTheWord(n impl.Node, size int, r impl.Rpc) impl.Node {
	if n.Role != 1 || !r.Ok || r.Term != n.Term {
		return n
	}
	n.Votes = slices.Clone(n.Votes)
	n.Votes[r.From] = true
	have := 0
	for _, has := range n.Votes {
		if has {
			have++
		}
	}
	if 2*have > size {
		return leadByTheWord(n, size)
	}
	return n
}

// allowedByTheWord: Next and Match are at most what the last number allows.
func allowedByTheWord(n impl.Node) impl.Node {
	n.Next, n.Match = slices.Clone(n.Next), slices.Clone(n.Match)
	last := n.Log.Base + len(n.Log.List)
	for i := range n.Next {
		if n.Next[i] > last+1 {
			n.Next[i] = last + 1
		}
		if n.Match[i] > last {
			n.Match[i] = last
		}
	}
	return n
}

func putHeardByTheWord(n impl.Node, size int, r, answer impl.Rpc) (impl.Node, impl.Rpc) {
	last := n.Log.Base + len(n.Log.List)
	answer.Kind = 4
	if r.Term < n.Term {
		answer.Index = last
		return n, answer
	}
	n = followByTheWord(n, r.Term)
	if r.Index < n.Log.Base {
		answer.Ok, answer.Index = true, n.Log.Base
		return n, answer
	}
	came, fine := logPutByTheWord(n.Log, r.Index, r.IndexTerm, r.Entries)
	for i := n.Log.Base + 1; fine && i <= n.Commit; i++ {
		at := i - n.Log.Base - 1
		fine = at < len(came.List) && came.List[at] == n.Log.List[at]
	}
	for _, e := range came.List {
		fine = fine && e.Term <= n.Term
	}
	if !fine {
		answer.Index = max(0, min(last, r.Index-1))
		return n, answer
	}
	n.Log = came
	n = allowedByTheWord(n)
	answer.Ok, answer.Index = true, r.Index+len(r.Entries)
	return commitByTheWord(n, size, min(r.Commit, answer.Index)), answer
}

func gotHeardByTheWord(n impl.Node, size int, r impl.Rpc) impl.Node {
	if n.Role != 2 || r.Term != n.Term {
		return n
	}
	n.Next, n.Match = slices.Clone(n.Next), slices.Clone(n.Match)
	if r.Ok && r.Index > n.Match[r.From] && r.Index <= n.Log.Base+len(n.Log.List) {
		n.Match[r.From] = r.Index
	}
	if !r.Ok && r.Index+1 < n.Next[r.From] {
		n.Next[r.From] = r.Index + 1
	}
	if n.Next[r.From] < n.Match[r.From]+1 {
		n.Next[r.From] = n.Match[r.From] + 1
	}
	if r.Ok {
		n = countByTheWord(n, size)
	}
	return n
}

func snapHeardByTheWord(n impl.Node, size int, r, answer impl.Rpc) (impl.Node, impl.Rpc) {
	if r.Term < n.Term {
		answer.Kind, answer.Index = 4, n.Log.Base+len(n.Log.List)
		return n, answer
	}
	n = followByTheWord(n, r.Term)
	if r.Index <= n.Commit {
		answer.Kind, answer.Ok, answer.Index = 4, true, n.Commit
		return n, answer
	}
	came := n
	if termAtByTheWord(n.Log, r.Index) == r.IndexTerm {
		came = commitByTheWord(n, size, r.Index)
	} else {
		came.Log, came.Snap, came.Now, came.Commit = logOf(r.Index, r.IndexTerm), r.Snap, r.Snap, r.Index
		came = allowedByTheWord(came)
		if !nodeOkByTheWord(came, size) {
			return n, answer
		}
	}
	answer.Kind, answer.Ok, answer.Index = 4, true, r.Index
	return came, answer
}

// committed: the commands from number i on, up to what it committed.
func committed(n impl.Node, i int) []impl.Entry {
	return impl.EntriesFrom(n.Log, i)[:max(0, n.Commit-i+1)]
}

// staysRight: P11, of a node that is NodeOk and what came of it by what it heard.
func staysRight(t *testing.T, name string, n impl.Node, size int, r impl.Rpc, got impl.Node, told []impl.Rpc) {
	t.Helper()
	switch {
	case !impl.NodeOk(got, size) || got.Id != n.Id:
		t.Fatal(name, "is no node any more:", got, "of", n, r)
	case got.Term < n.Term || got.Commit < n.Commit || got.Log.Base < n.Log.Base:
		t.Fatal(name, "has a Term, or committed what is less:", got, "of", n, r)
	case got.Term == n.Term && n.Vote != -1 && got.Vote != n.Vote:
		t.Fatal(name, "voted for two in one Term:", got, "of", n, r)
	case len(told) > 1:
		t.Fatal(name, "told", told)
	case r.Kind == impl.RpGot && n.Role == impl.RoLead && r.Term == n.Term && got.Next[r.From] <= got.Match[r.From]:
		t.Fatal(name, "is to feed what the other one has:", got, "of", n, r)
	}
	if from := got.Log.Base + 1; from <= n.Commit && !slices.Equal(committed(got, from)[:n.Commit-from+1], committed(n, from)) {
		t.Fatal(name, "turned what was committed:", got, "of", n, r)
	}
	if got.Commit == n.Commit && !sameMachine(got.Now, n.Now) {
		t.Fatal(name, "committed nothing, and has another machine:", got, "of", n, r)
	}
	for _, a := range told {
		if !impl.RpcOk(a, size) || a.From != n.Id || a.To != r.From || a.Term != got.Term || a.IndexTerm != 0 || a.Commit != 0 || len(a.Entries) != 0 || !sameMachine(a.Snap, impl.Machine{}) {
			t.Fatal(name, "told what is not right:", a, "of", n, r)
		}
		if a.Kind == impl.RpVote && a.Ok && (got.Vote != r.From || got.Term != r.Term) {
			t.Fatal(name, "told of a vote that it did not give:", a, "of", n, r)
		}
		if a.Kind == impl.RpGot && a.Ok && (a.Index > got.Log.Base+len(got.Log.List) || got.Term != r.Term) {
			t.Fatal(name, "told of what it has not:", a, "of", n, r)
		}
	}
}

// hears: what comes of one that hears something, and what it tells; and that what is heard twice turns nothing more.
func hears(t *testing.T, name string, n impl.Node, size int, r impl.Rpc, want impl.Node, told ...impl.Rpc) {
	t.Helper()
	got, list := impl.Hear(n, size, r)
	if !sameNode(got, want) || !slices.EqualFunc(list, told, sameRpc) {
		t.Fatal(name, "came to", got, list, "and not to", want, told)
	}
	staysRight(t, name, n, size, r, got, list)
	again, list := impl.Hear(got, size, r)
	if !sameNode(again, got) {
		t.Fatal(name, "a second time came to", again, "and not to", got)
	}
	staysRight(t, name, got, size, r, again, list)
}

func hearsNot(t *testing.T, name string, n impl.Node, size int, r impl.Rpc) {
	t.Helper()
	if got, list := impl.Hear(n, size, r); !sameNode(got, n) || len(list) != 0 {
		t.Fatal(name, "came to", got, list)
	}
}

// vote, hasUpTo: what number from answers number to.
func vote(from, to, term int, ok bool) impl.Rpc {
	return impl.Rpc{Kind: impl.RpVote, From: from, To: to, Term: term, Ok: ok}
}

func hasUpTo(from, to, term int, ok bool, index int) impl.Rpc {
	return impl.Rpc{Kind: impl.RpGot, From: from, To: to, Term: term, Ok: ok, Index: index}
}

// fed: entries behind number index, and what was committed, from number 0 to number 1.
func fed(term, index, indexTerm, commit int, list ...impl.Entry) impl.Rpc {
	return impl.Rpc{Kind: impl.RpPut, From: 0, To: 1, Term: term, Index: index, IndexTerm: indexTerm, Commit: commit, Entries: list}
}

// snapped: the machine behind an entry, from number 0 to number 1.
func snapped(term, index, indexTerm int, m impl.Machine) impl.Rpc {
	return impl.Rpc{Kind: impl.RpSnap, From: 0, To: 1, Term: term, Index: index, IndexTerm: indexTerm, Snap: m}
}

// Of a lesser Term nothing is turned; of a greater one it follows that, ahead of all else; of its own, who hears of one that leads follows.
func TestHearOfTerms(t *testing.T) {
	late := map[int][]impl.Rpc{
		impl.RpAsk:  {vote(1, 0, 8, false)},
		impl.RpPut:  {hasUpTo(1, 0, 8, false, 18)},
		impl.RpSnap: {hasUpTo(1, 0, 8, false, 18)},
	}
	for _, kind := range rpcKinds {
		for _, role := range roles {
			for commit := 10; commit <= 18; commit++ {
				for _, term := range []int{0, 7} {
					for _, ok := range []bool{false, true} {
						n := busy(role, commit)
						r := impl.Rpc{Kind: kind, From: 0, To: 1, Term: term, Index: 18, IndexTerm: 7, Commit: 18, Ok: ok, Snap: behind(8)}
						hears(t, "a lesser Term", n, 3, r, n, late[kind]...)
					}
				}
				for _, term := range []int{8, 9, 100000} {
					n := busy(role, commit)
					r := impl.Rpc{Kind: kind, From: 0, To: 1, Term: term, Index: commit, IndexTerm: impl.TermAt(n.Log, commit), Snap: behind(commit - 10)}
					want, told := n, []impl.Rpc(nil)
					if term > 8 {
						want.Term, want.Vote, want.Role = term, -1, impl.RoFollow
					}
					switch kind {
					case impl.RpAsk:
						told = []impl.Rpc{vote(1, 0, term, false)}
						if commit == 18 && term > 8 {
							told[0].Ok, want.Vote = true, 0
						}
					case impl.RpPut, impl.RpSnap:
						want.Role, told = impl.RoFollow, []impl.Rpc{hasUpTo(1, 0, term, true, commit)}
					case impl.RpGot:
						if role == impl.RoLead && term == 8 {
							want.Next = []int{commit + 1, 1, 14}
						}
					}
					hears(t, "its own Term or a greater one", n, 3, r, want, told...)
				}
			}
		}
	}
}

func TestHearAsk(t *testing.T) {
	for _, role := range roles {
		for voted := -1; voted <= 2; voted++ {
			for _, c := range []struct {
				index, term int
				newer       bool
			}{
				{17, 7, false}, {18, 7, true}, {19, 7, true}, {100000, 7, true}, {0, 7, false},
				{18, 6, false}, {19, 6, false}, {100000, 6, false}, {100000, 0, false}, {0, 0, false},
				{0, 8, true}, {1, 8, true}, {18, 8, true}, {0, 100000, true},
			} {
				for _, from := range []int{0, 2} {
					n := busy(role, 14)
					n.Vote = voted
					want, ok := n, c.newer && (voted == -1 || voted == from)
					if ok {
						want.Vote = from
					}
					hears(t, "its own Term", n, 3, ask(from, 1, 8, c.index, c.term), want, vote(1, from, 8, ok))

					want = n
					want.Term, want.Vote, want.Role = 9, -1, impl.RoFollow
					if c.newer {
						want.Vote = from
					}
					hears(t, "a greater Term", n, 3, ask(from, 1, 9, c.index, c.term), want, vote(1, from, 9, c.newer))
					hears(t, "a lesser Term", n, 3, ask(from, 1, 7, c.index, c.term), n, vote(1, from, 8, false))
				}
			}
		}
	}
}

// In one Term the first one that may has its vote, and all others have it not, whatever they tell; also behind a fall.
func TestOneVoteInATerm(t *testing.T) {
	for size := 2; size <= 5; size++ {
		for id := range size {
			n, _ := impl.NodeNew(id, size)
			for term := 1; term <= 4; term++ {
				first := -1
				for i := range 2 * size {
					from := (i*term + term) % size
					if from == id {
						continue
					}
					if first == -1 {
						first = from
					}
					next, told := impl.Hear(n, size, ask(from, id, term, 0, 0))
					if next.Vote != first || next.Term != term || len(told) != 1 || !sameRpc(told[0], vote(id, from, term, from == first)) {
						t.Fatal("asked by", from, "it came to", next, told, "and had voted for", first)
					}
					n = impl.Rise(next, size)
				}
			}
		}
	}
	n, _ := impl.NodeNew(1, 3)
	n, _ = impl.Ask(n, 3)
	hears(t, "who stands has voted for itself", n, 3, ask(0, 1, 1, 100, 1), n, vote(1, 0, 1, false))
}

func TestHearAskAtTheLimits(t *testing.T) {
	for _, role := range roles {
		n := small(3)
		n.Role, n.Vote = role, -1
		want := n
		want.Term, want.Vote, want.Role = 100000, 0, impl.RoFollow
		hears(t, "the greatest Term", n, 3, ask(0, 1, 100000, 100000, 100000), want, vote(1, 0, 100000, true))
		n.Term = 100000
		want = n
		want.Vote = 2
		hears(t, "the greatest Term as its own", n, 3, ask(2, 1, 100000, 5, 4), want, vote(1, 2, 100000, true))
		hears(t, "the Term ahead of the greatest", n, 3, ask(2, 1, 99999, 5, 4), n, vote(1, 2, 100000, false))
		hearsNot(t, "a Term beyond", n, 3, ask(2, 1, 100001, 5, 4))
	}
	n, _ := impl.NodeNew(1, 3)
	want := n
	want.Vote = 0
	hears(t, "Term 0, and nothing", n, 3, ask(0, 1, 0, 0, 0), want, vote(1, 0, 0, true))
	full := small(3)
	full.Log, full.Commit, full.Vote = logOf(100000, 4), 100000, -1
	want = full
	want.Vote = 0
	hears(t, "a full one", full, 3, ask(0, 1, 5, 100000, 4), want, vote(1, 0, 5, true))
	hears(t, "a full one, of less", full, 3, ask(0, 1, 5, 99999, 4), full, vote(1, 0, 5, false))
}

// standing: one of so many that stands in Term 3, with the entries 3 and 4 of Terms 1 and 2.
func standing(id, size int) impl.Node {
	n := impl.Node{
		Id: id, Term: 3, Vote: id, Log: termLog(2, 1, 1, 2), Snap: machine(leaf(1, 1)), Role: impl.RoStand,
		Votes: each(size, false), Next: each(size, 2), Match: each(size, 4), Commit: 2, Now: machine(leaf(1, 1)),
	}
	n.Votes[id] = true
	return n
}

// chosen: what comes of one that stands, with these votes, when it leads.
func chosen(n impl.Node, size int) impl.Node {
	last, _ := impl.LastOf(n.Log)
	n.Role, n.Next, n.Match = impl.RoLead, each(size, last+1), each(size, 0)
	n.Log.List = append(slices.Clone(n.Log.List), impl.Entry{Term: n.Term})
	n.Match[n.Id] = last + 1
	return n
}

func TestHearVote(t *testing.T) {
	for size := 2; size <= 5; size++ {
		for id := range size {
			n := standing(id, size)
			have := 1
			for i := range size - 1 {
				from := (id + 1 + i) % size
				hears(t, "one that is not Ok", n, size, vote(from, id, 3, false), n)
				hears(t, "one of an older Term", n, size, vote(from, id, 2, true), n)
				want := n
				want.Votes = slices.Clone(n.Votes)
				want.Votes[from] = true
				have++
				if 2*have > size {
					want = chosen(want, size)
				}
				hears(t, "one that is Ok", n, size, vote(from, id, 3, true), want)
				n, _ = impl.Hear(n, size, vote(from, id, 3, true))
				if 2*have > size {
					break
				}
			}
			if n.Role != impl.RoLead || have != size/2+1 || n.Commit != 2 {
				t.Error("number", id, "of", size, "came to", n, "by", have)
			}
			for from := range size {
				if from != id {
					hears(t, "one that comes late", n, size, vote(from, id, 3, true), n)
				}
			}
		}
	}
}

// A vote counts once, however often it is heard.
func TestHearVoteAgain(t *testing.T) {
	n := standing(2, 5)
	for range 5 {
		next, told := impl.Hear(n, 5, vote(4, 2, 3, true))
		if next.Role != impl.RoStand || !slices.Equal(next.Votes, []bool{false, false, true, false, true}) || len(told) != 0 {
			t.Fatal("came to", next, told)
		}
		n = next
	}
	want := n
	want.Votes = []bool{true, false, true, false, true}
	hears(t, "the third of five", n, 5, vote(0, 2, 3, true), chosen(want, 5))
}

func TestHearVoteOfOthers(t *testing.T) {
	for size := 2; size <= 5; size++ {
		for _, role := range []int{impl.RoFollow, impl.RoLead} {
			n := standing(1, size)
			n.Role = role
			hears(t, "who does not stand", n, size, vote(0, 1, 3, true), n)
		}
		for _, role := range roles {
			for _, ok := range []bool{false, true} {
				n := standing(1, size)
				n.Role = role
				want := n
				want.Term, want.Vote, want.Role = 4, -1, impl.RoFollow
				hears(t, "a greater Term", n, size, vote(0, 1, 4, ok), want)
			}
		}
		n := standing(1, size)
		n.Votes = each(size, true)
		hears(t, "who has all, and is refused", n, size, vote(0, 1, 3, false), n)
		hears(t, "who has all", n, size, vote(0, 1, 3, true), chosen(n, size))
		n.Votes = each(size, false)
		want := n
		want.Votes = each(size, false)
		want.Votes[0] = true
		hears(t, "who has not its own", n, size, vote(0, 1, 3, true), want)
	}
}

// The entry of who was chosen is of its Term, so that it may be counted; a full log has no room for it.
func TestHearVoteAtTheLimits(t *testing.T) {
	for _, l := range []impl.Log{logOf(100000, 2), termLog(99998, 2, 2, 3), longLog(0, 3, 100000)} {
		for size := 2; size <= 3; size++ {
			n := standing(1, size)
			n.Log, n.Commit, n.Next, n.Match = l, 100000, each(size, 7), each(size, 9)
			want := n
			want.Role, want.Votes, want.Next, want.Match = impl.RoFollow, each(size, false), each(size, 100001), each(size, 0)
			want.Votes[0], want.Votes[1] = true, true
			hears(t, "a full one", n, size, vote(0, 1, 3, true), want)
		}
	}
	for _, l := range []impl.Log{logOf(99999, 2), termLog(99997, 2, 2, 3), longLog(0, 3, 99999), logOf(0, 0)} {
		n := standing(1, 2)
		last, _ := impl.LastOf(l)
		n.Log, n.Commit, n.Next, n.Match = l, last, each(2, 1), each(2, 0)
		want := n
		want.Votes = each(2, true)
		hears(t, "one with room for one", n, 2, vote(0, 1, 3, true), chosen(want, 2))
	}
	n := standing(0, 3)
	n.Term = 100000
	want := n
	want.Votes = []bool{true, false, true}
	hears(t, "the greatest Term", n, 3, vote(2, 0, 100000, true), chosen(want, 3))
	n, _ = impl.NodeNew(0, 3)
	n.Role = impl.RoStand
	want = n
	want.Votes = []bool{false, false, true}
	hears(t, "Term 0", n, 3, vote(2, 0, 0, true), want)
	n.Votes = []bool{false, true, false}
	want.Votes = []bool{false, true, true}
	hears(t, "the second in Term 0", n, 3, vote(2, 0, 0, true), chosen(want, 3))
}

// busyEntries: the entries of the busy one, from number i on, so many of them.
func busyEntries(i, count int) []impl.Entry { return busy(0, 10).Log.List[i-11:][:count] }

// busyWith: the busy one that follows, whose entries behind number i are these, and what it knows of others then, up to its last number.
func busyWith(commit, i int, list ...impl.Entry) impl.Node {
	n := busy(impl.RoFollow, commit)
	n.Log.List = slices.Concat(n.Log.List[:i-10], list)
	last := i + len(list)
	n.Next, n.Match = []int{min(19, last+1), 1, min(14, last+1)}, []int{0, min(18, last), min(13, last)}
	return n
}

type putCase struct {
	name  string
	r     impl.Rpc
	ok    bool
	index int
	want  impl.Node
}

// busyPuts: what the busy one that committed up to number 14 comes to. Its entries 11 to 18 are of the Terms 3, 3, 4, 4, 4, 6, 6 and 7.
func busyPuts() []putCase {
	new8, new9 := entry(8, 500), entry(8, 600)
	all := func(commit, term int) impl.Rpc { return fed(term, 10, 3, commit, busyEntries(11, 8)...) }
	plain, behindNew := busyWith(14, 18), busyWith(18, 18, new8)
	behindNew.Commit, behindNew.Now = 19, impl.MachineAll(behind(8), cmds(new8.C))
	turned := busyWith(15, 15, new8, new9)
	turned.Commit, turned.Now = 17, impl.MachineAll(behind(5), cmds(new8.C, new9.C))
	return []putCase{
		{"behind all", fed(8, 18, 7, 0, new8), true, 19, busyWith(14, 18, new8)},
		{"two behind all", fed(8, 18, 7, 13, new8, new9), true, 20, busyWith(14, 18, new8, new9)},
		{"Commit as its own", fed(8, 18, 7, 14, new8), true, 19, busyWith(14, 18, new8)},
		{"Commit above its own", fed(8, 18, 7, 16, new8), true, 19, busyWith(16, 18, new8)},
		{"Commit below what comes", fed(8, 18, 7, 18, new8), true, 19, busyWith(18, 18, new8)},
		{"Commit at what comes", fed(8, 18, 7, 19, new8), true, 19, behindNew},
		{"Commit above what comes", fed(8, 18, 7, 20, new8), true, 19, behindNew},
		{"the greatest Commit", fed(8, 18, 7, 100000, new8), true, 19, behindNew},

		{"no entries", fed(8, 18, 7, 0), true, 18, plain},
		{"no entries, and Commit", fed(8, 18, 7, 17), true, 18, busyWith(17, 18)},
		{"no entries, and all of them", fed(8, 18, 7, 100000), true, 18, busyWith(18, 18)},
		{"no entries in the middle", fed(8, 15, 4, 18), true, 15, busyWith(15, 18)},
		{"no entries at what was committed", fed(8, 14, 4, 18), true, 14, plain},
		{"no entries below that", fed(8, 12, 3, 18), true, 12, plain},
		{"no entries at Base", fed(8, 10, 3, 18), true, 10, plain},

		{"all of them", all(0, 8), true, 18, plain},
		{"all of them, and Commit", all(16, 8), true, 18, busyWith(16, 18)},
		{"the first of them", fed(8, 10, 3, 18, busyEntries(11, 1)...), true, 11, plain},
		{"some of them", fed(8, 12, 3, 18, busyEntries(13, 4)...), true, 16, busyWith(16, 18)},
		{"other commands of the same Terms", fed(8, 12, 3, 18, entries(700, 4, 4, 4, 6)...), true, 16, busyWith(16, 18)},
		{"some, and new ones", fed(8, 16, 6, 0, append(busyEntries(17, 2), new8)...), true, 19, busyWith(14, 18, new8)},

		{"the last one turned", fed(8, 17, 6, 0, new8), true, 18, busyWith(14, 17, new8)},
		{"some turned", fed(8, 15, 4, 0, new8, new9), true, 17, busyWith(14, 15, new8, new9)},
		{"some turned, and Commit", fed(8, 15, 4, 17, new8, new9), true, 17, turned},
		{"some turned, and a greater Commit", fed(8, 15, 4, 18, new8, new9), true, 17, turned},
		{"some turned by more", fed(8, 15, 4, 0, entries(700, 8, 8, 8, 8)...), true, 19, busyWith(14, 15, entries(700, 8, 8, 8, 8)...)},
		{"all turned that were not committed", fed(8, 14, 4, 0, new8), true, 15, busyWith(14, 14, new8)},
		{"turned behind some that stay", fed(8, 12, 3, 0, append(busyEntries(13, 3), new8)...), true, 16, busyWith(14, 15, new8)},
		{"turned to a lesser Term", fed(8, 15, 4, 0, entry(5, 700)), true, 16, busyWith(14, 15, entry(5, 700))},

		{"one turned that was committed", fed(8, 13, 4, 0, new8), false, 12, plain},
		{"one turned that was committed, and Commit", fed(8, 13, 4, 18, new8), false, 12, plain},
		{"all turned", fed(8, 10, 3, 18, entries(700, 4, 4, 4, 4, 4, 4, 4, 4)...), false, 9, plain},
		{"some stay, one turned that was committed", fed(8, 11, 3, 18, append(busyEntries(12, 2), new8)...), false, 10, plain},

		{"another Term at the last", fed(8, 18, 6, 18, new8), false, 17, plain},
		{"a greater Term at the last", fed(8, 18, 8, 18, new8), false, 17, plain},
		{"another Term in the middle", fed(8, 16, 7, 18, new8), false, 15, plain},
		{"another Term at Base", fed(8, 10, 2, 18, busyEntries(11, 8)...), false, 9, plain},
		{"another Term, and no entries", fed(8, 18, 0, 18), false, 17, plain},
		{"one beyond the end", fed(8, 19, 7, 18, new8), false, 18, plain},
		{"two beyond the end", fed(8, 20, 7, 18, new8), false, 18, plain},
		{"far beyond the end", fed(8, 100000, 100000, 100000, new8), false, 18, plain},
		{"Terms that fall", fed(8, 18, 7, 18, new8, entry(7, 700)), false, 17, plain},
		{"a Term below that of the one ahead", fed(8, 18, 7, 18, entry(6, 700)), false, 17, plain},

		{"one below Base", fed(8, 9, 3, 18, new8, new9), true, 10, plain},
		{"one below Base, and no entries", fed(8, 9, 100000, 100000), true, 10, plain},
		{"at 0", fed(8, 0, 0, 18, entries(700, 1, 2, 3, 4)...), true, 10, plain},
		{"at 0, with more than it has", fed(8, 0, 0, 18, each(30, new8)...), true, 10, plain},
	}
}

func TestHearPut(t *testing.T) {
	for _, c := range busyPuts() {
		for _, role := range roles {
			hears(t, c.name, busy(role, 14), 3, c.r, c.want, hasUpTo(1, 0, 8, c.ok, c.index))
			for _, term := range []int{9, 100000} {
				r, want := c.r, c.want
				r.Term, want.Term, want.Vote = term, term, -1
				hears(t, c.name+", of a greater Term", busy(role, 14), 3, r, want, hasUpTo(1, 0, term, c.ok, c.index))
			}
			r := c.r
			r.Term, r.Entries = 7, slices.DeleteFunc(slices.Clone(r.Entries), func(e impl.Entry) bool { return e.Term > 7 })
			hears(t, c.name+", of a lesser Term", busy(role, 14), 3, r, busy(role, 14), hasUpTo(1, 0, 8, false, 18))
		}
	}
}

// Whatever was committed: one entry of another Term at each number, behind what is there.
func TestHearPutAtEachNumber(t *testing.T) {
	for commit := 10; commit <= 18; commit++ {
		for at := 11; at <= 19; at++ {
			n := busy(impl.RoFollow, commit)
			r := fed(8, at-1, impl.TermAt(n.Log, at-1), 0, entry(8, 500))
			if at <= commit {
				hears(t, "what was committed", n, 3, r, n, hasUpTo(1, 0, 8, false, at-2))
			} else {
				hears(t, "what was not committed", n, 3, r, busyWith(commit, at-1, entry(8, 500)), hasUpTo(1, 0, 8, true, at))
			}
			r.Entries, r.Commit = nil, 100000
			hears(t, "no entries", n, 3, r, busyWith(max(commit, at-1), 18), hasUpTo(1, 0, 8, true, at-1))
		}
	}
}

// What a node knows of others ends where its log does, once that is shorter.
func TestHearPutHoldsNextAndMatch(t *testing.T) {
	for _, c := range []struct{ next, match, wantNext, wantMatch []int }{
		{[]int{16, 17, 18}, []int{15, 16, 17}, []int{16, 17, 17}, []int{15, 16, 16}},
		{[]int{17, 18, 19}, []int{16, 17, 18}, []int{17, 17, 17}, []int{16, 16, 16}},
		{[]int{19, 1, 1}, []int{18, 0, 0}, []int{17, 1, 1}, []int{16, 0, 0}},
		{[]int{1, 1, 1}, []int{0, 18, 0}, []int{1, 1, 1}, []int{0, 16, 0}},
	} {
		for _, role := range roles {
			n := busy(role, 14)
			n.Next, n.Match = c.next, c.match
			want := busyWith(14, 15, entry(8, 500))
			want.Next, want.Match = c.wantNext, c.wantMatch
			hears(t, "a shorter one", n, 3, fed(8, 15, 4, 0, entry(8, 500)), want, hasUpTo(1, 0, 8, true, 16))
			want = busyWith(14, 18)
			want.Next, want.Match = c.next, c.match
			hears(t, "one as long", n, 3, fed(8, 16, 6, 0), want, hasUpTo(1, 0, 8, true, 16))
		}
	}
}

func TestHearPutAtTheLimits(t *testing.T) {
	n, _ := impl.NodeNew(1, 3)
	for index := range 3 {
		hears(t, "a new one, and another Term", n, 3, fed(0, index, 1, 0), n, hasUpTo(1, 0, 0, false, 0))
		hears(t, "a new one, and what is not there", n, 3, fed(0, index+1, 0, 0), n, hasUpTo(1, 0, 0, false, 0))
	}
	hears(t, "a new one, and nothing", n, 3, fed(0, 0, 0, 0), n, hasUpTo(1, 0, 0, true, 0))
	want := n
	want.Log, want.Commit, want.Now = logOf(0, 0, entry(0, 1)), 1, impl.MachineAll(impl.MachineNew(), cmds(entry(0, 1).C))
	hears(t, "Term 0", n, 3, fed(0, 0, 0, 5, entry(0, 1)), want, hasUpTo(1, 0, 0, true, 1))
	want.Term, want.Log = 100000, termLog(0, 0, 100000)
	want.Log.List[0] = entry(100000, 1)
	hears(t, "the greatest Term", n, 3, fed(100000, 0, 0, 5, entry(100000, 1)), want, hasUpTo(1, 0, 100000, true, 1))

	for _, l := range []impl.Log{logOf(100000, 4), termLog(99998, 2, 2, 4)} {
		n := small(3)
		n.Log, n.Commit, n.Role = l, 100000, impl.RoFollow
		hears(t, "a full one", n, 3, fed(5, 100000, 4, 100000), n, hasUpTo(1, 0, 5, true, 100000))
		hears(t, "a full one, and an entry", n, 3, fed(5, 100000, 4, 100000, entry(5, 1)), n, hasUpTo(1, 0, 5, false, 99999))
		hears(t, "a full one, and another Term", n, 3, fed(5, 100000, 3, 100000), n, hasUpTo(1, 0, 5, false, 99999))
	}
	n = small(3)
	n.Log, n.Commit, n.Role = termLog(99997, 2, 2, 4), 99998, impl.RoFollow
	want = n
	want.Log.List = append(slices.Clone(n.Log.List), entry(5, 1))
	hears(t, "one with room for one", n, 3, fed(5, 99999, 4, 0, entry(5, 1)), want, hasUpTo(1, 0, 5, true, 100000))
	hears(t, "one with room for one, and two", n, 3, fed(5, 99999, 4, 0, entry(5, 1), entry(5, 2)), n, hasUpTo(1, 0, 5, false, 99998))
	want.Log.List = append(slices.Clone(n.Log.List[:1]), entry(5, 1), entry(5, 2))
	hears(t, "one turned, and one more", n, 3, fed(5, 99998, 2, 0, entry(5, 1), entry(5, 2)), want, hasUpTo(1, 0, 5, true, 100000))
}

// Number 1 leads; entries 3 to 6 are of the Terms 1, 2, 4 and 4.
func TestHearGot(t *testing.T) {
	for _, c := range []struct {
		name        string
		next, match int // of number 0
		ok          bool
		index       int
		wantNext    int
		wantMatch   int
	}{
		{"below Match", 4, 3, true, 2, 4, 3},
		{"at Match", 4, 3, true, 3, 4, 3},
		{"one above Match", 4, 3, true, 4, 5, 4},
		{"two above Match", 4, 3, true, 5, 6, 5},
		{"the last number", 4, 3, true, 6, 7, 6},
		{"one beyond the last number", 4, 3, true, 7, 4, 3},
		{"far beyond the last number", 4, 3, true, 100000, 4, 3},
		{"at 0", 4, 3, true, 0, 4, 3},
		{"above Match, below Next", 7, 3, true, 4, 7, 4},
		{"above Match, one below Next", 6, 3, true, 5, 6, 5},
		{"above Match, at Next", 5, 3, true, 5, 6, 5},
		{"the last number as Match", 7, 6, true, 6, 7, 6},
		{"one beyond the last number as Match", 7, 6, true, 7, 7, 6},
		{"from nothing", 1, 0, true, 1, 2, 1},
		{"from nothing, of nothing", 1, 0, true, 0, 1, 0},
		{"from nothing, of what was cut off", 1, 0, true, 2, 3, 2},
		{"from nothing, of all", 1, 0, true, 6, 7, 6},

		{"not, at Next", 5, 0, false, 5, 5, 0},
		{"not, one less than Next", 5, 0, false, 4, 5, 0},
		{"not, two less than Next", 5, 0, false, 3, 4, 0},
		{"not, at 0", 5, 0, false, 0, 1, 0},
		{"not, beyond the last number", 7, 0, false, 7, 7, 0},
		{"not, far beyond", 7, 0, false, 100000, 7, 0},
		{"not, the last number", 7, 0, false, 6, 7, 0},
		{"not, one less than the last", 7, 0, false, 5, 6, 0},
		{"not, below Match", 7, 3, false, 1, 4, 3},
		{"not, one below Match", 7, 3, false, 2, 4, 3},
		{"not, at Match", 7, 3, false, 3, 4, 3},
		{"not, one above Match", 7, 3, false, 4, 5, 3},
		{"not, Next one more than Match", 4, 3, false, 0, 4, 3},
		{"not, Match at the last", 7, 6, false, 0, 7, 6},
		{"not, from nothing", 1, 0, false, 0, 1, 0},

		{"Next at Match, at Match", 3, 3, true, 3, 4, 3},
		{"Next at Match, below it", 3, 3, true, 2, 4, 3},
		{"Next at Match, above it", 3, 3, true, 4, 5, 4},
		{"Next below Match, at Match", 1, 3, true, 3, 4, 3},
		{"Next below Match, below it", 1, 3, true, 2, 4, 3},
		{"Next below Match, at 0", 1, 3, true, 0, 4, 3},
		{"Next below Match, above it", 1, 3, true, 5, 6, 5},
		{"Next below Match, one beyond the last number", 1, 3, true, 7, 4, 3},
		{"Next below Match, far beyond the last number", 1, 3, true, 100000, 4, 3},
		{"Next at Match, which is the last number", 6, 6, true, 6, 7, 6},
		{"Next below Match, which is the last number", 1, 6, true, 100000, 7, 6},
		{"Next below Match, of what was cut off", 1, 1, true, 1, 2, 1},

		{"not, Next at Match", 3, 3, false, 1, 4, 3},
		{"not, Next at Match, one less", 3, 3, false, 2, 4, 3},
		{"not, Next at Match, and no less", 3, 3, false, 3, 4, 3},
		{"not, Next below Match, and no less", 3, 5, false, 2, 6, 5},
		{"not, Next below Match, and one less", 3, 5, false, 1, 6, 5},
		{"not, Next below Match, at 0", 1, 3, false, 0, 4, 3},
		{"not, Next below Match, at Match", 1, 3, false, 3, 4, 3},
		{"not, Next below Match, above Match", 1, 3, false, 4, 4, 3},
		{"not, Next below Match, far beyond", 1, 3, false, 100000, 4, 3},
		{"not, Next at Match, which is the last number", 6, 6, false, 6, 7, 6},
		{"not, Next below Match, which is the last number", 1, 6, false, 0, 7, 6},
		{"not, Next below Match, of what was cut off", 1, 1, false, 0, 2, 1},
	} {
		for _, role := range roles {
			n := leaderOf(1, 5, 2, termLog(2, 1, 1, 2, 4, 4), c.match, 6, 0)
			n.Next, n.Role = []int{c.next, 7, 3}, role
			for _, term := range []int{0, 4} {
				hears(t, c.name+", of a lesser Term", n, 3, hasUpTo(0, 1, term, c.ok, c.index), n)
			}
			want := n
			want.Term, want.Vote, want.Role = 6, -1, impl.RoFollow
			hears(t, c.name+", of a greater Term", n, 3, hasUpTo(0, 1, 6, c.ok, c.index), want)
			want = n
			if role == impl.RoLead {
				want.Next, want.Match = []int{c.wantNext, 7, 3}, []int{c.wantMatch, 6, 0}
			}
			hears(t, c.name, n, 3, hasUpTo(0, 1, 5, c.ok, c.index), want)
		}
	}
}

// gotOne: one of some that lead, and up to which number it commits once number from has all up to number index.
type gotOne struct {
	term, commit int
	match        []int
	from, index  int
	want         int
}

// Entries 3 to 6 are of the Terms 1, 2, 4 and 4; number 1 leads.
func TestHearGotCounts(t *testing.T) {
	for _, c := range []gotOne{
		{4, 2, []int{0, 6}, 0, 6, 6},
		{4, 2, []int{0, 6}, 0, 5, 5},
		{4, 2, []int{0, 6}, 0, 4, 2}, // an entry of an older Term is not counted
		{4, 2, []int{0, 6}, 0, 7, 2},
		{4, 5, []int{0, 6}, 0, 5, 5},
		{4, 6, []int{0, 6}, 0, 5, 6},
		{4, 5, []int{0, 6}, 0, 6, 6},
		{5, 2, []int{0, 6}, 0, 6, 2},
		{4, 2, []int{0, 5}, 0, 6, 5}, // by the lists, not by what it has itself

		{4, 2, []int{0, 6, 0}, 0, 6, 6},
		{4, 2, []int{0, 6, 0}, 2, 6, 6},
		{4, 2, []int{0, 6, 0}, 2, 5, 5},
		{4, 3, []int{5, 6, 0}, 2, 4, 5}, // what it heard of before is counted now
		{4, 2, []int{4, 6, 0}, 2, 4, 2},
		{4, 2, []int{6, 6, 0}, 2, 0, 6},
		{4, 2, []int{6, 6, 0}, 2, 100000, 6},
		{4, 2, []int{6, 6, 0}, 0, 4, 6}, // Match stays, and Next is above it
		{4, 2, []int{0, 0, 0}, 0, 6, 2},
		{4, 2, []int{0, 0, 6}, 0, 5, 5},

		{4, 2, []int{0, 6, 0, 0}, 0, 6, 2},
		{4, 2, []int{0, 6, 0, 6}, 0, 6, 6},
		{4, 2, []int{0, 6, 0, 5}, 0, 6, 5},
		{4, 2, []int{0, 6, 4, 4}, 0, 6, 2},
		{4, 2, []int{6, 6, 0, 0}, 3, 5, 5},

		{4, 2, []int{0, 6, 0, 0, 0}, 4, 6, 2},
		{4, 2, []int{0, 6, 0, 6, 0}, 4, 6, 6},
		{4, 2, []int{0, 6, 0, 6, 0}, 4, 5, 5},
		{4, 2, []int{5, 6, 0, 5, 0}, 4, 6, 5},
		{4, 2, []int{5, 6, 6, 5, 0}, 4, 6, 6},
		{4, 4, []int{4, 6, 3, 4, 0}, 4, 6, 4},
	} {
		size := len(c.match)
		n := leaderOf(1, c.term, c.commit, termLog(2, 1, 1, 2, 4, 4), c.match...)
		want := n
		want.Next, want.Match = each(size, 6), slices.Clone(c.match)
		if c.index > c.match[c.from] && c.index <= 6 {
			want.Match[c.from] = c.index
		}
		want.Next[c.from] = max(6, want.Match[c.from]+1)
		if c.want > c.commit {
			want.Commit = c.want
			for _, e := range n.Log.List[c.commit-2 : c.want-2] {
				want.Now, _ = machineDoByTheWord(want.Now, e.C)
			}
		}
		hears(t, "one that counts", n, size, hasUpTo(c.from, 1, c.term, true, c.index), want)
		hearsOfNot := n
		hearsOfNot.Next = slices.Clone(n.Next)
		hearsOfNot.Next[c.from] = max(min(6, c.index+1), c.match[c.from]+1)
		hears(t, "one that has it not counts nothing", n, size, hasUpTo(c.from, 1, c.term, false, c.index), hearsOfNot)
	}
}

// Each number that can be heard of, for each Match and Next: what comes is a node, and by the word.
func TestHearGotOfEachNumber(t *testing.T) {
	for next := 1; next <= 7; next++ {
		for match := range 7 {
			for index := range 10 {
				for _, ok := range []bool{false, true} {
					n := leaderOf(1, 4, 2, termLog(2, 1, 1, 2, 4, 4), match, 6, 0)
					n.Next[0] = next
					r := hasUpTo(0, 1, 4, ok, index)
					want, told := hearByTheWord(n, 3, r)
					hears(t, "each number", n, 3, r, want, told...)
				}
			}
		}
	}
}

// Next of From alone is held against its Match: what is known of others stays, however it stands.
func TestHearGotTurnsFromAlone(t *testing.T) {
	for from := range 5 {
		if from == 2 {
			continue
		}
		for _, ok := range []bool{false, true} {
			n := leaderOf(2, 5, 2, termLog(2, 1, 1, 2, 4, 4), 3, 4, 6, 5, 6)
			n.Next = []int{1, 4, 6, 2, 3}
			for _, index := range []int{0, 3, 100000} {
				want := n
				want.Next = slices.Clone(n.Next)
				want.Next[from] = n.Match[from] + 1
				hears(t, "of From alone", n, 5, hasUpTo(from, 2, 5, ok, index), want)
			}
		}
	}
}

func TestHearGotAtTheLimits(t *testing.T) {
	n := leaderOf(1, 100000, 99998, termLog(99998, 2, 100000, 100000), 0, 100000)
	n.Next = []int{99999, 99999}
	for index, next := range map[int]int{99998: 99999, 99999: 100000, 100000: 100001} {
		want := n
		want.Match, want.Next, want.Commit = []int{index, 100000}, []int{next, 99999}, index
		if index > 99998 {
			want.Now = impl.MachineAll(n.Now, cmds(n.Log.List[0].C, n.Log.List[1].C)[:index-99998])
		}
		hears(t, "a full one", n, 2, hasUpTo(0, 1, 100000, true, index), want)
	}
	for _, index := range []int{99998, 99999, 100000} {
		hears(t, "a full one, and not", n, 2, hasUpTo(0, 1, 100000, false, index), n)
	}
	all := leaderOf(1, 100000, 100000, termLog(99998, 2, 100000, 100000), 100000, 100000)
	for _, next := range []int{1, 100000, 100001} {
		all.Next = []int{next, 1}
		want := all
		want.Next = []int{100001, 1}
		for _, index := range []int{0, 99999, 100000} {
			hears(t, "a full one, of one that has all", all, 2, hasUpTo(0, 1, 100000, true, index), want)
			hears(t, "a full one, of one that has all, and not", all, 2, hasUpTo(0, 1, 100000, false, index), want)
		}
	}
	hearsNot(t, "one beyond", n, 2, hasUpTo(0, 1, 100000, true, 100001))
	n, _ = impl.NodeNew(1, 2)
	n.Role = impl.RoLead
	hears(t, "one that has nothing", n, 2, hasUpTo(0, 1, 0, true, 0), n)
	hears(t, "one that has nothing, and 1", n, 2, hasUpTo(0, 1, 0, true, 1), n)
	hears(t, "one that has nothing, and not", n, 2, hasUpTo(0, 1, 0, false, 0), n)
}

// taken: the busy one that follows, once it took a machine.
func taken(index, indexTerm int, m impl.Machine) impl.Node {
	n := busy(impl.RoFollow, 14)
	n.Log, n.Snap, n.Now, n.Commit = logOf(index, indexTerm), m, m, index
	n.Next, n.Match = []int{min(19, index+1), 1, min(14, index+1)}, []int{0, min(18, index), 13}
	return n
}

// The busy one committed up to number 14; its entries 15 to 18 are of the Terms 4, 6, 6 and 7.
func TestHearSnap(t *testing.T) {
	other := machine(leaf(5, 5), had(4, 4, 4))
	plain := busyWith(14, 18)
	for _, c := range []struct {
		name        string
		index, term int
		told        int
		want        impl.Node
	}{
		{"at 0", 0, 0, 14, plain},
		{"below Base", 9, 3, 14, plain},
		{"at Base", 10, 3, 14, plain},
		{"at Base, another Term", 10, 8, 14, plain},
		{"one above Base", 11, 3, 14, plain},
		{"one below Commit", 13, 4, 14, plain},
		{"at Commit", 14, 4, 14, plain},
		{"at Commit, another Term", 14, 5, 14, plain},
		{"at Commit, a Term above its own", 14, 100000, 14, plain},
		{"one above Commit, there", 15, 4, 15, busyWith(15, 18)},
		{"two above Commit, there", 16, 6, 16, busyWith(16, 18)},
		{"the last one, there", 18, 7, 18, busyWith(18, 18)},
		{"one above Commit, another Term", 15, 5, 15, taken(15, 5, other)},
		{"one above Commit, Term 0", 15, 0, 15, taken(15, 0, other)},
		{"two above Commit, another Term", 16, 7, 16, taken(16, 7, other)},
		{"the last one, another Term", 18, 8, 18, taken(18, 8, other)},
		{"one beyond the end", 19, 7, 19, taken(19, 7, other)},
		{"far beyond the end", 5000, 8, 5000, taken(5000, 8, other)},
		{"the greatest one", 100000, 0, 100000, taken(100000, 0, other)},
	} {
		for _, role := range roles {
			hears(t, c.name, busy(role, 14), 3, snapped(8, c.index, c.term, other), c.want, hasUpTo(1, 0, 8, true, c.told))
			want := c.want
			want.Term, want.Vote = 9, -1
			hears(t, c.name+", of a greater Term", busy(role, 14), 3, snapped(9, c.index, c.term, other), want, hasUpTo(1, 0, 9, true, c.told))
			hears(t, c.name+", of a lesser Term", busy(role, 14), 3, snapped(7, c.index, c.term, other), busy(role, 14), hasUpTo(1, 0, 8, false, 18))
		}
	}
}

// A Term above its own is that of no log of it: it follows, and stays beside that, and tells nothing.
func TestHearSnapOfATermAboveItsOwn(t *testing.T) {
	for _, role := range roles {
		for _, index := range []int{15, 16, 18, 19, 100000} {
			for _, indexTerm := range []int{9, 10, 100000} {
				hears(t, "its own Term", busy(role, 14), 3, snapped(8, index, indexTerm, behind(3)), busyWith(14, 18))
			}
			for _, term := range []int{9, 99999} {
				want := busyWith(14, 18)
				want.Term, want.Vote = term, -1
				hears(t, "a greater Term", busy(role, 14), 3, snapped(term, index, term+1, behind(3)), want)
				want = taken(index, term, behind(3))
				want.Term, want.Vote = term, -1
				hears(t, "a greater Term, and that", busy(role, 14), 3, snapped(term, index, term, behind(3)), want, hasUpTo(1, 0, term, true, index))
			}
		}
	}
}

// What a node knows of others ends where a machine that is shorter than its log does.
func TestHearSnapHoldsNextAndMatch(t *testing.T) {
	for _, role := range roles {
		n := busy(role, 14)
		n.Next, n.Match = []int{16, 17, 18}, []int{15, 16, 17}
		want := taken(15, 5, behind(3))
		want.Next, want.Match = []int{16, 16, 16}, []int{15, 15, 15}
		hears(t, "a shorter one", n, 3, snapped(8, 15, 5, behind(3)), want, hasUpTo(1, 0, 8, true, 15))
		want = taken(20, 5, behind(3))
		want.Next, want.Match = n.Next, n.Match
		hears(t, "a longer one", n, 3, snapped(8, 20, 5, behind(3)), want, hasUpTo(1, 0, 8, true, 20))
		want = busyWith(15, 18)
		want.Next, want.Match = n.Next, n.Match
		hears(t, "of what is there", n, 3, snapped(8, 15, 4, behind(3)), want, hasUpTo(1, 0, 8, true, 15))
	}
}

func TestHearSnapAtTheLimits(t *testing.T) {
	n, _ := impl.NodeNew(1, 3)
	for _, m := range []impl.Machine{impl.MachineNew(), behind(8), machine(stairs(), nine(7)...), machine(tower(7, 0, 999))} {
		hears(t, "at 0", n, 3, snapped(0, 0, 0, m), n, hasUpTo(1, 0, 0, true, 0))
		for _, index := range []int{1, 2, 99999, 100000} {
			want := n
			want.Log, want.Snap, want.Now, want.Commit = logOf(index, 0), m, m, index
			hears(t, "a new one", n, 3, snapped(0, index, 0, m), want, hasUpTo(1, 0, 0, true, index))
			hears(t, "a new one, and Term 1", n, 3, snapped(0, index, 1, m), n)
			want.Term, want.Log.BaseTerm = 100000, 100000
			hears(t, "the greatest Term", n, 3, snapped(100000, index, 100000, m), want, hasUpTo(1, 0, 100000, true, index))
		}
	}
	for _, l := range []impl.Log{logOf(100000, 4), termLog(99998, 2, 2, 4)} {
		n := small(3)
		n.Log, n.Commit, n.Role = l, 100000, impl.RoFollow
		hears(t, "a full one", n, 3, snapped(5, 100000, 5, behind(3)), n, hasUpTo(1, 0, 5, true, 100000))
	}
	n = small(3)
	n.Log, n.Commit, n.Role = termLog(99998, 2, 2, 4), 99999, impl.RoFollow
	want := n
	want.Log, want.Snap, want.Now, want.Commit = logOf(100000, 5), behind(3), behind(3), 100000
	hears(t, "one that is not committed", n, 3, snapped(5, 100000, 5, behind(3)), want, hasUpTo(1, 0, 5, true, 100000))
}

// toIt: plainRpc to number 1 of three, of its Term, so that small(3) hears it.
func toIt(kind int) impl.Rpc {
	r := plainRpc(kind)
	r.From, r.To, r.Ok = 0, 1, true
	return r
}

func TestHearToAnotherOne(t *testing.T) {
	for _, kind := range rpcKinds {
		for _, role := range roles {
			for _, term := range []int{4, 5, 6} {
				for to := range 3 {
					n, r := small(3), toIt(kind)
					n.Role, r.Term, r.Entries, r.To, r.From = role, term, nil, to, (to+1)%3
					if to != 1 {
						hearsNot(t, "to another one", n, 3, r)
					} else if got, told := impl.Hear(n, 3, r); sameNode(got, n) && len(told) == 0 && term == 6 {
						t.Error("not heard:", kind, role, term)
					}
				}
			}
		}
	}
}

func TestHearOfWhatIsNoNode(t *testing.T) {
	for _, kind := range rpcKinds {
		for _, c := range badTurns() {
			for _, role := range roles {
				for _, term := range []int{5, 7} {
					n := small(3)
					n.Role = role
					c.turn(&n)
					r := toIt(kind)
					r.Term = term
					hearsNot(t, c.name, n, 3, r)
				}
			}
		}
		for size := -1; size <= 7; size++ {
			hearsNot(t, "the zero value", impl.Node{}, size, toIt(kind))
			hearsNot(t, "the zero values", impl.Node{}, size, impl.Rpc{})
			hearsNot(t, "the zero value as what is heard", small(3), size, impl.Rpc{})
		}
	}
}

func TestHearOfWhatIsNotTold(t *testing.T) {
	for _, role := range roles {
		n := small(3)
		n.Role = role
		for _, kind := range rpcKinds {
			for _, c := range badRpcTurns() {
				for _, term := range []int{5, 7} {
					r := toIt(kind)
					r.Term = term
					if c.turn(&r); !rpcOkByTheWord(r, 3) {
						hearsNot(t, c.name, n, 3, r)
					}
				}
			}
			for i, m := range badSnaps() {
				r := toIt(kind)
				r.Term, r.Index, r.IndexTerm, r.Snap = 6, 9, 6, m
				if kind == impl.RpSnap {
					hearsNot(t, "what is no machine", n, 3, r)
				} else if got, _ := impl.Hear(n, 3, r); got.Term != 6 {
					t.Error("Kind", kind, "beside what is no machine, number", i, "came to", got)
				}
			}
		}
	}
}

func TestHearBySize(t *testing.T) {
	for _, kind := range rpcKinds {
		for count := range 8 {
			for _, size := range append([]int{3, 4, 5, 6, 7}, edgeNumbers...) {
				n := small(count)
				r := impl.Rpc{Kind: kind, From: 0, To: count / 2, Term: 6, Index: 4, IndexTerm: 2, Snap: behind(1)}
				if count >= 2 && count <= 5 && size == count {
					want, told := hearByTheWord(n, size, r)
					hears(t, "its own size", n, size, r, want, told...)
					if want.Term != 6 {
						t.Error("not heard:", kind, size)
					}
				} else {
					hearsNot(t, "another size", n, size, r)
				}
			}
		}
	}
}

// In a world of one there is nobody who tells something.
func TestHearAlone(t *testing.T) {
	for _, kind := range rpcKinds {
		for _, role := range roles {
			n := alone(role, 3, 5, termLog(4, 2, 2, 3, 3))
			for from := -1; from <= 1; from++ {
				for _, term := range []int{2, 3, 4} {
					for _, ok := range []bool{false, true} {
						hearsNot(t, "who is alone", n, 1, impl.Rpc{Kind: kind, From: from, Term: term, Index: 7, IndexTerm: 3, Ok: ok, Snap: behind(1)})
					}
				}
			}
		}
	}
}

// Each number of what is heard at the ends, and beside its limits: it is heard by the word.
func TestHearNumbersAtTheirEnds(t *testing.T) {
	heard := 0
	for _, kind := range rpcKinds {
		for _, role := range roles {
			for _, x := range append([]int{3, 4, 5, 6, 7}, edgeNumbers...) {
				r := toIt(kind)
				for i := range rpcNumbers(&r) {
					for _, list := range [][]impl.Entry{nil, entries(5, 4, 5)} {
						n, r := small(3), toIt(kind)
						n.Role, r.Entries = role, list
						*rpcNumbers(&r)[i] = x
						want, told := hearByTheWord(n, 3, r)
						if !rpcOkByTheWord(r, 3) || r.To != 1 {
							hearsNot(t, "one at its end", n, 3, r)
							continue
						}
						heard++
						hears(t, "one at its end", n, 3, r, want, told...)
					}
				}
			}
		}
	}
	if heard < 500 {
		t.Error("too few were heard:", heard)
	}
}

// thrownHeard: what might be told to that node, most of it near what it has.
func thrownHeard(d *dice, n impl.Node, size int) impl.Rpc {
	r := impl.Rpc{Kind: 1 + d.below(5), To: n.Id, Ok: d.below(2) > 0}
	r.From = (n.Id + 1 + d.below(max(1, size-1))) % size
	r.Term = min(100000, max(0, n.Term+[]int{-1, 0, 0, 0, 0, 1, 2}[d.below(7)]))
	last, term := impl.LastOf(n.Log)
	r.Index = min(100000, max(0, n.Log.Base-1+d.below(len(n.Log.List)+4)))
	r.IndexTerm = max(0, impl.TermAt(n.Log, r.Index))
	if d.below(4) == 0 {
		r.IndexTerm = d.below(term + 3)
	}
	r.Commit = min(100000, max(0, n.Commit-2+d.below(last-n.Commit+6)))
	if r.Kind == impl.RpPut {
		r.Entries = thrownList(d, n.Log, r.Index)
		for i, e := range r.Entries {
			if d.below(10) > 0 {
				r.Entries[i].Term = min(e.Term, r.Term)
			}
		}
	}
	if r.Kind == impl.RpSnap || d.below(20) == 0 {
		r.Snap = machine(grown(d, 1+d.below(4), 0, 1000), goodLasts[d.below(len(goodLasts))]...)
	}
	switch d.below(15) {
	case 0:
		numbers := rpcNumbers(&r)
		*numbers[d.below(len(numbers))] = edgeNumbers[d.below(len(edgeNumbers))]
	case 1:
		numbers := rpcNumbers(&r)
		*numbers[d.below(len(numbers))] += d.below(3) - 1
	case 2:
		r.Snap.T = marred(d, r.Snap.T)
	}
	return r
}

// tally counts what thrown nodes came to, so that a test can tell that they were not all alike.
type tally struct {
	refused, heard, votes, led, puts, turned, committed, snaps, lowered int
}

func (c *tally) of(n, got impl.Node, r impl.Rpc, told []impl.Rpc, fine bool) {
	count := func(here *int, is bool) {
		if is {
			*here++
		}
	}
	ok := len(told) == 1 && told[0].Ok
	count(&c.refused, !fine)
	count(&c.heard, fine)
	count(&c.votes, ok && r.Kind == impl.RpAsk)
	count(&c.led, n.Role == impl.RoStand && got.Role == impl.RoLead)
	count(&c.puts, ok && r.Kind == impl.RpPut)
	count(&c.turned, r.Kind == impl.RpPut && len(got.Log.List) < len(n.Log.List))
	count(&c.committed, got.Commit > n.Commit)
	count(&c.snaps, r.Kind == impl.RpSnap && got.Log.Base > n.Log.Base)
	count(&c.lowered, r.Kind == impl.RpGot && !r.Ok && !slices.Equal(got.Next, n.Next))
}

func (c *tally) isFair() bool {
	return min(c.refused, c.heard, c.votes, c.led, c.puts, c.turned, c.committed, c.snaps, c.lowered) >= 50
}

// heardByTheWord: one thing heard, held against the words of the chapter, and P11.
func heardByTheWord(t *testing.T, c *tally, n impl.Node, size int, r impl.Rpc) impl.Node {
	t.Helper()
	got, told := impl.Hear(n, size, r)
	want, wanted := hearByTheWord(n, size, r)
	if !sameNode(got, want) || !slices.EqualFunc(told, wanted, sameRpc) {
		t.Fatal("came to", got, told, "and by the word to", want, wanted, "of", n, size, r)
	}
	fine := nodeOkByTheWord(n, size) && rpcOkByTheWord(r, size) && r.To == n.Id
	c.of(n, got, r, told, fine)
	if !fine {
		return got
	}
	staysRight(t, "a thrown one", n, size, r, got, told)
	if again, _ := impl.Hear(got, size, r); !sameNode(again, got) {
		t.Fatal("a second time came to", again, "and not to", got, "of", n, size, r)
	}
	return got
}

func TestThrownHearers(t *testing.T) {
	t.Parallel()
	d := &dice{111}
	var c tally
	for i := range 3000 {
		size := 1 + i%5
		n := thrownNodeOf(d, size)
		for range 5 {
			heardByTheWord(t, &c, n, size, thrownHeard(d, n, size))
		}
		for range 3 {
			n = heardByTheWord(t, &c, n, size, thrownHeard(d, n, size))
		}
	}
	if !c.isFair() {
		t.Error("what is heard is too much alike:", c)
	}
}

func TestThrownWrongHearers(t *testing.T) {
	t.Parallel()
	d := &dice{112}
	var c tally
	for i := range 4000 {
		size := 1 + i%5
		n := marredNode(d, thrownNodeOf(d, size))
		r := thrownHeard(d, thrownNodeOf(d, size), size)
		if d.below(4) > 0 {
			r.To, r.From = n.Id, (max(0, min(n.Id, 5))+1)%size
		}
		heardByTheWord(t, &c, n, size, r)
		heardByTheWord(t, &c, n, size+1, r)
		heardByTheWord(t, &c, n, size-1, r)
	}
	if min(c.refused, c.heard) < 500 {
		t.Error("what is heard is too much alike:", c)
	}
}

// parley: some nodes that hear each other, what is on its way between them, and what was seen of them.
type parley struct {
	nodes []impl.Node
	net   []impl.Rpc
	voted []map[int]int // of each node, for whom in which Term
	led   map[int]int   // who led in which Term
	row   []impl.Cmd    // what was committed, from number 1 on
}

func newParley(size int) *parley {
	p := &parley{led: map[int]int{}}
	for id := range size {
		n, _ := impl.NodeNew(id, size)
		p.nodes = append(p.nodes, n)
		p.voted = append(p.voted, map[int]int{})
	}
	return p
}

// see: each node votes for one in a Term, whether it fell or not; one leads in a Term; all commit the same.
func (p *parley) see(t *testing.T, n impl.Node) {
	t.Helper()
	if first, has := p.voted[n.Id][n.Term]; has && first != n.Vote {
		t.Fatal("voted for", first, "and then for", n.Vote, "in", n)
	}
	if n.Vote != -1 {
		p.voted[n.Id][n.Term] = n.Vote
	}
	if n.Role == impl.RoLead {
		if first, has := p.led[n.Term]; has && first != n.Id {
			t.Fatal("beside", first, "led", n)
		}
		p.led[n.Term] = n.Id
	}
	for i := n.Log.Base + 1; i <= n.Commit; i++ {
		c := n.Log.List[i-n.Log.Base-1].C
		if i == len(p.row)+1 {
			p.row = append(p.row, c)
		}
		if p.row[i-1] != c {
			t.Fatal("committed", c, "where", p.row[i-1], "was committed, in", n)
		}
	}
	if !sameAs(n.Now, p.row[:n.Commit]) || !sameAs(n.Snap, p.row[:n.Log.Base]) {
		t.Fatal("has another machine than comes of what was committed:", n)
	}
	p.nodes[n.Id] = n
}

func sameAs(m impl.Machine, row []impl.Cmd) bool {
	return impl.MachineSame(m, impl.MachineAll(impl.MachineNew(), row))
}

// give: the node hears what stands at that place of the net.
func (p *parley) give(t *testing.T, c *tally, at int) {
	t.Helper()
	r, size := p.net[at], len(p.nodes)
	p.net = slices.Delete(p.net, at, at+1)
	n := p.nodes[r.To]
	_, told := impl.Hear(n, size, r)
	p.see(t, heardByTheWord(t, c, n, size, r))
	p.net = append(p.net, told...)
}

func (p *parley) step(t *testing.T, d *dice, c *tally, next impl.Cmd) {
	t.Helper()
	size := len(p.nodes)
	n := p.nodes[d.below(size)]
	switch d.below(14) {
	case 0:
		asked, told := impl.Ask(n, size)
		p.net = append(p.net, told...)
		p.see(t, asked)
	case 1, 2, 3, 4:
		for to := range size {
			if r, ok := impl.Feed(n, size, to); ok {
				p.net = append(p.net, r)
			}
		}
	case 5, 6, 7:
		for _, n := range p.nodes {
			came, _ := impl.Propose(n, size, next)
			p.see(t, came)
		}
	case 8:
		p.see(t, impl.Compact(n, size, n.Log.Base+d.below(n.Commit-n.Log.Base+1)))
	case 12:
		for _, n := range p.nodes {
			p.see(t, impl.Compact(n, size, n.Commit))
		}
	case 9:
		p.see(t, impl.Rise(n, size))
	case 10:
		p.net = append(p.net, p.net[:min(len(p.net), d.below(3))]...)
	case 11:
		p.net = p.net[min(len(p.net), d.below(3)):]
	}
	p.net = p.net[max(0, len(p.net)-30):]
	for range d.below(4) {
		if len(p.net) > 0 {
			p.give(t, c, d.below(len(p.net)))
		}
	}
}

// P11 over a while, whatever the net does: each node stays right, and so do all of them together.
func TestHearersOverAWhile(t *testing.T) {
	t.Parallel()
	d := &dice{113}
	var c tally
	rows := 0
	for i := range 100 {
		p := newParley(1 + i%5)
		for _, next := range thrownCmds(d, 400, 60) {
			p.step(t, d, &c, next)
		}
		rows += len(p.row)
	}
	if min(c.heard, c.votes, c.led, c.puts, c.turned, c.committed, c.snaps, c.lowered) < 20 || rows < 500 {
		t.Error("too little happens:", c, rows)
	}
}

// roomyRpc: the same, each list of which has room behind it that is filled; and these lists with their room.
func roomyRpc(r impl.Rpc) (impl.Rpc, []any) {
	list, whole := roomy(r.Entries, entry(-77, 77))
	var wholes []any
	r.Snap, wholes = roomyMachine(r.Snap)
	r.Entries = list
	return r, append(wholes, whole())
}

// hearsInItsOwnMemory: nothing is written into what is handed in, nor into the room behind its lists, and no answer shares memory with it.
func hearsInItsOwnMemory(t *testing.T, name string, plain impl.Node, size int, heard impl.Rpc) {
	t.Helper()
	n, wholes := roomyNode(plain)
	_, kept := roomyNode(plain)
	r, rooms := roomyRpc(heard)
	_, keptRooms := roomyRpc(heard)
	for _, of := range []impl.Node{n, plain} {
		for _, by := range []impl.Rpc{r, heard} {
			came, told := impl.Hear(of, size, by)
			apart(t, name, struct {
				N impl.Node
				L []impl.Rpc
			}{came, told}, struct {
				N impl.Node
				R impl.Rpc
			}{of, by})
			spoilNode(came)
			for _, a := range told {
				spoilRpc(a)
			}
			spoil(told, impl.Rpc{Kind: -88})
		}
	}
	if !reflect.DeepEqual(wholes, kept) || !reflect.DeepEqual(rooms, keptRooms) || !sameNode(plain, n) || !sameRpc(heard, r) {
		t.Fatal("written into, or memory shared with an answer:", name)
	}
}

// sharedMachine: one that is right, whose lists stand in one memory already.
func sharedMachine() impl.Machine {
	return machine(withBuf(sharing()[0].tree, adds(1, 60, 170)...), nine(3)...)
}

// rightOneMemory: a node that is right, whose lists of one kind are one.
func rightOneMemory(role int) impl.Node {
	n := oneMemory(role)
	n.Snap = sharedMachine()
	n.Now = n.Snap
	return n
}

// heardBy: what each Kind turns most of a busy node with.
func heardBy(kind int) []impl.Rpc {
	r := impl.Rpc{Kind: kind, From: 0, To: 1, Term: 8, Index: 18, IndexTerm: 7, Commit: 18, Ok: true, Entries: entries(0, 8, 8), Snap: sharedMachine()}
	turning, older, not, late, greater := r, r, r, r, r
	turning.Index, turning.IndexTerm = 15, 4
	older.Index, older.IndexTerm = 17, 5
	not.Ok, not.Index = false, 12
	late.Term, late.Entries = 7, nil
	greater.Term, greater.Index, greater.IndexTerm = 9, 30, 9
	return []impl.Rpc{r, turning, older, not, late, greater}
}

func TestHearersAreNotWrittenInto(t *testing.T) {
	t.Parallel()
	if !impl.MachineOk(sharedMachine()) || !impl.NodeOk(rightOneMemory(impl.RoLead), 3) {
		t.Error("no fair question")
	}
	for _, kind := range rpcKinds {
		for _, c := range nodesToKeep() {
			n := turnedNode(c)
			hearsInItsOwnMemory(t, c.name, n, 3, toIt(kind))
			hearsInItsOwnMemory(t, c.name, n, 2, toIt(kind))
		}
		for _, r := range heardBy(kind) {
			for _, role := range roles {
				n := busy(role, 14)
				n.Votes[1] = true
				hearsInItsOwnMemory(t, "a busy one", n, 3, r)
				hearsInItsOwnMemory(t, "one memory", oneMemory(role), 3, r)
				hearsInItsOwnMemory(t, "one memory that is right", rightOneMemory(role), 3, r)
				n.Vote, n.Term, n.Match = -1, 7, []int{17, 18, 13}
				hearsInItsOwnMemory(t, "one that counts", n, 3, r)
				r.To = 2
				hearsInItsOwnMemory(t, "another one", n, 3, r)
				r.To = 1
			}
		}
		for _, c := range badRpcTurns() {
			r := toIt(kind)
			c.turn(&r)
			hearsInItsOwnMemory(t, c.name, small(3), 3, r)
		}
	}
}

// One machine that comes stands twice in the node, and each is its own; so does what is in the memory of the node itself.
func TestHearSnapOfItsOwnMemory(t *testing.T) {
	n := busy(impl.RoFollow, 14)
	n.Now = sharedMachine()
	r := snapped(8, 30, 8, n.Now)
	came, told := impl.Hear(n, 3, r)
	apart(t, "its own machine", came, n)
	if !sameMachine(came.Snap, n.Now) || !sameMachine(came.Now, n.Now) || came.Commit != 30 || len(told) != 1 {
		t.Error("came to", came, told)
	}
	r = fed(8, 18, 7, 18, n.Log.List[7:]...)
	came, told = impl.Hear(n, 3, r)
	apart(t, "its own entries", came, n)
	if len(came.Log.List) != 9 || len(told) != 1 || told[0].Index != 19 {
		t.Error("came to", came, told)
	}
}

func TestStrangeHearersStay(t *testing.T) {
	for _, c := range append(strangeTrees(), treeCase{name: "one met ever again", tree: manyfold()}) {
		depth := 12
		if len(c.tree.Kids) > 2 {
			depth = 1
		}
		for _, kind := range rpcKinds {
			r := heardBy(kind)[0]
			n := busy(impl.RoStand, 14)
			for _, at := range []*impl.Machine{&n.Snap, &n.Now} {
				was := at.T
				at.T = c.tree
				came, told := impl.Hear(n, 3, r)
				if len(told) != 0 || !sameDown(depth, came.Snap.T, n.Snap.T) || !sameDown(depth, came.Now.T, n.Now.T) || came.Role != impl.RoStand || came.Term != 8 || !sameLog(came.Log, n.Log) {
					t.Error(c.name, "did not stay")
				}
				at.T = was
			}
			r.Term, r.Snap.T = 9, c.tree
			if came, _ := impl.Hear(n, 3, r); came.Term != 9 && kind != impl.RpSnap || came.Term != 8 && kind == impl.RpSnap {
				t.Error("Kind", kind, "beside a strange tree:", c.name, "came to Term", came.Term)
			}
		}
	}
	n := small(3)
	n.Votes, n.Next, n.Match = each(1000000, true), each(1000000, 1), each(1000000, 0)
	for _, size := range []int{3, 1000000, math.MaxInt} {
		for _, kind := range rpcKinds {
			hearsNot(t, "one of very many", n, size, toIt(kind))
		}
	}
}

// A machine that is too deep does no more; what is heard is committed all the same.
func TestHearOfWhatIsTooDeep(t *testing.T) {
	n := busy(impl.RoFollow, 14)
	n.Now = machine(tower(6, 0, 999), had(1, 1, 8))
	came, told := impl.Hear(n, 3, fed(8, 18, 7, 18))
	if came.Commit != 18 || !sameMachine(came.Now, n.Now) || len(told) != 1 || !told[0].Ok {
		t.Error("came to", came, told)
	}
}
