package tests

import (
	"reflect"
	"slices"
	"testing"

	"loop.example/g00234/impl"
)

// sameTree: an empty list and nil are the same value.
func sameTree(a, b impl.Tree) bool {
	return a.Leaf == b.Leaf && slices.Equal(a.Pairs, b.Pairs) && slices.Equal(a.Cuts, b.Cuts) && slices.Equal(a.Buf, b.Buf) && slices.EqualFunc(a.Kids, b.Kids, sameTree)
}

// from: a leaf of so many keys, each with itself, from the first on.
func from(first, count int) impl.Tree {
	t := leaf()
	for k := first; k < first+count; k++ {
		t.Pairs = append(t.Pairs, impl.Pair{K: k, V: k})
	}
	return t
}

// adds: of each of these keys, itself.
func adds(keys ...int) []impl.Msg {
	var list []impl.Msg
	for _, k := range keys {
		list = append(list, add(k, k))
	}
	return list
}

// injectCase: a tree, a message, and the tree behind it.
type injectCase struct {
	name string
	tree impl.Tree
	m    impl.Msg
	want impl.Tree
}

func injects(t *testing.T, list ...injectCase) {
	t.Helper()
	for _, c := range list {
		if !impl.TreeOk(c.tree) || !impl.TreeOk(c.want) {
			t.Error(c.name, "is no fair question")
		}
		if got := impl.Inject(c.tree, c.m); !sameTree(got, c.want) {
			t.Error(c.name, "came to", got)
		}
		if got := injectByTheWord(c.tree, c.m); !sameTree(got, c.want) {
			t.Error(c.name, "comes by the word to", got)
		}
	}
}

func TestTreeNew(t *testing.T) {
	if got := impl.TreeNew(); !sameTree(got, impl.Tree{Leaf: true}) || !impl.TreeOk(got) {
		t.Error("new", got)
	}
}

func TestInjectIntoLeaves(t *testing.T) {
	injects(t, []injectCase{
		{"a put into a new tree", impl.TreeNew(), put(5, 7), leaf(5, 7)},
		{"an add into a new tree", impl.TreeNew(), add(999, -3), leaf(999, -3)},
		{"a del into a new tree", impl.TreeNew(), del(5), leaf()},
		{"a put over a pair", leaf(5, 7), put(5, 8), leaf(5, 8)},
		{"an add to a pair", leaf(5, 7), add(5, 1), leaf(5, 8)},
		{"an add beyond the limit", leaf(5, 1000000000), add(5, 1), leaf(5, 1000000000)},
		{"the last pair goes", leaf(5, 7), del(5), leaf()},
		{"a del of none", leaf(5, 7), del(6), leaf(5, 7)},
		{"the fourth pair", from(1, 3), put(4, 4), from(1, 4)},
		{"a full leaf, and a pair that it has", from(1, 4), put(3, 9), leaf(1, 1, 2, 2, 3, 9, 4, 4)},
		{"a full leaf, and a del", from(1, 4), del(1), from(2, 3)},
		{"a full leaf, and one more behind all", from(1, 4), put(5, 5), fork(cuts(3), from(1, 2), from(3, 3))},
		{"a full leaf, and one more ahead of all", from(1, 4), put(0, 0), fork(cuts(2), from(0, 2), from(2, 3))},
		{"a full leaf, and one more between", leaf(1, 1, 3, 3, 5, 5, 7, 7), add(4, 4), fork(cuts(4), leaf(1, 1, 3, 3), leaf(4, 4, 5, 5, 7, 7))},
		{"a full leaf at both ends", leaf(0, 1, 1, 1, 998, 1, 999, 1), put(2, 1), fork(cuts(2), leaf(0, 1, 1, 1), leaf(2, 1, 998, 1, 999, 1))},
	}...)
}

func TestMessagesAreHeld(t *testing.T) {
	two := func(list ...impl.Msg) impl.Tree { return withBuf(fork(cuts(10), leaf(1, 1), leaf(10, 1)), list...) }
	injects(t, []injectCase{
		{"the first", two(), put(5, 5), two(put(5, 5))},
		{"a del of none", two(), del(7), two(del(7))},
		{"behind others", two(add(1, 1), add(10, 1)), add(1, 1), two(add(1, 1), add(10, 1), add(1, 1))},
		{"the sixth", two(adds(1, 10, 2, 11, 3)...), add(12, 12), two(adds(1, 10, 2, 11, 3, 12)...)},
		{"six adds of one key", two(adds(1, 1, 1, 1, 1)...), add(1, 1), two(adds(1, 1, 1, 1, 1, 1)...)},
		{"one that overrules one of six", two(adds(1, 10, 2, 11, 3, 12)...), put(1, 9), two(append(adds(10, 2, 11, 3, 12), put(1, 9))...)},
		{"one that overrules all six", two(adds(1, 1, 1, 1, 1, 1)...), del(1), two(del(1))},
		{"an add to a put among six", two(put(1, 5), add(10, 1), add(11, 1), add(12, 1), add(13, 1), add(14, 1)), add(1, 2), two(put(1, 7), add(10, 1), add(11, 1), add(12, 1), add(13, 1), add(14, 1))},
		{"an add behind a del stands", two(del(1)), add(1, 2), two(del(1), add(1, 2))},
		{"what was not shrunk is shrunk", two(add(1, 1), put(1, 2), add(10, 4), add(1, 3)), put(11, 1), two(put(1, 5), add(10, 4), put(11, 1))},
		{"what was not shrunk, six of them", two(put(1, 1), put(1, 2), put(1, 3), put(1, 4), put(1, 5), put(1, 6)), put(2, 1), two(put(1, 6), put(2, 1))},
	}...)
}

func TestMessagesComeDown(t *testing.T) {
	two := func(low, high impl.Tree, list ...impl.Msg) impl.Tree {
		return withBuf(fork(cuts(10), low, high), list...)
	}
	injects(t, []injectCase{
		{"to the first of two", two(from(1, 1), from(10, 1), adds(2, 11, 3, 12, 4, 13)...), add(1, 1), two(leaf(1, 2, 2, 2, 3, 3, 4, 4), from(10, 1), adds(11, 12, 13)...)},
		{"to the last of two", two(from(1, 1), from(10, 1), adds(2, 11, 3, 12, 4, 13)...), del(10), two(from(1, 1), from(11, 3), adds(2, 3, 4)...)},
		{"all of them to one", two(leaf(), leaf(), adds(1, 2, 3, 4, 1, 2)...), add(3, 3), two(leaf(1, 2, 2, 4, 3, 6, 4, 4), leaf())},
		{"in their order", two(leaf(1, 5), leaf(), add(1, 1000000000), add(10, 1), add(1, -1), del(2), add(2, 3), del(3)), put(4, 1), two(leaf(1, 999999999, 2, 3, 4, 1), leaf(), add(10, 1))},
		{"by key, around the cut", two(leaf(), leaf(), adds(9, 10, 9, 10, 9, 10)...), add(10, 10), two(leaf(), leaf(10, 40), adds(9, 9, 9)...)},
	}...)
}

func TestWhichKidIsGiven(t *testing.T) {
	three := func(a, b, c impl.Tree, list ...impl.Msg) impl.Tree {
		return withBuf(fork(cuts(10, 20), a, b, c), list...)
	}
	none := leaf()
	injects(t, []injectCase{
		{"three, three and one: the first", three(none, none, none, adds(10, 0, 20, 11, 1, 12)...), add(2, 2), three(from(0, 3), none, none, adds(10, 20, 11, 12)...)},
		{"three, one and three: the first", three(none, none, none, adds(20, 0, 21, 1, 10, 2)...), add(22, 22), three(from(0, 3), none, none, adds(20, 21, 10, 22)...)},
		{"one, three and three: the second", three(none, none, none, adds(20, 10, 21, 11, 22, 0)...), add(12, 12), three(none, from(10, 3), none, adds(20, 21, 22, 0)...)},
		{"two, two and three: the last", three(none, none, none, adds(0, 10, 20, 1, 11, 21)...), add(22, 22), three(none, none, from(20, 3), adds(0, 10, 1, 11)...)},
		{"two, three and two: the second", three(none, none, none, adds(0, 10, 20, 1, 11, 21)...), add(12, 12), three(none, from(10, 3), none, adds(0, 20, 1, 21)...)},
	}...)
	four := func(a impl.Tree, list ...impl.Msg) impl.Tree {
		return withBuf(fork(cuts(10, 20, 30), a, none, none, none), list...)
	}
	injects(t, injectCase{"two, two, two and one: the first", four(none, adds(30, 20, 10, 0, 21, 11)...), add(1, 1), four(from(0, 2), adds(30, 20, 10, 21, 11)...)})
}

// full leaves that are given so many keys at once, beside a leaf to which nothing belongs.
func TestLeavesOfTwoEach(t *testing.T) {
	end := leaf(100, 1)
	tree := func(list ...int) impl.Tree { return withBuf(fork(cuts(100), from(1, 4), end), adds(list...)...) }
	twice := leaf(1, 2, 2, 4)
	injects(t, []injectCase{
		{"five pairs", tree(1, 1, 2, 2, 3, 3), add(5, 5), fork(cuts(3, 100), leaf(1, 3, 2, 6), leaf(3, 9, 4, 4, 5, 5), end)},
		{"six pairs", tree(1, 1, 2, 2, 5, 3), add(6, 6), fork(cuts(3, 5, 100), leaf(1, 3, 2, 6), leaf(3, 6, 4, 4), from(5, 2), end)},
		{"seven pairs", tree(1, 1, 2, 7, 5, 3), add(6, 6), fork(cuts(3, 5, 100), leaf(1, 3, 2, 4), leaf(3, 6, 4, 4), from(5, 3), end)},
		{"eight pairs", tree(8, 1, 2, 7, 5, 3), add(6, 6), fork(cuts(5), fork(cuts(3), twice, leaf(3, 6, 4, 4)), fork(cuts(7, 100), from(5, 2), from(7, 2), end))},
		{"nine pairs", tree(8, 1, 2, 7, 5, 9), add(6, 6), fork(cuts(5), fork(cuts(3), twice, from(3, 2)), fork(cuts(7, 100), from(5, 2), from(7, 3), end))},
		{"ten pairs", tree(8, 1, 10, 7, 5, 9), add(6, 6), fork(cuts(5, 9), fork(cuts(3), leaf(1, 2, 2, 2), from(3, 2)), fork(cuts(7), from(5, 2), from(7, 2)), fork(cuts(100), from(9, 2), end))},
		{"eleven pairs", tree(8, 11, 10, 7, 5, 9), add(6, 6), fork(cuts(5, 9), fork(cuts(3), from(1, 2), from(3, 2)), fork(cuts(7), from(5, 2), from(7, 2)), fork(cuts(100), from(9, 3), end))},
	}...)
}

func TestTooManyKids(t *testing.T) {
	end := from(300, 1)
	injects(t, []injectCase{
		{
			"as many as can be: the rest is held",
			withBuf(fork(cuts(100, 300), from(1, 4), from(100, 4), end), adds(104, 5, 300, 3, 106, 1)...), add(2, 0),
			withBuf(fork(cuts(3, 100, 300), leaf(1, 2, 2, 2), leaf(3, 6, 4, 4, 5, 5), from(100, 4), end), adds(104, 300, 106)...),
		},
		{
			"one more: the rest is given down, and three are left for the last",
			withBuf(fork(cuts(100, 300), from(1, 4), from(100, 4), end), adds(104, 5, 300, 6, 106, 7)...), add(2, 0),
			fork(cuts(5, 102), fork(cuts(3), from(1, 2), from(3, 2)), fork(cuts(100), from(5, 3), from(100, 2)), fork(cuts(104, 300), from(102, 2), leaf(104, 104, 106, 106), leaf(300, 600))),
		},
		{
			"four more: the rest is given down, and two are left for the last",
			withBuf(fork(cuts(100, 200, 300), from(1, 4), from(100, 4), leaf(200, 200), end), adds(104, 5, 200, 6, 201, 7)...), add(105, 105),
			fork(cuts(5, 102, 200), fork(cuts(3), from(1, 2), from(3, 2)), fork(cuts(100), from(5, 3), from(100, 2)), fork(cuts(104), from(102, 2), from(104, 2)), fork(cuts(300), leaf(200, 400, 201, 201), end)),
		},
		{
			"a root that grows by two",
			withBuf(fork(cuts(100, 200, 300), from(1, 4), from(100, 4), from(200, 4), from(300, 4)), adds(5, 6, 104, 105, 204, 205)...), add(304, 304),
			fork(
				cuts(102),
				fork(cuts(5), fork(cuts(3), from(1, 2), from(3, 2)), fork(cuts(100), from(5, 2), from(100, 2))),
				fork(cuts(200, 204), fork(cuts(104), from(102, 2), from(104, 2)), fork(cuts(202), from(200, 2), from(202, 2)), fork(cuts(300, 302), from(204, 2), from(300, 2), from(302, 3))),
			),
		},
	}...)
}

func TestRoundsFurtherDown(t *testing.T) {
	idle := withBuf(fork(cuts(600), leaf(), leaf()), del(500))
	three := func(a, b impl.Tree, list ...impl.Msg) impl.Tree {
		return withBuf(fork(cuts(10, 20), a, b, from(20, 2)), list...)
	}
	six := adds(0, 10, 20, 1, 11, 21)
	injects(t, []injectCase{
		{
			"five, then the first of four and four",
			withBuf(fork(cuts(500), three(from(0, 2), from(10, 2), six...), idle), six...), add(0, 0),
			fork(cuts(500), three(leaf(0, 0, 1, 3), leaf(10, 30, 11, 33), adds(20, 21, 20, 21)...), idle),
		},
		{
			"what shrinks there does not come down",
			withBuf(fork(cuts(500), three(from(0, 2), from(10, 2), six...), idle), put(0, 5), put(1, 5), put(10, 5), put(11, 5), put(20, 5), put(21, 5)), del(1),
			withBuf(fork(cuts(500), three(from(0, 2), from(10, 2), six...), idle), put(0, 5), put(10, 5), put(11, 5), put(20, 5), put(21, 5), del(1)),
		},
		{
			"six are left there, and one above",
			withBuf(fork(cuts(500), three(from(0, 2), from(10, 2), adds(0, 10, 20)...), idle), put(1, 7), put(20, 7), add(500, 1), put(0, 7), put(10, 7), add(501, 1)), put(11, 7),
			withBuf(fork(cuts(500), three(from(0, 2), from(10, 2), put(1, 7), put(20, 7), put(0, 7), put(10, 7), put(11, 7)), idle), add(500, 1), add(501, 1)),
		},
	}...)
}

// the first kid comes to three; of the others one is given what is left, and those to which nothing belongs keep even what Shrink would turn.
func TestAKidToWhichNothingBelongsStays(t *testing.T) {
	two := func(cut int, list ...impl.Msg) impl.Tree { return withBuf(fork(cuts(cut), leaf(), leaf()), list...) }
	busy := withBuf(fork(cuts(10, 20, 30), from(0, 4), from(10, 1), from(20, 1), from(30, 1)), adds(4, 5, 6, 7)...)
	second, last := two(150, add(110, 1), put(110, 2)), two(350, del(300), del(300))
	third := two(250, put(250, 1), add(250, 2))
	injects(t, injectCase{
		"given down once more",
		withBuf(fork(cuts(100, 200, 300), busy, second, third, last), add(250, 4), add(4, 4), add(201, 1), add(5, 5), add(202, 2), add(6, 6)), add(7, 7),
		fork(
			cuts(10, 200),
			fork(cuts(4), fork(cuts(2), from(0, 2), from(2, 2)), fork(cuts(6), leaf(4, 8, 5, 10), leaf(6, 12, 7, 14))),
			fork(cuts(100), fork(cuts(20, 30), from(10, 1), from(20, 1), from(30, 1)), second),
			fork(cuts(300), two(250, put(250, 7), add(201, 1), add(202, 2)), last),
		),
	})
}

// spine: a tree with so many kids at each place from the root on, along the first one down to a full leaf; one message more at the root, and all messages come down to it: it comes to four leaves, and each one above that has three kids or more to two or three.
func spine(widths ...int) impl.Tree {
	t, _ := spineTo(widths)
	return t
}

// spineTo tells also how far its keys go.
func spineTo(widths []int) (impl.Tree, int) {
	if len(widths) == 0 {
		return leaf(0, 0, 2, 2, 4, 4, 6, 6), 8
	}
	first, high := spineTo(widths[1:])
	t := withBuf(fork(nil, first), adds(1, 1, 1, 3, 5, 7)...)
	room := 1 << (len(widths) - 1)
	for range widths[0] - 1 {
		t.Cuts, t.Kids = append(t.Cuts, high), append(t.Kids, tower(len(widths), high, high+room))
		high += room
	}
	return t, high
}

func TestAsDeepAsCanBe(t *testing.T) {
	for _, c := range []struct {
		name        string
		tree        impl.Tree
		depth, kids int // 0: as it is
	}{
		{"two depths", spine(4), 3, 3},
		{"six depths, and room at the root", spine(2, 4, 4, 4, 4), 6, 4},
		{"six depths, and no room at the root", spine(3, 4, 4, 4, 4), 7, 2},
		{"six depths, and less room", spine(4, 4, 4, 4, 4), 7, 3},
		{"seven depths, and room at the root", spine(2, 4, 4, 4, 4, 4), 7, 4},
		{"seven depths, and room further down", spine(4, 4, 2, 4, 4, 4), 7, 4},
		{"seven depths, and no room at the root", spine(3, 4, 4, 4, 4, 4), 0, 0},
		{"seven depths, and less room", spine(4, 4, 4, 4, 4, 4), 0, 0},
	} {
		if !impl.TreeOk(c.tree) {
			t.Fatal(c.name, "is no fair question")
		}
		for _, m := range msgs(add(1, 1), add(7, 3), put(8, 1)) {
			got, want, told := impl.Inject(c.tree, m), c.tree, impl.TreeMap(c.tree)
			if c.depth > 0 {
				want, told = injectByTheWord(c.tree, m), impl.MapAll(told, msgs(m))
				if impl.TreeDepth(got) != c.depth || len(got.Kids) != c.kids {
					t.Error(c.name, m, "came to", impl.TreeDepth(got), len(got.Kids))
				}
			}
			if !sameTree(got, want) || !slices.Equal(impl.TreeMap(got), told) {
				t.Error(c.name, m, "came to", got)
			}
		}
		if got := impl.Inject(c.tree, put(1, 9)); !slices.Equal(got.Buf, msgs(add(3, 3), add(5, 5), add(7, 7), put(1, 9))) {
			t.Error(c.name, "did not hold what shrinks:", got.Buf)
		}
		drained := impl.Drain(c.tree)
		_, left := impl.TreeCount(drained)
		if c.depth == 0 && !sameTree(drained, c.tree) || c.depth > 0 && (left > 0 || impl.TreeDepth(drained) != c.depth) {
			t.Error(c.name, "was drained to", drained)
		}
	}
}

// bounded: a tree among others, and the first key that belongs to it.
type bounded struct {
	first int
	tree  impl.Tree
}

func overByTheWord(list []bounded, buf []impl.Msg) impl.Tree {
	t := impl.Tree{Buf: buf}
	for i, b := range list {
		if i > 0 {
			t.Cuts = append(t.Cuts, b.first)
		}
		t.Kids = append(t.Kids, b.tree)
	}
	return t
}

func twosByTheWord(list []bounded) []bounded {
	var made []bounded
	for i := 0; i+1 < len(list); i += 2 {
		end := i + 2
		if end+1 == len(list) {
			end++
		}
		made = append(made, bounded{list[i].first, overByTheWord(list[i:end], nil)})
	}
	return made
}

func leavesByTheWord(first int, list []impl.Pair) []bounded {
	if len(list) <= 4 {
		return []bounded{{first, impl.Tree{Leaf: true, Pairs: list}}}
	}
	var made []bounded
	for i := range len(list) / 2 {
		made = append(made, bounded{list[2*i].K, impl.Tree{Leaf: true, Pairs: slices.Clone(list[2*i : 2*i+2])}})
	}
	if len(list)%2 == 1 {
		last := &made[len(made)-1].tree
		last.Pairs = append(last.Pairs, list[len(list)-1])
	}
	made[0].first = first
	return made
}

func boundedKids(first int, t impl.Tree) []bounded {
	list := []bounded{{first, t.Kids[0]}}
	for i, cut := range t.Cuts {
		list = append(list, bounded{cut, t.Kids[i+1]})
	}
	return list
}

// share: what of the messages belongs to one of the kids, and the rest.
func share(kids []bounded, i int, buf []impl.Msg) (of, rest []impl.Msg) {
	for _, m := range buf {
		if (i == 0 || kids[i].first <= m.K) && (i == len(kids)-1 || m.K < kids[i+1].first) {
			of = append(of, m)
		} else {
			rest = append(rest, m)
		}
	}
	return of, rest
}

// giveByTheWord does what the chapter says of give, sentence by sentence.
func giveByTheWord(b bounded, list []impl.Msg) []bounded {
	if b.tree.Leaf {
		return leavesByTheWord(b.first, impl.MapAll(b.tree.Pairs, list))
	}
	kids := boundedKids(b.first, b.tree)
	buf := impl.Shrink(slices.Concat(b.tree.Buf, list))
	for len(buf) > 6 {
		best, most := 0, 0
		for i := range kids {
			if of, _ := share(kids, i, buf); len(of) > most {
				best, most = i, len(of)
			}
		}
		of, rest := share(kids, best, buf)
		kids = slices.Replace(kids, best, best+1, giveByTheWord(kids[best], of)...)
		buf = rest
	}
	if len(kids) <= 4 {
		return []bounded{{b.first, overByTheWord(kids, buf)}}
	}
	return twosByTheWord(shareOut(kids, buf))
}

func shareOut(kids []bounded, buf []impl.Msg) []bounded {
	var all []bounded
	for i, kid := range kids {
		came := []bounded{kid}
		if of, _ := share(kids, i, buf); len(of) > 0 {
			came = giveByTheWord(kid, of)
		}
		all = append(all, came...)
	}
	return all
}

func drainByTheWord(b bounded) []bounded {
	if b.tree.Leaf {
		return []bounded{b}
	}
	var all []bounded
	for _, came := range shareOut(boundedKids(b.first, b.tree), b.tree.Buf) {
		all = append(all, drainByTheWord(came)...)
	}
	if len(all) <= 4 {
		return []bounded{{b.first, overByTheWord(all, nil)}}
	}
	return twosByTheWord(all)
}

func rootByTheWord(was impl.Tree, came []bounded) impl.Tree {
	for len(came) > 4 {
		came = twosByTheWord(came)
	}
	root := came[0].tree
	if len(came) > 1 {
		root = overByTheWord(came, nil)
	}
	if !impl.TreeOk(root) {
		return was
	}
	return root
}

func injectByTheWord(t impl.Tree, m impl.Msg) impl.Tree {
	return rootByTheWord(t, giveByTheWord(bounded{0, t}, msgs(m)))
}

// follows: P4, of one tree and one message: by the word, and by its map. It tells what came, and whether it is as it was.
func follows(t *testing.T, tree impl.Tree, m impl.Msg) (impl.Tree, bool) {
	t.Helper()
	got, want := impl.Inject(tree, m), injectByTheWord(tree, m)
	if !sameTree(got, want) {
		t.Fatal(m, "came to", got, "and by the word", want, "of", tree)
	}
	if !impl.TreeOk(got) || impl.TreeDepth(got) < impl.TreeDepth(tree) {
		t.Fatal(m, "came to no tree, or to one less deep:", got, "of", tree)
	}
	if sameTree(got, tree) && impl.TreeDepth(tree) == 7 {
		return got, true
	}
	if told, done := impl.TreeMap(got), impl.MapAll(impl.TreeMap(tree), msgs(m)); !slices.Equal(told, done) {
		t.Fatal(m, "came to the map", told, "and done to the map", done, "of", tree)
	}
	return got, false
}

// drains: P4, of one tree.
func drains(t *testing.T, tree impl.Tree) impl.Tree {
	t.Helper()
	got, want := impl.Drain(tree), rootByTheWord(tree, drainByTheWord(bounded{0, tree}))
	if !sameTree(got, want) || !impl.TreeOk(got) {
		t.Fatal("drained to", got, "and by the word", want, "of", tree)
	}
	if !slices.Equal(impl.TreeMap(got), impl.TreeMap(tree)) {
		t.Fatal("drained to the map of", got, "and not to that of", tree)
	}
	if _, left := impl.TreeCount(got); left > 0 && !sameTree(got, tree) {
		t.Fatal("messages are left:", got, "of", tree)
	}
	if again := impl.Drain(got); !sameTree(again, got) {
		t.Fatal("drained twice to", again, "and once to", got)
	}
	return got
}

// messages one by one into a new tree, of few keys and of many.
func TestInjectIsDoneToTheMap(t *testing.T) {
	t.Parallel()
	d := &dice{6}
	deepest, refused := 0, 0
	for i, keys := range []int{3, 9, 30, 60, 150, 400, 1000, 1000, 1000} {
		tree := impl.TreeNew()
		var done []impl.Pair
		for n := range 700 {
			m := thrown(d, 0, keys)
			if steps := []int{13, 999, 1}; i > 5 { // none of them goes again: the tree grows as deep as it can
				m = put((n+1)*steps[i-6]%1000, n)
			}
			next, asItWas := follows(t, tree, m)
			if asItWas {
				refused++
			} else {
				done = impl.MapDo(done, m)
			}
			tree = next
			deepest = max(deepest, impl.TreeDepth(tree))
			if !slices.Equal(impl.TreeMap(tree), done) {
				t.Fatal("injected", n, "and told", impl.TreeMap(tree), "for", done)
			}
			if n%50 == 0 {
				drains(t, tree)
			}
			if n%90 == 89 {
				tree = impl.Drain(tree)
			}
		}
	}
	if deepest != 7 || refused == 0 {
		t.Error("the trees are too much alike: as deep as", deepest, "and refused", refused)
	}
}

func TestInjectIntoGrownTrees(t *testing.T) {
	t.Parallel()
	d := &dice{7}
	var depths [8]int
	grew, more := 0, 0
	for i := range 560 {
		depth, high := 1+i%7, 1000
		if i%3 == 0 {
			high = 1 << (depth + 1)
		}
		tree := grown(d, depth, 0, high)
		drained := drains(t, tree)
		drains(t, drained)
		low := d.below(high)
		for range 15 {
			next, _ := follows(t, tree, thrown(d, low, min(high, low+1+d.below(high))))
			switch up := impl.TreeDepth(next) - impl.TreeDepth(tree); {
			case up > 1:
				more++
			case up == 1:
				grew++
			}
			depths[impl.TreeDepth(next)]++
			tree = next
		}
		drains(t, tree)
	}
	if slices.Min(depths[1:]) < 100 || grew < 50 || more == 0 {
		t.Error("the trees are too much alike:", depths, grew, more)
	}
}

func TestInjectIntoGoodTrees(t *testing.T) {
	for _, c := range goodTrees() {
		for _, m := range goodMsgs {
			if m.Op == impl.MsGet {
				continue
			}
			follows(t, c.tree, m)
		}
		tree := c.tree
		for k := range 40 {
			tree, _ = follows(t, tree, put(k*k%1000, k))
		}
		drains(t, c.tree)
		drains(t, tree)
	}
}

func TestDrain(t *testing.T) {
	for _, c := range []struct {
		name       string
		tree, want impl.Tree
	}{
		{"a new tree", impl.TreeNew(), leaf()},
		{"a leaf", leaf(1, 1, 2, 2, 3, 3, 4, 4), from(1, 4)},
		{"no messages", fork(cuts(10), leaf(1, 1), leaf()), fork(cuts(10), leaf(1, 1), leaf())},
		{"no messages, seven depths", tower(7, 0, 1000), tower(7, 0, 1000)},
		{"messages for one kid alone", withBuf(fork(cuts(10), from(1, 1), from(10, 1)), add(11, 11), del(12)), fork(cuts(10), from(1, 1), from(10, 2))},
		{"in their order", withBuf(fork(cuts(10), from(1, 1), from(10, 1)), del(1), add(1, 4), put(10, 3), add(10, -5)), fork(cuts(10), leaf(1, 4), leaf(10, -2))},
		{"all goes", withBuf(fork(cuts(10), from(1, 1), from(10, 1)), del(1), del(10)), fork(cuts(10), leaf(), leaf())},
		{"messages in several depths", stairs(), fork(cuts(100), fork(cuts(10, 20), leaf(0, 5, 9, 2), leaf(19, 4), leaf(20, 5, 99, 8)), fork(cuts(500), leaf(100, 1, 499, 8), leaf(500, 9, 999, 2)))},
		{
			"messages below alone", fork(cuts(100), withBuf(fork(cuts(10), from(1, 4), leaf()), adds(5, 10)...), fork(cuts(200), leaf(), leaf())),
			fork(cuts(100), fork(cuts(3, 10), from(1, 2), from(3, 3), from(10, 1)), fork(cuts(200), leaf(), leaf())),
		},
		{"four kids come", withBuf(fork(cuts(100), from(1, 4), from(100, 4)), adds(5, 104)...), fork(cuts(3, 100, 102), from(1, 2), from(3, 3), from(100, 2), from(102, 3))},
		{
			"five kids come", withBuf(fork(cuts(100), from(1, 4), from(100, 4)), adds(5, 104, 105)...),
			fork(cuts(100), fork(cuts(3), from(1, 2), from(3, 3)), fork(cuts(102, 104), from(100, 2), from(102, 2), from(104, 2))),
		},
		{
			"six kids come", withBuf(fork(cuts(100), from(1, 4), from(100, 4)), adds(7, 5, 6, 104, 105, 106)...),
			fork(cuts(5, 102), fork(cuts(3), from(1, 2), from(3, 2)), fork(cuts(100), from(5, 3), from(100, 2)), fork(cuts(104), from(102, 2), from(104, 3))),
		},
		{
			"a root that grows by two", withBuf(fork(cuts(100, 200, 300), from(1, 4), from(100, 4), from(200, 4), from(300, 4)), adds(5, 6, 104, 105, 204, 304)...),
			fork(
				cuts(102),
				fork(cuts(5), fork(cuts(3), from(1, 2), from(3, 2)), fork(cuts(100), from(5, 2), from(100, 2))),
				fork(cuts(200, 300), fork(cuts(104), from(102, 2), from(104, 2)), fork(cuts(202), from(200, 2), from(202, 3)), fork(cuts(302), from(300, 2), from(302, 3))),
			),
		},
	} {
		if !impl.TreeOk(c.tree) || !impl.TreeOk(c.want) {
			t.Error(c.name, "is no fair question")
		}
		if got := drains(t, c.tree); !sameTree(got, c.want) {
			t.Error(c.name, "was drained to", got)
		}
	}
}

func ascending(count, step int) []impl.Pair {
	var list []impl.Pair
	for i := range count {
		list = append(list, impl.Pair{K: i * step, V: -i})
	}
	return list
}

func TestBuild(t *testing.T) {
	for _, c := range []struct {
		name string
		list []impl.Pair
		want impl.Tree
	}{
		{"nothing", nil, leaf()},
		{"an empty list", []impl.Pair{}, leaf()},
		{"one", pairs(7, 0), leaf(7, 0)},
		{"four", pairs(0, 4, 5, 3, 6, 2, 999, 1), leaf(0, 4, 5, 3, 6, 2, 999, 1)},
		{"five", pairs(0, 4, 5, 3, 6, 2, 8, 0, 999, 1), fork(cuts(6), leaf(0, 4, 5, 3), leaf(6, 2, 8, 0, 999, 1))},
		{"eleven", from(1, 11).Pairs, withBuf(fork(cuts(3), from(1, 2), from(3, 3)), put(6, 6), put(7, 7), put(8, 8), put(9, 9), put(10, 10), put(11, 11))},
		{"twelve", from(1, 12).Pairs, fork(cuts(5, 9), fork(cuts(3), from(1, 2), from(3, 2)), fork(cuts(7), from(5, 2), from(7, 2)), fork(cuts(11), from(9, 2), from(11, 2)))},
	} {
		if got, ok := impl.Build(c.list); !ok || !sameTree(got, c.want) {
			t.Error(c.name, "came to", got, ok)
		}
	}
}

// of so many ascending keys each: what Inject makes of them, as long as that tells them.
func TestBuildByTheWord(t *testing.T) {
	t.Parallel()
	for _, step := range []int{1, 2, 9} {
		tree := impl.TreeNew()
		last := (1000 + step - 1) / step
		built, refused := 0, 0
		for n := range last + 1 {
			list := ascending(n, step)
			if n > 0 {
				tree = injectByTheWord(tree, put(list[n-1].K, list[n-1].V))
			}
			if n > 50 && n%19 > 0 && (n < 370 || n > 380) && n < last {
				continue
			}
			got, ok := impl.Build(list)
			want := slices.Equal(mapByTheWord(tree), list)
			if ok != want || ok && !sameTree(got, tree) || !ok && !sameTree(got, impl.Tree{}) {
				t.Fatal(n, step, "came to", ok, got, "and by the word", want, tree)
			}
			if ok {
				built++
			} else {
				refused++
			}
		}
		if built < 50 || step < 9 && refused == 0 {
			t.Error("the lists are too much alike:", step, built, refused)
		}
	}
}

func TestBuildTellsItsList(t *testing.T) {
	d := &dice{8}
	for range 60 {
		var list []impl.Pair
		for k := d.below(5); k < 1000; k += 1 + d.below(40) {
			list = append(list, impl.Pair{K: k, V: d.below(2000000001) - 1000000000})
		}
		got, ok := impl.Build(list)
		if !ok || !impl.TreeOk(got) || !slices.Equal(impl.TreeMap(got), list) {
			t.Fatal("came to", ok, got, "of", list)
		}
	}
}

func TestBuildOfWhatIsTooDeepOrNoMap(t *testing.T) {
	if got, ok := impl.Build(ascending(375, 2)); !ok || impl.TreeDepth(got) != 7 {
		t.Error("not built as deep as can be:", got, ok)
	}
	bad := append(slices.Clone(badMaps), ascending(376, 2), ascending(500, 2), ascending(1000, 1), ascending(1001, 1), make([]impl.Pair, 100000))
	for _, list := range bad {
		if got, ok := impl.Build(list); ok || !sameTree(got, impl.Tree{}) {
			t.Error("built", got, ok)
		}
	}
}

func TestWhatIsNoTreeStays(t *testing.T) {
	for _, c := range badTrees() {
		for _, m := range msgs(put(1, 1), add(999, 1), del(10), get(1), impl.Msg{}) {
			if got := impl.Inject(c.tree, m); !sameTree(got, c.tree) {
				t.Error(c.name, "came to", got)
			}
		}
		if got := impl.Drain(c.tree); !sameTree(got, c.tree) {
			t.Error(c.name, "was drained to", got)
		}
	}
	d := &dice{9}
	for i := range 600 {
		tree := marred(d, grown(d, 1+i%5, 0, 1000))
		if okByTheWord(tree) {
			follows(t, tree, thrown(d, 0, 1000))
			drains(t, tree)
			continue
		}
		if a, b := impl.Inject(tree, thrown(d, 0, 1000)), impl.Drain(tree); !sameTree(a, tree) || !sameTree(b, tree) {
			t.Fatal("came to", a, "and to", b, "of", tree)
		}
	}
}

func TestWhatIsNoMessageTurnsNothing(t *testing.T) {
	for _, c := range append(goodTrees(), badTrees()...) {
		for _, m := range append(slices.Clone(badMsgs), get(0), get(5), get(999)) {
			if got := impl.Inject(c.tree, m); !sameTree(got, c.tree) {
				t.Error(c.name, m, "came to", got)
			}
		}
	}
}

// sameDown: alike as far as that depth.
func sameDown(depth int, a, b impl.Tree) bool {
	if a.Leaf != b.Leaf || !slices.Equal(a.Pairs, b.Pairs) || !slices.Equal(a.Cuts, b.Cuts) || !slices.Equal(a.Buf, b.Buf) || len(a.Kids) != len(b.Kids) {
		return false
	}
	for i := range a.Kids {
		if depth > 0 && !sameDown(depth-1, a.Kids[i], b.Kids[i]) {
			return false
		}
	}
	return true
}

// manyfold: few lists, but each is met twice by who goes down from the one above: no memory holds them all one by one.
func manyfold() impl.Tree {
	t := leaf(5, 5)
	for range 200 {
		t = fork(cuts(10), t, t)
	}
	return t
}

func TestStrangeTreesStay(t *testing.T) {
	crowd := make([]impl.Tree, 2000)
	for i := range crowd {
		crowd[i] = impl.Tree{Pairs: make([]impl.Pair, 2000), Kids: crowd}
	}
	strange := append(strangeTrees(), treeCase{name: "one met ever again", tree: manyfold()}, treeCase{name: "a crowd that holds itself", tree: crowd[0]})
	for _, c := range strange {
		for _, got := range []impl.Tree{impl.Inject(c.tree, put(5, 1)), impl.Drain(c.tree)} {
			depth := 12
			if len(c.tree.Kids) > 2 {
				depth = 1
			}
			if !sameDown(depth, got, c.tree) {
				t.Error(c.name, "did not stay")
			}
			got.Kids[0].Leaf = !got.Kids[0].Leaf
			if c.tree.Kids[0].Leaf == got.Kids[0].Leaf {
				t.Error(c.name, "shares memory with the answer")
			}
		}
	}
}

// fillRoom writes behind the end of a list, as far as its memory goes.
func fillRoom[E any](list []E, filler E) {
	room := list[len(list):cap(list)]
	for i := range room {
		room[i] = filler
	}
}

// ownMemory: no list of an answer stands in the memory of another one, nor in the room behind it.
func ownMemory(t *testing.T, name string, answer impl.Tree) {
	t.Helper()
	kept := copyOf(answer)
	parts := partsOf(&answer)
	for _, part := range parts {
		fillRoom(part.Pairs, impl.Pair{K: -66})
		fillRoom(part.Cuts, -66)
		fillRoom(part.Buf, impl.Msg{Op: -66})
		fillRoom(part.Kids, impl.Tree{Cuts: []int{-66}})
	}
	if !sameTree(answer, kept) {
		t.Fatal(name, "has a list in the room behind another one")
	}
	for i, part := range parts {
		spoil(part.Pairs, impl.Pair{K: -i})
		spoil(part.Cuts, -i)
		spoil(part.Buf, impl.Msg{Op: -i})
	}
	for i, part := range parts {
		if slices.ContainsFunc(part.Pairs, func(p impl.Pair) bool { return p.K != -i }) || slices.ContainsFunc(part.Cuts, func(c int) bool { return c != -i }) || slices.ContainsFunc(part.Buf, func(m impl.Msg) bool { return m.Op != -i }) {
			t.Fatal(name, "has two lists in one memory")
		}
		if len(part.Kids) > 0 {
			part.Kids[0].Leaf = !part.Kids[0].Leaf
		}
	}
}

// sharing: trees whose lists stand in one memory already.
func sharing() []treeCase {
	both := from(1, 4)
	kids := []impl.Tree{both, both}
	twins := fork(cuts(10), kids...)
	buf := adds(1, 2, 3)
	empty := []impl.Tree{leaf(), leaf()}
	return []treeCase{
		{name: "empty kids in one list", tree: fork(cuts(100), fork(cuts(50), empty...), fork(cuts(150), empty...))},
		{name: "one list in two kids", tree: fork(cuts(10), both, both)},
		{name: "kids of two alike", tree: fork(cuts(100), twins, twins)},
		{name: "messages of two alike", tree: fork(cuts(100), withBuf(twins, buf...), withBuf(twins, buf...))},
	}
}

func TestInjectWritesIntoNothing(t *testing.T) {
	cases := slices.Concat(goodTrees(), badTrees(), []treeCase{
		{name: "a full leaf", tree: from(1, 4)},
		{name: "one short of coming down", tree: withBuf(fork(cuts(100), from(1, 4), from(100, 4)), adds(5, 6, 7, 104, 105, 106)...)},
		{name: "one short of growing by two", tree: withBuf(fork(cuts(100, 200, 300), from(1, 4), from(100, 4), from(200, 4), from(300, 4)), adds(5, 6, 104, 105, 204, 205)...)},
		{name: "too deep", tree: spine(4, 4, 4, 4, 4, 4)},
		{name: "nearly too deep", tree: spine(2, 4, 4, 4, 4, 4)},
	}, sharing())
	for _, c := range cases {
		for _, deed := range []func(impl.Tree) impl.Tree{
			func(t impl.Tree) impl.Tree { return impl.Inject(t, put(9, 1)) },
			func(t impl.Tree) impl.Tree { return impl.Inject(t, add(1, 1)) },
			func(t impl.Tree) impl.Tree { return impl.Inject(t, get(1)) },
			func(t impl.Tree) impl.Tree { return impl.Inject(t, impl.Msg{}) },
			impl.Drain,
		} {
			tree, wholes := roomyTree(c.tree)
			_, kept := roomyTree(c.tree)
			ownMemory(t, c.name, deed(tree))
			ownMemory(t, c.name, deed(c.tree))
			if !reflect.DeepEqual(wholes, kept) {
				t.Fatal("written into, or memory shared with an answer:", c.name)
			}
		}
	}
}
