package tests

import (
	"math"
	"reflect"
	"slices"
	"testing"

	"loop.example/g00234/impl"
)

func leaf(numbers ...int) impl.Tree { return impl.Tree{Leaf: true, Pairs: pairs(numbers...)} }

// fork: a tree of these kids and cuts, without messages.
func fork(cuts []int, kids ...impl.Tree) impl.Tree { return impl.Tree{Cuts: cuts, Kids: kids} }

func cuts(list ...int) []int { return list }

func withBuf(t impl.Tree, msgs ...impl.Msg) impl.Tree {
	t.Buf = msgs
	return t
}

// tower: a tree of that depth, the keys from low on and below high in it, with two kids at each place.
func tower(depth, low, high int) impl.Tree {
	if depth == 1 {
		return leaf(low, depth)
	}
	mid := (low + high) / 2
	return fork(cuts(mid), tower(depth-1, low, mid), tower(depth-1, mid, high))
}

// stairs: a tree of three depths, with messages at each place above the leaves.
func stairs() impl.Tree {
	left := withBuf(fork(cuts(10, 20), leaf(0, 1, 9, 2), leaf(10, 3, 19, 4), leaf(20, 5, 99, 6)), add(0, 1), add(99, 1), del(10))
	right := withBuf(fork(cuts(500), leaf(100, 7, 499, 8), leaf(500, 9, 999, 10)), put(100, 5), del(999))
	return withBuf(fork(cuts(100), left, right), add(0, 3), add(99, 1), put(100, 1), add(999, 2))
}

// treeCase: a tree, what TreeDepth tells of it (0: it is not TreeOk), and how many pairs and messages it has.
type treeCase struct {
	name               string
	tree               impl.Tree
	depth, pairs, msgs int
}

func goodTrees() []treeCase {
	empty := leaf()
	return []treeCase{
		{"an empty leaf", empty, 1, 0, 0},
		{"a leaf with empty lists", impl.Tree{Leaf: true, Pairs: []impl.Pair{}, Cuts: []int{}, Kids: []impl.Tree{}, Buf: []impl.Msg{}}, 1, 0, 0},
		{"a leaf", leaf(5, 7), 1, 1, 0},
		{"a leaf at both ends", leaf(0, 1000000000, 999, -1000000000), 1, 2, 0},
		{"a full leaf", leaf(1, 1, 2, 2, 3, 3, 4, 4), 1, 4, 0},
		{"two kids", fork(cuts(10), empty, empty), 2, 0, 0},
		{"two kids and an empty list of pairs", impl.Tree{Pairs: []impl.Pair{}, Cuts: cuts(10), Kids: []impl.Tree{empty, empty}}, 2, 0, 0},
		{"three kids", fork(cuts(10, 11), leaf(9, 1), leaf(10, 2), leaf(11, 3)), 2, 3, 0},
		{"as many kids as can be", fork(cuts(10, 20, 30), empty, empty, empty, empty), 2, 0, 0},
		{"a cut at 1", fork(cuts(1), leaf(0, 1), leaf(1, 1)), 2, 2, 0},
		{"a cut at 999", fork(cuts(999), leaf(998, 1), leaf(999, 1)), 2, 2, 0},
		{"cuts at both ends", fork(cuts(1, 999), leaf(0, 1), leaf(1, 1, 998, 1), leaf(999, 1)), 2, 4, 0},
		{"pairs around a cut", fork(cuts(10), leaf(9, 1), leaf(10, 1)), 2, 2, 0},
		{"one message", withBuf(fork(cuts(10), empty, empty), del(10)), 2, 0, 1},
		{"six messages", withBuf(fork(cuts(10), empty, empty), put(0, 1), put(999, 1), add(9, 1), add(10, -1), del(0), del(0)), 2, 0, 6},
		{"messages of a kid around its cuts", fork(cuts(10, 20), fork(cuts(5), empty, empty), withBuf(fork(cuts(15), empty, empty), put(10, 1), del(19)), withBuf(fork(cuts(500), empty, empty), add(20, 1), add(999, 1))), 3, 0, 4},
		{"cuts of a kid beside the cuts", fork(cuts(10, 20), fork(cuts(1, 9), empty, empty, empty), fork(cuts(11, 19), empty, empty, empty), fork(cuts(21, 999), empty, empty, empty)), 3, 0, 0},
		{"leaves of one key", fork(cuts(1, 2, 3), leaf(0, 0), leaf(1, 1), leaf(2, 2), leaf(3, 3)), 2, 4, 0},
		{"three depths", stairs(), 3, 10, 9},
		{"six depths", tower(6, 0, 1000), 6, 32, 0},
		{"as deep as can be", tower(7, 0, 1000), 7, 64, 0},
		{"as deep as can be, of few keys", tower(7, 0, 64), 7, 64, 0},
	}
}

func badTrees() []treeCase {
	empty := leaf()
	two := []impl.Tree{empty, empty}
	mid := fork(cuts(50), empty, empty)
	bad := []treeCase{
		{name: "the zero value"},
		{name: "a leaf with one pair more", tree: leaf(1, 1, 2, 2, 3, 3, 4, 4, 5, 5)},
		{name: "a leaf with a cut", tree: impl.Tree{Leaf: true, Cuts: cuts(5)}},
		{name: "a leaf with kids", tree: impl.Tree{Leaf: true, Kids: two}},
		{name: "a leaf with cuts and kids", tree: impl.Tree{Leaf: true, Cuts: cuts(10), Kids: two}},
		{name: "a leaf with a message", tree: impl.Tree{Leaf: true, Buf: []impl.Msg{put(1, 1)}}},
		{name: "pairs and kids", tree: impl.Tree{Pairs: pairs(1, 1), Cuts: cuts(10), Kids: two}},
		{name: "pairs alone, and no leaf", tree: impl.Tree{Pairs: pairs(1, 1)}},
		{name: "messages alone", tree: impl.Tree{Buf: []impl.Msg{put(1, 1)}}},
		{name: "a cut alone", tree: fork(cuts(10))},
		{name: "one kid", tree: fork(nil, empty)},
		{name: "one kid and a cut", tree: fork(cuts(10), empty)},
		{name: "one kid more than can be", tree: fork(cuts(10, 20, 30, 40), empty, empty, empty, empty, empty)},
		{name: "no cut", tree: fork(nil, empty, empty)},
		{name: "a cut too many", tree: fork(cuts(10, 20), empty, empty)},
		{name: "a cut too few", tree: fork(cuts(10), empty, empty, empty)},
		{name: "a cut at 0", tree: fork(cuts(0), empty, empty)},
		{name: "a cut at 1000", tree: fork(cuts(1000), empty, empty)},
		{name: "a cut below 0", tree: fork(cuts(-1), empty, empty)},
		{name: "the least cut", tree: fork(cuts(math.MinInt), empty, empty)},
		{name: "the greatest cut", tree: fork(cuts(math.MaxInt), empty, empty)},
		{name: "the last cut at 1000", tree: fork(cuts(10, 1000), empty, empty, empty)},
		{name: "cuts alike", tree: fork(cuts(10, 10), empty, empty, empty)},
		{name: "cuts that fall", tree: fork(cuts(20, 10), empty, empty, empty)},
		{name: "the last cuts alike", tree: fork(cuts(10, 20, 20), empty, empty, empty, empty)},
		{name: "the last cut falls", tree: fork(cuts(10, 20, 15), empty, empty, empty, empty)},
		{name: "one message more", tree: withBuf(fork(cuts(10), empty, empty), put(0, 1), put(999, 1), add(9, 1), add(10, -1), del(0), del(0), del(0))},
		{name: "a get", tree: withBuf(fork(cuts(10), empty, empty), get(1))},
		{name: "a get behind others", tree: withBuf(fork(cuts(10), empty, empty), put(1, 1), get(1))},
		{name: "a get in a kid", tree: fork(cuts(100), mid, withBuf(fork(cuts(150), empty, empty), get(120)))},
		{name: "a pair at the cut behind", tree: fork(cuts(10), leaf(10, 1), empty)},
		{name: "a pair beyond the cut behind", tree: fork(cuts(10), leaf(1, 1, 11, 1), empty)},
		{name: "a pair below the cut ahead", tree: fork(cuts(10), empty, leaf(9, 1))},
		{name: "a pair between others below the cut ahead", tree: fork(cuts(10, 20), empty, leaf(9, 1, 10, 1), empty)},
		{name: "a pair of the middle kid at the cut behind", tree: fork(cuts(10, 20), empty, leaf(10, 1, 20, 1), empty)},
		{name: "a message of a kid at the cut behind", tree: fork(cuts(100), withBuf(mid, put(100, 1)), fork(cuts(150), empty, empty))},
		{name: "a message of a kid below the cut ahead", tree: fork(cuts(100), mid, withBuf(fork(cuts(150), empty, empty), del(99)))},
		{name: "a cut of a kid at the cut behind", tree: fork(cuts(50), mid, fork(cuts(150), empty, empty))},
		{name: "a cut of a kid beyond the cut behind", tree: fork(cuts(49), mid, fork(cuts(150), empty, empty))},
		{name: "a cut of a kid at the cut ahead", tree: fork(cuts(150), mid, fork(cuts(150), empty, empty))},
		{name: "a cut of a kid below the cut ahead", tree: fork(cuts(151), mid, fork(cuts(150), empty, empty))},
		{name: "a later cut of a kid at the cut behind", tree: fork(cuts(60), fork(cuts(50, 60), empty, empty, empty), fork(cuts(150), empty, empty))},
		{name: "a pair far below that belongs elsewhere", tree: fork(cuts(100), fork(cuts(50), empty, leaf(100, 1)), fork(cuts(150), empty, empty))},
		{name: "a pair far below, on the other side", tree: fork(cuts(100), mid, fork(cuts(150), leaf(99, 1), empty))},
		{name: "the first kid deeper", tree: fork(cuts(100), mid, empty)},
		{name: "the last kid deeper", tree: fork(cuts(10), empty, mid)},
		{name: "the middle kid deeper", tree: fork(cuts(10, 100), empty, mid, empty)},
		{name: "depths that differ below", tree: fork(cuts(100), fork(cuts(10), empty, mid), fork(cuts(150), empty, empty))},
		{name: "a kid that is none", tree: fork(cuts(10), impl.Tree{}, impl.Tree{})},
		{name: "a last kid that is none", tree: fork(cuts(10), empty, impl.Tree{})},
		{name: "a first kid that is none", tree: fork(cuts(10), impl.Tree{}, empty)},
		{name: "a kid with a kid too many", tree: fork(cuts(100), mid, fork(cuts(110, 120, 130, 140), empty, empty, empty, empty, empty))},
		{name: "a kid of one kid", tree: fork(cuts(100), mid, fork(nil, empty))},
		{name: "a kid with a message too many", tree: fork(cuts(100), mid, withBuf(fork(cuts(150), empty, empty), del(100), del(101), del(102), del(103), del(104), del(105), del(106)))},
		{name: "a full kid and one pair", tree: fork(cuts(100), empty, leaf(101, 1, 102, 2, 103, 3, 104, 4, 105, 5))},
		{name: "one deeper than can be", tree: tower(8, 0, 1000)},
		{name: "much deeper than can be", tree: tower(9, 0, 1000)},
	}
	for _, list := range badMaps {
		bad = append(bad, treeCase{name: "a leaf that is no map", tree: impl.Tree{Leaf: true, Pairs: list}})
		bad = append(bad, treeCase{name: "a kid that is no map", tree: fork(cuts(999), impl.Tree{Leaf: true, Pairs: list}, empty)})
	}
	for _, m := range badMsgs {
		bad = append(bad, treeCase{name: "a message that is none", tree: withBuf(fork(cuts(10), empty, empty), m)})
		bad = append(bad, treeCase{name: "a message that is none behind others", tree: withBuf(fork(cuts(10), empty, empty), put(1, 1), m)})
	}
	return bad
}

// strangeTrees are endless or as good as endless for who goes down them blindly.
func strangeTrees() []treeCase {
	loop := make([]impl.Tree, 2)
	for i := range loop {
		loop[i] = fork(cuts(500), loop...)
	}
	deep := leaf()
	for range 100000 {
		deep = fork(cuts(10), deep, leaf())
	}
	deepLast := leaf()
	for cut := 999; cut > 0; cut-- {
		deepLast = fork(cuts(cut), leaf(), deepLast)
	}
	wide := impl.Tree{Cuts: make([]int, 99999), Kids: make([]impl.Tree, 100000)}
	return []treeCase{
		{name: "its own kid", tree: loop[0]},
		{name: "a very deep one", tree: deep},
		{name: "one kid a key", tree: deepLast},
		{name: "a very wide one", tree: wide},
	}
}

func TestTreeLimits(t *testing.T) {
	if impl.MaxPairs != 4 || impl.MaxKids != 4 || impl.MaxBuf != 6 || impl.MaxDepth != 7 {
		t.Error("limits", impl.MaxPairs, impl.MaxKids, impl.MaxBuf, impl.MaxDepth)
	}
}

func TestTreesThatAreOk(t *testing.T) {
	for _, c := range goodTrees() {
		if !impl.TreeOk(c.tree) {
			t.Error("refused:", c.name)
		}
		if d := impl.TreeDepth(c.tree); d != c.depth {
			t.Error("depth:", c.name, d)
		}
		if p, m := impl.TreeCount(c.tree); p != c.pairs || m != c.msgs {
			t.Error("count:", c.name, p, m)
		}
		belongToOneKid(t, c.name, c.tree)
	}
}

func TestTreesThatAreNotOk(t *testing.T) {
	for _, c := range append(badTrees(), strangeTrees()...) {
		if impl.TreeOk(c.tree) {
			t.Error("accepted:", c.name)
		}
		if d := impl.TreeDepth(c.tree); d != 0 {
			t.Error("depth:", c.name, d)
		}
		if p, m := impl.TreeCount(c.tree); p != 0 || m != 0 {
			t.Error("count:", c.name, p, m)
		}
		for _, k := range []int{math.MinInt, -1, 0, 10, 999, 1000, math.MaxInt} {
			if kid := impl.KidOf(c.tree, k); kid != -1 {
				t.Error("kid:", c.name, k, kid)
			}
		}
	}
}

func TestKidOf(t *testing.T) {
	four := fork(cuts(10, 20, 30), leaf(9, 1), leaf(), leaf(29, 1), leaf())
	for _, c := range []struct {
		tree    impl.Tree
		k, want int
	}{
		{four, math.MinInt, 0}, {four, -1, 0}, {four, 0, 0}, {four, 9, 0},
		{four, 10, 1}, {four, 11, 1}, {four, 19, 1},
		{four, 20, 2}, {four, 29, 2},
		{four, 30, 3}, {four, 999, 3}, {four, 1000, 3}, {four, math.MaxInt, 3},
		{fork(cuts(1), leaf(), leaf()), 0, 0}, {fork(cuts(1), leaf(), leaf()), 1, 1},
		{fork(cuts(999), leaf(), leaf()), 998, 0}, {fork(cuts(999), leaf(), leaf()), 999, 1},
		{stairs(), 99, 0}, {stairs(), 100, 1}, {stairs().Kids[0], 19, 1}, {stairs().Kids[0], 20, 2}, {stairs().Kids[1], 99, 0},
		{leaf(), 0, -1}, {leaf(5, 5), 5, -1}, {leaf(5, 5), -1, -1}, {impl.Tree{}, 0, -1},
	} {
		if got := impl.KidOf(c.tree, c.k); got != c.want {
			t.Error(c.tree.Cuts, c.k, "belongs to", got)
		}
	}
}

// belongToOneKid: of all keys, and of those in the tree, down to its leaves.
func belongToOneKid(t *testing.T, name string, tree impl.Tree) {
	t.Helper()
	if tree.Leaf {
		return
	}
	for k := range 1000 {
		var kids []int
		for i := range tree.Kids {
			if belongs(tree.Cuts, i, k) {
				kids = append(kids, i)
			}
		}
		if got := impl.KidOf(tree, k); len(kids) != 1 || kids[0] != got {
			t.Fatal(name, k, "belongs to", kids, "and is told of", got)
		}
	}
	for i, kid := range tree.Kids {
		for _, k := range keysIn(kid) {
			if got := impl.KidOf(tree, k); got != i {
				t.Fatal(name, k, "is in", i, "and is told of", got)
			}
		}
		belongToOneKid(t, name, kid)
	}
}

func belongs(cuts []int, i, k int) bool {
	return (i == 0 || k >= cuts[i-1]) && (i == len(cuts) || k < cuts[i])
}

// keysIn: of pairs and messages, of it and of all below.
func keysIn(t impl.Tree) []int {
	var list []int
	for _, p := range t.Pairs {
		list = append(list, p.K)
	}
	for _, m := range t.Buf {
		list = append(list, m.K)
	}
	for _, kid := range t.Kids {
		list = append(list, keysIn(kid)...)
	}
	return list
}

func cutsIn(t impl.Tree) []int {
	list := slices.Clone(t.Cuts)
	for _, kid := range t.Kids {
		list = append(list, cutsIn(kid)...)
	}
	return list
}

// deepest: how many are on the longest way down.
func deepest(t impl.Tree) int {
	most := 0
	for _, kid := range t.Kids {
		most = max(most, deepest(kid))
	}
	return most + 1
}

// okByTheWord does what the chapter says of TreeOk, sentence by sentence, and looks at each key once for each that stands above it.
func okByTheWord(t impl.Tree) bool {
	return deepest(t) <= 7 && partOkByTheWord(t)
}

func partOkByTheWord(t impl.Tree) bool {
	if t.Leaf {
		return impl.MapOk(t.Pairs) && len(t.Pairs) <= 4 && len(t.Cuts)+len(t.Kids)+len(t.Buf) == 0
	}
	if len(t.Kids) < 2 || len(t.Kids) > 4 || len(t.Cuts) != len(t.Kids)-1 || len(t.Buf) > 6 || len(t.Pairs) > 0 {
		return false
	}
	for i, c := range t.Cuts {
		if c < 1 || c > 999 || i > 0 && t.Cuts[i-1] >= c {
			return false
		}
	}
	for _, m := range t.Buf {
		if !impl.MsgOk(m) || m.Op == impl.MsGet {
			return false
		}
	}
	for i, kid := range t.Kids {
		if !partOkByTheWord(kid) || deepest(kid) != deepest(t.Kids[0]) {
			return false
		}
		for _, k := range keysIn(kid) {
			if !belongs(t.Cuts, i, k) {
				return false
			}
		}
		for _, c := range cutsIn(kid) {
			if i > 0 && c <= t.Cuts[i-1] || i < len(t.Cuts) && c >= t.Cuts[i] {
				return false
			}
		}
	}
	return true
}

// dice: numbers that look thrown and are the same at each run.
type dice struct{ seed uint64 }

func (d *dice) below(n int) int {
	d.seed = d.seed*6364136223846793005 + 1442695040888963407
	return int(d.seed>>33) % n
}

// grown: a tree of that depth that is TreeOk, with the keys from low on and below high.
func grown(d *dice, depth, low, high int) impl.Tree {
	var t impl.Tree
	if depth == 1 {
		t.Leaf = true
		for k := low + d.below(2); k < high && len(t.Pairs) < 4 && d.below(8) > 0; k += 1 + d.below(max(1, (high-low)/4)) {
			t.Pairs = append(t.Pairs, impl.Pair{K: k, V: d.below(9) - 4})
		}
		return t
	}
	room := 1 << (depth - 2) // so many keys each kid needs, for the cuts below
	kids := min(2+d.below(3), (high-low)/room)
	for i, from := 0, low; i < kids; i++ {
		to := high
		if i < kids-1 {
			spare := (high - from - (kids-i)*room) / (kids - i)
			to = from + room + d.below(spare+1)
			t.Cuts = append(t.Cuts, to)
		}
		t.Kids = append(t.Kids, grown(d, depth-1, from, to))
		from = to
	}
	for range d.below(7) {
		t.Buf = append(t.Buf, thrown(d, low, high))
	}
	return t
}

func thrown(d *dice, low, high int) impl.Msg {
	k := low + d.below(high-low)
	switch d.below(4) {
	case 0:
		return del(k)
	case 1:
		return put(k, d.below(9)-4)
	}
	return add(k, d.below(9)-4)
}

// partsOf: the tree and all below it, to be turned in place.
func partsOf(t *impl.Tree) []*impl.Tree {
	list := []*impl.Tree{t}
	for i := range t.Kids {
		list = append(list, partsOf(&t.Kids[i])...)
	}
	return list
}

// marred: one small thing of the tree is turned; often it is no tree any more, and sometimes it still is.
func marred(d *dice, t impl.Tree) impl.Tree {
	t = copyOf(t)
	parts := partsOf(&t)
	at := parts[d.below(len(parts))]
	switch d.below(9) {
	case 0:
		if n := len(at.Pairs); n > 0 {
			at.Pairs[d.below(n)].K += d.below(3) - 1
		}
	case 1:
		if n := len(at.Cuts); n > 0 {
			at.Cuts[d.below(n)] += d.below(3) - 1
		}
	case 2:
		if n := len(at.Cuts); n > 0 {
			all := cutsIn(t)
			at.Cuts[d.below(n)] = all[d.below(len(all))] + d.below(3) - 1
		}
	case 3:
		all := append(cutsIn(t), 0, 999, 1000)
		at.Buf = append(at.Buf, put(all[d.below(len(all))]-d.below(2), 1))
	case 4:
		all := append(cutsIn(t), 0, 999)
		at.Pairs = append(at.Pairs, impl.Pair{K: all[d.below(len(all))] - d.below(2)})
	case 5:
		at.Leaf = !at.Leaf
	case 6:
		*at = copyOf(*parts[d.below(len(parts))])
	case 7:
		if n := len(at.Kids); n > 0 {
			at.Kids = at.Kids[:n-1]
			at.Cuts = at.Cuts[:max(0, n-2+d.below(2))]
		}
	case 8:
		if n := len(at.Buf); n > 0 {
			at.Buf[d.below(n)].Op += d.below(3) - 1
		}
	}
	return t
}

func copyOf(t impl.Tree) impl.Tree {
	c := impl.Tree{Leaf: t.Leaf, Pairs: slices.Clone(t.Pairs), Cuts: slices.Clone(t.Cuts), Buf: slices.Clone(t.Buf)}
	for _, kid := range t.Kids {
		c.Kids = append(c.Kids, copyOf(kid))
	}
	return c
}

func TestTreesByTheWord(t *testing.T) {
	t.Parallel()
	d := &dice{1}
	accepted, refused := 0, 0
	for i := range 4000 {
		depth, high := 1+i%7, 1000
		if i%3 == 0 {
			high = 1 << (depth + 1)
		}
		tree := grown(d, depth, 0, high)
		if !impl.TreeOk(tree) || impl.TreeDepth(tree) != depth || !okByTheWord(tree) {
			t.Fatal("a grown tree is refused", tree)
		}
		for range 1 + d.below(2) {
			tree = marred(d, tree)
		}
		want := okByTheWord(tree)
		if got := impl.TreeOk(tree); got != want {
			t.Fatal("by the word", want, "and told", got, "of", tree)
		}
		depthTold, pairsTold, msgsTold := 0, 0, 0
		if want {
			accepted++
			depthTold = deepest(tree)
			for _, part := range partsOf(&tree) {
				pairsTold, msgsTold = pairsTold+len(part.Pairs), msgsTold+len(part.Buf)
			}
		} else {
			refused++
		}
		p, m := impl.TreeCount(tree)
		if d := impl.TreeDepth(tree); d != depthTold || p != pairsTold || m != msgsTold {
			t.Fatal("told", d, p, m, "of", tree)
		}
	}
	if accepted < 500 || refused < 500 {
		t.Error("the trees are too much alike:", accepted, "accepted,", refused, "refused")
	}
}

func TestKeysOfGrownTreesBelongToOneKid(t *testing.T) {
	d := &dice{2}
	for i := range 40 {
		belongToOneKid(t, "grown", grown(d, 1+i%4, 0, 1000))
	}
}

// roomyTree: the same tree, each list of which has room behind it that is filled; and all of these lists with their room.
func roomyTree(t impl.Tree) (impl.Tree, []any) {
	r := impl.Tree{Leaf: t.Leaf}
	var wholes []any
	p, wholePairs := roomy(t.Pairs, impl.Pair{K: -77, V: -77})
	c, wholeCuts := roomy(t.Cuts, -77)
	b, wholeBuf := roomy(t.Buf, impl.Msg{Op: -77})
	var kids []impl.Tree
	for _, kid := range t.Kids {
		k, below := roomyTree(kid)
		kids, wholes = append(kids, k), append(wholes, below...)
	}
	k, wholeKids := roomy(kids, impl.Tree{Leaf: true, Cuts: []int{-77}})
	r.Pairs, r.Cuts, r.Kids, r.Buf = p, c, k, b
	return r, append(wholes, wholePairs(), wholeCuts(), wholeBuf(), wholeKids())
}

func TestTreesStay(t *testing.T) {
	for _, c := range append(goodTrees(), badTrees()...) {
		tree, wholes := roomyTree(c.tree)
		_, kept := roomyTree(c.tree)
		impl.TreeOk(tree)
		impl.TreeDepth(tree)
		impl.TreeCount(tree)
		impl.KidOf(tree, 10)
		if !reflect.DeepEqual(wholes, kept) {
			t.Error("written into:", c.name)
		}
	}
}
