package tests

import (
	"math"
	"reflect"
	"slices"
	"testing"

	"loop.example/g00234/impl"
)

func msgs(list ...impl.Msg) []impl.Msg { return list }

// meeting: a tree of three depths around the key 5, with these messages at the root, in the kid of the key, and this leaf.
func meeting(root, kid []impl.Msg, low impl.Tree) impl.Tree {
	left := withBuf(fork(cuts(10), low, leaf(10, 1)), kid...)
	right := fork(cuts(200), leaf(100, 2), leaf(200, 3))
	return withBuf(fork(cuts(100), left, right), root...)
}

// strangeKeys are no keys of any map.
var strangeKeys = []int{math.MinInt, math.MinInt + 1, -1000, -1, 1000, 1001, math.MaxInt - 1, math.MaxInt}

func TestPending(t *testing.T) {
	six := msgs(add(5, 1), put(6, 1), add(5, 2), del(5), add(4, 3), add(5, 4))
	for _, c := range []struct {
		name string
		tree impl.Tree
		k    int
		want []impl.Msg
	}{
		{"of a leaf", leaf(5, 7), 5, nil},
		{"of an empty leaf", leaf(), 5, nil},
		{"one above", withBuf(fork(cuts(10), leaf(), leaf()), put(5, 1)), 5, msgs(put(5, 1))},
		{"of another key", withBuf(fork(cuts(10), leaf(), leaf()), put(5, 1)), 6, nil},
		{"several in one list", withBuf(fork(cuts(10), leaf(), leaf()), six...), 5, msgs(add(5, 1), add(5, 2), del(5), add(5, 4))},
		{"several alike", withBuf(fork(cuts(10), leaf(), leaf()), add(5, 1), add(5, 1)), 5, msgs(add(5, 1), add(5, 1))},
		{"those that are overruled stay", withBuf(fork(cuts(10), leaf(), leaf()), add(5, 1), put(5, 2), del(5)), 5, msgs(add(5, 1), put(5, 2), del(5))},
		{"the kid's are older", meeting(msgs(add(5, 3), del(5)), msgs(put(5, 1), add(5, 2)), leaf(5, 9)), 5, msgs(put(5, 1), add(5, 2), add(5, 3), del(5))},
		{"in the kid alone", meeting(nil, six, leaf(5, 9)), 5, msgs(add(5, 1), add(5, 2), del(5), add(5, 4))},
		{"at the root alone", meeting(six, nil, leaf(5, 9)), 5, msgs(add(5, 1), add(5, 2), del(5), add(5, 4))},
		{"others meet", meeting(six, msgs(del(6), add(4, 1)), leaf(5, 9)), 6, msgs(del(6), put(6, 1))},
		{"at a cut", withBuf(fork(cuts(100), fork(cuts(10), leaf(), leaf()), withBuf(fork(cuts(200), leaf(), leaf()), put(100, 1))), add(100, 2), add(99, 3)), 100, msgs(put(100, 1), add(100, 2))},
		{"below a cut", withBuf(fork(cuts(100), withBuf(fork(cuts(10), leaf(), leaf()), del(99)), withBuf(fork(cuts(200), leaf(), leaf()), put(100, 1))), add(100, 2), add(99, 3)), 99, msgs(del(99), add(99, 3))},
		{"the least key", stairs(), 0, msgs(add(0, 1), add(0, 3))},
		{"the greatest key", stairs(), 999, msgs(del(999), add(999, 2))},
		{"three depths", stairs(), 100, msgs(put(100, 5), put(100, 1))},
		{"three depths, the kid alone", stairs(), 10, msgs(del(10))},
		{"three depths, no message", stairs(), 500, nil},
	} {
		if got := impl.Pending(c.tree, c.k); !slices.Equal(got, c.want) {
			t.Error(c.name, c.k, "told", got)
		}
	}
}

func TestPendingOfEachDepth(t *testing.T) {
	tree := tower(7, 0, 64)
	var want []impl.Msg
	at := &tree
	for depth := 7; depth > 1; depth-- {
		at.Buf = msgs(add(0, depth), add(0, -depth))
		want = append(msgs(at.Buf...), want...)
		at = &at.Kids[0]
	}
	if got := impl.Pending(tree, 0); !slices.Equal(got, want) {
		t.Error("told", got)
	}
}

// what one key has, by the pair of its leaf and the messages of the kid and of the root.
func TestTreeGet(t *testing.T) {
	const most = impl.MaxNum
	for _, c := range []struct {
		name      string
		root, kid []impl.Msg
		low       impl.Tree
		v         int
		ok        bool
	}{
		{"its pair", nil, nil, leaf(5, 7), 7, true},
		{"its pair of 0", nil, nil, leaf(5, 0), 0, true},
		{"its pair among others", nil, nil, leaf(3, 1, 4, 2, 5, 3, 6, 4), 3, true},
		{"none", nil, nil, leaf(4, 1, 6, 1), 0, false},
		{"none in an empty leaf", nil, nil, leaf(), 0, false},
		{"put at the root", msgs(put(5, 1)), nil, leaf(), 1, true},
		{"put in the kid", nil, msgs(put(5, 1)), leaf(5, 7), 1, true},
		{"put in both: the root's is younger", msgs(put(5, 2)), msgs(put(5, 1)), leaf(5, 7), 2, true},
		{"deleted at the root", msgs(del(5)), nil, leaf(5, 7), 0, false},
		{"deleted in the kid", nil, msgs(del(5)), leaf(5, 7), 0, false},
		{"deleted where it was none", nil, msgs(del(5)), leaf(), 0, false},
		{"deleted below, put above", msgs(put(5, 3)), msgs(del(5)), leaf(5, 7), 3, true},
		{"put below, deleted above", msgs(del(5)), msgs(put(5, 3)), leaf(5, 7), 0, false},
		{"deleted below, added above", msgs(add(5, 3)), msgs(del(5)), leaf(5, 7), 3, true},
		{"added below, deleted above", msgs(del(5)), msgs(add(5, 3)), leaf(5, 7), 0, false},
		{"put below, added above", msgs(add(5, 3)), msgs(put(5, 1)), leaf(5, 7), 4, true},
		{"added below, put above", msgs(put(5, 1)), msgs(add(5, 3)), leaf(5, 7), 1, true},
		{"added in both", msgs(add(5, 3), add(5, 1)), msgs(add(5, -9)), leaf(5, 7), 2, true},
		{"added where it was none", msgs(add(5, 3)), nil, leaf(), 3, true},
		{"added nothing where it was none", msgs(add(5, 0)), nil, leaf(), 0, true},
		{"at the limit the older counts first", msgs(add(5, -1)), msgs(add(5, 5)), leaf(5, most), most - 1, true},
		{"at the other limit too", msgs(add(5, 1)), msgs(add(5, -5)), leaf(5, -most), 1 - most, true},
		{"within one list the first counts first", msgs(add(5, 5), add(5, -1)), nil, leaf(5, most), most - 1, true},
		{"several in each", msgs(add(5, 1), del(5), add(5, 4), put(6, 9)), msgs(put(5, 2), add(4, 1), add(5, 3)), leaf(4, 1, 5, 7), 4, true},
		{"messages of others alone", msgs(put(4, 1), del(6)), msgs(add(6, 1), del(4)), leaf(5, 7), 7, true},
		{"messages of others where it is none", msgs(put(4, 1), add(6, 1)), msgs(add(6, 1)), leaf(4, 7), 0, false},
	} {
		tree := meeting(c.root, c.kid, c.low)
		if v, ok := impl.TreeGet(tree, 5); v != c.v || ok != c.ok {
			t.Error(c.name, "told", v, ok)
		}
		tellsItsMap(t, c.name, tree)
	}
}

func TestTreeGetAroundCuts(t *testing.T) {
	tree := withBuf(fork(cuts(10, 20), leaf(0, 1, 9, 2), leaf(10, 3, 19, 4), leaf(20, 5, 999, 6)), add(9, 10), add(10, 20), del(19), put(21, 7), put(998, 8))
	for _, c := range []struct {
		k, v int
		ok   bool
	}{
		{0, 1, true}, {1, 0, false}, {8, 0, false}, {9, 12, true}, {10, 23, true}, {11, 0, false},
		{18, 0, false}, {19, 0, false}, {20, 5, true}, {21, 7, true}, {22, 0, false}, {998, 8, true}, {999, 6, true},
	} {
		if v, ok := impl.TreeGet(tree, c.k); v != c.v || ok != c.ok {
			t.Error(c.k, "told", v, ok)
		}
	}
}

func TestStrangeKeysHaveNothing(t *testing.T) {
	for _, c := range goodTrees() {
		for _, k := range strangeKeys {
			if got := impl.Pending(c.tree, k); len(got) > 0 {
				t.Error(c.name, k, "is on its way:", got)
			}
			if v, ok := impl.TreeGet(c.tree, k); v != 0 || ok {
				t.Error(c.name, k, "has", v, ok)
			}
		}
	}
}

func TestTreeMap(t *testing.T) {
	for _, c := range []struct {
		name string
		tree impl.Tree
		want []impl.Pair
	}{
		{"an empty leaf", leaf(), nil},
		{"a leaf", leaf(1, 10, 5, 50, 999, -1), pairs(1, 10, 5, 50, 999, -1)},
		{"kids one behind the other", fork(cuts(10, 20), leaf(1, 1, 9, 2), leaf(), leaf(20, 3)), pairs(1, 1, 9, 2, 20, 3)},
		{"messages to each kid", withBuf(fork(cuts(10, 20), leaf(1, 1, 9, 2), leaf(), leaf(20, 3)), del(20), put(10, 4), add(9, 5), put(0, 6), add(999, 7)), pairs(0, 6, 1, 1, 9, 7, 10, 4, 999, 7)},
		{"more than a leaf can have", withBuf(fork(cuts(10), leaf(1, 1, 2, 2, 3, 3, 4, 4), leaf()), put(5, 5), put(0, 0), put(9, 9), put(6, 6), put(7, 7), put(8, 8)), pairs(0, 0, 1, 1, 2, 2, 3, 3, 4, 4, 5, 5, 6, 6, 7, 7, 8, 8, 9, 9)},
		{"all deleted", withBuf(fork(cuts(10), leaf(1, 1, 2, 2), leaf(10, 1)), del(10), del(1), del(2)), nil},
		{"three depths", stairs(), pairs(0, 5, 9, 2, 19, 4, 20, 5, 99, 8, 100, 1, 499, 8, 500, 9, 999, 2)},
	} {
		if got := impl.TreeMap(c.tree); !slices.Equal(got, c.want) {
			t.Error(c.name, "told", got)
		}
	}
}

func TestTreeRange(t *testing.T) {
	tree := withBuf(fork(cuts(10, 20), leaf(2, 1, 9, 2), leaf(10, 3, 19, 4), leaf(20, 5, 999, 6)), del(9), put(5, 9), add(19, 1))
	all := pairs(2, 1, 5, 9, 10, 3, 19, 5, 20, 5, 999, 6)
	for _, c := range []struct {
		name   string
		lo, hi int
		want   []impl.Pair
	}{
		{"all keys", 0, 1000, all},
		{"around all keys", -5, 5000, all},
		{"around all numbers", math.MinInt, math.MaxInt, all},
		{"lo at a key", 5, 1000, all[1:]},
		{"lo behind a key", 6, 1000, all[2:]},
		{"hi at a key", 0, 19, all[:3]},
		{"hi behind a key", 0, 20, all[:4]},
		{"hi at the greatest key", 0, 999, all[:5]},
		{"both at a key", 5, 20, all[1:4]},
		{"one key", 10, 11, all[2:3]},
		{"from key to key", 10, 19, all[2:3]},
		{"the least key", 2, 3, all[:1]},
		{"the greatest key", 999, 1000, all[5:]},
		{"lo equal to hi at a key", 10, 10, nil},
		{"lo equal to hi at none", 7, 7, nil},
		{"lo above hi", 20, 5, nil},
		{"lo just above hi", 11, 10, nil},
		{"lo far above hi", math.MaxInt, math.MinInt, nil},
		{"no key in it", 6, 10, nil},
		{"deleted keys alone", 9, 10, nil},
		{"ahead of the first", 0, 2, nil},
		{"below 0", -9, 0, nil},
		{"beyond all", 1000, 2000, nil},
		{"empty at the least number", math.MinInt, math.MinInt, nil},
		{"empty at the greatest number", math.MaxInt, math.MaxInt, nil},
		{"a cut at lo", 20, 1000, all[4:]},
		{"a cut at hi", 0, 10, all[:2]},
	} {
		if got := impl.TreeRange(tree, c.lo, c.hi); !slices.Equal(got, c.want) {
			t.Error(c.name, "told", got)
		}
	}
	if got := impl.TreeRange(leaf(1, 1, 3, 3, 5, 5), 3, 5); !slices.Equal(got, pairs(3, 3)) {
		t.Error("of a leaf", got)
	}
	if got := impl.TreeRange(leaf(), 0, 1000); len(got) > 0 {
		t.Error("of an empty leaf", got)
	}
}

func pendingByTheWord(t impl.Tree, k int) []impl.Msg {
	var list []impl.Msg
	for i, kid := range t.Kids {
		if belongs(t.Cuts, i, k) {
			list = pendingByTheWord(kid, k)
		}
	}
	for _, m := range t.Buf {
		if m.K == k {
			list = append(list, m)
		}
	}
	return list
}

// leafPair: what the leaf to which the key belongs has of it.
func leafPair(t impl.Tree, k int) []impl.Pair {
	for i, kid := range t.Kids {
		if belongs(t.Cuts, i, k) {
			return leafPair(kid, k)
		}
	}
	if v, ok := impl.MapGet(t.Pairs, k); ok {
		return pairs(k, v)
	}
	return nil
}

func mapByTheWord(t impl.Tree) []impl.Pair {
	if t.Leaf {
		return slices.Clone(t.Pairs)
	}
	var list []impl.Pair
	for _, kid := range t.Kids {
		list = append(list, mapByTheWord(kid)...)
	}
	return impl.MapAll(list, t.Buf)
}

// tellsItsMap: P3, of one tree: all keys one by one, and by the chapter's words.
func tellsItsMap(t *testing.T, name string, tree impl.Tree) {
	t.Helper()
	told := impl.TreeMap(tree)
	if want := mapByTheWord(tree); !slices.Equal(told, want) {
		t.Fatal(name, "told", told, "and by the word", want)
	}
	if !impl.MapOk(told) {
		t.Fatal(name, "told no map:", told)
	}
	for k := -2; k < 1002; k++ {
		v, ok := impl.TreeGet(tree, k)
		if w, there := impl.MapGet(told, k); v != w || ok != there {
			t.Fatal(name, k, "has", v, ok, "and in the map", w, there)
		}
		if w, there := impl.MapGet(impl.MapAll(leafPair(tree, k), pendingByTheWord(tree, k)), k); v != w || ok != there {
			t.Fatal(name, k, "has", v, ok, "and by the word", w, there)
		}
		if got, want := impl.Pending(tree, k), pendingByTheWord(tree, k); !slices.Equal(got, want) {
			t.Fatal(name, k, "awaits", got, "and by the word", want)
		}
	}
}

// tellsItsRange: P3, of one range of one tree.
func tellsItsRange(t *testing.T, tree impl.Tree, lo, hi int) {
	t.Helper()
	var want []impl.Pair
	for _, p := range mapByTheWord(tree) {
		if lo <= p.K && p.K < hi {
			want = append(want, p)
		}
	}
	if got := impl.TreeRange(tree, lo, hi); !slices.Equal(got, want) {
		t.Fatal(lo, hi, "told", got, "and by the word", want, "of", tree)
	}
}

func TestTreesTellTheirMaps(t *testing.T) {
	t.Parallel()
	for _, c := range goodTrees() {
		tellsItsMap(t, c.name, c.tree)
	}
	d := &dice{3}
	for i := range 140 {
		depth, high := 1+i%7, 1000
		if i%3 == 0 {
			high = 1 << (depth + 1)
		}
		tellsItsMap(t, "grown", grown(d, depth, 0, high))
	}
}

func TestTreesTellTheirRanges(t *testing.T) {
	t.Parallel()
	for _, c := range goodTrees() {
		edges := append(keysIn(c.tree), cutsIn(c.tree)...)
		edges = append(edges, 0, 999, 1000)
		slices.Sort(edges)
		edges = slices.Compact(edges)
		for i, lo := range edges[:min(20, len(edges))] {
			for _, hi := range edges[i:min(i+20, len(edges))] {
				tellsItsRange(t, c.tree, lo-1, hi)
				tellsItsRange(t, c.tree, lo, hi)
				tellsItsRange(t, c.tree, lo, hi+1)
			}
		}
	}
	d := &dice{4}
	for i := range 140 {
		tree := grown(d, 1+i%7, 0, 1000)
		for range 50 {
			tellsItsRange(t, tree, d.below(1100)-50, d.below(1100)-50)
		}
	}
}

// tellsNothing: each function of what is not TreeOk.
func tellsNothing(t *testing.T, name string, tree impl.Tree) {
	t.Helper()
	for _, k := range append([]int{0, 1, 5, 10, 100, 999}, strangeKeys...) {
		if got := impl.Pending(tree, k); len(got) > 0 {
			t.Fatal(name, k, "awaits", got)
		}
		if v, ok := impl.TreeGet(tree, k); v != 0 || ok {
			t.Fatal(name, k, "has", v, ok)
		}
	}
	if got := impl.TreeMap(tree); len(got) > 0 {
		t.Fatal(name, "told", got)
	}
	for _, r := range [][2]int{{0, 1000}, {math.MinInt, math.MaxInt}, {5, 5}, {9, 3}} {
		if got := impl.TreeRange(tree, r[0], r[1]); len(got) > 0 {
			t.Fatal(name, r, "told", got)
		}
	}
}

func TestWhatIsNoTreeTellsNothing(t *testing.T) {
	for _, c := range append(badTrees(), strangeTrees()...) {
		tellsNothing(t, c.name, c.tree)
	}
	d := &dice{5}
	refused := 0
	for i := range 600 {
		tree := marred(d, grown(d, 1+i%5, 0, 1000))
		if !okByTheWord(tree) {
			refused++
			tellsNothing(t, "marred", tree)
		}
	}
	if refused < 100 {
		t.Error("too few of them are no trees:", refused)
	}
}

func TestQueriesWriteIntoNothing(t *testing.T) {
	for _, c := range append(goodTrees(), badTrees()...) {
		tree, wholes := roomyTree(c.tree)
		_, kept := roomyTree(c.tree)
		for _, k := range []int{-1, 0, 5, 10, 100, 999, 1000} {
			spoil(impl.Pending(tree, k), impl.Msg{Op: -88})
			impl.TreeGet(tree, k)
		}
		spoil(impl.TreeMap(tree), impl.Pair{K: -88, V: -88})
		spoil(impl.TreeRange(tree, 0, 1000), impl.Pair{K: -88, V: -88})
		spoil(impl.TreeRange(tree, 1, 9), impl.Pair{K: -88, V: -88})
		if !reflect.DeepEqual(wholes, kept) {
			t.Error("written into, or memory shared with an answer:", c.name)
		}
	}
}
