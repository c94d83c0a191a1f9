package tests

import (
	"math"
	"reflect"
	"slices"
	"strings"
	"testing"

	"loop.example/g00234/impl"
)

func page(nums ...int) string { return string(formsOf(nums...)) }

func super(ver, root int) impl.Super { return impl.Super{Ver: ver, Root: root} }

func disk(pages []string, supers ...impl.Super) impl.Disk {
	return impl.Disk{Pages: pages, Supers: supers}
}

// noPages: so many pages, all of them empty.
func noPages(count int) []string { return make([]string, count) }

// chain: pages each of which has the next one as its one kid, and the last of which is an empty leaf.
func chain(count int) []string {
	var pages []string
	for at := range count - 1 {
		pages = append(pages, page(0, 1, at+1, 0))
	}
	return append(pages, page(1, 0))
}

func sameDisk(a, b impl.Disk) bool {
	return slices.Equal(a.Pages, b.Pages) && slices.Equal(a.Supers, b.Supers)
}

// nodesIn: how many pages the tree takes.
func nodesIn(t impl.Tree) int { return len(partsOf(&t)) }

// sized: a tree of that depth and of so many nodes (from 31 to 341 of depth 5), with the keys from low on and below high.
func sized(count, depth, low, high int) impl.Tree {
	if depth == 1 {
		return leaf(low, count)
	}
	kids, most := 2, 0
	for range depth - 1 {
		most = 4*most + 1
	}
	for kids*most < count-1 {
		kids++
	}
	t := impl.Tree{Kids: make([]impl.Tree, kids)}
	left := count - 1
	for i := range kids {
		from, to := low+(high-low)*i/kids, low+(high-low)*(i+1)/kids
		part := left / (kids - i)
		left -= part
		t.Kids[i] = sized(part, depth-1, from, to)
		if i > 0 {
			t.Cuts = append(t.Cuts, from)
		}
	}
	return t
}

func TestSizedTrees(t *testing.T) {
	for count := 31; count <= 341; count++ {
		if tree := sized(count, 5, 0, 1000); nodesIn(tree) != count || !impl.TreeOk(tree) {
			t.Fatal("of", count, "nodes:", nodesIn(tree), impl.TreeOk(tree))
		}
	}
}

// pagesByTheWord goes down all ways at once, a depth each time.
func pagesByTheWord(d impl.Disk, root int) []int {
	var all []int
	level := []int{root}
	for depth := 1; len(level) > 0; depth++ {
		if depth > 7 {
			return nil
		}
		var below []int
		for _, at := range level {
			if at < 0 || at >= len(d.Pages) {
				return nil
			}
			if _, kids, ok := getNodeByTheWord([]byte(d.Pages[at])); ok {
				below = append(below, kids...)
			}
		}
		all = append(all, level...)
		slices.Sort(below)
		level = slices.Compact(below)
	}
	slices.Sort(all)
	return slices.Compact(all)
}

func readTreeByTheWord(d impl.Disk, root int) (impl.Tree, bool) {
	tree, ok := unchecked(d, root, 8)
	if !ok || !okByTheWord(tree) {
		return impl.Tree{}, false
	}
	return tree, true
}

// unchecked goes down one deeper than any tree is: of what is too deep okByTheWord tells.
func unchecked(d impl.Disk, at, deep int) (impl.Tree, bool) {
	if at < 0 || at >= len(d.Pages) || deep == 0 {
		return impl.Tree{}, false
	}
	tree, kids, ok := getNodeByTheWord([]byte(d.Pages[at]))
	for i, kid := range kids {
		if !ok {
			break
		}
		tree.Kids[i], ok = unchecked(d, kid, deep-1)
	}
	return copyOf(tree), ok
}

func openByTheWord(d impl.Disk) (impl.Tree, int, bool) {
	var may []impl.Super
	for _, s := range d.Supers {
		if _, ok := readTreeByTheWord(d, s.Root); ok && s.Ver > 0 {
			may = append(may, s)
		}
	}
	if len(may) == 0 {
		return impl.Tree{}, 0, false
	}
	slices.SortStableFunc(may, func(a, b impl.Super) int { return b.Ver - a.Ver })
	tree, _ := readTreeByTheWord(d, may[0].Root)
	return tree, may[0].Ver, true
}

// freeByTheWord: the pages that a plan may write.
func freeByTheWord(d impl.Disk) []int {
	var kept, free []int
	for _, s := range d.Supers {
		if s.Ver > 0 {
			kept = append(kept, pagesByTheWord(d, s.Root)...)
		}
	}
	for at := range d.Pages {
		if !slices.Contains(kept, at) {
			free = append(free, at)
		}
	}
	return free
}

// textsByTheWord: of the tree's nodes in these pages, each behind those of its kids.
func textsByTheWord(t impl.Tree, free []int) []string {
	var texts []string
	var kids []int
	for _, kid := range t.Kids {
		texts = append(texts, textsByTheWord(kid, free[len(texts):])...)
		kids = append(kids, free[len(texts)-1])
	}
	text, _ := putNodeByTheWord(t, kids)
	return append(texts, string(text))
}

func planByTheWord(d impl.Disk, t impl.Tree) ([]impl.Write, bool) {
	free := freeByTheWord(d)
	if !okByTheWord(t) || len(d.Supers) != 2 || nodesIn(t) > len(free) {
		return nil, false
	}
	var list []impl.Write
	for i, text := range textsByTheWord(t, free) {
		list = append(list, impl.Write{At: free[i], Text: text})
	}
	a, b := d.Supers[0].Ver, d.Supers[1].Ver
	at := -1
	if b < a {
		at = -2
	}
	return append(list, impl.Write{At: at, Super: super(max(a, b)+1, list[len(list)-1].At)}), true
}

// doByTheWord looks at each page and each super for what is written there last.
func doByTheWord(d impl.Disk, list []impl.Write) impl.Disk {
	after := impl.Disk{Pages: slices.Clone(d.Pages), Supers: slices.Clone(d.Supers)}
	for at := range after.Pages {
		for _, w := range list {
			if w.At == at {
				after.Pages[at] = w.Text
			}
		}
	}
	for n := range after.Supers {
		for _, w := range list {
			if n == 0 && w.At == -1 || n == 1 && w.At == -2 {
				after.Supers[n] = w.Super
			}
		}
	}
	return after
}

func reads(t *testing.T, name string, d impl.Disk, root int, want impl.Tree) {
	t.Helper()
	if got, ok := impl.ReadTree(d, root); !ok || !sameTree(got, want) {
		t.Errorf("%s: %d was read as %v %v", name, root, got, ok)
	}
}

func readsNothing(t *testing.T, name string, d impl.Disk, root int) {
	t.Helper()
	if got, ok := impl.ReadTree(d, root); ok || !sameTree(got, impl.Tree{}) {
		t.Errorf("%s: %d was read as %v %v", name, root, got, ok)
	}
}

func opens(t *testing.T, name string, d impl.Disk, want impl.Tree, ver int) {
	t.Helper()
	if got, v, ok := impl.Open(d); !ok || v != ver || !sameTree(got, want) {
		t.Fatalf("%s: opened as %v %d %v, not as %v %d", name, got, v, ok, want, ver)
	}
}

func opensNothing(t *testing.T, name string, d impl.Disk) {
	t.Helper()
	if got, ver, ok := impl.Open(d); ok || ver != 0 || !sameTree(got, impl.Tree{}) {
		t.Fatalf("%s: opened as %v %d %v", name, got, ver, ok)
	}
}

func plans(t *testing.T, name string, d impl.Disk, tree impl.Tree, want ...impl.Write) {
	t.Helper()
	if got, ok := impl.Plan(d, tree); !ok || !slices.Equal(got, want) {
		t.Fatalf("%s: planned as %v %v, not as %v", name, got, ok, want)
	}
}

func plansNothing(t *testing.T, name string, d impl.Disk, tree impl.Tree) {
	t.Helper()
	if got, ok := impl.Plan(d, tree); ok || len(got) != 0 {
		t.Fatalf("%s: planned as %v %v", name, got, ok)
	}
}

func newDisk(t *testing.T, tree impl.Tree) impl.Disk {
	t.Helper()
	d, ok := impl.DiskNew(tree)
	if !ok {
		t.Fatal("no new disk of", tree)
	}
	return d
}

func TestDiskLimits(t *testing.T) {
	if impl.MaxPages != 200 {
		t.Error("limits", impl.MaxPages)
	}
}

func TestReadTree(t *testing.T) {
	low, high := leaf(3, 5), leaf(10, 1, 20, 4)
	d := disk([]string{
		0:  page(1, 1, 3, 5),
		1:  page(1, 2, 10, 1, 20, 4),
		2:  page(0, 2, 0, 1, 10, 1, 3, 3, 2),
		3:  page(0, 2, 4, 4, 500, 0),
		4:  page(1, 0),
		5:  page(0, 3, 0, 4, 1, 4, 10, 0),
		6:  page(0, 2, 2, 7, 100, 2, 2, 3, 0, 1, 999, 7),
		7:  page(0, 2, 4, 4, 500, 0),
		8:  page(0, 2, 9, 1, 10, 0),
		9:  page(1, 2, 4, 0, 9, 1000000000),
		10: page(1, 4, 996, 1, 997, 2, 998, 3, 999, 4),
	})
	for root, want := range []impl.Tree{
		low,
		high,
		withBuf(fork(cuts(10), low, high), add(3, 2)),
		fork(cuts(500), leaf(), leaf()), // one page twice
		leaf(),
		fork(cuts(4, 10), low, leaf(), high),
		withBuf(fork(cuts(100), withBuf(fork(cuts(10), low, high), add(3, 2)), fork(cuts(500), leaf(), leaf())), del(3), put(999, 7)),
		fork(cuts(500), leaf(), leaf()),
		fork(cuts(10), leaf(4, 0, 9, 1000000000), high),
		leaf(4, 0, 9, 1000000000),
		leaf(996, 1, 997, 2, 998, 3, 999, 4), // the last of all pages
	} {
		reads(t, "fine pages", d, root, want)
	}
	for _, root := range []int{-1, -2, 11, 12, 200, 1000000, math.MaxInt, math.MinInt} {
		readsNothing(t, "no page", d, root)
	}
	for _, root := range []int{-1, 0, 1, math.MaxInt, math.MinInt} {
		readsNothing(t, "no pages at all", impl.Disk{}, root)
	}
}

func TestReadTreeOfNone(t *testing.T) {
	for _, c := range []struct {
		name string
		page string // page 0, ahead of a leaf of 3, one of 10, an empty page and one that is no node
	}{
		{"an empty page", ""},
		{"no node", "no node"},
		{"a leaf cut off", page(1, 1, 3)},
		{"a leaf with a byte behind", page(1, 1, 3, 5) + "\x00"},
		{"a leaf of five pairs", page(1, 5, 1, 1, 2, 2, 3, 3, 4, 4, 5, 5)},
		{"a leaf that falls", page(1, 2, 5, 1, 3, 1)},
		{"a leaf with a key twice", page(1, 2, 5, 1, 5, 1)},
		{"a leaf with a key that is none", page(1, 1, 1000, 1)},
		{"a leaf with a number that is none", page(1, 1, 5, 1000000001)},
		{"one kid", page(0, 1, 1, 0)},
		{"kids in the wrong order", page(0, 2, 2, 1, 10, 0)},
		{"one kid twice", page(0, 2, 1, 1, 10, 0)},
		{"a key at the cut ahead of it", page(0, 2, 1, 2, 3, 0)},
		{"a key below the cut ahead of it", page(0, 2, 1, 2, 11, 0)},
		{"a cut of 0", page(0, 2, 1, 2, 0, 0)},
		{"a message that is none", page(0, 2, 1, 2, 10, 1, 0, 0, 0)},
		{"a message that asks", page(0, 2, 1, 2, 10, 1, 4, 3, 0)},
		{"a kid whose page is empty", page(0, 2, 3, 2, 10, 0)},
		{"a last kid whose page is empty", page(0, 2, 1, 3, 10, 0)},
		{"a kid whose page is no node", page(0, 2, 1, 4, 10, 0)},
		{"a kid that is no page", page(0, 2, 1, 6, 10, 0)},
		{"a kid that is far from a page", page(0, 2, 1, 2000000000, 10, 0)},
		{"a kid below 0", page(0, 2, -1, 2, 10, 0)},
		{"a kid far below 0", page(0, 2, 1, -2000000000, 10, 0)},
		{"its own kid", page(0, 2, 0, 2, 10, 0)},
		{"its own last kid", page(0, 2, 1, 0, 10, 0)},
		{"both kids its own", page(0, 2, 0, 0, 10, 0)},
		{"kids of two depths", page(0, 2, 1, 5, 10, 0)},
	} {
		d := disk([]string{c.page, page(1, 1, 3, 5), page(1, 1, 10, 1), "", "\x02", page(0, 2, 2, 3, 500, 0)}, super(1, 0))
		if c.name == "kids of two depths" {
			d.Pages[3] = page(1, 0)
			reads(t, "the deeper kid", d, 5, fork(cuts(500), leaf(10, 1), leaf()))
		}
		readsNothing(t, c.name, d, 0)
		opensNothing(t, c.name, d)
		if _, may := readTreeByTheWord(d, 0); may {
			t.Error(c.name, "is no fair question")
		}
	}
	circle := disk([]string{page(0, 2, 1, 1, 10, 0), page(0, 2, 2, 2, 10, 0), page(0, 2, 0, 0, 10, 0)}, super(1, 0), super(2, 2))
	for root := range 3 {
		readsNothing(t, "a circle", circle, root)
	}
	opensNothing(t, "a circle", circle)
}

// treeDisk: a disk of just these pages, which hold the tree; its root is in the last one.
func treeDisk(t impl.Tree) impl.Disk {
	var all []int
	for at := range nodesIn(t) {
		all = append(all, at)
	}
	return disk(textsByTheWord(t, all), super(1, len(all)-1), impl.Super{})
}

func TestReadTreeAsDeepAsCanBe(t *testing.T) {
	for depth := 1; depth <= 9; depth++ {
		tree := tower(depth, 0, 999)
		d := treeDisk(tree)
		root := len(d.Pages) - 1
		if depth > 7 {
			readsNothing(t, "too deep", d, root)
			opensNothing(t, "too deep", d)
			continue
		}
		reads(t, "deep", d, root, tree)
		opens(t, "deep", d, tree, 1)
	}
	for count := 127; count < 1300; count += 100 {
		tree := sized(count, 7, 0, 1000)
		if !impl.TreeOk(tree) {
			t.Fatal("no fair question:", count)
		}
		reads(t, "deep and wide", treeDisk(tree), count-1, tree)
	}
}

func TestOpen(t *testing.T) {
	a, b, c := leaf(1, 1), leaf(2, 2), leaf(3, 3)
	pages := []string{page(1, 1, 1, 1), page(1, 1, 2, 2), page(1, 1, 3, 3), "", page(0, 1, 0, 0)}
	for _, s := range []struct {
		name   string
		supers []impl.Super
		tree   impl.Tree
		ver    int // 0: nothing is opened
	}{
		{"one super", []impl.Super{super(1, 0)}, a, 1},
		{"the first is greater", []impl.Super{super(5, 0), super(3, 1)}, a, 5},
		{"the second is greater", []impl.Super{super(3, 0), super(5, 1)}, b, 5},
		{"alike: the first", []impl.Super{super(3, 1), super(3, 0)}, b, 3},
		{"alike, the first without a tree", []impl.Super{super(3, 3), super(3, 0)}, a, 3},
		{"a Ver of 0 ahead", []impl.Super{super(0, 0), super(1, 1)}, b, 1},
		{"a Ver of 0 behind", []impl.Super{super(1, 0), super(0, 1)}, a, 1},
		{"a Ver below 0", []impl.Super{super(-9, 0), super(1, 1)}, b, 1},
		{"the greater one has an empty page", []impl.Super{super(1, 0), super(2, 3)}, a, 1},
		{"the greater one has no page", []impl.Super{super(7, 5), super(2, 1)}, b, 2},
		{"the greater one has a root below 0", []impl.Super{super(7, -1), super(2, 1)}, b, 2},
		{"the greater one has a tree that is not TreeOk", []impl.Super{super(7, 4), super(2, 1)}, b, 2},
		{"three supers", []impl.Super{super(1, 0), super(2, 1), super(3, 2)}, c, 3},
		{"three supers, the second", []impl.Super{super(1, 0), super(4, 1), super(3, 2)}, b, 4},
		{"three alike", []impl.Super{super(2, 1), super(2, 0), super(2, 2)}, b, 2},
		{"four, the greatest two without a tree", []impl.Super{super(8, 3), super(1, 0), super(2, 2), super(9, 9)}, c, 2},
		{"one Ver and one root", []impl.Super{super(2, 1), super(2, 1)}, b, 2},
		{"the greatest Ver", []impl.Super{super(1, 0), super(math.MaxInt, 1)}, b, math.MaxInt},
		{"the least Ver", []impl.Super{super(math.MinInt, 0), super(1, 1)}, b, 1},
		{"no super", nil, impl.Tree{}, 0},
		{"a Ver of 0 alone", []impl.Super{super(0, 0)}, impl.Tree{}, 0},
		{"Vers of 0", []impl.Super{super(0, 0), super(0, 1)}, impl.Tree{}, 0},
		{"Vers below 0", []impl.Super{super(-1, 0), super(-2, 1)}, impl.Tree{}, 0},
		{"the least Vers", []impl.Super{super(math.MinInt, 0), super(math.MinInt, 1)}, impl.Tree{}, 0},
		{"no tree", []impl.Super{super(1, 3), super(2, 4)}, impl.Tree{}, 0},
		{"no tree but of Ver 0", []impl.Super{super(1, 3), super(0, 0)}, impl.Tree{}, 0},
	} {
		if s.ver == 0 {
			opensNothing(t, s.name, disk(pages, s.supers...))
		} else {
			opens(t, s.name, disk(pages, s.supers...), s.tree, s.ver)
		}
	}
	opensNothing(t, "no pages", disk(nil, super(1, 0), super(2, 0)))
	opensNothing(t, "the zero value", impl.Disk{})
}

// treesToWrite: trees of which there is a new disk.
func treesToWrite() []impl.Tree {
	var trees []impl.Tree
	for _, c := range goodTrees() {
		if nodesIn(c.tree) <= 60 {
			trees = append(trees, c.tree)
		}
	}
	d := &dice{61}
	for i := range 60 {
		if tree := grown(d, 1+i%4, 0, 1000); nodesIn(tree) <= 60 {
			trees = append(trees, tree)
		}
	}
	return trees
}

func TestDiskNew(t *testing.T) {
	for _, tree := range treesToWrite() {
		d := newDisk(t, tree)
		texts := treeDisk(tree).Pages
		want := disk(append(texts, noPages(200-len(texts))...), super(1, len(texts)-1), impl.Super{})
		if !sameDisk(d, want) {
			t.Fatal("a new disk is", d, "not", want)
		}
		opens(t, "a new disk", d, tree, 1)
	}
	if d := newDisk(t, impl.TreeNew()); d.Pages[0] != "\x02\x00" || d.Supers[0] != super(1, 0) {
		t.Error("a new disk of a new tree", d)
	}
}

// as many nodes as there are pages, and one more.
func TestDiskNewHasMaxPages(t *testing.T) {
	for count := 190; count <= 210; count++ {
		tree := sized(count, 5, 0, 1000)
		d, ok := impl.DiskNew(tree)
		if count > 200 {
			if ok || !sameDisk(d, impl.Disk{}) {
				t.Error("a new disk of", count, "nodes", d, ok)
			}
			continue
		}
		if !ok || len(d.Pages) != 200 || d.Supers[0] != super(1, count-1) || d.Supers[1] != (impl.Super{}) {
			t.Fatal("a new disk of", count, "nodes", d.Supers, ok)
		}
		opens(t, "many nodes", d, tree, 1)
	}
}

func TestNoPlanOfWhatIsNoTree(t *testing.T) {
	d := newDisk(t, stairs())
	for _, c := range append(badTrees(), strangeTrees()...) {
		plansNothing(t, c.name, d, c.tree)
		if d, ok := impl.DiskNew(c.tree); ok || !sameDisk(d, impl.Disk{}) {
			t.Error("a new disk of", c.name)
		}
	}
	plansNothing(t, "the zero value", d, impl.Tree{})
	plansNothing(t, "both zero", impl.Disk{}, impl.Tree{})
	plansNothing(t, "a tower too deep", disk(noPages(1000), super(0, 0), super(0, 0)), tower(8, 0, 999))
	if d, ok := impl.DiskNew(impl.Tree{}); ok || !sameDisk(d, impl.Disk{}) {
		t.Error("a new disk of the zero value")
	}
}

func TestPlanWantsTwoSupers(t *testing.T) {
	one, two := super(1, 0), super(2, 1)
	plansNothing(t, "no super", disk(noPages(9)), leaf())
	plansNothing(t, "one super", disk(noPages(9), one), leaf())
	plansNothing(t, "three supers", disk(noPages(9), one, two, impl.Super{}), leaf())
	plansNothing(t, "four supers", disk(noPages(9), one, two, one, two), leaf())
	plansNothing(t, "the zero value", impl.Disk{}, leaf())
	plans(t, "two supers", disk(noPages(9), impl.Super{}, impl.Super{}), leaf(),
		impl.Write{At: 0, Text: page(1, 0)}, impl.Write{At: -1, Super: super(1, 0)})
}

func TestPlanOfNodesBehindTheirKids(t *testing.T) {
	d := disk(noPages(20), super(0, 3), super(0, 4))
	tree := fork(cuts(100), fork(cuts(10, 20), leaf(1, 1), leaf(10, 2), leaf(20, 3)), withBuf(fork(cuts(500), leaf(100, 4), leaf(500, 5)), put(100, 1)))
	plans(t, "three deep", d, tree,
		impl.Write{At: 0, Text: page(1, 1, 1, 1)},
		impl.Write{At: 1, Text: page(1, 1, 10, 2)},
		impl.Write{At: 2, Text: page(1, 1, 20, 3)},
		impl.Write{At: 3, Text: page(0, 3, 0, 1, 2, 10, 20, 0)},
		impl.Write{At: 4, Text: page(1, 1, 100, 4)},
		impl.Write{At: 5, Text: page(1, 1, 500, 5)},
		impl.Write{At: 6, Text: page(0, 2, 4, 5, 500, 1, 1, 100, 1)},
		impl.Write{At: 7, Text: page(0, 2, 3, 6, 100, 0)},
		impl.Write{At: -1, Super: super(1, 7)},
	)
}

// which super is written, and with which Ver; none of the roots leads to a page.
func TestWhichSuperIsWritten(t *testing.T) {
	for _, c := range []struct{ first, second, at, ver int }{
		{0, 0, -1, 1},
		{1, 0, -2, 2},
		{0, 1, -1, 2},
		{1, 1, -1, 2},
		{2, 1, -2, 3},
		{1, 2, -1, 3},
		{7, 7, -1, 8},
		{9, 2, -2, 10},
		{2, 9, -1, 10},
		{-1, 0, -1, 1},
		{0, -1, -2, 1},
		{-5, 3, -1, 4},
		{3, -5, -2, 4},
		{-3, -5, -2, -2},
		{-5, -3, -1, -2},
		{-4, -4, -1, -3},
		{-1, -1, -1, 0},
		{math.MaxInt - 1, 1, -2, math.MaxInt},
		{math.MinInt, 5, -1, 6},
		{5, math.MinInt, -2, 6},
		{math.MinInt, math.MaxInt - 1, -1, math.MaxInt},
	} {
		d := disk(noPages(3), super(c.first, -1), super(c.second, 3))
		plans(t, "which super", d, leaf(), impl.Write{At: 0, Text: page(1, 0)}, impl.Write{At: c.at, Super: super(c.ver, 0)})
	}
}

// of which pages a leaf is written: the first that is free tells which are not.
func TestPagesThatAreKept(t *testing.T) {
	two := page(0, 2, 0, 1, 10, 0)
	lone := func(kid int) string { return page(0, 1, kid, 0) }
	low, high := page(1, 1, 3, 5), page(1, 1, 10, 1)
	for _, c := range []struct {
		name   string
		pages  []string
		a, b   impl.Super
		writes []int // all free pages
	}{
		{"no Ver above 0", []string{low, high, two}, super(0, 2), super(-1, 0), []int{0, 1, 2}},
		{"one tree", []string{low, high, two, "", ""}, super(1, 2), super(0, 0), []int{3, 4}},
		{"one tree of the second super", []string{low, high, two, "", ""}, super(0, 0), super(1, 2), []int{3, 4}},
		{"pages that stay free between", []string{"", low, "", high, page(0, 2, 1, 3, 10, 0), ""}, super(1, 4), super(0, 0), []int{0, 2, 5}},
		{"a root alone", []string{low, high, two, ""}, super(1, 1), super(0, 2), []int{0, 2, 3}},
		{"both have the same", []string{low, high, two, ""}, super(1, 2), super(2, 2), []int{3}},
		{"both have some pages", []string{low, high, two, page(0, 2, 0, 4, 10, 0), low, ""}, super(1, 2), super(2, 3), []int{5}},
		{"one has a part of the other", []string{low, high, two, ""}, super(5, 0), super(2, 2), []int{3}},
		{"the other way round", []string{low, high, two, ""}, super(5, 2), super(2, 1), []int{3}},
		{"each its own", []string{low, high, ""}, super(1, 0), super(2, 1), []int{2}},
		{"a page twice below one", []string{page(1, 0), page(0, 2, 0, 0, 10, 0), ""}, super(1, 1), super(0, 0), []int{2}},
		{"a root that is no page", []string{low, high, two, ""}, super(1, 4), super(0, 0), []int{0, 1, 2, 3}},
		{"a root below 0", []string{low, high, two, ""}, super(3, -1), super(2, 2), []int{3}},
		{"a root far from a page", []string{low, high}, super(3, math.MaxInt), super(2, math.MinInt), []int{0, 1}},
		{"the last page", []string{low, high, two}, super(1, 2), super(3, 3), nil},
		{"an empty page", []string{"", "", ""}, super(1, 1), super(0, 0), []int{0, 2}},
		{"a page that is no node", []string{"", "no node", ""}, super(1, 1), super(0, 0), []int{0, 2}},
		{"a kid whose page is empty", []string{lone(2), "", "", ""}, super(1, 0), super(0, 0), []int{1, 3}},
		{"a kid that is no page", []string{page(0, 2, 2, 4, 10, 0), "", low, ""}, super(1, 0), super(0, 0), []int{0, 1, 2, 3}},
		{"a kid below 0", []string{page(0, 2, 2, -1, 10, 0), "", low, ""}, super(1, 0), super(0, 0), []int{0, 1, 2, 3}},
		{"a kid that is no page, below a kid", []string{lone(1), page(0, 2, 2, 9, 10, 0), low, ""}, super(1, 0), super(0, 0), []int{0, 1, 2, 3}},
		{"the second has no page, the first stays kept", []string{low, page(0, 2, 0, 9, 10, 0), ""}, super(1, 0), super(2, 1), []int{1, 2}},
		{"the first has no page, the second is kept", []string{low, page(0, 2, 0, 9, 10, 0), ""}, super(2, 1), super(1, 0), []int{1, 2}},
		{"a tree that is not TreeOk", []string{high, low, two, ""}, super(1, 2), super(0, 0), []int{3}},
		{"one kid", []string{lone(2), "", high}, super(1, 0), super(0, 0), []int{1}},
		{"its own kid", []string{lone(0), low}, super(1, 0), super(0, 0), []int{0, 1}},
		{"its own kid beside another", []string{page(0, 2, 1, 0, 10, 0), low}, super(1, 0), super(0, 0), []int{0, 1}},
		{"a circle", []string{lone(1), lone(2), lone(0), ""}, super(1, 0), super(2, 1), []int{0, 1, 2, 3}},
		{"a circle below", []string{lone(1), lone(2), lone(1), low}, super(1, 0), super(2, 3), []int{0, 1, 2}},
		{"exactly MaxDepth", append(chain(7), ""), super(1, 0), super(0, 0), []int{7}},
		{"one more than MaxDepth", append(chain(8), ""), super(1, 0), super(0, 0), []int{0, 1, 2, 3, 4, 5, 6, 7, 8}},
		{"one more than MaxDepth, but from its second", append(chain(8), ""), super(1, 1), super(0, 0), []int{0, 8}},
		{"one more than MaxDepth, and from its second", append(chain(8), ""), super(1, 0), super(9, 1), []int{0, 8}},
		{"MaxDepth above a page that is no node", append(chain(8)[:7], "", ""), super(1, 0), super(0, 0), []int{0, 1, 2, 3, 4, 5, 6, 7, 8}},
		{"one less above a page that is no node", append(chain(7)[:6], "", ""), super(1, 0), super(0, 0), []int{7}},
		{"MaxDepth by one way, less by another", append([]string{page(0, 2, 1, 7, 10, 0)}, append(chain(8)[1:], "")...), super(1, 0), super(0, 0), []int{0, 1, 2, 3, 4, 5, 6, 7, 8}},
		{"no pages", nil, super(1, 0), super(0, 0), nil},
	} {
		d := disk(c.pages, c.a, c.b)
		if free := freeByTheWord(d); !slices.Equal(free, c.writes) {
			t.Fatal(c.name, "has free by the word", free)
		}
		wantPlanned(t, c.name, d, c.writes)
	}
}

// wantPlanned: trees of as many nodes as there are free pages, of fewer, and of one more.
func wantPlanned(t *testing.T, name string, d impl.Disk, free []int) {
	t.Helper()
	none := leaf()
	for _, tree := range []impl.Tree{none, fork(cuts(5), none, none), fork(cuts(5, 6), none, none, none), fork(cuts(5, 6, 7), none, none, none, none), tower(3, 0, 999), sized(8, 3, 0, 999), sized(9, 3, 0, 999), sized(10, 3, 0, 999)} {
		nodes := nodesIn(tree)
		if nodes > len(free) {
			plansNothing(t, name, d, tree)
			continue
		}
		list, ok := impl.Plan(d, tree)
		if !ok || len(list) != nodes+1 {
			t.Fatalf("%s: planned as %v %v", name, list, ok)
		}
		var at []int
		for _, w := range list[:nodes] {
			at = append(at, w.At)
		}
		if !slices.Equal(at, free[:nodes]) {
			t.Fatalf("%s: %d nodes are written at %v", name, nodes, at)
		}
	}
}

// pages enough, and one less, on disks of all sizes around the limit, empty or half kept.
func TestPlanWantsPagesEnough(t *testing.T) {
	for _, count := range []int{31, 100, 199, 200, 201, 340} {
		tree := sized(count, 5, 0, 1000)
		for _, kept := range []int{0, 31, 150} {
			var old impl.Disk
			if kept > 0 {
				old = treeDisk(sized(kept, 5, 0, 1000))
			} else {
				old = disk(nil, impl.Super{}, impl.Super{})
			}
			for _, spare := range []int{-2, -1, 0, 1, 300} {
				d := disk(append(slices.Clone(old.Pages), noPages(count+spare)...), old.Supers...)
				want, ok := planByTheWord(d, tree)
				if ok != (spare >= 0) {
					t.Fatal("no fair question:", count, kept, spare)
				}
				if !ok {
					plansNothing(t, "a page too few", d, tree)
					continue
				}
				plans(t, "pages enough", d, tree, want...)
				opens(t, "pages enough", impl.Do(d, want), tree, 1+old.Supers[0].Ver)
			}
		}
	}
}

// a disk of more than MaxPages pages is written as any other one.
func TestDisksOfManyPages(t *testing.T) {
	first, second, third := sized(300, 5, 0, 1000), sized(333, 5, 0, 999), sized(150, 5, 0, 998)
	d := disk(noPages(1000), impl.Super{}, impl.Super{})
	for i, tree := range []impl.Tree{first, second, third, first, third, third} {
		want, ok := planByTheWord(d, tree)
		if !ok {
			t.Fatal("no fair question:", i)
		}
		plans(t, "many pages", d, tree, want...)
		d = impl.Do(d, want)
		opens(t, "many pages", d, tree, i+1)
	}
	far := disk(append(noPages(650), page(1, 1, 5, 7)), super(1, 650), super(0, 0))
	opens(t, "a far page", far, leaf(5, 7), 1)
	plans(t, "a far page", far, leaf(), impl.Write{At: 0, Text: page(1, 0)}, impl.Write{At: -2, Super: super(2, 0)})
}

func TestDo(t *testing.T) {
	d := disk([]string{"a", "b", "c"}, super(1, 2), super(3, 4))
	for _, c := range []struct {
		name string
		list []impl.Write
		want impl.Disk
	}{
		{"nothing", nil, d},
		{"the zero value", []impl.Write{{}}, disk([]string{"", "b", "c"}, d.Supers...)},
		{"the first page", []impl.Write{{At: 0, Text: "x"}}, disk([]string{"x", "b", "c"}, d.Supers...)},
		{"the last page", []impl.Write{{At: 2, Text: "x"}}, disk([]string{"a", "b", "x"}, d.Supers...)},
		{"one page beyond", []impl.Write{{At: 3, Text: "x"}}, d},
		{"a page and its super, which is not told", []impl.Write{{At: 1, Text: "x", Super: super(9, 9)}}, disk([]string{"a", "x", "c"}, d.Supers...)},
		{"the super 0", []impl.Write{{At: -1, Super: super(9, 8)}}, disk(d.Pages, super(9, 8), super(3, 4))},
		{"the super 1", []impl.Write{{At: -2, Super: super(9, 8)}}, disk(d.Pages, super(1, 2), super(9, 8))},
		{"a super and its text, which is not told", []impl.Write{{At: -1, Text: "x", Super: super(9, 8)}}, disk(d.Pages, super(9, 8), super(3, 4))},
		{"the zero super", []impl.Write{{At: -2}}, disk(d.Pages, super(1, 2), super(0, 0))},
		{"-3", []impl.Write{{At: -3, Text: "x", Super: super(9, 8)}}, d},
		{"far away", []impl.Write{{At: math.MaxInt, Text: "x", Super: super(9, 8)}, {At: math.MinInt, Text: "x", Super: super(9, 8)}, {At: math.MinInt + 1, Text: "x", Super: super(9, 8)}, {At: -4}, {At: 200, Text: "x"}}, d},
		{"the last one stays", []impl.Write{{At: 1, Text: "x"}, {At: 0, Text: "y"}, {At: 1, Text: "z"}, {At: -1, Super: super(5, 5)}, {At: -1, Super: super(4, 4)}}, disk([]string{"y", "z", "c"}, super(4, 4), super(3, 4))},
		{"what is left out stops nothing", []impl.Write{{At: 3, Text: "x"}, {At: -3}, {At: 2, Text: "y"}, {At: 9}, {At: -2, Super: super(7, 7)}}, disk([]string{"a", "b", "y"}, super(1, 2), super(7, 7))},
	} {
		if got := impl.Do(d, c.list); !sameDisk(got, c.want) {
			t.Error(c.name, "came to", got)
		}
		if !sameDisk(d, disk([]string{"a", "b", "c"}, super(1, 2), super(3, 4))) {
			t.Fatal(c.name, "turned the disk")
		}
	}
}

func TestDoWhereThereIsNoSuchSuper(t *testing.T) {
	x, y := super(9, 8), super(7, 6)
	both := []impl.Write{{At: -1, Super: x}, {At: -2, Super: y}, {At: -3, Super: x}, {At: 0, Text: "x"}}
	for _, c := range []struct {
		name     string
		was, now impl.Disk
	}{
		{"no super", disk([]string{"a"}), disk([]string{"x"})},
		{"one", disk([]string{"a"}, super(1, 1)), disk([]string{"x"}, x)},
		{"two", disk([]string{"a"}, super(1, 1), super(2, 2)), disk([]string{"x"}, x, y)},
		{"three", disk([]string{"a"}, super(1, 1), super(2, 2), super(3, 3)), disk([]string{"x"}, x, y, super(3, 3))},
		{"no pages", disk(nil, super(1, 1), super(2, 2)), disk(nil, x, y)},
		{"the zero value", impl.Disk{}, impl.Disk{}},
	} {
		if got := impl.Do(c.was, both); !sameDisk(got, c.now) {
			t.Error(c.name, "came to", got)
		}
	}
}

func TestSome(t *testing.T) {
	d := disk([]string{"a", "b", "c"}, super(1, 2), super(3, 4))
	list := []impl.Write{{At: 0, Text: "x"}, {At: 1, Text: "y"}, {At: -2, Super: super(9, 9)}, {At: 0, Text: "z"}, {At: 7, Text: "none"}}
	for _, c := range []struct {
		name  string
		which []bool
		want  impl.Disk
	}{
		{"no flags", nil, d},
		{"none", []bool{false, false, false, false, false}, d},
		{"all", []bool{true, true, true, true, true}, disk([]string{"z", "y", "c"}, super(1, 2), super(9, 9))},
		{"the first", []bool{true, false, false, false, false}, disk([]string{"x", "b", "c"}, d.Supers...)},
		{"fewer flags", []bool{true, true}, disk([]string{"x", "y", "c"}, d.Supers...)},
		{"fewer flags, and a super", []bool{false, true, true}, disk([]string{"a", "y", "c"}, super(1, 2), super(9, 9))},
		{"one flag", []bool{true}, disk([]string{"x", "b", "c"}, d.Supers...)},
		{"one flag that tells false", []bool{false}, d},
		{"more flags", []bool{false, true, false, true, false, true, true, true}, disk([]string{"z", "y", "c"}, d.Supers...)},
		{"in their order", []bool{true, false, false, true}, disk([]string{"z", "b", "c"}, d.Supers...)},
		{"just what is left out", []bool{false, false, false, false, true}, d},
	} {
		if got := impl.Some(d, list, c.which); !sameDisk(got, c.want) {
			t.Error(c.name, "came to", got)
		}
	}
	if got := impl.Some(d, nil, []bool{true, true}); !sameDisk(got, d) {
		t.Error("no writes came to", got)
	}
	if got := impl.Some(impl.Disk{}, list, []bool{true, true, true, true, true}); !sameDisk(got, impl.Disk{}) {
		t.Error("no disk came to", got)
	}
}

// flags: the bits of a number, the lowest first.
func flags(count, bits int) []bool {
	var which []bool
	for i := range count {
		which = append(which, bits>>i&1 == 1)
	}
	return which
}

// shuffled: the same ones, in an order that looks thrown.
func shuffled[E any](d *dice, list []E) []E {
	list = slices.Clone(list)
	for i := len(list) - 1; i > 0; i-- {
		j := d.below(i + 1)
		list[i], list[j] = list[j], list[i]
	}
	return list
}

// agrees: P6, of one plan: what is opened behind any part of it. It tells the disk behind all of it.
func agrees(t *testing.T, d *dice, was impl.Disk, tree impl.Tree) impl.Disk {
	t.Helper()
	old, ver, ok := impl.Open(was)
	if !ok {
		t.Fatal("no fair question: nothing is opened")
	}
	list, ok := impl.Plan(was, tree)
	want, fair := planByTheWord(was, tree)
	if !ok || !fair || !slices.Equal(list, want) {
		t.Fatal("planned as", list, ok, "not as", want, fair)
	}
	nodes := len(list) - 1
	for round := range 64 {
		if nodes <= 6 && round >= 1<<nodes {
			break
		}
		which := append(flags(nodes, round), false)
		if nodes > 6 {
			for i := range nodes {
				which[i] = d.below(64) < round
			}
		}
		part := impl.Some(was, list, which)
		opens(t, "a part", part, old, ver)
		opens(t, "a part in any order", impl.Some(was, append(shuffled(d, list[:nodes]), list[nodes]), which), old, ver)
		opens(t, "a part, and then all", impl.Do(part, list), tree, ver+1)
	}
	opens(t, "all but the super", impl.Do(was, list[:nodes]), old, ver)
	opens(t, "all in any order", impl.Do(was, shuffled(d, list)), tree, ver+1)
	all := impl.Do(was, list)
	opens(t, "all", all, tree, ver+1)
	return all
}

func TestOldTreeOrNewOne(t *testing.T) {
	t.Parallel()
	d := &dice{62}
	trees := treesToWrite()
	for i, tree := range trees {
		at := newDisk(t, tree)
		for range 5 {
			at = agrees(t, d, at, trees[d.below(len(trees))])
		}
		agrees(t, d, at, trees[i])
	}
}

// a part is written, what is opened is changed and planned again, on what that part left.
func TestOldTreeOrNewOneBehindAFall(t *testing.T) {
	d := &dice{63}
	for range 20 {
		tree := impl.TreeNew()
		at := newDisk(t, tree)
		for range 40 {
			next := impl.Inject(tree, thrown(d, 0, 40))
			if d.below(6) == 0 {
				next = impl.Drain(next)
			}
			list, ok := impl.Plan(at, next)
			if !ok {
				t.Fatal("no plan of", next)
			}
			if d.below(2) == 0 {
				which := append(flags(len(list)-1, d.below(1<<20)), false)
				at = impl.Some(at, list, which)
			} else {
				at = agrees(t, d, at, next)
				tree = next
			}
			if got, _, ok := impl.Open(at); !ok || !sameTree(got, tree) {
				t.Fatal("opened as", got, ok, "not as", tree)
			}
		}
	}
}

// strewn: a disk of few pages that hold each other as it falls out.
func strewn(d *dice) impl.Disk {
	count := d.below(9)
	var pages []string
	for range count {
		kid := func() int { return d.below(count+4) - 1 - d.below(2)*d.below(2) }
		if d.below(3) > 0 {
			kid = func() int { return d.below(count) }
		}
		switch d.below(8) {
		case 0:
			pages = append(pages, "")
		case 1:
			pages = append(pages, page(0, 1, kid(), 0))
		case 2, 3:
			pages = append(pages, page(0, 2, kid(), kid(), 10*d.below(4), 1, 1+d.below(3), d.below(40), 0))
		case 4:
			pages = append(pages, page(0, 3, kid(), kid(), kid(), 10, 10+10*d.below(3), 0))
		case 5:
			pages = append(pages, page(1, 0))
		default:
			k := d.below(40)
			pages = append(pages, page(1, 2, k, d.below(9), k+d.below(5), 0))
		}
	}
	var supers []impl.Super
	for range []int{2, 2, 2, 2, 2, 2, 0, 1, 3, 4}[d.below(10)] {
		supers = append(supers, super(d.below(7)-2, d.below(count+3)-1))
	}
	return disk(pages, supers...)
}

// allByTheWord tells also whether something was opened, and whether something was planned.
func allByTheWord(t *testing.T, d impl.Disk, trees ...impl.Tree) (opened, planned int) {
	t.Helper()
	for root := -2; root < len(d.Pages)+2; root++ {
		if want, ok := readTreeByTheWord(d, root); ok {
			reads(t, "by the word", d, root, want)
		} else {
			readsNothing(t, "by the word", d, root)
		}
	}
	if want, ver, ok := openByTheWord(d); ok {
		opens(t, "by the word", d, want, ver)
		opened++
	} else {
		opensNothing(t, "by the word", d)
	}
	for _, tree := range trees {
		if want, ok := planByTheWord(d, tree); ok {
			plans(t, "by the word", d, tree, want...)
			planned++
		} else {
			plansNothing(t, "by the word", d, tree)
		}
	}
	return opened, planned
}

func TestStrewnPagesByTheWord(t *testing.T) {
	t.Parallel()
	d := &dice{64}
	trees := []impl.Tree{leaf(1, 2), fork(cuts(5), leaf(1, 1), leaf(7, 7)), fork(cuts(5, 6, 7), leaf(), leaf(), leaf(), leaf()), tower(3, 0, 999)}
	opened, planned := 0, 0
	for range 20000 {
		o, p := allByTheWord(t, strewn(d), trees...)
		opened, planned = opened+o, planned+p
	}
	if opened < 2000 || opened > 18000 || planned < 8000 || planned > 72000 {
		t.Error("too few or too many were opened or planned:", opened, planned)
	}
}

// turned: one thing of a disk is another one.
func turned(d *dice, was impl.Disk) impl.Disk {
	pages, supers := slices.Clone(was.Pages), slices.Clone(was.Supers)
	at, other := d.below(len(pages)), d.below(len(pages))
	switch d.below(6) {
	case 0:
		pages[at] = pages[other]
	case 1:
		pages[at], pages[other] = pages[other], pages[at]
	case 2:
		if b := []byte(pages[at]); len(b) > 0 {
			b[d.below(len(b))] = byte(d.below(256))
			pages[at] = string(b)
		}
	case 3:
		pages[at] = ""
	case 4:
		supers[d.below(2)].Root = d.below(len(pages)+2) - 1
	case 5:
		supers[d.below(2)].Ver = d.below(6) - 1
	}
	return disk(pages, supers...)
}

func TestDisksThatAreTurnedByTheWord(t *testing.T) {
	t.Parallel()
	d := &dice{65}
	opened, nothing := 0, 0
	for range 300 {
		a, b, c := grown(d, 1+d.below(3), 0, 40), grown(d, 1+d.below(3), 0, 40), grown(d, 1+d.below(3), 0, 40)
		at := disk(noPages(nodesIn(a)+nodesIn(b)+d.below(9)), impl.Super{}, impl.Super{})
		for _, tree := range []impl.Tree{a, b} {
			list, ok := impl.Plan(at, tree)
			if !ok {
				t.Fatal("no plan of", tree)
			}
			at = impl.Do(at, list)
		}
		for range 12 {
			if o, _ := allByTheWord(t, at, a, c); o > 0 {
				opened++
			} else {
				nothing++
			}
			at = turned(d, at)
		}
	}
	if opened < 500 || nothing < 100 {
		t.Error("too few were opened or not:", opened, nothing)
	}
}

func TestThrownWritesByTheWord(t *testing.T) {
	d := &dice{66}
	texts := []string{"", "x", "a long row of bytes", page(1, 0), page(0, 1, 0, 0), "\xff\x00"}
	for range 5000 {
		at := strewn(d)
		var list, some []impl.Write
		var which []bool
		for range d.below(8) {
			list = append(list, impl.Write{At: d.below(14) - 4, Text: texts[d.below(len(texts))], Super: super(d.below(9), d.below(9))})
		}
		for i := range d.below(11) {
			which = append(which, d.below(2) == 0)
			if which[i] && i < len(list) {
				some = append(some, list[i])
			}
		}
		if got, want := impl.Do(at, list), doByTheWord(at, list); !sameDisk(got, want) {
			t.Fatal(list, "came on", at, "to", got, "not to", want)
		}
		if got, want := impl.Some(at, list, which), doByTheWord(at, some); !sameDisk(got, want) {
			t.Fatal(list, which, "came on", at, "to", got, "not to", want)
		}
	}
}

// roomyDisk: the same disk, both lists of which have room behind them that is filled; and these lists with their room.
func roomyDisk(d impl.Disk) (impl.Disk, []any) {
	pages, wholePages := roomy(d.Pages, "filled")
	supers, wholeSupers := roomy(d.Supers, super(-77, -77))
	return disk(pages, supers...), []any{wholePages(), wholeSupers()}
}

func spoilDisk(d impl.Disk) {
	spoil(d.Pages, "spoilt")
	spoil(d.Supers, super(-88, -88))
}

func disksToKeep(t *testing.T) []impl.Disk {
	two := impl.Do(newDisk(t, stairs()), nil)
	list, _ := impl.Plan(two, tower(3, 0, 999))
	return []impl.Disk{
		{},
		disk(noPages(3), impl.Super{}, impl.Super{}),
		disk(nil, super(1, 0), super(2, 0)),
		disk(chain(8), super(1, 0), super(2, 1)),
		disk(chain(8)),
		disk([]string{page(1, 0), page(0, 2, 0, 0, 10, 0), "", ""}, super(1, 1), super(2, 0)),
		disk([]string{page(1, 0)}, super(1, 0), super(2, 0), super(3, 0)),
		newDisk(t, stairs()),
		impl.Do(two, list),
	}
}

func TestDisksAreNotWrittenInto(t *testing.T) {
	writes := []impl.Write{{At: 0, Text: "x"}, {At: -1, Super: super(9, 9)}, {At: -2, Super: super(8, 8)}, {At: 2, Text: "y"}, {At: -3}}
	for i, d := range disksToKeep(t) {
		for _, c := range slices.Concat(goodTrees(), badTrees()[:9], sharing()) {
			at, wholes := roomyDisk(d)
			_, kept := roomyDisk(d)
			tree, wholesOfTree := roomyTree(c.tree)
			_, keptOfTree := roomyTree(c.tree)
			list, wholeList := roomy(writes, impl.Write{At: 1, Text: "filled"})
			which, wholeWhich := roomy([]bool{true, false, true, true}, true)
			for root := -1; root < 3; root++ {
				if got, ok := impl.ReadTree(at, root); ok {
					ownMemory(t, "a tree that is read", got)
				}
			}
			if got, _, ok := impl.Open(at); ok {
				ownMemory(t, "a tree that is opened", got)
			}
			planned, _ := impl.Plan(at, tree)
			spoil(planned, impl.Write{At: -99, Text: "spoilt"})
			made, _ := impl.DiskNew(tree)
			spoilDisk(made)
			spoilDisk(impl.Do(at, list))
			spoilDisk(impl.Do(at, nil))
			spoilDisk(impl.Some(at, list, which))
			spoilDisk(impl.Some(at, list, nil))
			if !reflect.DeepEqual(wholes, kept) || !reflect.DeepEqual(wholesOfTree, keptOfTree) {
				t.Fatal("written into, or memory shared with an answer:", i, c.name)
			}
			fill := impl.Write{At: 1, Text: "filled"}
			if !slices.Equal(wholeList(), append(slices.Clone(writes), fill, fill, fill)) || !slices.Equal(wholeWhich(), []bool{true, false, true, true, true, true, true}) {
				t.Fatal("writes or flags written into:", i, c.name)
			}
		}
	}
}

func TestDiskAnswersShareNothing(t *testing.T) {
	d := newDisk(t, stairs())
	list, _ := impl.Plan(d, tower(3, 0, 999))
	kept := slices.Clone(list)
	spoil(list, impl.Write{At: 1, Text: "spoilt"})
	if again, _ := impl.Plan(d, tower(3, 0, 999)); !slices.Equal(again, kept) {
		t.Error("two plans share memory")
	}
	spoilDisk(newDisk(t, stairs()))
	spoilDisk(impl.Do(d, kept))
	if again := newDisk(t, stairs()); !sameDisk(again, d) {
		t.Error("two new disks share memory")
	}
	tree, _, _ := impl.Open(d)
	ownMemory(t, "what is opened", tree)
	opens(t, "opened twice", d, stairs(), 1)
}

// pages that hold each other many times over, and long ones: all of it ends soon.
func TestDisksThatAreMany(t *testing.T) {
	var pages []string
	for at := range 40 {
		pages = append(pages, page(0, 4, at+1, at+1, at+1, at+1, 10, 20, 30, 0))
	}
	pages = append(pages, page(1, 0))
	for root := range 41 {
		d := disk(pages, super(1, root), super(2, 40-root))
		allByTheWord(t, disk(pages[root:], super(1, 0), super(2, 0)), leaf())
		impl.Open(d)
		impl.Plan(d, leaf())
	}
	long := disk([]string{strings.Repeat("\x80", 5000000), page(0, 4, 0, 0, 0, 0, 10, 20, 30, 0), page(0, 4, 1, 1, 1, 1, 10, 20, 30, 0)}, super(1, 2), super(0, 0))
	readsNothing(t, "a long page", long, 0)
	readsNothing(t, "a long page below", long, 2)
	plansNothing(t, "a long page below", long, leaf())
	many := disk(noPages(100000), super(1, 99999), super(0, 0))
	plans(t, "very many pages", many, leaf(), impl.Write{At: 0, Text: page(1, 0)}, impl.Write{At: -2, Super: super(2, 0)})
	supers := make([]impl.Super, 100000)
	for i := range supers {
		supers[i] = super(i-50000, i)
	}
	opensNothing(t, "very many supers", disk(noPages(9), supers...))
	plansNothing(t, "very many supers", disk(noPages(9), supers...), leaf())
}

// the greatest Ver has no number behind it: what is planned is some answer, and nothing more is promised.
func TestTheGreatestVerEnds(t *testing.T) {
	d := disk([]string{page(1, 0), "", ""}, super(math.MaxInt, 0), super(1, 0))
	impl.Plan(d, leaf())
	opens(t, "the greatest Ver", d, leaf(), math.MaxInt)
}
