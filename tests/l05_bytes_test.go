package tests

import (
	"bytes"
	"math"
	"reflect"
	"slices"
	"strconv"
	"strings"
	"testing"

	"loop.example/g00234/impl"
)

// numForms: numbers and their forms, written out.
var numForms = []struct {
	x    int
	form string
}{
	{0, "\x00"},
	{1, "\x02"},
	{-1, "\x01"},
	{2, "\x04"},
	{-2, "\x03"},
	{63, "\x7e"},
	{-64, "\x7f"},
	{64, "\x80\x01"},
	{-65, "\x81\x01"},
	{150, "\xac\x02"},
	{8191, "\xfe\x7f"},
	{-8192, "\xff\x7f"},
	{8192, "\x80\x80\x01"},
	{-8193, "\x81\x80\x01"},
	{1048575, "\xfe\xff\x7f"},
	{1048576, "\x80\x80\x80\x01"},
	{134217727, "\xfe\xff\xff\x7f"},
	{-134217728, "\xff\xff\xff\x7f"},
	{134217728, "\x80\x80\x80\x80\x01"},
	{-134217729, "\x81\x80\x80\x80\x01"},
	{1000000000, "\x80\xa8\xd6\xb9\x07"},
	{-1000000000, "\xff\xa7\xd6\xb9\x07"},
	{2000000000, "\x80\xd0\xac\xf3\x0e"},
	{-2000000000, "\xff\xcf\xac\xf3\x0e"},
	{1999999999, "\xfe\xcf\xac\xf3\x0e"},
	{-1999999999, "\xfd\xcf\xac\xf3\x0e"},
}

// beyond: numbers without a form; twice some of them wraps round to a small one.
var beyond = []int{2000000001, -2000000001, 4000000000, -4000000000, math.MaxInt32 * 2, math.MaxInt, math.MinInt, math.MaxInt - 1, math.MinInt + 1, 1 << 62, -(1 << 62), 1<<62 + 1, -(1 << 62) - 1, 1<<62 - 1, math.MinInt + 5}

// formByTheWord works on the digits of the number in base two, seven by seven from the end.
func formByTheWord(x int) []byte {
	if x < -2000000000 || x > 2000000000 {
		return nil
	}
	code := 2 * x
	if x < 0 {
		code = -2*x - 1
	}
	digits := strconv.FormatInt(int64(code), 2)
	digits = strings.Repeat("0", (7-len(digits)%7)%7) + digits
	var form []byte
	for ; len(digits) > 0; digits = digits[:len(digits)-7] {
		first := "1"
		if len(digits) == 7 {
			first = "0"
		}
		b, _ := strconv.ParseUint(first+digits[len(digits)-7:], 2, 8)
		form = append(form, byte(b))
	}
	return form
}

// getNumByTheWord takes each beginning that may be a form, and looks whether the form of what it would be is that.
func getNumByTheWord(b []byte, at int) (int, int, bool) {
	if at < 0 || at >= len(b) {
		return 0, 0, false
	}
	code := 0
	for i, c := range b[at:min(len(b), at+5)] {
		code += int(c&127) << (7 * i)
		x := code / 2
		if code%2 != 0 {
			x = -(code / 2) - 1
		}
		if bytes.Equal(formByTheWord(x), b[at:at+i+1]) {
			return x, at + i + 1, true
		}
	}
	return 0, 0, false
}

func TestNumForms(t *testing.T) {
	for _, c := range numForms {
		if got := impl.PutNum(c.x); string(got) != c.form {
			t.Errorf("%d came to %x", c.x, got)
		}
		if got := formByTheWord(c.x); string(got) != c.form {
			t.Errorf("%d comes by the word to %x", c.x, got)
		}
	}
	for _, x := range beyond {
		if got := impl.PutNum(x); len(got) != 0 {
			t.Errorf("%d came to %x", x, got)
		}
	}
}

// numsToTry: all small ones, all around where a form grows, and many thrown ones.
func numsToTry() []int {
	var list []int
	for x := -20000; x <= 20000; x++ {
		list = append(list, x)
	}
	for bit := 6; bit < 31; bit++ {
		for near := -3; near <= 3; near++ {
			list = append(list, 1<<bit+near, -(1<<bit)+near)
		}
	}
	for near := -3; near <= 3; near++ {
		list = append(list, 1000000000+near, -1000000000+near, 2000000000+near, -2000000000+near)
	}
	d := &dice{51}
	for range 20000 {
		list = append(list, d.below(2000000000)-d.below(2000000000))
	}
	return list
}

func TestNumbersAreReadAsTheyWere(t *testing.T) {
	for _, x := range numsToTry() {
		form := impl.PutNum(x)
		if !bytes.Equal(form, formByTheWord(x)) {
			t.Fatalf("%d came to %x", x, form)
		}
		got, behind, ok := impl.GetNum(form, 0)
		if len(form) == 0 {
			if x >= -2000000000 && x <= 2000000000 || got != 0 || behind != 0 || ok {
				t.Fatal(x, "has no form, or nothing was read as", got, behind, ok)
			}
			continue
		}
		if got != x || behind != len(form) || !ok {
			t.Fatal(x, "was read as", got, behind, ok)
		}
	}
}

func TestGetNumAtPlaces(t *testing.T) {
	for _, c := range numForms {
		for _, ahead := range []string{"", "\x00", "\x80", "\xff\xff", "\x02\x80\x00"} {
			for _, behind := range []string{"", "\x00", "\x01", "\x80", "\xff\xff\xff\xff\xff\xff"} {
				b := []byte(ahead + c.form + behind)
				x, next, ok := impl.GetNum(b, len(ahead))
				if x != c.x || next != len(ahead)+len(c.form) || !ok {
					t.Errorf("%x from %d on was read as %d %d %v", b, len(ahead), x, next, ok)
				}
			}
		}
	}
}

func TestGetNumAtNoPlace(t *testing.T) {
	for _, b := range [][]byte{nil, {}, {0}, {2, 4, 6}, {172, 2}} {
		for _, at := range []int{-1, -2, -len(b), -len(b) - 1, len(b), len(b) + 1, len(b) + 100, math.MaxInt, math.MinInt, math.MaxInt - 1, math.MinInt + 1} {
			if at == 0 && len(b) > 0 {
				continue
			}
			if x, next, ok := impl.GetNum(b, at); x != 0 || next != 0 || ok {
				t.Errorf("%x from %d on was read as %d %d %v", b, at, x, next, ok)
			}
		}
	}
}

func TestNoNumForms(t *testing.T) {
	for _, form := range []string{
		"\x80\x00", "\x81\x00", "\xff\x00", // one byte would do
		"\x80\x80\x00", "\x80\x81\x00", "\xff\xff\xff\xff\x00", "\x80\x80\x80\x80\x80\x00",
		"\x80", "\xff", "\x80\x80", "\xff\xff\xff\xff", "\x80\xd0\xac\xf3", // cut off
		"\x81\xd0\xac\xf3\x0e", "\x82\xd0\xac\xf3\x0e", "\xff\xff\xff\xff\x0f", "\xff\xff\xff\xff\x7f", "\x80\xd1\xac\xf3\x0e", "\x80\x80\x80\x80\x10", // beyond
		"\x80\x80\x80\x80\x80", "\x80\x80\x80\x80\x80\x01", "\xff\xff\xff\xff\xff\xff\xff\xff\x7f", "\x80\x80\x80\x80\x80\x80\x80\x80\x80\x01", // more bytes than any has
		"\x82\x80\x80\x80\x80\x80\x80\x80\x80\x80\x01", "\x82\x80\x80\x80\x80\x80\x80\x80\x80\x02", "\x80\x80\x80\x80\x80\x80\x80\x80\x80\x80\x80\x00",
		strings.Repeat("\x80", 1000), strings.Repeat("\xff", 1000) + "\x01",
	} {
		for _, behind := range []string{"", "\x00"} {
			b := []byte(form + behind)
			if x, next, ok := impl.GetNum(b, 0); x != 0 || next != 0 || ok {
				t.Errorf("%x was read as %d %d %v", b, x, next, ok)
			}
		}
		if _, _, may := getNumByTheWord([]byte(form), 0); may {
			t.Errorf("%x is no fair question", form)
		}
	}
}

// readsByTheWord: from each place, and what is read is what PutNum makes of it.
func readsByTheWord(t *testing.T, b []byte) {
	t.Helper()
	for at := range len(b) + 1 {
		x, next, ok := impl.GetNum(b, at)
		wantX, wantNext, wantOk := getNumByTheWord(b, at)
		if x != wantX || next != wantNext || ok != wantOk {
			t.Fatalf("%x from %d on was read as %d %d %v, not as %d %d %v", b, at, x, next, ok, wantX, wantNext, wantOk)
		}
		if ok && !bytes.Equal(impl.PutNum(x), b[at:next]) {
			t.Fatalf("%x from %d on is not what is put of %d", b, at, x)
		}
	}
}

// rowsOf: all rows of these bytes that have at most so many.
func rowsOf(most int, alphabet ...byte) [][]byte {
	all := [][]byte{{}}
	for at := 0; at < len(all); at++ {
		if len(all[at]) == most {
			break
		}
		for _, b := range alphabet {
			all = append(all, append(slices.Clone(all[at]), b))
		}
	}
	return all
}

func TestBytesAreReadByTheWord(t *testing.T) {
	for a := range 256 {
		readsByTheWord(t, []byte{byte(a)})
		for b := range 256 {
			readsByTheWord(t, []byte{byte(a), byte(b)})
		}
	}
	for _, row := range rowsOf(6, 0, 1, 127, 128, 129, 255) {
		readsByTheWord(t, row)
	}
	for _, c := range numForms {
		for i := range len(c.form) {
			for b := range 256 {
				row := append([]byte(c.form), 2, 128)
				row[i] = byte(b)
				readsByTheWord(t, row)
			}
		}
	}
}

// nodeCase: a node, the numbers of its kids, and the numbers whose forms are its bytes.
type nodeCase struct {
	name string
	tree impl.Tree
	kids []int
	nums []int
}

// kidless: a tree of so many kids that are zero.
func kidless(count int, cuts []int, msgs ...impl.Msg) impl.Tree {
	return impl.Tree{Cuts: cuts, Kids: make([]impl.Tree, count), Buf: msgs}
}

func goodNodes() []nodeCase {
	far := 2000000000
	return []nodeCase{
		{"a leaf with no pairs", leaf(), nil, []int{1, 0}},
		{"a leaf with one pair", leaf(5, 7), nil, []int{1, 1, 5, 7}},
		{"a leaf with MaxPairs pairs", leaf(0, -1, 64, -65, 500, 1000000000, 999, -1000000000), nil, []int{1, 4, 0, -1, 64, -65, 500, 1000000000, 999, -1000000000}},
		{"a leaf that is no map", leaf(9, 1, 3, 2, 3, -4), nil, []int{1, 3, 9, 1, 3, 2, 3, -4}},
		{"a leaf as far as can be", leaf(far, -far, -far, far), nil, []int{1, 2, far, -far, -far, far}},
		{"one kid", kidless(1, nil), []int{7}, []int{0, 1, 7, 0}},
		{"one kid, and a message", kidless(1, nil, put(3, 4)), []int{0}, []int{0, 1, 0, 1, 1, 3, 4}},
		{"two kids", kidless(2, cuts(10)), []int{4, 5}, []int{0, 2, 4, 5, 10, 0}},
		{"two kids, and a message", kidless(2, cuts(10), add(3, 2)), []int{4, 5}, []int{0, 2, 4, 5, 10, 1, 3, 3, 2}},
		{"three kids", kidless(3, cuts(10, 20), del(999)), []int{1, 2, 3}, []int{0, 3, 1, 2, 3, 10, 20, 1, 2, 999, 0}},
		{"MaxKids kids", kidless(4, cuts(10, 200, 999)), []int{199, 0, 64, 63}, []int{0, 4, 199, 0, 64, 63, 10, 200, 999, 0}},
		{"MaxBuf messages", kidless(2, cuts(10), put(1, 2), del(3), add(4, -5), put(6, 7), del(8), add(9, 1000000000)), []int{8, 9}, []int{0, 2, 8, 9, 10, 6, 1, 1, 2, 2, 3, 0, 3, 4, -5, 1, 6, 7, 2, 8, 0, 3, 9, 1000000000}},
		{"all full", kidless(4, cuts(1, 2, 3), adds(1, 2, 3, 4, 5, 6)...), []int{1, 2, 3, 4}, []int{0, 4, 1, 2, 3, 4, 1, 2, 3, 6, 3, 1, 1, 3, 2, 2, 3, 3, 3, 3, 4, 4, 3, 5, 5, 3, 6, 6}},
		{"cuts and kids that fall, are alike or below 0", kidless(4, cuts(9, 3, -3)), []int{-1, -1, -64, -65}, []int{0, 4, -1, -1, -64, -65, 9, 3, -3, 0}},
		{"messages that are none", kidless(2, cuts(0), impl.Msg{}, get(1), impl.Msg{Op: -9, K: -1000, V: 2}), []int{0, 0}, []int{0, 2, 0, 0, 0, 3, 0, 0, 0, 4, 1, 0, -9, -1000, 2}},
		{"all as far as can be", kidless(2, cuts(far), impl.Msg{Op: far, K: -far, V: far}, impl.Msg{Op: -far, K: far, V: -far}), []int{far, -far}, []int{0, 2, far, -far, far, 2, far, -far, far, -far, far, -far}},
	}
}

func formsOf(nums ...int) []byte {
	var b []byte
	for _, x := range nums {
		b = append(b, formByTheWord(x)...)
	}
	return b
}

// zeroKids: what is read of a tree: its kids are zero.
func zeroKids(t impl.Tree) impl.Tree {
	t.Kids = make([]impl.Tree, len(t.Kids))
	return t
}

func isPutAs(t *testing.T, name string, tree impl.Tree, kids []int, want []byte) {
	t.Helper()
	b, ok := impl.PutNode(tree, kids)
	if !ok || !bytes.Equal(b, want) {
		t.Errorf("%s came to %x %v, not to %x", name, b, ok, want)
	}
}

func isReadAs(t *testing.T, name string, b []byte, tree impl.Tree, kids []int) {
	t.Helper()
	got, gotKids, ok := impl.GetNode(b)
	if !ok || !sameTree(got, tree) || !slices.Equal(gotKids, kids) {
		t.Errorf("%s: %x was read as %v %v %v", name, b, got, gotKids, ok)
	}
}

func isNotPut(t *testing.T, name string, tree impl.Tree, kids []int) {
	t.Helper()
	if b, ok := impl.PutNode(tree, kids); len(b) != 0 || ok {
		t.Errorf("%s came to %x %v", name, b, ok)
	}
}

func isNotRead(t *testing.T, name string, b []byte) {
	t.Helper()
	if got, kids, ok := impl.GetNode(b); !sameTree(got, impl.Tree{}) || len(kids) != 0 || ok {
		t.Errorf("%s: %x was read as %v %v %v", name, b, got, kids, ok)
	}
}

func TestNodesAreReadAsTheyWere(t *testing.T) {
	for _, c := range goodNodes() {
		want := formsOf(c.nums...)
		isPutAs(t, c.name, c.tree, c.kids, want)
		isReadAs(t, c.name, want, c.tree, c.kids)
	}
	isPutAs(t, "the empty leaf", impl.TreeNew(), nil, []byte{2, 0})
	isPutAs(t, "empty lists", impl.Tree{Leaf: true, Pairs: []impl.Pair{}, Cuts: []int{}, Kids: []impl.Tree{}, Buf: []impl.Msg{}}, []int{}, []byte{2, 0})
	isPutAs(t, "empty lists above", impl.Tree{Pairs: []impl.Pair{}, Cuts: []int{}, Kids: make([]impl.Tree, 1), Buf: []impl.Msg{}}, []int{1}, []byte{0, 2, 2, 0})
	isReadAs(t, "the empty leaf", []byte{2, 0}, impl.TreeNew(), nil)
}

// What stands in the kids is told nowhere: their numbers stand for them.
func TestKidsOfANodeAreNotLookedAt(t *testing.T) {
	want := formsOf(0, 2, 4, 5, 500, 0)
	for _, kid := range []impl.Tree{{}, leaf(), leaf(beyond...), stairs(), fork(cuts(beyond...))} {
		isPutAs(t, "kids of some kind", fork(cuts(500), kid, kid), []int{4, 5}, want)
	}
	loop := make([]impl.Tree, 2)
	for i := range loop {
		loop[i] = fork(cuts(500), loop...)
	}
	isPutAs(t, "its own kid", loop[0], []int{4, 5}, want)
}

func TestNodesThatAreNotPut(t *testing.T) {
	two := kidless(2, cuts(10))
	seven := adds(1, 2, 3, 4, 5, 6, 7)
	for _, c := range []nodeCase{
		{name: "the zero value"},
		{name: "the zero value and a number", kids: []int{1}},
		{name: "a leaf with one pair more", tree: from(1, 5)},
		{name: "a leaf with very many pairs", tree: from(1, 1000)},
		{name: "a leaf with kids", tree: impl.Tree{Leaf: true, Kids: make([]impl.Tree, 1)}},
		{name: "a leaf with kids, and as many numbers", tree: impl.Tree{Leaf: true, Kids: make([]impl.Tree, 1)}, kids: []int{1}},
		{name: "a leaf with a cut", tree: impl.Tree{Leaf: true, Cuts: cuts(5)}},
		{name: "a leaf with a message", tree: impl.Tree{Leaf: true, Buf: msgs(put(1, 1))}},
		{name: "a leaf with all of these", tree: impl.Tree{Leaf: true, Pairs: pairs(1, 1), Cuts: cuts(10), Kids: make([]impl.Tree, 2), Buf: seven[:1]}, kids: []int{1, 2}},
		{name: "a leaf with something in kids", tree: leaf(1, 1), kids: []int{1}},
		{name: "a leaf without pairs with something in kids", tree: leaf(), kids: []int{0}},
		{name: "a tree with a pair", tree: impl.Tree{Pairs: pairs(1, 1), Cuts: cuts(10), Kids: make([]impl.Tree, 2)}, kids: []int{1, 2}},
		{name: "pairs alone, and no leaf", tree: impl.Tree{Pairs: pairs(1, 1)}},
		{name: "no kids, and a message", tree: impl.Tree{Buf: seven[:1]}},
		{name: "no kids, and a cut", tree: fork(cuts(10))},
		{name: "no kids, and numbers", tree: fork(cuts(10)), kids: []int{1, 2}},
		{name: "one kid more", tree: kidless(5, cuts(1, 2, 3, 4)), kids: []int{1, 2, 3, 4, 5}},
		{name: "very many kids", tree: kidless(1000, make([]int, 999)), kids: make([]int, 1000)},
		{name: "one message more", tree: withBuf(two, seven...), kids: []int{1, 2}},
		{name: "very many messages", tree: withBuf(two, make([]impl.Msg, 1000)...), kids: []int{1, 2}},
		{name: "one kid, and a cut", tree: kidless(1, cuts(10)), kids: []int{1}},
		{name: "a cut too few", tree: kidless(2, nil), kids: []int{1, 2}},
		{name: "a cut too few of three", tree: kidless(3, cuts(10)), kids: []int{1, 2, 3}},
		{name: "a cut too few of four", tree: kidless(4, cuts(10, 20)), kids: []int{1, 2, 3, 4}},
		{name: "a cut too many", tree: kidless(2, cuts(10, 20)), kids: []int{1, 2}},
		{name: "a cut too many of four", tree: kidless(4, cuts(10, 20, 30, 40)), kids: []int{1, 2, 3, 4}},
		{name: "a number less", tree: two, kids: []int{1}},
		{name: "a number more", tree: two, kids: []int{1, 2, 3}},
		{name: "no numbers", tree: two},
		{name: "a number more than one kid has", tree: kidless(1, nil), kids: []int{1, 2}},
		{name: "a number less than four kids have", tree: kidless(4, cuts(1, 2, 3)), kids: []int{1, 2, 3}},
		{name: "a number more than four kids have", tree: kidless(4, cuts(1, 2, 3)), kids: []int{1, 2, 3, 4, 5}},
		{name: "as many numbers as cuts ask for", tree: kidless(2, cuts(10, 20)), kids: []int{1, 2, 3}},
	} {
		isNotPut(t, c.name, c.tree, c.kids)
	}
}

// numPlaces: all numbers of a node that are told, to be turned in place.
func numPlaces(tree impl.Tree, kids []int) []*int {
	var list []*int
	for i := range tree.Pairs {
		list = append(list, &tree.Pairs[i].K, &tree.Pairs[i].V)
	}
	for i := range kids {
		list = append(list, &kids[i])
	}
	for i := range tree.Cuts {
		list = append(list, &tree.Cuts[i])
	}
	for i := range tree.Buf {
		list = append(list, &tree.Buf[i].Op, &tree.Buf[i].K, &tree.Buf[i].V)
	}
	return list
}

func TestNodesWithANumberBeyond(t *testing.T) {
	for _, c := range goodNodes() {
		for i := range numPlaces(c.tree, c.kids) {
			tree, kids := copyOf(c.tree), slices.Clone(c.kids)
			place := numPlaces(tree, kids)[i]
			for _, x := range beyond {
				*place = x
				isNotPut(t, c.name+", but a number beyond", tree, kids)
			}
			for _, x := range []int{2000000000, -2000000000} {
				*place = x
				b, ok := impl.PutNode(tree, kids)
				if !ok {
					t.Fatal(c.name, "with a number as far as can be is not put")
				}
				isReadAs(t, c.name, b, tree, kids)
			}
		}
	}
}

func TestBytesThatAreNoNodes(t *testing.T) {
	for _, c := range []struct {
		name string
		b    []byte
	}{
		{"nothing", nil},
		{"no bytes", []byte{}},
		{"a leaf without its count", formsOf(1)},
		{"a tree without its count", formsOf(0)},
		{"a first number of 2", formsOf(2, 0)},
		{"a first number of 2, as a leaf", formsOf(2, 1, 5, 7)},
		{"a first number of 2, as a tree", formsOf(2, 1, 5, 0)},
		{"a first number of -1, as a leaf", formsOf(-1, 1, 5, 7)},
		{"a first number of -1, as a tree", formsOf(-1, 1, 5, 0)},
		{"a first number that is great", formsOf(2000000000, 0)},
		{"a first number that wraps round to 1 in a byte", formsOf(257, 0)},
		{"a count of -1 pairs", formsOf(1, -1)},
		{"a count of -1 pairs, and bytes", formsOf(1, -1, 5, 7)},
		{"five pairs", formsOf(1, 5, 1, 1, 2, 2, 3, 3, 4, 4, 5, 5)},
		{"very many pairs", formsOf(1, 2000000000)},
		{"the least count of pairs", formsOf(1, -2000000000)},
		{"a pair less than told", formsOf(1, 2, 5, 7)},
		{"a number less than told", formsOf(1, 2, 5, 7, 6)},
		{"a pair more than told", formsOf(1, 1, 5, 7, 6, 8)},
		{"no kids", formsOf(0, 0, 0)},
		{"no kids and nothing else", formsOf(0, 0)},
		{"no kids, but a message", formsOf(0, 0, 1, 1, 2, 3)},
		{"a count of -1 kids", formsOf(0, -1, 0)},
		{"a count of -2 kids, and bytes", formsOf(0, -2, 1, 2, 10, 0)},
		{"five kids", formsOf(0, 5, 1, 2, 3, 4, 5, 10, 20, 30, 40, 0)},
		{"very many kids", formsOf(0, 2000000000)},
		{"the least count of kids", formsOf(0, -2000000000)},
		{"a cut too few", formsOf(0, 3, 1, 2, 3, 10, 0)},
		{"a cut too many", formsOf(0, 2, 1, 2, 10, 20, 0)},
		{"a cut beside one kid", formsOf(0, 1, 1, 10, 0)},
		{"no count of messages", formsOf(0, 2, 1, 2, 10)},
		{"a count of -1 messages", formsOf(0, 2, 1, 2, 10, -1)},
		{"a count of -1 messages, and bytes", formsOf(0, 2, 1, 2, 10, -1, 1, 2, 3)},
		{"seven messages", formsOf(0, 2, 1, 2, 10, 7, 3, 1, 1, 3, 2, 2, 3, 3, 3, 3, 4, 4, 3, 5, 5, 3, 6, 6, 3, 7, 7)},
		{"very many messages", formsOf(0, 2, 1, 2, 10, 2000000000)},
		{"the least count of messages", formsOf(0, 2, 1, 2, 10, -2000000000)},
		{"a message less than told", formsOf(0, 2, 1, 2, 10, 2, 1, 2, 3)},
		{"a message without its V", formsOf(0, 2, 1, 2, 10, 1, 1, 2)},
		{"a message more than told", formsOf(0, 2, 1, 2, 10, 1, 1, 2, 3, 1, 2, 3)},
		{"a leaf behind a leaf", formsOf(1, 0, 1, 0)},
		{"a form of the first number that is not the shortest", []byte{130, 0, 0}},
		{"a form of 0 as the first number that is not the shortest", []byte{128, 0, 2, 2, 0}},
		{"a form of the count that is not the shortest", []byte{2, 128, 0}},
		{"a form of a K that is not the shortest", []byte{2, 2, 138, 0, 14}},
		{"a form of a V that is not the shortest", []byte{2, 2, 10, 142, 0}},
		{"a form of a cut that is not the shortest", []byte{0, 4, 2, 4, 148, 0, 0}},
		{"a form of a kid that is not the shortest", []byte{0, 2, 130, 0, 0}},
		{"a form of an Op that is not the shortest", []byte{0, 2, 2, 2, 130, 0, 4, 6}},
		{"a K beyond", slices.Concat([]byte{2, 2}, []byte("\x82\xd0\xac\xf3\x0e"), []byte{0})},
		{"a kid beyond", slices.Concat([]byte{0, 2}, []byte("\x81\xd0\xac\xf3\x0e"), []byte{0})},
		{"noughts", make([]byte, 1000)},
		{"bytes of 255", bytes.Repeat([]byte{255}, 1000)},
	} {
		isNotRead(t, c.name, c.b)
	}
}

// putNodeByTheWord tells the numbers one by one; of none that is beyond there is a form.
func putNodeByTheWord(tree impl.Tree, kids []int) ([]byte, bool) {
	var nums []int
	switch {
	case tree.Leaf && len(tree.Pairs) <= 4 && len(tree.Kids)+len(tree.Cuts)+len(tree.Buf)+len(kids) == 0:
		nums = []int{1, len(tree.Pairs)}
		for _, p := range tree.Pairs {
			nums = append(nums, p.K, p.V)
		}
	case !tree.Leaf && len(kids) == len(tree.Kids) && len(kids) >= 1 && len(kids) <= 4 && len(tree.Cuts)+1 == len(kids) && len(tree.Buf) <= 6 && len(tree.Pairs) == 0:
		nums = slices.Concat([]int{0, len(kids)}, kids, tree.Cuts, []int{len(tree.Buf)})
		for _, m := range tree.Buf {
			nums = append(nums, m.Op, m.K, m.V)
		}
	default:
		return nil, false
	}
	for _, x := range nums {
		if len(formByTheWord(x)) == 0 {
			return nil, false
		}
	}
	return formsOf(nums...), true
}

// getNodeByTheWord takes all numbers of the bytes, guesses the node by its counts, and looks whether it is put as these bytes.
func getNodeByTheWord(b []byte) (impl.Tree, []int, bool) {
	var nums []int
	for at := 0; at < len(b); {
		x, next, ok := getNumByTheWord(b, at)
		if !ok {
			return impl.Tree{}, nil, false
		}
		nums, at = append(nums, x), next
	}
	tree, kids := guessed(nums)
	if want, ok := putNodeByTheWord(tree, kids); !ok || !bytes.Equal(want, b) {
		return impl.Tree{}, nil, false
	}
	return tree, kids, true
}

func guessed(nums []int) (impl.Tree, []int) {
	if len(nums) < 2 {
		return impl.Tree{}, nil
	}
	count, rest := nums[1], nums[2:]
	if nums[0] == 1 {
		return leaf(rest...), nil
	}
	if count < 1 || count > 4 || len(rest) < 2*count {
		return impl.Tree{}, nil
	}
	tree := kidless(count, rest[count:2*count-1])
	for list := rest[2*count:]; len(list) > 2; list = list[3:] {
		tree.Buf = append(tree.Buf, impl.Msg{Op: list[0], K: list[1], V: list[2]})
	}
	return tree, rest[:count]
}

// readByTheWord tells also whether there was a node.
func readByTheWord(t *testing.T, b []byte) bool {
	t.Helper()
	tree, kids, ok := getNodeByTheWord(b)
	if !ok {
		isNotRead(t, "by the word", b)
		return false
	}
	isReadAs(t, "by the word", b, tree, kids)
	isPutAs(t, "what was read", tree, kids, b)
	return true
}

func TestBytesOfNodesThatAreTurned(t *testing.T) {
	read, refused := 0, 0
	for _, c := range goodNodes() {
		b := formsOf(c.nums...)
		if !readByTheWord(t, b) {
			t.Fatal(c.name, "is no node by the word")
		}
		for cut := range len(b) {
			isNotRead(t, c.name+", cut off", b[:cut])
		}
		for last := range 256 {
			isNotRead(t, c.name+", with a byte behind", append(slices.Clone(b), byte(last)))
		}
		for i := range b {
			for x := range 256 {
				turned := slices.Clone(b)
				turned[i] = byte(x)
				if readByTheWord(t, turned) {
					read++
				} else {
					refused++
				}
			}
			readByTheWord(t, slices.Delete(slices.Clone(b), i, i+1))
			readByTheWord(t, slices.Insert(slices.Clone(b), i, 128))
			readByTheWord(t, slices.Insert(slices.Clone(b), i, 0))
		}
	}
	if read < 1000 || refused < 1000 {
		t.Error("too few were read or refused:", read, refused)
	}
}

func TestShortBytesAreNodesByTheWord(t *testing.T) {
	read := 0
	for _, row := range rowsOf(5, 0, 1, 2, 3, 4, 8, 10, 12, 14, 128, 130) {
		if readByTheWord(t, row) {
			read++
		}
	}
	if read < 100 {
		t.Error("too few were read:", read)
	}
}

// thrownNode has its counts mostly within the limits, and sometimes a number that is beyond.
func thrownNode(d *dice) (impl.Tree, []int) {
	num := func() int {
		if d.below(400) == 0 {
			return beyond[d.below(len(beyond))]
		}
		if d.below(3) == 0 {
			return numForms[d.below(len(numForms))].x
		}
		return d.below(2000) - 1000
	}
	list := func(count int) []int {
		var nums []int
		for range count {
			nums = append(nums, num())
		}
		return nums
	}
	if d.below(2) == 0 {
		tree := leaf(list(2 * d.below(6))...)
		if d.below(5) == 0 {
			return tree, list(d.below(2))
		}
		return tree, nil
	}
	count := d.below(6)
	near := count
	if d.below(5) == 0 {
		near = max(0, count+d.below(3)-1)
	}
	tree := kidless(count, list(max(0, near-1)))
	for range d.below(8) {
		tree.Buf = append(tree.Buf, impl.Msg{Op: num(), K: num(), V: num()})
	}
	if d.below(20) == 0 {
		tree.Pairs = pairs(list(2)...)
	}
	return tree, list(count)
}

func TestThrownNodesByTheWord(t *testing.T) {
	d := &dice{52}
	fine, refused := 0, 0
	for range 20000 {
		tree, kids := thrownNode(d)
		want, ok := putNodeByTheWord(tree, kids)
		if !ok {
			refused++
			isNotPut(t, "thrown", tree, kids)
			continue
		}
		fine++
		isPutAs(t, "thrown", tree, kids, want)
		isReadAs(t, "thrown", want, tree, kids)
	}
	if fine < 2000 || refused < 2000 {
		t.Error("too few were put or refused:", fine, refused)
	}
}

func TestNodesOfTreesAreReadAsTheyWere(t *testing.T) {
	d := &dice{53}
	var trees []impl.Tree
	for _, c := range goodTrees() {
		trees = append(trees, c.tree)
	}
	for i := range 100 {
		trees = append(trees, grown(d, 1+i%6, 0, 1000))
	}
	for _, tree := range trees {
		for _, part := range partsOf(&tree) {
			var kids []int
			for range part.Kids {
				kids = append(kids, d.below(200))
			}
			b, ok := impl.PutNode(*part, kids)
			if !ok {
				t.Fatal("a node of a tree is not put:", *part)
			}
			isReadAs(t, "a node of a tree", b, zeroKids(*part), kids)
		}
	}
}

func TestBytesWriteIntoNothing(t *testing.T) {
	for _, c := range append(goodNodes(), nodeCase{name: "too many pairs", tree: from(1, 5)}, nodeCase{name: "too few numbers", tree: kidless(2, cuts(10)), kids: []int{1}}, nodeCase{name: "a number beyond", tree: kidless(2, cuts(10)), kids: beyond[:2]}) {
		tree, wholes := roomyTree(c.tree)
		_, kept := roomyTree(c.tree)
		kids, wholeKids := roomy(c.kids, -77)
		keptKids := slices.Clone(wholeKids())
		b, _ := impl.PutNode(tree, kids)
		again, _ := impl.PutNode(tree, kids)
		spoil(b, 77)
		if once, _ := impl.PutNode(tree, kids); !bytes.Equal(again, once) {
			t.Fatal("two answers share memory:", c.name)
		}
		if !reflect.DeepEqual(wholes, kept) || !slices.Equal(wholeKids(), keptKids) {
			t.Fatal("written into, or memory shared with an answer:", c.name)
		}
	}
}

func TestReadingWritesIntoNothing(t *testing.T) {
	for _, c := range goodNodes() {
		for _, row := range [][]byte{formsOf(c.nums...), formsOf(c.nums[1:]...)} {
			b, whole := roomy(row, 2)
			kept := slices.Clone(whole())
			for at := -1; at <= len(b)+1; at++ {
				impl.GetNum(b, at)
			}
			tree, kids, _ := impl.GetNode(b)
			was := copyOf(tree)
			spoil(kids, -99)
			if !sameTree(tree, was) {
				t.Fatal("the numbers stand in the memory of the tree:", c.name)
			}
			spoil(tree.Cuts, -98)
			if slices.Contains(kids, -98) {
				t.Fatal("the cuts stand in the memory of the numbers:", c.name)
			}
			again, _, _ := impl.GetNode(b)
			ownMemory(t, c.name, again)
			if !bytes.Equal(whole(), kept) {
				t.Fatal("written into:", c.name)
			}
		}
	}
	form := impl.PutNum(150)
	spoil(form, 77)
	if got := impl.PutNum(150); string(got) != "\xac\x02" {
		t.Error("two answers share memory")
	}
}

// No count that bytes tell may make an answer ask for memory, or go on for long.
func TestLongBytesEnd(t *testing.T) {
	long := slices.Concat([]byte{0, 4}, make([]byte, 10000000))
	isNotRead(t, "many noughts", long[:7])
	if _, _, ok := impl.GetNode(long); ok {
		t.Error("many noughts were read")
	}
	if x, next, ok := impl.GetNum(bytes.Repeat([]byte{128}, 10000000), 5); x != 0 || next != 0 || ok {
		t.Error("many bytes of 128 were read")
	}
	if x, next, ok := impl.GetNum(long, len(long)-1); x != 0 || next != len(long) || !ok {
		t.Error("the last byte was read as", x, next, ok)
	}
}
