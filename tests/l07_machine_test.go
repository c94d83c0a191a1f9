package tests

import (
	"math"
	"reflect"
	"slices"
	"testing"

	"loop.example/g00234/impl"
)

func cmd(client, seq int, m impl.Msg) impl.Cmd { return impl.Cmd{Client: client, Seq: seq, M: m} }

func cmds(list ...impl.Cmd) []impl.Cmd { return list }

// had: what a command came to that found something; none: one that found nothing.
func had(client, seq, v int) impl.Done {
	return impl.Done{Client: client, Seq: seq, V: v, Has: true}
}

func none(client, seq int) impl.Done { return impl.Done{Client: client, Seq: seq} }

func machine(t impl.Tree, last ...impl.Done) impl.Machine { return impl.Machine{T: t, Last: last} }

func sameMachine(a, b impl.Machine) bool {
	return sameTree(a.T, b.T) && slices.Equal(a.Last, b.Last)
}

// nine: a last one of each client.
func nine(seq int) []impl.Done {
	var list []impl.Done
	for client := 1; client <= 9; client++ {
		list = append(list, had(client, seq, client))
	}
	return list
}

// The limits are written out here as numbers: a limit that moved would show.
var goodCmds = []impl.Cmd{
	cmd(1, 1, put(5, 7)),
	cmd(1, 100000, put(5, 7)),
	cmd(9, 1, add(0, -1000000000)),
	cmd(9, 100000, add(999, 1000000000)),
	cmd(5, 50000, del(0)),
	cmd(2, 99999, del(999)),
	cmd(8, 2, get(0)),
	cmd(3, 3, get(999)),
	cmd(4, 4, put(0, 0)),
}

var badCmds = []impl.Cmd{
	{Seq: 1},
	{Seq: -1},
	{M: impl.Msg{K: 1}},
	{M: impl.Msg{V: 1}},
	{M: impl.Msg{Op: impl.MsPut}},
	{M: get(0)},
	{Seq: 1, M: get(0)},
	{Seq: 1, M: put(5, 7)},
	{Client: 1},
	{Client: 1, Seq: 1},
	{Client: 1, M: put(5, 7)},
	cmd(-1, 1, put(5, 7)),
	cmd(10, 1, put(5, 7)),
	cmd(11, 1, get(5)),
	cmd(math.MaxInt, 1, put(5, 7)),
	cmd(math.MinInt, 1, put(5, 7)),
	cmd(1, 0, put(5, 7)),
	cmd(1, -1, put(5, 7)),
	cmd(9, 100001, put(5, 7)),
	cmd(1, 100001, get(5)),
	cmd(1, math.MaxInt, put(5, 7)),
	cmd(1, math.MinInt, put(5, 7)),
	cmd(10, 100001, put(5, 7)),
	cmd(0, 0, del(5)),
	cmd(-1, 0, impl.Msg{}),
	cmd(10, 0, impl.Msg{}),
}

func TestMachineLimits(t *testing.T) {
	if impl.MaxClient != 9 || impl.MaxSeq != 100000 {
		t.Error("limits", impl.MaxClient, impl.MaxSeq)
	}
}

func TestCmdOk(t *testing.T) {
	if !impl.CmdOk(impl.Cmd{}) {
		t.Error("refused nothing")
	}
	for _, c := range goodCmds {
		if !impl.CmdOk(c) {
			t.Error("refused", c)
		}
	}
	for _, c := range badCmds {
		if impl.CmdOk(c) {
			t.Error("accepted", c)
		}
	}
	for _, m := range goodMsgs {
		if !impl.CmdOk(cmd(1, 1, m)) || impl.CmdOk(cmd(0, 0, m)) || impl.CmdOk(cmd(0, 1, m)) {
			t.Error("a command of", m)
		}
	}
	for _, m := range badMsgs {
		if impl.CmdOk(cmd(1, 1, m)) || impl.CmdOk(cmd(0, 1, m)) || impl.CmdOk(cmd(0, 0, m)) != (m == impl.Msg{}) {
			t.Error("a command of", m)
		}
	}
}

var goodLasts = [][]impl.Done{
	nil,
	{},
	{none(1, 1)},
	{none(9, 100000)},
	{had(1, 100000, -1000000000), had(9, 1, 1000000000)},
	{none(2, 7), had(3, 7, 0), none(4, 6)},
	{had(1, 9, 1), had(2, 8, 1), had(3, 7, 1)},
	{{Client: 4, Seq: 1, V: 5}}, // a V of what has none: its limits alone count
	{{Client: 4, Seq: 1, V: -1000000000}, {Client: 5, Seq: 1, V: 1000000000}},
	{had(4, 1, 1000000000), had(5, 1, -1000000000), had(6, 1, 999999999)},
	nine(1),
	nine(100000),
}

var badLasts = [][]impl.Done{
	{{}},
	{none(0, 1)},
	{none(-1, 1)},
	{none(10, 1)},
	{none(math.MinInt, 1)},
	{none(math.MaxInt, 1)},
	{none(1, 0)},
	{none(1, -1)},
	{none(1, 100001)},
	{none(1, math.MinInt)},
	{none(1, math.MaxInt)},
	{none(1, 1), none(1, 1)},
	{none(1, 1), none(1, 2)},
	{none(1, 2), none(1, 1)},
	{none(2, 1), none(1, 1)},
	{none(1, 1), none(3, 1), none(2, 1)},
	{none(1, 1), none(2, 1), none(2, 1), none(3, 1)},
	{none(3, 1), none(4, 1), none(5, 0)},
	{none(3, 100001), none(4, 1), none(5, 1)},
	{none(0, 1), none(1, 1)},
	{none(8, 1), none(9, 1), none(10, 1)},
	append(nine(5), none(9, 5)),
	append(nine(5), none(10, 5)),
	append([]impl.Done{none(0, 5)}, nine(5)...),
	{{}, none(1, 1)},
	{none(1, 1), {}},
	{had(1, 1, 1000000001)},
	{had(1, 1, -1000000001)},
	{had(9, 100000, math.MaxInt)},
	{had(9, 100000, math.MinInt)},
	{{Client: 1, Seq: 1, V: 1000000001}},
	{{Client: 1, Seq: 1, V: -1000000001}},
	{{Client: 1, Seq: 1, V: math.MaxInt}},
	{{Client: 1, Seq: 1, V: math.MinInt}},
	{had(1, 1, 1000000001), had(2, 1, 1), none(3, 1)},
	{had(1, 1, 1), had(2, 1, -1000000001), none(3, 1)},
	{none(1, 1), had(2, 1, 1), had(3, 1, 1000000001)},
	append(nine(5)[:8], had(9, 5, -1000000001)),
}

func TestMachineOk(t *testing.T) {
	for _, last := range goodLasts {
		for _, c := range goodTrees() {
			if !impl.MachineOk(machine(c.tree, last...)) {
				t.Error("refused", c.name, last)
			}
		}
		for _, c := range slices.Concat(badTrees(), strangeTrees()) {
			if impl.MachineOk(machine(c.tree, last...)) {
				t.Error("accepted", c.name, last)
			}
		}
	}
	for _, last := range badLasts {
		for _, c := range slices.Concat(goodTrees(), badTrees()) {
			if impl.MachineOk(machine(c.tree, last...)) {
				t.Error("accepted", c.name, last)
			}
		}
	}
	if impl.MachineOk(impl.Machine{}) {
		t.Error("accepted the zero value")
	}
}

func TestMachineNew(t *testing.T) {
	if got := impl.MachineNew(); !sameMachine(got, machine(leaf())) || !impl.MachineOk(got) {
		t.Error("new", got)
	}
}

// comes: what a machine and a command come to.
func comes(t *testing.T, name string, m impl.Machine, c impl.Cmd, want impl.Machine, done impl.Done) {
	t.Helper()
	got, d := impl.MachineDo(m, c)
	if !sameMachine(got, want) || d != done {
		t.Error(name, c, "came to", got, d, "and not to", want, done)
	}
	if all := impl.MachineAll(m, cmds(c)); !sameMachine(all, want) {
		t.Error(name, "a row of", c, "came to", all, "and not to", want)
	}
}

func staysWith(t *testing.T, name string, m impl.Machine, c impl.Cmd, done impl.Done) {
	t.Helper()
	comes(t, name, m, c, m, done)
}

func TestMachineDo(t *testing.T) {
	two := func(list ...impl.Msg) impl.Tree {
		return withBuf(fork(cuts(10), leaf(1, 5), leaf(10, 6)), list...)
	}
	for _, c := range []struct {
		name string
		m    impl.Machine
		c    impl.Cmd
		want impl.Machine
	}{
		{"a put into a new one", impl.MachineNew(), cmd(1, 1, put(5, 7)), machine(leaf(5, 7), had(1, 1, 7))},
		{"an add into a new one", impl.MachineNew(), cmd(9, 100000, add(999, -3)), machine(leaf(999, -3), had(9, 100000, -3))},
		{"a del of none", impl.MachineNew(), cmd(2, 1, del(5)), machine(leaf(), none(2, 1))},
		{"a get of none", impl.MachineNew(), cmd(2, 1, get(5)), machine(leaf(), none(2, 1))},
		{"a put of 0", impl.MachineNew(), cmd(2, 1, put(0, 0)), machine(leaf(0, 0), had(2, 1, 0))},
		{"a put over a pair", machine(leaf(5, 7)), cmd(1, 1, put(5, 8)), machine(leaf(5, 8), had(1, 1, 8))},
		{"an add to a pair", machine(leaf(5, 7)), cmd(1, 1, add(5, 8)), machine(leaf(5, 15), had(1, 1, 15))},
		{"an add that goes beyond", machine(leaf(5, 999999999)), cmd(1, 1, add(5, 2)), machine(leaf(5, 1000000000), had(1, 1, 1000000000))},
		{"an add that goes beyond below", machine(leaf(5, -999999999)), cmd(1, 1, add(5, -1000000000)), machine(leaf(5, -1000000000), had(1, 1, -1000000000))},
		{"an add that meets the limit", machine(leaf(5, 999999999)), cmd(1, 1, add(5, 1)), machine(leaf(5, 1000000000), had(1, 1, 1000000000))},
		{"a del of a pair", machine(leaf(5, 7, 6, 8)), cmd(1, 1, del(5)), machine(leaf(6, 8), none(1, 1))},
		{"a get of a pair", machine(leaf(5, 7, 6, 8)), cmd(1, 1, get(6)), machine(leaf(5, 7, 6, 8), had(1, 1, 8))},
		{"a message that is held", machine(two()), cmd(3, 4, add(1, 2)), machine(two(add(1, 2)), had(3, 4, 7))},
		{"a message that is held behind others", machine(two(put(1, 9), add(10, 1))), cmd(3, 4, add(1, 2)), machine(two(put(1, 11), add(10, 1)), had(3, 4, 11))},
		{"a del that is held", machine(two(put(1, 9))), cmd(3, 4, del(1)), machine(two(del(1)), none(3, 4))},
		{"a get of what is held", machine(two(add(10, 1), del(1))), cmd(3, 4, get(10)), machine(two(add(10, 1), del(1)), had(3, 4, 7))},
		{"a get of what is held as none", machine(two(add(10, 1), del(1))), cmd(3, 4, get(1)), machine(two(add(10, 1), del(1)), none(3, 4))},
		{"a get shrinks nothing", machine(two(put(1, 2), put(1, 3))), cmd(3, 4, get(1)), machine(two(put(1, 2), put(1, 3)), had(3, 4, 3))},
		{"a leaf that is full", machine(from(1, 4)), cmd(1, 1, put(5, 5)), machine(fork(cuts(3), from(1, 2), from(3, 3)), had(1, 1, 5))},
	} {
		done := c.want.Last[0]
		comes(t, c.name, c.m, c.c, c.want, done)
		staysWith(t, c.name+", done again", c.want, c.c, done)
		others := machine(c.want.T, slices.DeleteFunc(nine(6), func(d impl.Done) bool { return d.Client == c.c.Client })...)
		others.Last = slices.Insert(others.Last, c.c.Client-1, done)
		staysWith(t, c.name+", done again beside others", others, c.c, done)
	}
}

func TestLastOfEachClient(t *testing.T) {
	tree, then := leaf(5, 7), leaf(5, 8)
	for _, c := range []struct {
		name      string
		last      []impl.Done
		client, i int // where the one of that client stands then
		more      int // how many there are more then
	}{
		{"the first of all", nil, 4, 0, 1},
		{"ahead of others", []impl.Done{had(5, 3, 1), had(7, 3, 2)}, 4, 0, 1},
		{"between others", []impl.Done{had(3, 3, 1), had(5, 3, 2)}, 4, 1, 1},
		{"behind others", []impl.Done{had(1, 3, 1), had(3, 3, 2)}, 4, 2, 1},
		{"between those that came to the limits", []impl.Done{had(3, 3, 1000000000), had(5, 3, -1000000000)}, 4, 1, 1},
		{"in place of its own", []impl.Done{had(1, 3, 1), had(4, 3, 2), none(9, 3)}, 4, 1, 0},
		{"in place of its own alone", []impl.Done{had(4, 3, 2)}, 4, 0, 0},
		{"in place of the first", nine(3), 1, 0, 0},
		{"in place of the last", nine(3), 9, 8, 0},
		{"the ninth", nine(3)[:8], 9, 8, 1},
		{"the first ahead of eight", nine(3)[1:], 1, 0, 1},
	} {
		want := slices.Clone(c.last)
		if c.more > 0 {
			want = slices.Insert(want, c.i, impl.Done{})
		}
		want[c.i] = had(c.client, 4, 8)
		comes(t, c.name, machine(tree, c.last...), cmd(c.client, 4, put(5, 8)), machine(then, want...), want[c.i])
	}
}

func TestNumbersThatAreOlder(t *testing.T) {
	m := machine(leaf(5, 7), had(2, 50, 1), had(3, 10, 4), had(7, 100000, 3))
	for _, message := range msgs(put(5, 8), add(5, 1), add(6, 1), del(5), get(5), get(6)) {
		for _, seq := range []int{1, 2, 8, 9} {
			staysWith(t, "an older one", m, cmd(3, seq, message), impl.Done{})
		}
		staysWith(t, "the same, whatever it is", m, cmd(3, 10, message), had(3, 10, 4))
		then := impl.MapDo(pairs(5, 7), message)
		v, has := impl.MapGet(then, message.K)
		for _, seq := range []int{11, 12, 99999, 100000} {
			done := impl.Done{Client: 3, Seq: seq, V: v, Has: has}
			comes(t, "a newer one", m, cmd(3, seq, message), machine(impl.Tree{Leaf: true, Pairs: then}, had(2, 50, 1), done, had(7, 100000, 3)), done)
		}
		staysWith(t, "one beyond", m, cmd(3, 100001, message), impl.Done{})
		staysWith(t, "the greatest again", m, cmd(7, 100000, message), had(7, 100000, 3))
		staysWith(t, "less than the greatest", m, cmd(7, 99999, message), impl.Done{})
		done := impl.Done{Client: 1, Seq: 1, V: v, Has: has}
		comes(t, "of another client", m, cmd(1, 1, message), machine(impl.Tree{Leaf: true, Pairs: then}, done, had(2, 50, 1), had(3, 10, 4), had(7, 100000, 3)), done)
	}
	for seq := -2; seq < 12; seq++ {
		staysWith(t, "nothing with a number", m, cmd(0, seq, impl.Msg{}), impl.Done{})
	}
	strange := machine(leaf(5, 7), impl.Done{Client: 1, Seq: 4, V: -1000000000}, had(2, 4, 1000000000))
	staysWith(t, "that last, as it stands", strange, cmd(1, 4, get(5)), impl.Done{Client: 1, Seq: 4, V: -1000000000})
	staysWith(t, "that last, as it stands", strange, cmd(2, 4, put(5, 1)), had(2, 4, 1000000000))
}

func TestWhatIsNoCommandTurnsNothing(t *testing.T) {
	for _, c := range goodTrees() {
		for _, last := range goodLasts {
			m := machine(c.tree, last...)
			for _, bad := range append(slices.Clone(badCmds), impl.Cmd{}) {
				staysWith(t, c.name, m, bad, impl.Done{})
			}
			for _, bad := range badMsgs {
				staysWith(t, c.name, m, cmd(4, 1, bad), impl.Done{})
				staysWith(t, c.name, m, cmd(4, 100000, bad), impl.Done{})
			}
			if got := impl.MachineAll(m, badCmds); !sameMachine(got, m) {
				t.Error(c.name, "came to", got)
			}
		}
	}
}

func TestWhatIsNoMachineStays(t *testing.T) {
	tries := append(slices.Clone(goodCmds), cmd(3, 1, put(5, 5)), cmd(2, 1, get(1)), cmd(1, 1, add(1, 1)), impl.Cmd{}, cmd(0, 1, get(1)))
	stays := func(name string, m impl.Machine) {
		t.Helper()
		for _, c := range tries {
			staysWith(t, name, m, c, impl.Done{})
		}
		if got := impl.MachineAll(m, tries); !sameMachine(got, m) {
			t.Error(name, "came to", got)
		}
		if got := impl.MachineAll(m, nil); !sameMachine(got, m) {
			t.Error(name, "came by nothing to", got)
		}
	}
	stays("the zero value", impl.Machine{})
	for _, c := range badTrees() {
		for _, last := range slices.Concat(goodLasts, badLasts[:4]) {
			stays(c.name, machine(c.tree, last...))
		}
	}
	for _, last := range badLasts {
		stays("a new tree", machine(leaf(), last...))
		stays("a leaf", machine(leaf(5, 7), last...))
		stays("stairs", machine(stairs(), last...))
		stays("a deep one", machine(tower(7, 0, 999), last...))
	}
}

func TestTreesThatAreTooDeep(t *testing.T) {
	last := []impl.Done{had(2, 50, 1), had(3, 10, 4)}
	tries := msgs(put(5, 8), add(0, 1), add(998, -3), del(0), del(7), get(0), get(5))
	for depth := 1; depth <= 5; depth++ {
		for _, message := range tries {
			m := machine(tower(depth, 0, 999), last...)
			tree := impl.Inject(m.T, message)
			done := impl.Done{Client: 3, Seq: 11}
			done.V, done.Has = impl.MapGet(impl.MapDo(mapByTheWord(m.T), message), message.K)
			comes(t, "not too deep", m, cmd(3, 11, message), machine(tree, last[0], done), done)
			done.Client = 9
			comes(t, "not too deep", m, cmd(9, 11, message), machine(tree, last[0], last[1], done), done)
		}
	}
	for _, tree := range []impl.Tree{tower(6, 0, 999), tower(7, 0, 999), spine(2, 2, 2, 2, 2), spine(2, 2, 2, 2, 2, 2), spine(4, 4, 4, 4, 4)} {
		m := machine(tree, last...)
		if !impl.MachineOk(m) {
			t.Fatal("no fair question")
		}
		for _, message := range tries {
			staysWith(t, "too deep", m, cmd(3, 11, message), impl.Done{})
			staysWith(t, "too deep, of another client", m, cmd(1, 1, message), impl.Done{})
			staysWith(t, "too deep, and older", m, cmd(3, 9, message), impl.Done{})
			staysWith(t, "too deep, but done", m, cmd(3, 10, message), last[1])
			staysWith(t, "too deep, but done", m, cmd(2, 50, message), last[0])
			staysWith(t, "too deep, and nobody has asked yet", machine(tree), cmd(1, 1, message), impl.Done{})
		}
		staysWith(t, "too deep, and nothing", m, impl.Cmd{}, impl.Done{})
	}
}

// brimful: each leaf has four pairs, and each one above as many messages as it can hold, some for each kid; one more, and they come down all over.
func brimful(low, room int, widths ...int) impl.Tree {
	if len(widths) == 0 {
		return from(low, 4)
	}
	t := impl.Tree{}
	part := room / widths[0]
	for i := range widths[0] {
		if i > 0 {
			t.Cuts = append(t.Cuts, low+i*part)
		}
		t.Kids = append(t.Kids, brimful(low+i*part, part, widths[1:]...))
	}
	for i := range 6 {
		t.Buf = append(t.Buf, add(low+i%widths[0]*part+4+i/widths[0], 1))
	}
	return t
}

// what counts is how deep the tree was: one less deep may come to be too deep, and what was done is told then all the same.
func TestTreesThatComeToBeTooDeep(t *testing.T) {
	for _, c := range []struct {
		widths      []int
		depth, then int
	}{
		{[]int{2, 2, 2, 2}, 5, 5},
		{[]int{2, 2, 2, 3}, 5, 6},
		{[]int{2, 2, 2, 4}, 5, 7},
		{[]int{3, 3, 3}, 4, 6},
		{[]int{4, 3, 3}, 4, 7},
		{[]int{4, 4}, 3, 6},
	} {
		tree, last := brimful(0, 999, c.widths...), had(1, 1, 1)
		for _, message := range msgs(add(5, 2), put(1, 8), del(2), add(900, 1)) {
			then := impl.Inject(tree, message)
			if message == add(5, 2) && (impl.TreeDepth(tree) != c.depth || impl.TreeDepth(then) != c.then) {
				t.Fatal("no fair question:", c.widths, impl.TreeDepth(tree), impl.TreeDepth(then))
			}
			done := impl.Done{Client: 6, Seq: 1}
			done.V, done.Has = impl.MapGet(impl.MapDo(mapByTheWord(tree), message), message.K)
			came := machine(then, last, done)
			comes(t, "not too deep yet", machine(tree, last), cmd(6, 1, message), came, done)
			staysWith(t, "done again", came, cmd(6, 1, message), done)
			staysWith(t, "of another one again", came, cmd(1, 1, message), last)
			if impl.TreeDepth(then) >= 6 {
				staysWith(t, "too deep now", came, cmd(6, 2, message), impl.Done{})
				staysWith(t, "too deep now", came, cmd(7, 1, get(5)), impl.Done{})
			}
		}
	}
}

// Inject leaves a tree as it is that would come to be none: the command is done, and tells what the tree tells then.
func TestWhatInjectLeavesAsItIs(t *testing.T) {
	three, four := brimful(0, 999, 3, 3, 3, 3), brimful(0, 999, 2, 4, 4, 4)
	last := had(4, 1, 3)
	for _, c := range []struct {
		tree impl.Tree
		m    impl.Msg
		done impl.Done
	}{
		{three, put(9, 1), none(5, 2)},
		{three, add(9, 1), none(5, 2)},
		{three, put(1, 9), had(5, 2, 1)},
		{three, add(2, 9), had(5, 2, 2)},
		{four, del(1), had(5, 2, 1)},
		{four, add(0, 8), had(5, 2, 0)},
	} {
		if impl.TreeDepth(c.tree) != 5 || !sameTree(impl.Inject(c.tree, c.m), c.tree) {
			t.Fatal("no fair question:", c.m, impl.TreeDepth(c.tree))
		}
		comes(t, "left as it is", machine(c.tree, last), cmd(5, 2, c.m), machine(c.tree, last, c.done), c.done)
		comes(t, "left as it is", machine(c.tree, last, none(5, 1)), cmd(5, 2, c.m), machine(c.tree, last, c.done), c.done)
	}
}

func cmdOkByTheWord(c impl.Cmd) bool {
	if c.Client == 0 {
		return c.Seq == 0 && c.M.Op == 0 && c.M.K == 0 && c.M.V == 0
	}
	return c.Client > 0 && c.Client < 10 && c.Seq > 0 && c.Seq < 100001 && impl.MsgOk(c.M)
}

func machineOkByTheWord(m impl.Machine) bool {
	before := 0
	for _, d := range m.Last {
		if d.Client <= before || d.Client > 9 || d.Seq < 1 || d.Seq > 100000 || d.V < -1000000000 || d.V > 1000000000 {
			return false
		}
		before = d.Client
	}
	return okByTheWord(m.T)
}

// machineDoByTheWord does what the chapter says of MachineDo, sentence by sentence.
func machineDoByTheWord(m impl.Machine, c impl.Cmd) (impl.Machine, impl.Done) {
	if !machineOkByTheWord(m) || !cmdOkByTheWord(c) || c.Client == 0 {
		return m, impl.Done{}
	}
	var ahead, behind []impl.Done
	for _, d := range m.Last {
		switch {
		case d.Client < c.Client:
			ahead = append(ahead, d)
		case d.Client > c.Client:
			behind = append(behind, d)
		case d.Seq > c.Seq:
			return m, impl.Done{}
		case d.Seq == c.Seq:
			return m, d
		}
	}
	if deepest(m.T) >= 6 {
		return m, impl.Done{}
	}
	tree := m.T
	if c.M.Op != impl.MsGet {
		tree = injectByTheWord(tree, c.M)
	}
	d := impl.Done{Client: c.Client, Seq: c.Seq}
	for _, p := range mapByTheWord(tree) {
		if p.K == c.M.K {
			d.V, d.Has = p.V, true
		}
	}
	return machine(tree, slices.Concat(ahead, []impl.Done{d}, behind)...), d
}

// byTheWord: P7, of one machine and one command. It tells what came.
func byTheWord(t *testing.T, m impl.Machine, c impl.Cmd) (impl.Machine, impl.Done) {
	t.Helper()
	if impl.CmdOk(c) != cmdOkByTheWord(c) || impl.MachineOk(m) != machineOkByTheWord(m) {
		t.Fatal("not as by the word:", m, c)
	}
	got, d := impl.MachineDo(m, c)
	want, done := machineDoByTheWord(m, c)
	if !sameMachine(got, want) || d != done {
		t.Fatal(c, "came to", got, d, "and by the word", want, done, "of", m)
	}
	if impl.MachineOk(got) != impl.MachineOk(m) {
		t.Fatal(c, "came to no machine:", got, "of", m)
	}
	again, same := impl.MachineDo(got, c)
	if !sameMachine(again, got) || same != d {
		t.Fatal(c, "came again to", again, same, "and first to", got, d)
	}
	return got, d
}

// thrownCmd: of few clients, whose numbers rise, and often fall behind.
func thrownCmd(d *dice, seqs *[10]int, keys int) impl.Cmd {
	client := 1 + d.below(9)
	if d.below(3) > 0 {
		client = 1 + d.below(3)
	}
	seq := seqs[client] + 1
	switch d.below(8) {
	case 0:
		seq = seqs[client]
	case 1:
		seq -= d.below(4)
	case 2:
		seq += d.below(4)
	}
	m := thrown(d, 0, keys)
	if d.below(5) == 0 {
		m = get(m.K)
	}
	seqs[client] = max(seqs[client], seq)
	if d.below(30) == 0 {
		return badCmds[d.below(len(badCmds))]
	}
	if d.below(30) == 0 {
		return impl.Cmd{}
	}
	return cmd(client, seq, m)
}

func thrownCmds(d *dice, count, keys int) []impl.Cmd {
	var seqs [10]int
	var list []impl.Cmd
	for range count {
		list = append(list, thrownCmd(d, &seqs, keys))
	}
	return list
}

// a row one by one: by the word, and by a plain map in which each command that is new is done once.
func TestWhatWasDoneIsNotDoneAgain(t *testing.T) {
	d := &dice{71}
	done, again, older, deep := 0, 0, 0, 0
	for _, keys := range []int{1, 3, 9, 30, 60, 100, 200, 1000} {
		m := impl.MachineNew()
		var all []impl.Pair
		last := map[int]impl.Done{}
		var rows []impl.Cmd
		for _, c := range thrownCmds(d, 400, keys) {
			rows = append(rows, c)
			full := impl.TreeDepth(m.T) >= 6
			next, told := byTheWord(t, m, c)
			was, asked := last[c.Client]
			switch {
			case !cmdOkByTheWord(c) || c.Client == 0:
				was = impl.Done{}
			case asked && was.Seq > c.Seq:
				was, older = impl.Done{}, older+1
			case asked && was.Seq == c.Seq:
				again++
			case full:
				was, deep = impl.Done{}, deep+1
			default:
				all = impl.MapDo(all, c.M)
				v, has := impl.MapGet(all, c.M.K)
				was = impl.Done{Client: c.Client, Seq: c.Seq, V: v, Has: has}
				last[c.Client], done = was, done+1
			}
			if told != was || !slices.Equal(mapByTheWord(next.T), all) || len(next.Last) != len(last) {
				t.Fatal(c, "told", told, "and not", was, "of", m)
			}
			m = next
		}
		if got := impl.MachineAll(impl.MachineNew(), rows); !sameMachine(got, m) {
			t.Fatal("all at once came to", got, "and one by one to", m)
		}
	}
	if done < 1000 || again < 100 || older < 100 {
		t.Error("the rows are too much alike:", done, again, older, deep)
	}
}

func TestRowsAndTheirParts(t *testing.T) {
	d := &dice{72}
	for i := range 60 {
		row := thrownCmds(d, 5+d.below(60), []int{2, 20, 200}[i%3])
		start := impl.MachineNew()
		if i%2 == 1 {
			start = machine(grown(d, 1+d.below(6), 0, 1000), goodLasts[d.below(len(goodLasts))]...)
		}
		whole := impl.MachineAll(start, row)
		at, again, each := d.below(len(row)+1), d.below(len(row)+1), start
		for _, c := range row {
			each, _ = impl.MachineDo(each, c)
		}
		if !sameMachine(each, whole) {
			t.Fatal("one by one came to", each, "and all to", whole)
		}
		if got := impl.MachineAll(impl.MachineAll(start, row[:at]), row[at:]); !sameMachine(got, whole) {
			t.Fatal("a part and the rest came to", got, "and all to", whole)
		}
		if got := impl.MachineAll(whole, row); !sameMachine(got, whole) {
			t.Fatal("all of it again came to", got, "and once to", whole)
		}
		if got := impl.MachineAll(whole, shuffled(d, row)); !sameMachine(got, whole) {
			t.Fatal("all of it again in any order came to", got, "and once to", whole)
		}
		part := row[:max(at, again)]
		if got := impl.MachineAll(start, slices.Concat(part, part[min(at, again):], row[len(part):])); !sameMachine(got, whole) {
			t.Fatal("a part done twice came to", got, "and once to", whole)
		}
		if got := impl.MachineAll(start, nil); !sameMachine(got, start) {
			t.Fatal("no commands came to", got)
		}
	}
}

func TestDoneBehindOthersIsNotDoneAgain(t *testing.T) {
	first := cmd(5, 7, add(3, 10))
	m, done := impl.MachineDo(impl.MachineNew(), first)
	if done != had(5, 7, 10) {
		t.Fatal("came to", done)
	}
	for client := 1; client <= 9; client++ {
		for seq := 1; seq <= 3; seq++ {
			if client == 5 {
				continue
			}
			m, _ = impl.MachineDo(m, cmd(client, seq, add(3, seq)))
			staysWith(t, "behind others", m, first, had(5, 7, 10))
		}
	}
	if v, _ := impl.TreeGet(m.T, 3); v != 58 {
		t.Error("told", v)
	}
	comes(t, "one more of its own", m, cmd(5, 8, get(3)), machine(m.T, slices.Concat(m.Last[:4], []impl.Done{had(5, 8, 58)}, m.Last[5:])...), had(5, 8, 58))
	m, _ = impl.MachineDo(m, cmd(5, 8, get(3)))
	staysWith(t, "older now", m, first, impl.Done{})
}

func TestGrownMachinesByTheWord(t *testing.T) {
	t.Parallel()
	d := &dice{73}
	var depths [8]int
	for i := range 700 {
		m := machine(grown(d, 1+i%7, 0, 1000), goodLasts[d.below(len(goodLasts))]...)
		if i%5 == 0 {
			m.T = marred(d, m.T)
		}
		if i%6 == 0 {
			m.Last = badLasts[d.below(len(badLasts))]
		}
		var seqs [10]int
		for _, last := range m.Last {
			if last.Client >= 1 && last.Client <= 9 && last.Seq <= 100000 {
				seqs[last.Client] = last.Seq
			}
		}
		for range 8 {
			depths[impl.TreeDepth(m.T)]++
			m, _ = byTheWord(t, m, thrownCmd(d, &seqs, 1000))
		}
	}
	if slices.Min(depths[:]) < 100 {
		t.Error("the machines are too much alike:", depths)
	}
}

func TestMachineSame(t *testing.T) {
	held := withBuf(fork(cuts(10), leaf(1, 5), leaf(10, 6)), add(1, 2), del(10))
	last := []impl.Done{had(2, 50, 1), none(3, 10)}
	with := func(i int, d impl.Done) impl.Machine {
		list := slices.Clone(last)
		list[i] = d
		return machine(leaf(1, 7), list...)
	}
	bad := fork(cuts(5), leaf(1, 7))
	for _, c := range []struct {
		name string
		a, b impl.Machine
		want bool
	}{
		{"new ones", impl.MachineNew(), impl.MachineNew(), true},
		{"alike", machine(leaf(1, 7), last...), machine(leaf(1, 7), slices.Clone(last)...), true},
		{"one map, two forms", machine(leaf(1, 7), last...), machine(held, last...), true},
		{"one map, drained or not", machine(impl.Drain(stairs()), last...), machine(stairs(), last...), true},
		{"no pairs, two forms", machine(leaf()), machine(fork(cuts(5), leaf(), leaf())), true},
		{"another V", machine(leaf(1, 7), last...), machine(leaf(1, 8), last...), false},
		{"another K", machine(leaf(1, 7), last...), machine(leaf(2, 7), last...), false},
		{"one pair more", machine(leaf(1, 7), last...), machine(leaf(1, 7, 2, 7), last...), false},
		{"no pairs", machine(leaf(1, 7), last...), machine(leaf(), last...), false},
		{"one message more", machine(held, last...), machine(withBuf(held, add(1, 2)), last...), false},
		{"another client", with(0, had(2, 50, 1)), with(0, had(1, 50, 1)), false},
		{"another number", with(0, had(2, 50, 1)), with(0, had(2, 51, 1)), false},
		{"another V of the last", with(0, had(2, 50, 1)), with(0, had(2, 50, 2)), false},
		{"another Has of the last", with(1, none(3, 10)), with(1, had(3, 10, 0)), false},
		{"the last of one more client", machine(leaf(1, 7), last...), machine(leaf(1, 7), append(slices.Clone(last), none(4, 1))...), false},
		{"the last of one client less", machine(leaf(1, 7), last...), machine(leaf(1, 7), last[1:]...), false},
		{"no last", machine(leaf(1, 7), last...), machine(leaf(1, 7)), false},
		{"an empty last and none", machine(leaf(1, 7)), machine(leaf(1, 7), []impl.Done{}...), true},
		{"the last in another order", machine(leaf(1, 7), last...), machine(leaf(1, 7), last[1], last[0]), false},
		{"the zero values", impl.Machine{}, impl.Machine{}, true},
		{"the zero value and a new one", impl.Machine{}, impl.MachineNew(), true}, // what is no tree has the map of none
		{"no tree, and an empty one", machine(bad, last...), machine(leaf(), last...), true},
		{"no tree, and one that tells something", machine(bad, last...), machine(leaf(1, 7), last...), false},
		{"two that are no trees", machine(bad, last...), machine(fork(nil), last...), true},
		{"no trees, and another last", machine(bad, last...), machine(bad, last[:1]...), false},
		{"a last that is none, twice", machine(leaf(1, 7), none(0, -4), none(0, -4)), machine(leaf(1, 7), none(0, -4), none(0, -4)), true},
		{"a last that is none, and another one", machine(leaf(1, 7), none(0, -4)), machine(leaf(1, 7), none(0, -5)), false},
	} {
		if impl.MachineSame(c.a, c.b) != c.want || impl.MachineSame(c.b, c.a) != c.want {
			t.Error(c.name, "told", !c.want)
		}
		if !impl.MachineSame(c.a, c.a) || !impl.MachineSame(c.b, c.b) {
			t.Error(c.name, "are not what they are")
		}
	}
}

func TestMachinesByTheirMapsAreSame(t *testing.T) {
	d := &dice{74}
	for i := range 200 {
		m := machine(grown(d, 1+i%5, 0, 60), nine(3)[:d.below(10)]...)
		built, ok := impl.Build(mapByTheWord(m.T))
		if !ok {
			continue
		}
		other := machine(built, m.Last...)
		if !impl.MachineSame(m, other) {
			t.Fatal(m, "and", other, "tell the same")
		}
		var seqs [10]int
		seqs[1], seqs[2], seqs[3] = 3, 3, 3
		for range 10 {
			c := thrownCmd(d, &seqs, 60)
			a, da := impl.MachineDo(m, c)
			b, db := impl.MachineDo(other, c)
			if !impl.MachineSame(a, b) || da != db {
				t.Fatal(c, "came to", a, da, "and to", b, db)
			}
			if want := slices.Equal(mapByTheWord(a.T), mapByTheWord(m.T)) && slices.Equal(a.Last, m.Last); impl.MachineSame(a, m) != want {
				t.Fatal(c, "came to", a, "of", m)
			}
			m, other = a, b
		}
	}
}

// roomyMachine: the same machine, each list of which has room behind it that is filled; and these lists with their room.
func roomyMachine(m impl.Machine) (impl.Machine, []any) {
	tree, wholes := roomyTree(m.T)
	last, whole := roomy(m.Last, none(-77, -77))
	return machine(tree, last...), append(wholes, whole())
}

// ownMachine: no list of an answer stands in the memory of another one.
func ownMachine(t *testing.T, name string, m impl.Machine) {
	t.Helper()
	fillRoom(m.Last, none(-66, -66))
	spoil(m.Last, none(-88, -88))
	ownMemory(t, name, m.T)
}

func TestMachinesAreNotWrittenInto(t *testing.T) {
	lasts := [][]impl.Done{nil, nine(3), {had(1, 1, 4)}, {none(4, 2), none(2, 4)}, {none(1, 0)}}
	row := cmds(cmd(2, 4, put(9, 1)), cmd(1, 4, add(1, 1)), cmd(3, 3, get(1)), cmd(3, 2, del(1)), impl.Cmd{}, cmd(1, 0, get(1)), cmd(9, 9, get(1)))
	trees := slices.Concat(goodTrees(), badTrees(), sharing(), []treeCase{
		{name: "a full leaf", tree: from(1, 4)},
		{name: "too deep", tree: tower(6, 0, 999)},
		{name: "one short of growing", tree: spine(4, 4, 4, 4)},
	})
	for _, c := range trees {
		for _, last := range lasts {
			m, wholes := roomyMachine(machine(c.tree, last...))
			_, kept := roomyMachine(m)
			list, whole := roomy(row, cmd(7, 7, get(7)))
			for _, try := range row {
				impl.CmdOk(try)
				got, _ := impl.MachineDo(m, try)
				ownMachine(t, c.name, got)
				got, _ = impl.MachineDo(machine(c.tree, last...), try)
				ownMachine(t, c.name, got)
			}
			impl.MachineOk(m)
			impl.MachineSame(m, m)
			ownMachine(t, c.name, impl.MachineAll(m, list))
			ownMachine(t, c.name, impl.MachineAll(m, nil))
			ownMachine(t, c.name, impl.MachineAll(machine(c.tree, last...), list))
			fill := cmd(7, 7, get(7))
			if !reflect.DeepEqual(wholes, kept) || !slices.Equal(whole(), append(slices.Clone(row), fill, fill, fill)) {
				t.Fatal("written into, or memory shared with an answer:", c.name, last)
			}
		}
	}
	ownMachine(t, "a new one", impl.MachineNew())
	if got := impl.MachineNew(); !sameMachine(got, machine(leaf())) {
		t.Error("two new ones share memory:", got)
	}
}

func TestStrangeMachinesStay(t *testing.T) {
	many := make([]impl.Done, 100000)
	for i := range many {
		many[i] = none(i+1, 1)
	}
	for _, c := range append(strangeTrees(), treeCase{name: "one met ever again", tree: manyfold()}) {
		m := machine(c.tree, many...)
		if impl.MachineOk(m) || !impl.MachineSame(m, m) || !impl.MachineSame(m, machine(leaf(), many...)) || impl.MachineSame(m, machine(leaf(5, 5), many...)) {
			t.Error(c.name, "is no machine")
		}
		got, done := impl.MachineDo(m, cmd(1, 2, put(5, 5)))
		for _, came := range []impl.Machine{got, impl.MachineAll(m, thrownCmds(&dice{75}, 1000, 30))} {
			depth := 12
			if len(c.tree.Kids) > 2 {
				depth = 1
			}
			if !sameDown(depth, came.T, c.tree) || !slices.Equal(came.Last, many) || done != (impl.Done{}) {
				t.Error(c.name, "did not stay")
			}
		}
	}
	m := machine(leaf(5, 5), many...)
	staysWith(t, "a very long last", m, cmd(1, 2, put(5, 6)), impl.Done{})
}

func TestLongRowsOfCommands(t *testing.T) {
	m := impl.MachineNew()
	var row []impl.Cmd
	for i := range 20000 {
		row = append(row, cmd(1+i%9, 1+i/9, add(i%40, 1)))
	}
	m = impl.MachineAll(m, row)
	for _, p := range impl.TreeMap(m.T) {
		if p.V != 500 {
			t.Error("told", p)
		}
	}
	if len(m.Last) != 9 || !impl.MachineSame(impl.MachineAll(m, row), m) {
		t.Error("came to", m)
	}
}
