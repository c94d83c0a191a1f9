package tests

import (
	"math"
	"slices"
	"testing"

	"loop.example/g00234/impl"
)

func put(k, v int) impl.Msg { return impl.Msg{Op: impl.MsPut, K: k, V: v} }

func del(k int) impl.Msg { return impl.Msg{Op: impl.MsDel, K: k} }

func add(k, v int) impl.Msg { return impl.Msg{Op: impl.MsAdd, K: k, V: v} }

func get(k int) impl.Msg { return impl.Msg{Op: impl.MsGet, K: k} }

// pairs: a list of K, V, K, V ..
func pairs(numbers ...int) []impl.Pair {
	var list []impl.Pair
	for i := 0; i+1 < len(numbers); i += 2 {
		list = append(list, impl.Pair{K: numbers[i], V: numbers[i+1]})
	}
	return list
}

// roomy: the same list with room behind it, and that room filled, so that a write there shows.
func roomy[E any](list []E, filler E) ([]E, func() []E) {
	whole := append(slices.Clone(list), filler, filler, filler)
	return whole[:len(list)], func() []E { return whole }
}

// The limits are written out here as numbers: a limit that moved would show.
var badMsgs = []impl.Msg{
	{},
	{Op: 5, K: 1},
	{Op: -1, K: 1},
	{Op: math.MaxInt, K: 1},
	{Op: math.MinInt, K: 1},
	{Op: impl.MsPut, K: -1, V: 1},
	{Op: impl.MsPut, K: 1000, V: 1},
	{Op: impl.MsPut, K: 1, V: 1000000001},
	{Op: impl.MsPut, K: 1, V: -1000000001},
	{Op: impl.MsPut, K: math.MinInt, V: math.MinInt},
	{Op: impl.MsPut, K: math.MaxInt, V: math.MaxInt},
	{Op: impl.MsPut, K: 1, V: math.MinInt},
	{Op: impl.MsPut, K: 1, V: math.MaxInt},
	{Op: impl.MsAdd, K: -1, V: 1},
	{Op: impl.MsAdd, K: 1000, V: 1},
	{Op: impl.MsAdd, K: 1, V: 1000000001},
	{Op: impl.MsAdd, K: 1, V: -1000000001},
	{Op: impl.MsAdd, K: 1, V: math.MinInt},
	{Op: impl.MsAdd, K: 1, V: math.MaxInt},
	{Op: impl.MsDel, K: -1},
	{Op: impl.MsDel, K: 1000},
	{Op: impl.MsDel, K: 1, V: 1},
	{Op: impl.MsDel, K: 1, V: -1},
	{Op: impl.MsGet, K: -1},
	{Op: impl.MsGet, K: 1000},
	{Op: impl.MsGet, K: 1, V: 1},
	{Op: impl.MsGet, K: 1, V: -1},
}

var goodMsgs = []impl.Msg{
	{Op: impl.MsPut},
	{Op: impl.MsPut, K: 999, V: 1000000000},
	{Op: impl.MsPut, K: 0, V: -1000000000},
	{Op: impl.MsPut, K: 500, V: 12},
	{Op: impl.MsAdd},
	{Op: impl.MsAdd, K: 999, V: 1000000000},
	{Op: impl.MsAdd, K: 0, V: -1000000000},
	{Op: impl.MsDel},
	{Op: impl.MsDel, K: 999},
	{Op: impl.MsGet},
	{Op: impl.MsGet, K: 999},
}

var badMaps = [][]impl.Pair{
	pairs(-1, 0),
	pairs(1000, 0),
	pairs(0, 1000000001),
	pairs(0, -1000000001),
	pairs(math.MinInt, 0),
	pairs(math.MaxInt, 0),
	pairs(0, math.MinInt),
	pairs(0, math.MaxInt),
	pairs(2, 0, 2, 0),
	pairs(2, 7, 1, 8),
	pairs(1, 1, 3, 3, 2, 2),
	pairs(1, 1, 2, 2, 2, 3),
	pairs(0, 0, 1, 1, 1000, 2),
	pairs(-1, 0, 1, 1),
	pairs(1, 1, 2, 1000000001),
}

var goodMaps = [][]impl.Pair{
	nil,
	{},
	pairs(0, 0),
	pairs(999, 0),
	pairs(0, 1000000000, 999, -1000000000),
	pairs(1, 10, 2, 20, 3, 30),
	pairs(0, 5, 1, -5, 2, 999999999, 500, 1, 999, 7),
}

func TestLimits(t *testing.T) {
	if impl.MaxNum != 1000000000 || impl.MaxKey != 999 {
		t.Error("limits", impl.MaxNum, impl.MaxKey)
	}
	if impl.MsPut != 1 || impl.MsDel != 2 || impl.MsAdd != 3 || impl.MsGet != 4 {
		t.Error("kinds of messages")
	}
}

func TestMsgOk(t *testing.T) {
	for _, m := range goodMsgs {
		if !impl.MsgOk(m) {
			t.Error("refused", m)
		}
	}
	for _, m := range badMsgs {
		if impl.MsgOk(m) {
			t.Error("accepted", m)
		}
	}
}

func TestMapOk(t *testing.T) {
	for _, list := range goodMaps {
		if !impl.MapOk(list) {
			t.Error("refused", list)
		}
	}
	for _, list := range badMaps {
		if impl.MapOk(list) {
			t.Error("accepted", list)
		}
	}
	var all []impl.Pair
	for k := 0; k <= impl.MaxKey; k++ {
		all = append(all, impl.Pair{K: k, V: k})
	}
	if !impl.MapOk(all) {
		t.Error("refused all keys")
	}
}

func TestMapGet(t *testing.T) {
	for _, c := range []struct {
		list []impl.Pair
		k, v int
		ok   bool
	}{
		{nil, 0, 0, false},
		{[]impl.Pair{}, 0, 0, false},
		{pairs(1, 10, 3, 30), 1, 10, true},
		{pairs(1, 10, 3, 30), 3, 30, true},
		{pairs(1, 10, 3, 30), 2, 0, false},
		{pairs(1, 10, 3, 30), 0, 0, false},
		{pairs(1, 10, 3, 30), 4, 0, false},
		{pairs(0, 0), 0, 0, true},
		{pairs(999, -7), 999, -7, true},
		// What is not MapOk is gone through all the same: the first one counts.
		{pairs(5, 1, 2, 2, 5, 3), 5, 1, true},
		{pairs(5, 1, 2, 2, 5, 3), 2, 2, true},
		{pairs(9, 1, 8, 2, 7, 3), 7, 3, true},
		{pairs(9, 1, 8, 2, 7, 3), 9, 1, true},
		{pairs(-1, 4), -1, 4, true},
		{pairs(1000, math.MinInt), 1000, math.MinInt, true},
		{pairs(math.MaxInt, 6), math.MaxInt, 6, true},
		{pairs(1, 1), math.MinInt, 0, false},
	} {
		if v, ok := impl.MapGet(c.list, c.k); v != c.v || ok != c.ok {
			t.Error(c.list, c.k, "told", v, ok)
		}
	}
}

func TestMapDo(t *testing.T) {
	const most = impl.MaxNum
	for _, c := range []struct {
		list []impl.Pair
		m    impl.Msg
		want []impl.Pair
	}{
		{nil, put(5, 7), pairs(5, 7)},
		{nil, put(0, -most), pairs(0, -most)},
		{nil, put(999, most), pairs(999, most)},
		{pairs(1, 1, 3, 3), put(2, 2), pairs(1, 1, 2, 2, 3, 3)},
		{pairs(1, 1, 3, 3), put(0, 9), pairs(0, 9, 1, 1, 3, 3)},
		{pairs(1, 1, 3, 3), put(4, 9), pairs(1, 1, 3, 3, 4, 9)},
		{pairs(1, 1, 3, 3), put(3, 0), pairs(1, 1, 3, 0)},
		{pairs(1, 1, 3, 3), put(1, -8), pairs(1, -8, 3, 3)},
		{nil, del(5), nil},
		{pairs(5, 1), del(5), nil},
		{pairs(1, 1, 2, 2, 3, 3), del(1), pairs(2, 2, 3, 3)},
		{pairs(1, 1, 2, 2, 3, 3), del(2), pairs(1, 1, 3, 3)},
		{pairs(1, 1, 2, 2, 3, 3), del(3), pairs(1, 1, 2, 2)},
		{pairs(1, 1, 3, 3), del(2), pairs(1, 1, 3, 3)},
		{nil, add(5, 7), pairs(5, 7)},
		{nil, add(5, 0), pairs(5, 0)},
		{pairs(5, 7), add(5, -7), pairs(5, 0)},
		{pairs(4, 1, 6, 1), add(5, -2), pairs(4, 1, 5, -2, 6, 1)},
		{pairs(4, 1, 6, 1), add(6, -2), pairs(4, 1, 6, -1)},
		{pairs(1, most-1), add(1, 1), pairs(1, most)},
		{pairs(1, most-1), add(1, 2), pairs(1, most)},
		{pairs(1, most), add(1, most), pairs(1, most)},
		{pairs(1, most), add(1, -1), pairs(1, most-1)},
		{pairs(1, 1-most), add(1, -1), pairs(1, -most)},
		{pairs(1, 1-most), add(1, -2), pairs(1, -most)},
		{pairs(1, -most), add(1, -most), pairs(1, -most)},
		{pairs(1, -most), add(1, 1), pairs(1, 1-most)},
		{pairs(1, -most), add(1, most), pairs(1, 0)},
		{pairs(1, 1), get(1), pairs(1, 1)},
		{pairs(1, 1), get(2), pairs(1, 1)},
		{nil, get(0), nil},
	} {
		if got := impl.MapDo(c.list, c.m); !slices.Equal(got, c.want) {
			t.Error(c.list, c.m, "became", got)
		}
	}
}

func TestMapDoLeavesWhatIsNotOk(t *testing.T) {
	for _, list := range badMaps {
		for _, m := range slices.Concat(goodMsgs, badMsgs) {
			if got := impl.MapDo(list, m); !slices.Equal(got, list) {
				t.Error(list, m, "became", got)
			}
		}
	}
	for _, list := range goodMaps {
		for _, m := range badMsgs {
			if got := impl.MapDo(list, m); !slices.Equal(got, list) {
				t.Error(list, m, "became", got)
			}
		}
	}
}

func TestMessageTurnsItsKeyAlone(t *testing.T) {
	for _, list := range goodMaps {
		for _, m := range goodMsgs {
			got := impl.MapDo(list, m)
			if !impl.MapOk(got) {
				t.Error(list, m, "is no map any more:", got)
			}
			for k := -1; k <= impl.MaxKey+1; k++ {
				v, ok := impl.MapGet(list, k)
				w, still := impl.MapGet(got, k)
				if k != m.K && (v != w || ok != still) {
					t.Error(list, m, "turned", k)
				}
			}
		}
	}
}

func TestMapAll(t *testing.T) {
	const most = impl.MaxNum
	for _, c := range []struct {
		list []impl.Pair
		msgs []impl.Msg
		want []impl.Pair
	}{
		{nil, nil, nil},
		{pairs(1, 1), nil, pairs(1, 1)},
		{nil, []impl.Msg{put(2, 2), put(1, 1), put(2, 3)}, pairs(1, 1, 2, 3)},
		{nil, []impl.Msg{put(1, 1), del(1), add(1, 5)}, pairs(1, 5)},
		{nil, []impl.Msg{del(1), put(1, 1)}, pairs(1, 1)},
		{nil, []impl.Msg{put(1, 1), {Op: impl.MsDel, K: 1, V: 1}, {}, add(1, 1)}, pairs(1, 2)},
		// The limit holds at each step, not at the end alone.
		{pairs(1, most), []impl.Msg{add(1, 5), add(1, -5)}, pairs(1, most-5)},
		{pairs(1, -most), []impl.Msg{add(1, -5), add(1, 5)}, pairs(1, 5-most)},
		{pairs(2, 0, 1, 0), nil, pairs(2, 0, 1, 0)},
		{pairs(2, 0, 1, 0), []impl.Msg{del(2)}, pairs(2, 0, 1, 0)},
		{pairs(0, most+1), []impl.Msg{put(0, 1), del(0)}, pairs(0, most+1)},
	} {
		if got := impl.MapAll(c.list, c.msgs); !slices.Equal(got, c.want) {
			t.Error(c.list, c.msgs, "became", got)
		}
	}
}

func TestMapAllIsMapDoByEach(t *testing.T) {
	for _, msgs := range rows() {
		for _, list := range slices.Concat(goodMaps, badMaps) {
			want := list
			for _, m := range msgs {
				want = impl.MapDo(want, m)
			}
			if got := impl.MapAll(list, msgs); !slices.Equal(got, want) {
				t.Fatal(list, msgs, "became", got, "and one by one", want)
			}
		}
	}
}

func TestShrink(t *testing.T) {
	const most = impl.MaxNum
	for _, c := range []struct{ msgs, want []impl.Msg }{
		{nil, nil},
		{[]impl.Msg{}, nil},
		{[]impl.Msg{get(1), get(2)}, nil},
		{badMsgs, nil},
		{[]impl.Msg{put(1, 1)}, []impl.Msg{put(1, 1)}},
		{[]impl.Msg{put(0, 1), put(0, 2)}, []impl.Msg{put(0, 2)}},
		{[]impl.Msg{put(999, 1), del(999)}, []impl.Msg{del(999)}},
		{[]impl.Msg{del(1), del(1)}, []impl.Msg{del(1)}},
		{[]impl.Msg{del(1), put(1, 4)}, []impl.Msg{put(1, 4)}},
		{[]impl.Msg{add(1, 1), add(1, 2), del(1)}, []impl.Msg{del(1)}},
		{[]impl.Msg{add(1, 1), put(1, 5), add(1, 2)}, []impl.Msg{put(1, 7)}},
		// Adds without a put ahead are not one: the limit may stand between them.
		{[]impl.Msg{add(1, 1), add(1, 2)}, []impl.Msg{add(1, 1), add(1, 2)}},
		{[]impl.Msg{del(1), add(1, 1), add(1, 2)}, []impl.Msg{del(1), add(1, 1), add(1, 2)}},
		{[]impl.Msg{put(1, 9), del(1), add(1, 1)}, []impl.Msg{del(1), add(1, 1)}},
		{[]impl.Msg{put(1, 1), add(1, 2), add(1, 3)}, []impl.Msg{put(1, 6)}},
		{[]impl.Msg{put(1, 1), add(1, 0)}, []impl.Msg{put(1, 1)}},
		{[]impl.Msg{put(1, most), add(1, 1), add(1, -1)}, []impl.Msg{put(1, most-1)}},
		{[]impl.Msg{put(1, -most), add(1, -1), add(1, 1)}, []impl.Msg{put(1, 1-most)}},
		{[]impl.Msg{put(1, most-1), add(1, 1)}, []impl.Msg{put(1, most)}},
		// What is one stands where the put stood; the others keep their order.
		{[]impl.Msg{put(2, 1), add(1, 1), put(3, 1), add(3, 1), del(0), add(2, 1)}, []impl.Msg{put(2, 2), add(1, 1), put(3, 2), del(0)}},
		{[]impl.Msg{put(1, 1), put(2, 2), put(1, 3)}, []impl.Msg{put(2, 2), put(1, 3)}},
		{[]impl.Msg{add(3, 1), add(1, 1), add(2, 1), add(1, 1)}, []impl.Msg{add(3, 1), add(1, 1), add(2, 1), add(1, 1)}},
		// What is not MsgOk overrules nothing and adds nothing.
		{[]impl.Msg{add(1, 1), {Op: impl.MsDel, K: 1, V: 1}}, []impl.Msg{add(1, 1)}},
		{[]impl.Msg{add(1, 1), put(1, most+1), get(1)}, []impl.Msg{add(1, 1)}},
		{[]impl.Msg{put(1, 1), add(1, most+1), add(1, 1)}, []impl.Msg{put(1, 2)}},
		{[]impl.Msg{put(1, 1), get(1), add(1, 1), get(1)}, []impl.Msg{put(1, 2)}},
	} {
		if got := impl.Shrink(c.msgs); !slices.Equal(got, c.want) {
			t.Error(c.msgs, "shrank to", got)
		}
	}
}

// rows: all rows of up to four of a few messages, which meet on two keys and at both limits.
func rows() [][]impl.Msg {
	few := []impl.Msg{put(0, impl.MaxNum), put(0, 1-impl.MaxNum), del(0), add(0, 2), add(0, -3), get(0), put(7, 1), del(7), add(7, impl.MaxNum), {Op: impl.MsDel, K: 0, V: 1}}
	all := [][]impl.Msg{nil}
	for from, length := 0, 1; length <= 4; length++ {
		upTo := len(all)
		for _, row := range all[from:upTo] {
			for _, m := range few {
				all = append(all, append(slices.Clone(row), m))
			}
		}
		from = upTo
	}
	return all
}

// shrinkByTheWord does what the chapter says of Shrink, sentence by sentence, with no thought of haste.
func shrinkByTheWord(msgs []impl.Msg) []impl.Msg {
	list := slices.DeleteFunc(slices.Clone(msgs), func(m impl.Msg) bool { return !impl.MsgOk(m) || m.Op == impl.MsGet })
	var left []impl.Msg
	for i, m := range list {
		if !slices.ContainsFunc(list[i+1:], func(o impl.Msg) bool { return o.K == m.K && o.Op != impl.MsAdd }) {
			left = append(left, m)
		}
	}
	for again := true; again; {
		again = false
		for i, m := range left {
			ofKey := func(o impl.Msg) bool { return o.K == m.K }
			next := slices.IndexFunc(left[i+1:], ofKey)
			if m.Op == impl.MsPut && slices.IndexFunc(left, ofKey) == i && next >= 0 && left[i+1+next].Op == impl.MsAdd {
				v := min(max(m.V+left[i+1+next].V, -impl.MaxNum), impl.MaxNum)
				left[i].V = v
				left = slices.Delete(left, i+1+next, i+2+next)
				again = true
				break
			}
		}
	}
	return left
}

func TestShrunkDoTheSame(t *testing.T) {
	maps := slices.Concat(goodMaps, badMaps, [][]impl.Pair{pairs(0, impl.MaxNum, 7, impl.MaxNum), pairs(0, -impl.MaxNum, 7, -impl.MaxNum), pairs(7, 0)})
	for _, msgs := range rows() {
		shrunk := impl.Shrink(msgs)
		if len(shrunk) > len(msgs) {
			t.Fatal(msgs, "grew to", shrunk)
		}
		if want := shrinkByTheWord(msgs); !slices.Equal(shrunk, want) {
			t.Fatal(msgs, "shrank to", shrunk, "and by the word to", want)
		}
		if again := impl.Shrink(shrunk); !slices.Equal(again, shrunk) {
			t.Fatal(shrunk, "shrank again to", again)
		}
		for _, list := range maps {
			if a, b := impl.MapAll(list, msgs), impl.MapAll(list, shrunk); !slices.Equal(a, b) {
				t.Fatal(list, msgs, "became", a, "and shrunk", b)
			}
		}
	}
}

func TestLongRows(t *testing.T) {
	seed := uint32(1)
	number := func(below int) int {
		seed = seed*1664525 + 1013904223
		return int(seed>>8) % below
	}
	for range 50 {
		held := map[int]int{}
		var msgs []impl.Msg
		for range 400 {
			m := impl.Msg{Op: 1 + number(4), K: 20*number(50) + 19*number(2)}
			if m.Op == impl.MsPut || m.Op == impl.MsAdd {
				m.V = (number(5) - 2) * (impl.MaxNum/2 - number(3))
			}
			msgs = append(msgs, m)
			switch m.Op {
			case impl.MsPut:
				held[m.K] = m.V
			case impl.MsDel:
				delete(held, m.K)
			case impl.MsAdd:
				held[m.K] = min(max(held[m.K]+m.V, -impl.MaxNum), impl.MaxNum)
			}
		}
		got := impl.MapAll(nil, msgs)
		if !impl.MapOk(got) || len(got) != len(held) {
			t.Fatal("no map, or of another length", len(got), len(held))
		}
		for k, v := range held {
			if w, ok := impl.MapGet(got, k); !ok || w != v {
				t.Fatal(k, "has", w, ok, "and should have", v)
			}
		}
		if shrunk := impl.Shrink(msgs); !slices.Equal(shrunk, shrinkByTheWord(msgs)) || !slices.Equal(impl.MapAll(nil, shrunk), got) {
			t.Fatal("shrunk they do something else")
		}
	}
}

func TestArgumentsStay(t *testing.T) {
	fillPair, fillMsg := impl.Pair{K: -77, V: -77}, impl.Msg{Op: -77}
	row := []impl.Msg{put(1, 1), add(1, 2), del(2), add(3, 4), get(1), {}, put(0, 0), add(999, 5)}
	for _, list := range slices.Concat(goodMaps, badMaps) {
		for _, msgs := range [][]impl.Msg{row, nil, badMsgs, goodMsgs} {
			a, wholeA := roomy(list, fillPair)
			b, wholeB := roomy(msgs, fillMsg)
			keptA, keptB := slices.Clone(wholeA()), slices.Clone(wholeB())
			impl.MapOk(a)
			impl.MapGet(a, 1)
			one := impl.MapAll(a, b)
			two := impl.Shrink(b)
			three := impl.MapDo(a, put(1, 8))
			spoil(one, impl.Pair{K: -88, V: -88})
			spoil(two, impl.Msg{Op: -88})
			spoil(three, impl.Pair{K: -88, V: -88})
			if !slices.Equal(wholeA(), keptA) || !slices.Equal(wholeB(), keptB) {
				t.Fatal("an argument was written into, or shares memory with an answer:", list, msgs)
			}
		}
	}
}

// spoil overwrites an answer and the room behind it: were it shared, it would show in the argument.
func spoil[E any](list []E, filler E) {
	list = list[:cap(list)]
	for i := range list {
		list[i] = filler
	}
}
