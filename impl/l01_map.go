package impl

import (
	"cmp"
	"slices"
)

const (
	MaxNum = 1000000000
	MaxKey = 999
)

const (
	MsPut = 1
	MsDel = 2
	MsAdd = 3
	MsGet = 4
)

type Pair struct {
	K int
	V int
}

type Msg struct {
	Op int
	K  int
	V  int
}

// sorted keeps its keys ascending, so that what it tells never hangs on the order of what came.
type sorted[K cmp.Ordered, V any] struct {
	keys   []K
	values []V
}

func (s *sorted[K, V]) get(k K) (V, bool) {
	at, found := slices.BinarySearch(s.keys, k)
	if !found {
		var none V
		return none, false
	}
	return s.values[at], true
}

func (s *sorted[K, V]) put(k K, v V) {
	at, found := slices.BinarySearch(s.keys, k)
	if found {
		s.values[at] = v
		return
	}
	s.keys = slices.Insert(s.keys, at, k)
	s.values = slices.Insert(s.values, at, v)
}

func (s *sorted[K, V]) drop(k K) {
	at, found := slices.BinarySearch(s.keys, k)
	if !found {
		return
	}
	s.keys = slices.Delete(s.keys, at, at+1)
	s.values = slices.Delete(s.values, at, at+1)
}

// change is a message that is MsgOk, as one of the four types below.
type change interface {
	key() int
	msg() Msg
}

type putChange struct{ k, v int }

type delChange struct{ k int }

type addChange struct{ k, v int }

type getChange struct{ k int }

func (c putChange) key() int { return c.k }

func (c delChange) key() int { return c.k }

func (c addChange) key() int { return c.k }

func (c getChange) key() int { return c.k }

func (c putChange) msg() Msg { return Msg{Op: MsPut, K: c.k, V: c.v} }

func (c delChange) msg() Msg { return Msg{Op: MsDel, K: c.k} }

func (c addChange) msg() Msg { return Msg{Op: MsAdd, K: c.k, V: c.v} }

func (c getChange) msg() Msg { return Msg{Op: MsGet, K: c.k} }

// changesOf leaves out what is not MsgOk: nothing else may become a change.
func changesOf(msgs []Msg) []change {
	var list []change
	for _, m := range msgs {
		if MsgOk(m) {
			list = append(list, changeOf(m))
		}
	}
	return list
}

func changeOf(m Msg) change {
	switch m.Op {
	case MsPut:
		return putChange{m.K, m.V}
	case MsDel:
		return delChange{m.K}
	case MsAdd:
		return addChange{m.K, m.V}
	}
	return getChange{m.K}
}

func keyOk(k int) bool { return 0 <= k && k <= MaxKey }

func valueOk(v int) bool { return -MaxNum <= v && v <= MaxNum }

// limitedSum can't wrap round: both stand within MaxNum of 0.
func limitedSum(a int, b int) int {
	return max(-MaxNum, min(MaxNum, a+b))
}

func MsgOk(m Msg) bool {
	switch m.Op {
	case MsPut, MsAdd:
		return keyOk(m.K) && valueOk(m.V)
	case MsDel, MsGet:
		return keyOk(m.K) && m.V == 0
	}
	return false
}

func MapOk(list []Pair) bool {
	for i, p := range list {
		if !keyOk(p.K) || !valueOk(p.V) {
			return false
		}
		if i > 0 && p.K <= list[i-1].K {
			return false
		}
	}
	return true
}

// MapGet goes through the list in order, as it may be asked of one that does not ascend.
func MapGet(list []Pair, k int) (int, bool) {
	for _, p := range list {
		if p.K == k {
			return p.V, true
		}
	}
	return 0, false
}

func MapDo(list []Pair, m Msg) []Pair {
	return MapAll(list, []Msg{m})
}

// MapAll asks MapOk once only: no change turns a map that is MapOk into one that is not.
func MapAll(list []Pair, msgs []Msg) []Pair {
	if !MapOk(list) {
		return append([]Pair(nil), list...)
	}
	s := sortedOf(list)
	for _, c := range changesOf(msgs) {
		turn(&s, c)
	}
	return pairsOf(s)
}

func sortedOf(list []Pair) sorted[int, int] {
	var s sorted[int, int]
	for _, p := range list {
		s.put(p.K, p.V)
	}
	return s
}

func pairsOf(s sorted[int, int]) []Pair {
	var list []Pair
	for i, k := range s.keys {
		list = append(list, Pair{K: k, V: s.values[i]})
	}
	return list
}

func turn(s *sorted[int, int], c change) {
	switch x := c.(type) {
	case putChange:
		s.put(x.k, x.v)
	case delChange:
		s.drop(x.k)
	case addChange:
		had, _ := s.get(x.k)
		s.put(x.k, limitedSum(had, x.v))
	case getChange:
	}
}

func Shrink(msgs []Msg) []Msg {
	list := joinAdds(withoutOverruled(withoutGets(changesOf(msgs))))
	var shrunk []Msg
	for _, c := range list {
		shrunk = append(shrunk, c.msg())
	}
	return shrunk
}

func withoutGets(list []change) []change {
	var left []change
	for _, c := range list {
		switch c.(type) {
		case getChange:
		default:
			left = append(left, c)
		}
	}
	return left
}

func withoutOverruled(list []change) []change {
	var lastRuler sorted[int, int]
	for i, c := range list {
		switch c.(type) {
		case putChange, delChange:
			lastRuler.put(c.key(), i)
		}
	}
	var left []change
	for i, c := range list {
		at, ruled := lastRuler.get(c.key())
		if !ruled || i >= at {
			left = append(left, c)
		}
	}
	return left
}

// joinAdds wants a list without overruled ones: a put in it is then the first of its key.
func joinAdds(list []change) []change {
	var puts sorted[int, int]
	var left []change
	for _, c := range list {
		switch x := c.(type) {
		case putChange:
			puts.put(x.k, len(left))
		case addChange:
			if at, found := puts.get(x.k); found {
				sum := limitedSum(left[at].msg().V, x.v)
				left[at] = putChange{x.k, sum}
				continue
			}
		}
		left = append(left, c)
	}
	return left
}
