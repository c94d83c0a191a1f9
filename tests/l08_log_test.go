package tests

import (
	"math"
	"reflect"
	"slices"
	"testing"

	"loop.example/g00234/impl"
)

// entry: each has a command of its own by its mark, so that one that stays is told from one that comes.
func entry(term, mark int) impl.Entry {
	return impl.Entry{Term: term, C: cmd(1+mark%9, 1+mark, put(mark%1000, mark))}
}

// entries: of these Terms, one behind the other, with marks from mark on.
func entries(mark int, terms ...int) []impl.Entry {
	var list []impl.Entry
	for i, term := range terms {
		list = append(list, entry(term, mark+i))
	}
	return list
}

func logOf(base, baseTerm int, list ...impl.Entry) impl.Log {
	return impl.Log{Base: base, BaseTerm: baseTerm, List: list}
}

func termLog(base, baseTerm int, terms ...int) impl.Log {
	return logOf(base, baseTerm, entries(0, terms...)...)
}

// longLog: that many entries of one Term.
func longLog(base, term, count int) impl.Log {
	l := logOf(base, term)
	for i := range count {
		l.List = append(l.List, entry(term, i%50000))
	}
	return l
}

func sameLog(a, b impl.Log) bool {
	return a.Base == b.Base && a.BaseTerm == b.BaseTerm && slices.Equal(a.List, b.List)
}

// edgeNumbers: the ends of what a number can be, and what is beside them.
var edgeNumbers = []int{math.MinInt, math.MinInt + 1, math.MinInt + 2, math.MinInt + 3, -100001, -100000, -2, -1, 0, 1, 2, 99998, 99999, 100000, 100001, math.MaxInt - 3, math.MaxInt - 2, math.MaxInt - 1, math.MaxInt}

type logCase struct {
	name string
	log  impl.Log
}

// The limits are written out here as numbers: a limit that moved would show.
func goodLogs() []logCase {
	list := []logCase{
		{"the zero value", impl.Log{}},
		{"an empty list", impl.Log{List: []impl.Entry{}}},
		{"all cut off", logOf(5, 3)},
		{"Base at its limit", logOf(100000, 3)},
		{"Base one below", logOf(99999, 3)},
		{"BaseTerm at its limit", logOf(5, 100000)},
		{"both at their limits", logOf(100000, 100000)},
		{"BaseTerm without Base", logOf(0, 3)},
		{"Base without BaseTerm", logOf(3, 0)},
		{"BaseTerm and a Term at the limit", termLog(5, 100000, 100000, 100000)},
		{"Terms of 0", termLog(0, 0, 0, 0)},
		{"Terms that are alike", termLog(2, 4, 4, 4, 4)},
		{"Terms that rise", termLog(2, 1, 1, 2, 2, 7)},
		{"Terms that rise to the limit", termLog(2, 1, 99999, 100000)},
		{"nothing as commands", logOf(0, 0, impl.Entry{}, impl.Entry{Term: 1}, impl.Entry{Term: 1})},
		{"as many as can be, behind Base", termLog(99997, 1, 1, 1, 2)},
		{"one less than can be, behind Base", termLog(99997, 1, 1, 1)},
		{"the last one", termLog(99999, 1, 1)},
		{"as many as can be", longLog(0, 7, 100000)},
		{"as many as can be behind the first", longLog(1, 7, 99999)},
	}
	for _, c := range goodCmds {
		list = append(list, logCase{"a good command", logOf(1, 1, impl.Entry{Term: 1, C: c}, entry(2, 1), impl.Entry{Term: 2, C: c})})
	}
	return list
}

func badLogs() []logCase {
	list := []logCase{
		{"Base below 0", logOf(-1, 3)},
		{"Base below 0, and entries", termLog(-1, 1, 1, 1, 2)},
		{"Base beyond", logOf(100001, 3)},
		{"BaseTerm below 0", logOf(5, -1)},
		{"BaseTerm below 0, and entries", termLog(5, -1, 1, 2)},
		{"BaseTerm beyond", logOf(5, 100001)},
		{"BaseTerm beyond, and entries", termLog(5, 100001, 100001)},
		{"one too many", longLog(0, 7, 100001)},
		{"one too many behind Base", termLog(99997, 1, 1, 1, 1, 2)},
		{"one behind the greatest Base", termLog(100000, 1, 1)},
		{"a Term below 0", termLog(0, 0, -1)},
		{"Terms below 0", termLog(0, -3, -3, -2, -1)},
		{"a Term beyond", termLog(0, 0, 100001)},
		{"a Term beyond at the last", termLog(0, 0, 1, 100000, 100001)},
		{"a Term less than BaseTerm", termLog(5, 3, 2)},
		{"a Term less than BaseTerm, and others", termLog(5, 3, 2, 3, 4)},
		{"Terms that fall at once", termLog(5, 1, 3, 2, 3)},
		{"Terms that fall in the middle", termLog(5, 1, 1, 3, 2, 3)},
		{"Terms that fall at the last", termLog(5, 1, 1, 3, 3, 2)},
		{"Terms that fall to BaseTerm", termLog(5, 1, 2, 1)},
		{"Terms that fall to 0", termLog(0, 0, 1, 0)},
	}
	for _, n := range []int{math.MinInt, math.MinInt + 1, math.MaxInt - 1, math.MaxInt} {
		list = append(list, []logCase{
			{"an end as Base", logOf(n, 1)},
			{"an end as Base, and entries", termLog(n, 1, 1, 2, 2)},
			{"an end as BaseTerm", logOf(1, n)},
			{"an end as BaseTerm, and entries", termLog(1, n, 1, 2)},
			{"an end as the first Term", termLog(1, 1, n, 2, 2)},
			{"an end as a Term", termLog(1, 1, 2, n, 2)},
			{"an end as the last Term", termLog(1, 1, 2, 2, n)},
			{"ends", termLog(n, n, n, n)},
		}...)
	}
	for _, c := range badCmds {
		e := impl.Entry{Term: 2, C: c}
		list = append(list, []logCase{
			{"no command at the first", logOf(1, 1, e, entry(2, 1), entry(2, 2))},
			{"no command in the middle", logOf(1, 1, entry(2, 1), e, entry(2, 2))},
			{"no command at the last", logOf(1, 1, entry(2, 1), entry(2, 2), e)},
		}...)
	}
	return list
}

func TestLogLimits(t *testing.T) {
	if impl.MaxIndex != 100000 {
		t.Error("limits", impl.MaxIndex)
	}
}

func TestLogOk(t *testing.T) {
	for _, c := range goodLogs() {
		if !impl.LogOk(c.log) || !logOkByTheWord(c.log) {
			t.Error("refused", c.name)
		}
	}
	for _, c := range badLogs() {
		if impl.LogOk(c.log) || logOkByTheWord(c.log) {
			t.Error("accepted", c.name)
		}
	}
	for _, m := range goodMsgs {
		if !impl.LogOk(logOf(0, 0, impl.Entry{Term: 1, C: cmd(1, 1, m)})) {
			t.Error("refused", m)
		}
	}
	for _, m := range badMsgs {
		if impl.LogOk(logOf(0, 0, impl.Entry{Term: 1, C: cmd(1, 1, m)})) {
			t.Error("accepted", m)
		}
	}
}

func logOkByTheWord(l impl.Log) bool {
	if l.Base < 0 || l.Base > 100000 || l.BaseTerm < 0 || l.BaseTerm > 100000 || l.Base+len(l.List) > 100000 {
		return false
	}
	before := l.BaseTerm
	for _, e := range l.List {
		if e.Term < l.BaseTerm || e.Term > 100000 || e.Term < before || !cmdOkByTheWord(e.C) {
			return false
		}
		before = e.Term
	}
	return true
}

// isNumber: the entry at that place of the list is number i; there is no such number beyond the greatest int.
func isNumber(l impl.Log, place, i int) bool {
	return l.Base <= math.MaxInt-1-place && l.Base+1+place == i
}

func termAtByTheWord(l impl.Log, i int) int {
	for place, e := range l.List {
		if isNumber(l, place, i) {
			return e.Term
		}
	}
	if i == l.Base {
		return l.BaseTerm
	}
	return -1
}

func entriesFromByTheWord(l impl.Log, i int) []impl.Entry {
	for place := range l.List {
		if isNumber(l, place, i) {
			return l.List[place:]
		}
	}
	return nil
}

func logCutByTheWord(l impl.Log, i int) impl.Log {
	for place, e := range l.List {
		if isNumber(l, place, i) {
			return logOf(i, e.Term, l.List[place+1:]...)
		}
	}
	return l
}

// logPutByTheWord takes the list entry by entry, each at its place.
func logPutByTheWord(l impl.Log, prev, prevTerm int, list []impl.Entry) (impl.Log, bool) {
	if !logOkByTheWord(l) {
		return impl.Log{}, false
	}
	if prevTerm < 0 || termAtByTheWord(l, prev) != prevTerm {
		return l, false
	}
	came := logOf(l.Base, l.BaseTerm, slices.Clone(l.List)...)
	for i, e := range list {
		place := prev - l.Base + i
		if place < len(came.List) && came.List[place].Term == e.Term {
			continue
		}
		came.List = append(came.List[:place], e)
	}
	if !logOkByTheWord(came) {
		return l, false
	}
	return came, true
}

func newerByTheWord(l impl.Log, last, lastTerm int) bool {
	number, term := l.Base, l.BaseTerm
	for _, e := range l.List {
		number, term = number+1, e.Term
	}
	switch {
	case lastTerm > term:
		return true
	case lastTerm < term:
		return false
	}
	return !(last < number)
}

// numbersOf: all that a log could be asked for, and the numbers beside these.
func numbersOf(l impl.Log) []int {
	list := slices.Clone(edgeNumbers)
	for i := -2; i <= len(l.List)+2; i++ {
		list = append(list, l.Base+i)
	}
	return list
}

// asksByTheWord: what a log tells, and what comes of it cut, number by number.
func asksByTheWord(t *testing.T, name string, l impl.Log) {
	t.Helper()
	number, term := l.Base+len(l.List), l.BaseTerm
	if len(l.List) > 0 {
		term = l.List[len(l.List)-1].Term
	}
	if a, b := impl.LastOf(l); a != number || b != term {
		t.Fatal(name, "told", a, b, "as the last one, and not", number, term)
	}
	for _, i := range numbersOf(l) {
		if got, want := impl.TermAt(l, i), termAtByTheWord(l, i); got != want {
			t.Fatal(name, "told the Term", got, "of number", i, "and not", want)
		}
		if got, want := impl.EntriesFrom(l, i), entriesFromByTheWord(l, i); !slices.Equal(got, want) {
			t.Fatal(name, "told from number", i, "on", got, "and not", want)
		}
		if got, want := impl.LogCut(l, i), logCutByTheWord(l, i); !sameLog(got, want) {
			t.Fatal(name, "cut at", i, "came to", got, "and not to", want)
		}
		for _, lastTerm := range []int{math.MinInt, -1, 0, term - 1, term, term + 1, 100000, math.MaxInt} {
			if got := impl.Newer(l, i, lastTerm); got != newerByTheWord(l, i, lastTerm) {
				t.Fatal(name, "told", got, "of a last one of", i, lastTerm)
			}
		}
	}
}

func TestLogsByTheWord(t *testing.T) {
	for _, c := range slices.Concat(goodLogs(), badLogs()) {
		if len(c.log.List) < 1000 {
			asksByTheWord(t, c.name, c.log)
		}
	}
	for _, base := range edgeNumbers {
		for _, baseTerm := range edgeNumbers {
			asksByTheWord(t, "strange numbers", termLog(base, baseTerm, 2, 2, 3))
			asksByTheWord(t, "strange numbers alone", logOf(base, baseTerm))
			asksByTheWord(t, "strange Terms", termLog(base, 1, baseTerm, 5, baseTerm))
		}
	}
}

func TestLastOf(t *testing.T) {
	for _, c := range []struct {
		log          impl.Log
		number, term int
	}{
		{impl.Log{}, 0, 0},
		{logOf(7, 3), 7, 3},
		{termLog(0, 0, 1), 1, 1},
		{termLog(2, 1, 1, 2, 2), 5, 2},
		{termLog(99997, 1, 1, 2, 9), 100000, 9},
		{termLog(-5, 1, 4, 3), -3, 3},
		{termLog(math.MinInt, math.MinInt, 4, math.MinInt), math.MinInt + 2, math.MinInt},
		{logOf(math.MaxInt, math.MaxInt), math.MaxInt, math.MaxInt},
		{termLog(math.MaxInt-1, 1, 6), math.MaxInt, 6},
	} {
		if number, term := impl.LastOf(c.log); number != c.number || term != c.term {
			t.Error(c.log, "told", number, term)
		}
	}
}

func TestTermAt(t *testing.T) {
	l := termLog(2, 1, 3, 4, 4, 6)
	for i, want := range map[int]int{
		math.MinInt: -1, -2: -1, -1: -1, 0: -1, 1: -1, 2: 1, 3: 3, 4: 4, 5: 4, 6: 6, 7: -1, 8: -1, 100000: -1, math.MaxInt: -1,
	} {
		if got := impl.TermAt(l, i); got != want {
			t.Error("of number", i, "told", got)
		}
	}
	for _, c := range []struct {
		log     impl.Log
		i, want int
	}{
		{impl.Log{}, 0, 0},
		{impl.Log{}, 1, -1},
		{impl.Log{}, -1, -1},
		{logOf(7, 0), 7, 0},
		{logOf(7, 3), 6, -1},
		{logOf(7, 3), 8, -1},
		{termLog(99999, 1, 2), 100000, 2},
		{termLog(99999, 1, 2), 100001, -1},
		{termLog(math.MinInt, 5, 6, 7), math.MaxInt, -1}, // the two ends are not side by side
		{termLog(math.MinInt, 5, 6, 7), math.MinInt, 5},
		{termLog(math.MinInt, 5, 6, 7), math.MinInt + 2, 7},
		{termLog(math.MinInt, 5, 6, 7), math.MinInt + 3, -1},
		{termLog(math.MinInt, 5, 6, 7), 0, -1},
		{termLog(math.MaxInt, 5, 6, 7), math.MaxInt, 5},
		{termLog(math.MaxInt, 5, 6, 7), math.MinInt, -1},
		{termLog(math.MaxInt, 5, 6, 7), math.MinInt + 1, -1},
		{termLog(math.MaxInt-1, 5, 6, 7), math.MaxInt, 6},
		{termLog(-1, 5, 6, 7), 1, 7},
		{termLog(1, -4, -5), 1, -4},
		{termLog(1, -4, -5), 2, -5},
		{termLog(1, math.MaxInt, math.MinInt), 2, math.MinInt},
	} {
		if got := impl.TermAt(c.log, c.i); got != c.want {
			t.Error(c.log, "of number", c.i, "told", got)
		}
	}
}

func TestEntriesFrom(t *testing.T) {
	l := termLog(2, 1, 3, 4, 4, 6)
	for i, from := range map[int]int{
		math.MinInt: 4, -1: 4, 0: 4, 1: 4, 2: 4, 3: 0, 4: 1, 5: 2, 6: 3, 7: 4, 8: 4, 100000: 4, math.MaxInt: 4,
	} {
		if got := impl.EntriesFrom(l, i); !slices.Equal(got, l.List[from:]) {
			t.Error("from number", i, "on told", got)
		}
	}
	for _, c := range []struct {
		log      impl.Log
		i, count int
	}{
		{impl.Log{}, 0, 0},
		{impl.Log{}, 1, 0},
		{logOf(7, 3), 7, 0},
		{logOf(7, 3), 8, 0},
		{termLog(0, 0, 1, 1), 0, 0},
		{termLog(0, 0, 1, 1), 1, 2},
		{termLog(99998, 1, 2, 2), 100000, 1},
		{termLog(99998, 1, 2, 2), 100001, 0},
		{termLog(math.MinInt, 5, 6, 7), math.MaxInt, 0},
		{termLog(math.MinInt, 5, 6, 7), math.MinInt, 0},
		{termLog(math.MinInt, 5, 6, 7), math.MinInt + 1, 2},
		{termLog(math.MaxInt, 5, 6, 7), math.MinInt, 0},
		{termLog(math.MaxInt, 5, 6, 7), math.MaxInt, 0},
		{termLog(math.MaxInt-1, 5, 6, 7), math.MaxInt, 2},
		{termLog(-5, 9, 6, 2), -4, 2},
	} {
		if got := impl.EntriesFrom(c.log, c.i); !slices.Equal(got, c.log.List[len(c.log.List)-c.count:]) {
			t.Error(c.log, "from number", c.i, "on told", got)
		}
	}
}

// puts: what comes of a log into which something is put, that it is there then, and that it changes nothing when it is put again.
func puts(t *testing.T, name string, l impl.Log, prev, prevTerm int, list []impl.Entry, want impl.Log) {
	t.Helper()
	got, ok := impl.LogPut(l, prev, prevTerm, list)
	if !ok || !sameLog(got, want) {
		t.Fatal(name, "came to", got, ok, "and not to", want)
	}
	again, ok := impl.LogPut(got, prev, prevTerm, list)
	if !ok || !sameLog(again, got) {
		t.Fatal(name, "put again came to", again, ok, "and once to", got)
	}
	if !impl.LogOk(got) || impl.TermAt(got, prev) != prevTerm {
		t.Fatal(name, "came to what is no log, or has another one ahead:", got)
	}
	for i, e := range list {
		if impl.TermAt(got, prev+1+i) != e.Term {
			t.Fatal(name, "is not there:", e, "in", got)
		}
	}
}

func putsNot(t *testing.T, name string, l impl.Log, prev, prevTerm int, list []impl.Entry) {
	t.Helper()
	if got, ok := impl.LogPut(l, prev, prevTerm, list); ok || !sameLog(got, l) {
		t.Fatal(name, "came to", got, ok)
	}
}

func TestLogPut(t *testing.T) {
	l := termLog(2, 1, 1, 2, 2, 5)
	kept := func(count int, list ...impl.Entry) impl.Log {
		return logOf(2, 1, slices.Concat(l.List[:count], list)...)
	}
	for _, c := range []struct {
		name           string
		prev, prevTerm int
		list           []impl.Entry
		keep           int // how many stay
		from           int // from where on the list stands behind these
	}{
		{"behind all", 6, 5, entries(50, 5, 5, 6), 4, 0},
		{"one behind all", 6, 5, entries(50, 5), 4, 0},
		{"nothing behind all", 6, 5, nil, 4, 0},
		{"nothing in the middle", 4, 2, nil, 4, 0},
		{"nothing behind Base", 2, 1, nil, 4, 0},
		{"an empty list", 3, 1, []impl.Entry{}, 4, 0},
		{"all of it again", 2, 1, l.List, 4, 4},
		{"all of it again by Terms alone", 2, 1, entries(50, 1, 2, 2, 5), 4, 4},
		{"one again that ends ahead of the end", 3, 1, entries(50, 2), 4, 1},
		{"the first again", 2, 1, entries(50, 1), 4, 1},
		{"the last again", 5, 2, entries(50, 5), 4, 1},
		{"some again that end ahead of the end", 2, 1, entries(50, 1, 2, 2), 4, 3},
		{"again and beyond the end", 3, 1, entries(50, 2, 2, 5, 5, 7), 4, 3},
		{"the last again and one beyond", 5, 2, entries(50, 5, 9), 4, 1},
		{"another Term at the first", 2, 1, entries(50, 3, 3), 0, 0},
		{"another Term at the first alone", 2, 1, entries(50, 4), 0, 0},
		{"another Term in the middle", 3, 1, entries(50, 3), 1, 0},
		{"another Term in the middle behind one that is there", 2, 1, entries(50, 1, 3, 3, 3, 3), 1, 1},
		{"another Term at the last", 5, 2, entries(50, 4), 3, 0},
		{"another Term at the last, and beyond the end", 5, 2, entries(50, 4, 5, 5), 3, 0},
		{"another Term at the last behind those that are there", 2, 1, entries(50, 1, 2, 2, 4), 3, 3},
		{"another Term that is less", 5, 2, entries(50, 2), 3, 0},
		{"another Term, and then the same ones", 3, 1, entries(50, 1, 2, 5), 1, 0}, // those behind the first that differs do not stay, whatever their Terms
		{"Terms at the limit", 5, 2, entries(50, 100000, 100000), 3, 0},
		{"nothing as a command", 6, 5, []impl.Entry{{Term: 5}, {Term: 6}}, 4, 0},
	} {
		puts(t, c.name, l, c.prev, c.prevTerm, c.list, kept(c.keep, c.list[c.from:]...))
	}
	puts(t, "into the zero value", impl.Log{}, 0, 0, entries(50, 0, 0, 1), logOf(0, 0, entries(50, 0, 0, 1)...))
	puts(t, "behind what was cut off", logOf(7, 3), 7, 3, entries(50, 3, 4), logOf(7, 3, entries(50, 3, 4)...))
	puts(t, "nothing into nothing", impl.Log{}, 0, 0, nil, impl.Log{})
	puts(t, "Terms of 0 again", termLog(0, 0, 0, 0), 0, 0, entries(50, 0), termLog(0, 0, 0, 0))
	bad := impl.Entry{Term: 2, C: impl.Cmd{Seq: 1}}
	puts(t, "no command where one is there", l, 3, 1, []impl.Entry{bad, entry(2, 50)}, l) // what stays is right
	if _, ok := impl.LogPut(l, 3, 1, []impl.Entry{bad, entry(3, 50)}); !ok {
		t.Error("no command where one is there, and others behind it")
	}
}

func TestLogPutAtItsLimits(t *testing.T) {
	near := termLog(99997, 1, 1, 2)
	puts(t, "the greatest number", near, 99999, 2, entries(50, 2), logOf(99997, 1, append(entries(0, 1, 2), entry(2, 50))...))
	putsNot(t, "one beyond the greatest number", near, 99999, 2, entries(50, 2, 2))
	puts(t, "the greatest number, cut ahead", near, 99998, 1, entries(50, 3, 3), logOf(99997, 1, append(entries(0, 1), entries(50, 3, 3)...)...))
	putsNot(t, "one beyond, cut ahead", near, 99998, 1, entries(50, 3, 3, 3))
	putsNot(t, "behind the greatest Base", logOf(100000, 1), 100000, 1, entries(50, 1))
	puts(t, "nothing behind the greatest Base", logOf(100000, 1), 100000, 1, nil, logOf(100000, 1))
	full := longLog(0, 7, 100000)
	puts(t, "nothing into a full one", full, 100000, 7, nil, full)
	putsNot(t, "into a full one", full, 100000, 7, entries(50, 7))
	puts(t, "over the last of a full one", full, 99999, 7, entries(50, 8), logOf(0, 7, append(slices.Clone(full.List[:99999]), entry(8, 50))...))
	many := longLog(0, 7, 100000).List
	puts(t, "a full list", logOf(0, 7), 0, 7, many, logOf(0, 7, many...))
	puts(t, "a full list again", logOf(0, 7, many...), 0, 7, many, logOf(0, 7, many...))
	putsNot(t, "a list that is too long", logOf(0, 7), 0, 7, append(many, entry(7, 1)))
	putsNot(t, "a list that is too long behind one", termLog(0, 7, 7), 1, 7, many)
}

func TestLogPutRefuses(t *testing.T) {
	l := termLog(2, 1, 1, 2, 2, 5)
	for _, c := range []struct {
		name           string
		prev, prevTerm int
	}{
		{"another Term of Base", 2, 0},
		{"another Term of Base above", 2, 2},
		{"another Term in the middle", 4, 1},
		{"another Term in the middle above", 4, 5},
		{"another Term of the last one", 6, 2},
		{"another Term of the last one above", 6, 6},
		{"a Term below 0", 4, -1},
		{"one below Base", 1, 1},
		{"one below Base of no Term", 1, -1},
		{"one below Base of Term 0", 1, 0},
		{"number 0", 0, 0},
		{"number 0 of no Term", 0, -1},
		{"one beyond the end", 7, 5},
		{"one beyond the end of no Term", 7, -1},
		{"a number below 0", -1, -1},
		{"the greatest number", math.MaxInt, -1},
		{"the least number", math.MinInt, -1},
		{"the greatest number of a Term", math.MaxInt, 5},
		{"the least number of a Term", math.MinInt, 1},
		{"the greatest Term", 4, math.MaxInt},
		{"the least Term", 4, math.MinInt},
		{"the greatest of both", math.MaxInt, math.MaxInt},
		{"the least of both", math.MinInt, math.MinInt},
	} {
		for _, list := range [][]impl.Entry{nil, entries(50, 5), entries(50, 5, 5, 6), l.List} {
			putsNot(t, c.name, l, c.prev, c.prevTerm, list)
		}
	}
	e := func(term int, c impl.Cmd) []impl.Entry { return []impl.Entry{{Term: term, C: c}} }
	for _, c := range []struct {
		name           string
		prev, prevTerm int
		list           []impl.Entry
	}{
		{"a Term that falls behind all", 6, 5, entries(50, 4)},
		{"a Term that falls behind one that stays", 2, 1, entries(50, 1, 0)},
		{"a Term that is less than BaseTerm", 2, 1, entries(50, 0)},
		{"Terms that fall in the list", 6, 5, entries(50, 7, 6)},
		{"Terms that fall in the list in the middle", 3, 1, entries(50, 3, 4, 3)},
		{"a Term below 0", 6, 5, entries(50, -1)},
		{"a Term beyond", 6, 5, entries(50, 100001)},
		{"a Term beyond behind others", 6, 5, entries(50, 5, 100000, 100001)},
		{"the greatest Term", 6, 5, entries(50, math.MaxInt)},
		{"the least Term", 6, 5, entries(50, math.MinInt)},
		{"no command behind all", 6, 5, e(5, cmd(1, 0, put(1, 1)))},
		{"no command in the middle", 3, 1, e(3, cmd(10, 1, put(1, 1)))},
		{"no command behind others", 6, 5, append(entries(50, 5, 5), e(5, cmd(1, 1, put(1000, 1)))...)},
		{"nothing with a number", 6, 5, e(5, impl.Cmd{Seq: 1})},
	} {
		putsNot(t, c.name, l, c.prev, c.prevTerm, c.list)
	}
	for _, c := range badCmds {
		putsNot(t, "no command", l, 6, 5, e(6, c))
		putsNot(t, "no command over others", l, 2, 1, e(6, c))
	}
}

func TestWhatIsNoLogIsNotPutInto(t *testing.T) {
	lists := [][]impl.Entry{nil, entries(50, 1), entries(50, 100000), entries(50, 2, 2)}
	for _, c := range badLogs() {
		number, term := impl.LastOf(c.log)
		for _, list := range append(lists, c.log.List) {
			for _, at := range [][2]int{{number, term}, {c.log.Base, c.log.BaseTerm}, {c.log.Base + 1, impl.TermAt(c.log, c.log.Base+1)}, {0, 0}, {-1, -1}, {math.MaxInt, math.MaxInt}, {math.MinInt, math.MinInt}} {
				if got, ok := impl.LogPut(c.log, at[0], at[1], list); ok || !sameLog(got, impl.Log{}) {
					t.Fatal(c.name, "came to", got, ok)
				}
			}
		}
	}
}

func TestLogCut(t *testing.T) {
	l := termLog(2, 1, 1, 2, 2, 5)
	for i, want := range map[int]impl.Log{
		3: logOf(3, 1, l.List[1:]...),
		4: logOf(4, 2, l.List[2:]...),
		5: logOf(5, 2, l.List[3:]...),
		6: logOf(6, 5),
	} {
		if got := impl.LogCut(l, i); !sameLog(got, want) {
			t.Error("cut at", i, "came to", got)
		}
	}
	for _, i := range []int{math.MinInt, -1, 0, 1, 2, 7, 8, 100000, 100001, math.MaxInt} {
		if got := impl.LogCut(l, i); !sameLog(got, l) {
			t.Error("cut at", i, "came to", got)
		}
	}
	for _, c := range []struct {
		log  impl.Log
		i    int
		want impl.Log
	}{
		{impl.Log{}, 0, impl.Log{}},
		{impl.Log{}, 1, impl.Log{}},
		{logOf(7, 3), 7, logOf(7, 3)},
		{logOf(7, 3), 8, logOf(7, 3)},
		{termLog(99999, 1, 2), 100000, logOf(100000, 2)},
		{termLog(99999, 1, 2), 100001, termLog(99999, 1, 2)},
		{termLog(-5, 9, 6, 2), -4, logOf(-4, 6, entry(2, 1))},
		{termLog(math.MaxInt-1, 9, 6, 2), math.MaxInt, logOf(math.MaxInt, 6, entry(2, 1))},
		{termLog(math.MaxInt, 9, 6, 2), math.MinInt, termLog(math.MaxInt, 9, 6, 2)},
		{termLog(math.MinInt, 9, 6, 2), math.MaxInt, termLog(math.MinInt, 9, 6, 2)},
		{termLog(math.MinInt, 9, 6, 2), math.MinInt + 2, logOf(math.MinInt+2, 2)},
	} {
		if got := impl.LogCut(c.log, c.i); !sameLog(got, c.want) {
			t.Error(c.log, "cut at", c.i, "came to", got)
		}
	}
}

func TestNewer(t *testing.T) {
	l := termLog(2, 1, 1, 2, 2)
	for _, c := range []struct {
		log            impl.Log
		last, lastTerm int
		want           bool
	}{
		{l, 5, 2, true},
		{l, 6, 2, true},
		{l, 4, 2, false},
		{l, 0, 2, false},
		{l, 5, 3, true},
		{l, 4, 3, true},
		{l, 0, 3, true},
		{l, -1, 3, true},
		{l, math.MinInt, 3, true},
		{l, math.MinInt, math.MaxInt, true},
		{l, 5, 1, false},
		{l, 6, 1, false},
		{l, 100000, 1, false},
		{l, math.MaxInt, 1, false},
		{l, math.MaxInt, math.MinInt, false},
		{l, math.MaxInt, 2, true},
		{l, math.MinInt, 2, false},
		{impl.Log{}, 0, 0, true},
		{impl.Log{}, 1, 0, true},
		{impl.Log{}, -1, 0, false},
		{impl.Log{}, -1, 1, true},
		{impl.Log{}, 1, -1, false},
		{logOf(7, 3), 7, 3, true},
		{logOf(7, 3), 6, 3, false},
		{logOf(7, 3), 6, 4, true},
		{logOf(7, 3), 8, 2, false},
		{termLog(-9, 1, 4, -3), -7, -3, true},
		{termLog(-9, 1, 4, -3), -8, -3, false},
		{logOf(math.MaxInt, math.MaxInt), math.MaxInt, math.MaxInt, true},
		{logOf(math.MaxInt, math.MaxInt), math.MaxInt - 1, math.MaxInt, false},
		{logOf(math.MinInt, math.MinInt), math.MinInt, math.MinInt, true},
		{logOf(math.MinInt, math.MinInt), math.MinInt, math.MaxInt, true},
	} {
		if got := impl.Newer(c.log, c.last, c.lastTerm); got != c.want {
			t.Error(c.log, "told", got, "of", c.last, c.lastTerm)
		}
	}
}

// putByTheWord: P8, of one log and one list. It tells what came.
func putByTheWord(t *testing.T, l impl.Log, prev, prevTerm int, list []impl.Entry) (impl.Log, bool) {
	t.Helper()
	want, done := logPutByTheWord(l, prev, prevTerm, list)
	got, ok := impl.LogPut(l, prev, prevTerm, list)
	if ok != done || !sameLog(got, want) {
		t.Fatal("put at", prev, prevTerm, list, "came to", got, ok, "and by the word", want, done, "of", l)
	}
	if ok {
		puts(t, "a list", l, prev, prevTerm, list, want)
	}
	return got, ok
}

// cutsRight: P8, of one log: cut at each of its numbers it has the same from there on.
func cutsRight(t *testing.T, l impl.Log) {
	t.Helper()
	number, term := impl.LastOf(l)
	for i := l.Base; i <= number; i++ {
		c := impl.LogCut(l, i)
		if c.Base != i || c.BaseTerm != impl.TermAt(l, i) || !impl.LogOk(c) {
			t.Fatal(l, "cut at", i, "came to", c)
		}
		if a, b := impl.LastOf(c); a != number || b != term {
			t.Fatal(l, "cut at", i, "has another last one:", a, b)
		}
		for j := i; j <= number+2; j++ {
			if impl.TermAt(c, j) != impl.TermAt(l, j) || j > i && !slices.Equal(impl.EntriesFrom(c, j), impl.EntriesFrom(l, j)) {
				t.Fatal(l, "cut at", i, "has another one at", j, "in", c)
			}
			if j <= number && !sameLog(impl.LogCut(c, j), impl.LogCut(l, j)) {
				t.Fatal(l, "cut at", i, "and then at", j, "came to", impl.LogCut(c, j))
			}
		}
		if i > l.Base && impl.TermAt(c, i-1) != -1 || len(impl.EntriesFrom(c, i)) != 0 {
			t.Fatal(l, "cut at", i, "knows what was cut off:", c)
		}
	}
}

// risingTerms: all rows of at most most Terms from least to 2 that never fall.
func risingTerms(least, most int) [][]int {
	all := [][]int{nil}
	if most == 0 {
		return all
	}
	for term := least; term <= 2; term++ {
		for _, row := range risingTerms(term, most-1) {
			all = append(all, append([]int{term}, row...))
		}
	}
	return all
}

// anyTerms: all rows of at most most Terms from 0 to 2.
func anyTerms(most int) [][]int {
	all := [][]int{nil}
	if most == 0 {
		return all
	}
	for term := range 3 {
		for _, row := range anyTerms(most - 1) {
			all = append(all, append([]int{term}, row...))
		}
	}
	return all
}

func TestAllShortLogs(t *testing.T) {
	done, refused := 0, 0
	for _, base := range []int{0, 1, 99996, 99997, 99998} {
		for baseTerm := range 3 {
			for _, terms := range risingTerms(baseTerm, 3) {
				l := termLog(base, baseTerm, terms...)
				if !logOkByTheWord(l) {
					continue
				}
				cutsRight(t, l)
				for _, row := range anyTerms(3) {
					list := entries(50, row...)
					for prev := base - 1; prev <= base+len(terms)+1; prev++ {
						for prevTerm := -1; prevTerm <= 2; prevTerm++ {
							if _, ok := putByTheWord(t, l, prev, prevTerm, list); ok {
								done++
							} else {
								refused++
							}
						}
					}
				}
			}
		}
	}
	if done < 1000 || refused < 1000 {
		t.Error("the logs are too much alike:", done, refused)
	}
}

// thrownLog: of that many entries at most, whose Terms rise by little.
func thrownLog(d *dice, most int) impl.Log {
	l := logOf(d.below(20), d.below(5))
	if d.below(10) == 0 {
		l.Base = 100000 - d.below(most)
	}
	term := l.BaseTerm
	for range d.below(most + 1) {
		if l.Base+len(l.List) == 100000 {
			break
		}
		term += max(0, d.below(5)-2)
		l.List = append(l.List, entry(term, d.below(1000)))
	}
	return l
}

// thrownList: what might be put behind prev: what is there, then what is not; a few of them are wrong.
func thrownList(d *dice, l impl.Log, prev int) []impl.Entry {
	list := impl.EntriesFrom(l, prev+1)
	if len(list) > 0 {
		list = list[:d.below(len(list)+1)]
	}
	term := impl.TermAt(l, prev+len(list))
	for range d.below(6) {
		term += max(0, d.below(5)-2)
		list = append(list, entry(term, d.below(1000)))
	}
	if len(list) > 0 {
		switch e := &list[d.below(len(list))]; d.below(12) {
		case 0:
			e.Term--
		case 1:
			e.C = badCmds[d.below(len(badCmds))]
		case 2:
			e.Term = edgeNumbers[d.below(len(edgeNumbers))]
		}
	}
	return list
}

func TestThrownLogs(t *testing.T) {
	d := &dice{81}
	done, refused, shorter, alike := 0, 0, 0, 0
	for range 600 {
		l := thrownLog(d, 12)
		cutsRight(t, l)
		for range 20 {
			number, _ := impl.LastOf(l)
			prev := l.Base + d.below(number-l.Base+1)
			prevTerm := impl.TermAt(l, prev)
			list := thrownList(d, l, prev)
			switch d.below(12) {
			case 0:
				prev += d.below(5) - 2
			case 1:
				prevTerm += d.below(5) - 2
			}
			came, ok := putByTheWord(t, l, prev, prevTerm, list)
			switch {
			case !ok:
				refused++
			case len(came.List) < len(l.List):
				shorter++
			case sameLog(came, l):
				alike++
			default:
				done++
			}
			if ok {
				partsAgree(t, d, l, prev, list, came)
			}
			l = came
			if d.below(8) == 0 {
				l = impl.LogCut(l, l.Base+d.below(len(l.List)+2))
			}
		}
	}
	if min(done, refused, shorter, alike) < 300 {
		t.Error("the logs are too much alike:", done, refused, shorter, alike)
	}
}

// partsAgree: what was put at once comes also part by part, and to a log that was cut no further than prev.
func partsAgree(t *testing.T, d *dice, l impl.Log, prev int, list []impl.Entry, came impl.Log) {
	t.Helper()
	at := d.below(len(list) + 1)
	first, ok := impl.LogPut(l, prev, impl.TermAt(l, prev), list[:at])
	both, then := impl.LogPut(first, prev+at, impl.TermAt(first, prev+at), list[at:])
	if !ok || !then || !sameLog(both, came) {
		t.Fatal("part by part came to", both, "and at once to", came)
	}
	if at > 0 {
		old, ok := impl.LogPut(came, prev, impl.TermAt(l, prev), list[:at])
		if !ok || !sameLog(old, came) {
			t.Fatal("a part that comes late cut off what is there:", old, "of", came)
		}
	}
	i := l.Base + d.below(prev-l.Base+1)
	cut, ok := impl.LogPut(impl.LogCut(l, i), prev, impl.TermAt(l, prev), list)
	if !ok || !sameLog(cut, impl.LogCut(came, i)) {
		t.Fatal("cut at", i, "it came to", cut, "and not to", impl.LogCut(came, i))
	}
}

func TestThrownWrongLogs(t *testing.T) {
	d := &dice{82}
	edge := func() int { return edgeNumbers[d.below(len(edgeNumbers))] }
	wrong := 0
	for range 3000 {
		l := thrownLog(d, 6)
		for range d.below(3) {
			switch at := d.below(5); {
			case at == 0:
				l.Base = edge()
			case at == 1:
				l.BaseTerm = edge()
			case len(l.List) == 0:
			case at == 2:
				l.List[d.below(len(l.List))].Term = edge()
			case at == 3:
				l.List[d.below(len(l.List))].C = badCmds[d.below(len(badCmds))]
			default:
				l.List[d.below(len(l.List))].Term -= 2
			}
		}
		if impl.LogOk(l) != logOkByTheWord(l) {
			t.Fatal("not as by the word:", l)
		}
		if !logOkByTheWord(l) {
			wrong++
		}
		asksByTheWord(t, "a thrown log", l)
		for range 5 {
			prev, prevTerm := edge(), edge()
			if d.below(3) > 0 {
				prev = l.Base + d.below(len(l.List)+3) - 1
				prevTerm = impl.TermAt(l, prev)
			}
			putByTheWord(t, l, prev, prevTerm, thrownList(d, l, prev))
		}
	}
	if wrong < 500 {
		t.Error("the logs are too much alike:", wrong)
	}
}

// ownEntries: a list of an answer is spoilt, with the room behind it.
func ownEntries(list []impl.Entry) {
	fillRoom(list, entry(-66, 66))
	spoil(list, entry(-88, 88))
}

func TestLogsAreNotWrittenInto(t *testing.T) {
	fill := entry(-77, 77)
	lists := [][]impl.Entry{nil, {}, entries(50, 1), entries(50, 2, 2, 5), entries(50, 1, 2, 2, 5), entries(50, 1, 2, 2, 5, 5, 6), entries(50, 5, 5, 6), entries(50, 4), entries(50, 7, 6), entries(50, -1)}
	logs := append([]logCase{{"four", termLog(2, 1, 1, 2, 2, 5)}}, slices.Concat(goodLogs(), badLogs())...)
	for _, c := range logs {
		if len(c.log.List) > 1000 {
			continue
		}
		rows, whole := roomy(c.log.List, fill)
		l := logOf(c.log.Base, c.log.BaseTerm)
		l.List = rows
		kept := slices.Clone(whole())
		for _, of := range lists {
			list, all := roomy(of, fill)
			was := slices.Clone(all())
			for i := l.Base - 2; i <= l.Base+len(l.List)+2; i++ {
				got, _ := impl.LogPut(l, i, impl.TermAt(l, i), list)
				ownEntries(got.List)
				got, _ = impl.LogPut(l, i, impl.TermAt(l, i)+1, list)
				ownEntries(got.List)
				ownEntries(impl.LogCut(l, i).List)
				ownEntries(impl.EntriesFrom(l, i))
				impl.LastOf(l)
				impl.LogOk(l)
				impl.Newer(l, i, i)
			}
			got, _ := impl.LogPut(l, l.Base, l.BaseTerm, l.List)
			ownEntries(got.List)
			got, _ = impl.LogPut(l, l.Base+1, impl.TermAt(l, l.Base+1), l.List)
			ownEntries(got.List)
			if !reflect.DeepEqual(whole(), kept) || !slices.Equal(all(), was) {
				t.Fatal("written into, or memory shared with an answer:", c.name, of)
			}
		}
	}
}

// What is one memory in the arguments is none in the answer: a list that is a part of the log itself.
func TestLogsThatArePutIntoThemselves(t *testing.T) {
	l := termLog(0, 0, 1, 1, 1, 2, 2)
	kept := slices.Clone(l.List)
	got, ok := impl.LogPut(l, 2, 1, l.List[3:4])
	if !ok || !sameLog(got, logOf(0, 0, kept[0], kept[1], kept[3])) {
		t.Error("came to", got, ok)
	}
	got, ok = impl.LogPut(logOf(0, 0, l.List[:2]...), 2, 1, l.List)
	if !ok || !sameLog(got, logOf(0, 0, slices.Concat(kept[:2], kept)...)) {
		t.Error("came to", got, ok)
	}
	short := impl.Log{List: l.List[:2]} // with room behind it, in which other entries stand
	if got, ok = impl.LogPut(short, 2, 1, entries(50, 9, 9)); !ok || !slices.Equal(l.List, kept) {
		t.Error("wrote into the room behind:", l.List, "of", got)
	}
}
