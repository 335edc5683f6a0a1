package tests

import (
	"bytes"
	"fmt"
	"maps"
	"math"
	"slices"
	"strings"
	"testing"

	"loop.example/g00475/impl"
)

// rowsMost is how many rows a tab has at most, written out apart from the
// program.
const rowsMost = 8

// eightKeys are keys in their order, of which one begins another; digits are
// ahead of letters.
func eightKeys() []string {
	return []string{"0", "09", "9", "a", "a0", "aa", "ab", "zzzzzz"}
}

// otherKeys are keys ahead of these, between them and behind them.
func otherKeys() []string {
	return []string{"00", "08", "0a", "1", "99", "9z", "a00", "az", "b", "zzzzz", "z"}
}

// rowsOf answers a right row of each key, in each way in turn.
func rowsOf(keys ...string) []impl.Row {
	var l []impl.Row
	for i, key := range keys {
		l = append(l, keyed(key, copiedRow(someRows()[i%len(someRows())])))
	}
	return l
}

func mark(who int, seq int, code int) impl.Mark {
	return impl.Mark{Who: who, Seq: seq, Code: code}
}

// nineMarks are Marks of each who there may be.
func nineMarks() []impl.Mark {
	var l []impl.Mark
	for who := 1; who <= whoMost; who++ {
		l = append(l, mark(who, who*7000, who%7))
	}
	return l
}

func tab(phase int, rows []impl.Row, marks ...impl.Mark) impl.Tab {
	return impl.Tab{Rows: rows, Phase: phase, Marks: marks}
}

func copiedTab(t impl.Tab) impl.Tab {
	out := impl.Tab{Phase: t.Phase}
	for _, r := range t.Rows {
		out.Rows = append(out.Rows, copiedRow(r))
	}
	for _, m := range t.Marks {
		out.Marks = append(out.Marks, m)
	}
	return out
}

// alike says whether two tabs are the same, apart from the program.
func alike(a impl.Tab, b impl.Tab) bool {
	return slices.EqualFunc(a.Rows, b.Rows, sameRow) && a.Phase == b.Phase && slices.Equal(a.Marks, b.Marks)
}

func alikeRecs(a []impl.Rec, b []impl.Rec) bool {
	return slices.EqualFunc(a, b, sameRec)
}

// tabOk says by the books whether a tab is right: each part is held against all
// those ahead of it.
func (z shelf) tabOk(t impl.Tab) bool {
	good := len(t.Rows) <= rowsMost && slices.Contains(allPhases(), t.Phase)
	for i, r := range t.Rows {
		good = good && z.rowOk(r)
		for _, one := range t.Rows[:i] {
			good = good && bytes.Compare([]byte(one.Key), []byte(r.Key)) < 0
		}
	}
	for i, m := range t.Marks {
		good = good && z.recOk(whoRec(m.Who, m.Seq, m.Code))
		for _, one := range t.Marks[:i] {
			good = good && one.Who < m.Who
		}
	}
	return good
}

// applied answers by the books what a record makes of a tab: all stands in maps,
// and is put in order in the end.
func (z shelf) applied(t impl.Tab, r impl.Rec) (impl.Tab, bool) {
	if !z.recOk(r) || !z.tabOk(t) {
		return t, false
	}
	rows, marks := map[string]impl.Row{}, map[int]impl.Mark{}
	for _, one := range t.Rows {
		rows[one.Key] = one
	}
	for _, m := range t.Marks {
		marks[m.Who] = m
	}
	out := impl.Tab{Phase: t.Phase}
	switch r.Kind {
	case kindRow:
		rows[r.R.Key] = r.R
	case kindGone:
		delete(rows, r.Key)
	case kindPhase:
		out.Phase = r.N
	}
	if r.Who != 0 {
		marks[r.Who] = mark(r.Who, r.Seq, r.Code)
	}
	if len(rows) > rowsMost {
		return t, false
	}
	for _, key := range slices.Sorted(maps.Keys(rows)) {
		out.Rows = append(out.Rows, rows[key])
	}
	for _, who := range slices.Sorted(maps.Keys(marks)) {
		out.Marks = append(out.Marks, marks[who])
	}
	return out, true
}

// recsWanted are the records of a tab, as the chapter tells of them.
func recsWanted(t impl.Tab) []impl.Rec {
	l := []impl.Rec{phaseRec(t.Phase)}
	for _, r := range t.Rows {
		l = append(l, rowRec(r))
	}
	for _, m := range t.Marks {
		l = append(l, whoRec(m.Who, m.Seq, m.Code))
	}
	return l
}

// checkApplied fails when a record makes another tab than that, or one that is
// not right, or not the same when it is applied again.
func checkApplied(t *testing.T, from impl.Tab, r impl.Rec, want impl.Tab) {
	t.Helper()
	got, ok := impl.Apply(copiedTab(from), copiedRec(r))
	if !ok || !alike(got, want) {
		t.Errorf("Apply of %v to %v is %v, %v; not %v", r, from, got, ok, want)
		return
	}
	if !impl.TabOk(got) {
		t.Errorf("Apply of %v to %v is %v, which is not right", r, from, got)
	}
	if again, ok := impl.Apply(got, r); !ok || !alike(again, want) {
		t.Errorf("Apply of %v to %v, twice, is %v, %v; not %v", r, from, again, ok, want)
	}
}

// notApplied fails when Apply answers anything but the tab and false.
func notApplied(t *testing.T, from impl.Tab, r impl.Rec) {
	t.Helper()
	if got, ok := impl.Apply(copiedTab(from), copiedRec(r)); ok || !alike(got, from) {
		t.Errorf("Apply of %v to %v is %v, %v", r, from, got, ok)
	}
}

// checkMadeOfRecs fails when a tab has other records than it is to have, or when
// these do not make it of the zero one.
func checkMadeOfRecs(t *testing.T, from impl.Tab) {
	t.Helper()
	l := impl.RecsOf(copiedTab(from))
	if !alikeRecs(l, recsWanted(from)) {
		t.Errorf("RecsOf(%v) is %v", from, l)
	}
	made := impl.Tab{}
	for i, r := range l {
		next, ok := impl.Apply(made, r)
		if !ok || !impl.TabOk(next) {
			t.Errorf("the record %d of %v is not applied: %v, %v", i, from, next, ok)
		}
		made = next
	}
	if !alike(made, from) || !impl.SameTab(made, from) {
		t.Errorf("the records of %v make %v", from, made)
	}
}

// rightTabs are tabs that are right, the zero one among them.
func rightTabs() []impl.Tab {
	eight := rowsOf(eightKeys()...)
	l := []impl.Tab{
		{}, tab(3, nil), tab(0, rowsOf("k")), tab(0, nil, mark(1, 0, 0)),
		tab(7, rowsOf("a", "b")), tab(1, rowsOf("a", "ab")), tab(2, rowsOf("a", "ab", "abc", "b")), tab(2, rowsOf("9", "a")), tab(6, rowsOf("abcde", "abcdef")),
		tab(4, rowsOf("a", "b", "c"), mark(2, 7, 3), mark(8, 7, 3)),
		tab(5, eight[:7], mark(1, 0, 0), mark(9, 65535, 6)), tab(6, eight[1:], mark(5, 1, 2)), tab(0, eight), tab(7, eight, nineMarks()...), tab(3, nil, nineMarks()...),
	}
	for _, phase := range allPhases() {
		l = append(l, tab(phase, rowsOf("a", "b"), mark(3, 4, 5)))
	}
	for who := 1; who <= whoMost; who++ {
		l = append(l, tab(0, nil, mark(who, who-1, 0)))
	}
	for _, seq := range []int{0, 1, 255, 256, 60000, 65534, 65535} {
		for code := range codeMost + 1 {
			l = append(l, tab(1, rowsOf("k"), mark(1, seq, code), mark(9, seq, code)))
		}
	}
	for _, r := range someRows() {
		l = append(l, tab(2, []impl.Row{r}))
	}
	return l
}

// wrongMarks are Marks that are not right, each by one of its parts.
func wrongMarks() []impl.Mark {
	l := []impl.Mark{{}, mark(0, 0, 0), mark(0, 1, 0), mark(0, 0, 1), mark(-1, 7, 3), mark(10, 7, 3), mark(11, 0, 0), mark(257, 7, 3), mark(5, -1, 3), mark(5, 65536, 3), mark(5, 65537, 3), mark(5, 7, -1), mark(5, 7, 7), mark(5, 7, 8), mark(5, 7, 256)}
	for _, n := range farNumbers() {
		l = append(l, mark(n, 7, 3), mark(5, n, 3), mark(5, 7, n))
	}
	return l
}

// wrongTabs are tabs that are not right, each by one of its parts.
func wrongTabs() []impl.Tab {
	l := []impl.Tab{
		// one row too many, and more
		tab(0, rowsOf("0", "00", "09", "9", "a", "a0", "aa", "ab", "zzzzzz")), tab(0, rowsOf("0", "09", "9", "a", "a0", "aa", "ab", "b", "c")), tab(3, rowsOf("0", "00", "09", "9", "a", "a0", "aa", "ab", "zzzzzz"), mark(1, 2, 3)),
		tab(0, rowsOf("0", "1", "2", "3", "4", "5", "6", "7", "8")), tab(0, rowsOf("0", "1", "2", "3", "4", "5", "6", "7", "8", "9")), tab(5, rowsOf("0", "1", "2", "3", "4", "5", "6", "7", "8"), nineMarks()...),
		// rows that are not in order, or of the same key
		tab(0, rowsOf("b", "a")), tab(0, rowsOf("ab", "a")), tab(0, rowsOf("a", "9")), tab(0, rowsOf("b", "aa")), tab(0, rowsOf("10", "1", "2")), tab(0, rowsOf("1", "2", "10")),
		tab(0, rowsOf("a", "a")), tab(0, slices.Concat(rowsOf("a"), rowsOf("a"))), tab(0, rowsOf("a", "b", "a")), tab(0, rowsOf("a", "b", "b")), tab(0, rowsOf("a", "c", "b")), tab(0, rowsOf("b", "a", "c")),
		tab(0, rowsOf("0", "1", "2", "3", "4", "5", "6", "6")), tab(0, rowsOf("0", "1", "2", "3", "4", "5", "7", "6")),
		// Marks that are not in order, or of the same who
		tab(0, nil, mark(2, 0, 0), mark(1, 0, 0)), tab(0, nil, mark(1, 1, 0), mark(1, 1, 0)), tab(0, nil, mark(1, 1, 0), mark(1, 2, 0)), tab(0, nil, mark(1, 0, 0), mark(3, 0, 0), mark(2, 0, 0)), tab(0, nil, mark(1, 0, 0), mark(2, 0, 0), mark(2, 1, 0)), tab(0, nil, mark(9, 0, 0), mark(1, 0, 0)),
		tab(0, nil, append(nineMarks(), mark(9, 0, 0))...), tab(0, nil, append(nineMarks(), mark(10, 0, 0))...), tab(0, nil, append([]impl.Mark{mark(0, 0, 0)}, nineMarks()...)...), tab(0, nil, append(nineMarks(), nineMarks()...)...),
	}
	for _, phase := range noPhases() {
		l = append(l, tab(phase, nil), tab(phase, rowsOf("a", "b"), mark(3, 4, 5)))
	}
	for i, m := range wrongMarks() {
		l = append(l, tab(0, nil, m), tab(i%8, rowsOf("a", "b"), mark(1, 0, 0), m), tab(i%8, nil, m, mark(9, 0, 0)))
	}
	z := shelfOf()
	for _, r := range wrongRows() {
		for _, one := range []impl.Row{r, aside(r)} {
			if !z.rowOk(one) {
				l = append(l, tab(0, []impl.Row{one}))
			}
		}
	}
	for i, r := range []impl.Row{{}, {Key: "l"}, keyed("l", bothRow(impl.CsLat, "a", "b")), keyed("l", oldRow(impl.CsUtf, "a")), keyed("l", newRow("\xff")), keyed("L", newRow("a")), keyed("m", newRow(strings.Repeat("a", 21)))} {
		l = append(l, tab(i, append([]impl.Row{r}, rowsOf("x", "y", "z")...)), tab(i, append(rowsOf("a", "b"), r)), tab(i, slices.Concat(rowsOf("a", "b"), []impl.Row{r}, rowsOf("y"))))
	}
	return l
}

func TestHowManyRowsATabHas(t *testing.T) {
	if impl.MaxRows != rowsMost {
		t.Errorf("MaxRows is %d", impl.MaxRows)
	}
	for n := range 20 {
		keys := strings.Split("0123456789abcdefghij"[:n], "")
		if got := impl.TabOk(tab(2, rowsOf(keys...))); got != (n <= 8) {
			t.Errorf("TabOk of %d rows is %v", n, got)
		}
	}
}

func TestTabsThatAreRight(t *testing.T) {
	z := shelfOf()
	for _, x := range rightTabs() {
		if !impl.TabOk(x) {
			t.Errorf("TabOk(%v) is false", x)
		}
		if !z.tabOk(x) {
			t.Errorf("%v is not right by the books", x)
		}
	}
	for _, r := range rightRows() {
		if x := tab(1, []impl.Row{r}); !impl.TabOk(x) {
			t.Errorf("TabOk(%v) is false", x)
		}
	}
}

func TestTabsThatAreNotRight(t *testing.T) {
	z := shelfOf()
	for _, x := range wrongTabs() {
		if impl.TabOk(x) {
			t.Errorf("TabOk(%v) is true", x)
		}
		if z.tabOk(x) {
			t.Errorf("%v is right by the books", x)
		}
	}
}

// Each pair of keys is right in one order alone.
func TestKeysAreOrderedByteByByte(t *testing.T) {
	keys := append(eightKeys(), otherKeys()...)
	slices.Sort(keys)
	for i, one := range keys {
		for k, two := range keys {
			if got := impl.TabOk(tab(0, []impl.Row{keyed(one, newRow("a")), keyed(two, newRow("a"))})); got != (i < k) {
				t.Errorf("TabOk of %s ahead of %s is %v", one, two, got)
			}
		}
	}
	for one := 1; one <= 9; one++ {
		for two := 1; two <= 9; two++ {
			if got := impl.TabOk(tab(0, nil, mark(one, 1, 1), mark(two, 1, 1))); got != (one < two) {
				t.Errorf("TabOk of the Mark of %d ahead of that of %d is %v", one, two, got)
			}
		}
	}
}

func TestPlacesOfRows(t *testing.T) {
	x := tab(3, rowsOf(eightKeys()...), nineMarks()...)
	for i, key := range eightKeys() {
		if at := impl.RowAt(x, key); at != i {
			t.Errorf("RowAt %s is %d, not %d", key, at, i)
		}
		if at := impl.RowAt(tab(0, rowsOf(key)), key); at != 0 {
			t.Errorf("RowAt %s of its tab alone is %d", key, at)
		}
	}
	for _, key := range append(otherKeys(), noNames()...) {
		for _, one := range []impl.Tab{x, {}, tab(3, nil, nineMarks()...), tab(0, rowsOf("k"))} {
			if at := impl.RowAt(one, key); at != -1 {
				t.Errorf("RowAt %q of %v is %d", key, one, at)
			}
		}
	}
}

func TestMarksOfSomebody(t *testing.T) {
	all := tab(3, rowsOf("a"), nineMarks()...)
	some := tab(3, rowsOf("a"), mark(2, 9, 4), mark(5, 0, 0), mark(9, 65535, 6))
	for who := 1; who <= whoMost; who++ {
		if m, ok := impl.MarkAt(all, who); !ok || m != mark(who, who*7000, who%7) {
			t.Errorf("MarkAt %d is %v, %v", who, m, ok)
		}
		m, ok := impl.MarkAt(some, who)
		want, is := map[int]impl.Mark{2: mark(2, 9, 4), 5: mark(5, 0, 0), 9: mark(9, 65535, 6)}[who]
		if ok != is || m != want {
			t.Errorf("MarkAt %d of some is %v, %v; not %v", who, m, ok, want)
		}
	}
	for _, who := range append(farNumbers(), 0, -1, 10, 11, 257) {
		for _, one := range []impl.Tab{all, some, {}, tab(3, rowsOf("a"))} {
			if m, ok := impl.MarkAt(one, who); ok || m != (impl.Mark{}) {
				t.Errorf("MarkAt %d of %v is %v, %v", who, one, m, ok)
			}
		}
	}
}

// What is looked for is found in lists that are not right, too, the first one of
// those that are alike.
func TestWhatIsLookedForInTabsThatAreNotRight(t *testing.T) {
	rows := rowsOf("b", "a", "b", "c", "a", "", "K", "abcdefg", "b", "1", "2", "3")
	for key, want := range map[string]int{"b": 0, "a": 1, "c": 3, "": 5, "K": 6, "abcdefg": 7, "1": 9, "3": 11, "4": -1, "k": -1, "ab": -1} {
		if at := impl.RowAt(tab(-1, rows), key); at != want {
			t.Errorf("RowAt %q is %d, not %d", key, at, want)
		}
	}
	x := tab(8, nil, mark(9, 1, 1), mark(2, 2, 2), mark(9, 3, 3), mark(2, 4, 4), mark(0, 5, 5), mark(10, 6, 6), mark(-1, 7, 70000), mark(1, 8, 8), mark(math.MaxInt, 9, 9))
	for who, want := range map[int]impl.Mark{9: mark(9, 1, 1), 2: mark(2, 2, 2), 0: mark(0, 5, 5), 10: mark(10, 6, 6), -1: mark(-1, 7, 70000), 1: mark(1, 8, 8), math.MaxInt: mark(math.MaxInt, 9, 9)} {
		if m, ok := impl.MarkAt(x, who); !ok || m != want {
			t.Errorf("MarkAt %d is %v, %v; not %v", who, m, ok, want)
		}
	}
	if m, ok := impl.MarkAt(x, 3); ok || m != (impl.Mark{}) {
		t.Errorf("MarkAt 3 is %v, %v", m, ok)
	}
}

func TestARowOfANewKeyStandsInItsOrder(t *testing.T) {
	for _, r := range someRows() {
		for _, x := range []struct {
			from []string
			key  string
			want []string
		}{
			{nil, "k", []string{"k"}},
			{[]string{"k"}, "a", []string{"a", "k"}},
			{[]string{"k"}, "z", []string{"k", "z"}},
			{[]string{"k"}, "k0", []string{"k", "k0"}},
			{[]string{"k0"}, "k", []string{"k", "k0"}},
			{[]string{"a", "c"}, "b", []string{"a", "b", "c"}},
			{[]string{"a", "c"}, "ab", []string{"a", "ab", "c"}},
			{[]string{"a", "c"}, "9", []string{"9", "a", "c"}},
			{[]string{"a", "c"}, "d", []string{"a", "c", "d"}},
			{[]string{"0", "09", "9", "a", "a0", "aa", "ab"}, "a00", []string{"0", "09", "9", "a", "a0", "a00", "aa", "ab"}},
			{[]string{"0", "09", "9", "a", "a0", "aa", "ab"}, "00", []string{"0", "00", "09", "9", "a", "a0", "aa", "ab"}},
			{[]string{"1", "2", "3", "4", "5", "6", "7"}, "0", []string{"0", "1", "2", "3", "4", "5", "6", "7"}},
			{[]string{"1", "2", "3", "4", "5", "6", "7"}, "70", []string{"1", "2", "3", "4", "5", "6", "7", "70"}},
		} {
			from := rowsOf(x.from...)
			var want []impl.Row
			for _, key := range x.want {
				one := keyed(key, r)
				if i := slices.Index(x.from, key); i >= 0 {
					one = from[i]
				}
				want = append(want, one)
			}
			marks := []impl.Mark{mark(2, 9, 1), mark(7, 3, 6)}
			checkApplied(t, tab(4, from), rowRec(keyed(x.key, r)), tab(4, want))
			checkApplied(t, tab(4, from, marks...), rowRec(keyed(x.key, r)), tab(4, want, marks...))
			checkApplied(t, tab(4, from), by(rowRec(keyed(x.key, r)), 3, 65535, 6), tab(4, want, mark(3, 65535, 6)))
		}
	}
}

func TestARowOfAKeyThatIsThereStandsInItsPlace(t *testing.T) {
	for _, keys := range [][]string{{"k"}, {"a", "b"}, {"a", "ab", "abc"}, eightKeys()} {
		for _, r := range someRows() {
			for i, key := range keys {
				from := rowsOf(keys...)
				want := slices.Clone(from)
				want[i] = keyed(key, r)
				checkApplied(t, tab(2, from), rowRec(keyed(key, r)), tab(2, want))
				checkApplied(t, tab(2, from, nineMarks()...), rowRec(keyed(key, r)), tab(2, want, nineMarks()...))
				checkApplied(t, tab(2, from, mark(4, 5, 6)), by(rowRec(keyed(key, r)), 4, 6, 0), tab(2, want, mark(4, 6, 0)))
			}
		}
	}
}

// Whatever the order in which rows come, they stand in that of their keys.
func TestRowsThatComeInAnyOrder(t *testing.T) {
	keys := []string{"9", "a", "ab", "b"}
	want := tab(0, rowsOf(keys...))
	var goThrough func(x impl.Tab, left []int)
	goThrough = func(x impl.Tab, left []int) {
		if len(left) == 0 && !alike(x, want) {
			t.Errorf("%v, not %v", x, want)
		}
		for i, at := range left {
			next, ok := impl.Apply(x, rowRec(want.Rows[at]))
			if !ok {
				t.Fatalf("Apply of %v to %v is false", want.Rows[at], x)
			}
			goThrough(next, slices.Delete(slices.Clone(left), i, i+1))
		}
	}
	goThrough(impl.Tab{}, []int{0, 1, 2, 3})
}

func TestOneRowTooMany(t *testing.T) {
	eight := rowsOf(eightKeys()...)
	for _, marks := range [][]impl.Mark{nil, {mark(3, 4, 5)}, nineMarks()} {
		from := tab(5, eight, marks...)
		for _, key := range otherKeys() {
			for _, r := range someRows() {
				notApplied(t, from, rowRec(keyed(key, r)))
				// nor is there a Mark of who asked for it
				notApplied(t, from, by(rowRec(keyed(key, r)), 3, 65535, 0))
				notApplied(t, from, by(rowRec(keyed(key, r)), 1, 0, 6))
			}
		}
		// one that is gone makes room for one
		less, ok := impl.Apply(from, goneRec("a0"))
		if !ok || len(less.Rows) != 7 {
			t.Fatalf("Apply of a key that is gone: %v, %v", less, ok)
		}
		r := keyed("b", newRow("a"))
		checkApplied(t, less, rowRec(r), tab(5, slices.Concat(eight[:4], eight[5:7], []impl.Row{r}, eight[7:]), marks...))
	}
}

func TestRowsThatAreGone(t *testing.T) {
	for _, keys := range [][]string{{"k"}, {"a", "b"}, {"a", "ab", "abc"}, eightKeys()} {
		from := rowsOf(keys...)
		for i, key := range keys {
			want := slices.Concat(from[:i], from[i+1:])
			checkApplied(t, tab(6, from), goneRec(key), tab(6, want))
			checkApplied(t, tab(6, from, nineMarks()...), goneRec(key), tab(6, want, nineMarks()...))
			checkApplied(t, tab(6, from, mark(1, 9, 2)), by(goneRec(key), 1, 8, 1), tab(6, want, mark(1, 8, 1)))
		}
	}
}

func TestAKeyThatIsNotThereIsGone(t *testing.T) {
	for _, keys := range [][]string{nil, {"k"}, {"a", "ab", "abd"}, eightKeys()} {
		from := rowsOf(keys...)
		for _, key := range append(otherKeys(), "abc", "abcd", "k0") {
			checkApplied(t, tab(6, from, mark(2, 7, 1)), goneRec(key), tab(6, from, mark(2, 7, 1)))
			checkApplied(t, tab(6, from, mark(2, 7, 1)), by(goneRec(key), 2, 8, 2), tab(6, from, mark(2, 8, 2)))
			checkApplied(t, tab(6, from, mark(2, 7, 1)), by(goneRec(key), 1, 8, 2), tab(6, from, mark(1, 8, 2), mark(2, 7, 1)))
		}
	}
}

// What may follow which phase is not asked here.
func TestPhasesOfTabs(t *testing.T) {
	for _, from := range allPhases() {
		for _, n := range allPhases() {
			rows := rowsOf("a", "b")
			checkApplied(t, impl.Tab{Phase: from}, phaseRec(n), impl.Tab{Phase: n})
			checkApplied(t, tab(from, rows, mark(3, 4, 5)), phaseRec(n), tab(n, rows, mark(3, 4, 5)))
			checkApplied(t, tab(from, rows, mark(3, 4, 5)), by(phaseRec(n), 3, 5, 0), tab(n, rows, mark(3, 5, 0)))
			checkApplied(t, tab(from, rowsOf(eightKeys()...), nineMarks()...), phaseRec(n), tab(n, rowsOf(eightKeys()...), nineMarks()...))
		}
		for _, n := range noPhases() {
			notApplied(t, tab(from, rowsOf("a", "b"), mark(3, 4, 5)), phaseRec(n))
			notApplied(t, tab(from, rowsOf("a", "b"), mark(3, 4, 5)), by(phaseRec(n), 3, 5, 0))
		}
	}
}

// Each record of somebody leaves a Mark, whatever its kind, its number and its
// code.
func TestMarksStandInTheirOrder(t *testing.T) {
	for who := 1; who <= whoMost; who++ {
		for _, numbers := range [][2]int{{0, 0}, {65535, 6}, {7, 3}} {
			one := mark(who, numbers[0], numbers[1])
			checkApplied(t, impl.Tab{}, whoRec(who, one.Seq, one.Code), tab(0, nil, one))
			// in the place of one of who, though its number was greater
			all := nineMarks()
			all[who-1] = one
			checkApplied(t, tab(4, rowsOf("a"), nineMarks()...), whoRec(who, one.Seq, one.Code), tab(4, rowsOf("a"), all...))
			checkApplied(t, tab(4, rowsOf("a"), nineMarks()...), by(goneRec("b"), who, one.Seq, one.Code), tab(4, rowsOf("a"), all...))
			checkApplied(t, tab(4, rowsOf("a"), nineMarks()...), by(phaseRec(1), who, one.Seq, one.Code), tab(1, rowsOf("a"), all...))
			checkApplied(t, tab(4, rowsOf("a"), nineMarks()...), by(rowRec(rowsOf("a", "b")[1]), who, one.Seq, one.Code), tab(4, rowsOf("a", "b"), all...))
			// where there was none
			rest := slices.Concat(nineMarks()[:who-1], nineMarks()[who:])
			checkApplied(t, tab(4, rowsOf("a"), rest...), whoRec(who, one.Seq, one.Code), tab(4, rowsOf("a"), all...))
			checkApplied(t, tab(4, rowsOf("a"), rest...), by(phaseRec(7), who, one.Seq, one.Code), tab(7, rowsOf("a"), all...))
		}
	}
}

func TestWhatNobodyAskedLeavesNoMark(t *testing.T) {
	for _, x := range rightTabs() {
		for _, r := range []impl.Rec{phaseRec(3), goneRec("k"), rowRec(keyed("0", newRow("a")))} {
			if len(x.Rows) == rowsMost {
				continue
			}
			got, ok := impl.Apply(x, r)
			if !ok || !slices.Equal(got.Marks, x.Marks) {
				t.Errorf("Apply of %v to %v is %v, %v", r, x, got, ok)
			}
		}
	}
}

// recsFor are records for a tab: of each key that it has, and of some others, of
// nobody, of somebody who has a Mark, and of one who may have none.
func recsFor(x impl.Tab) []impl.Rec {
	keys := []string{"00", "a", "a1", "zz"}
	for _, r := range x.Rows {
		keys = append(keys, r.Key)
	}
	var alone []impl.Rec
	for i, key := range keys {
		alone = append(alone, goneRec(key), rowRec(keyed(key, someRows()[(i+5)%len(someRows())])))
	}
	for _, n := range allPhases() {
		alone = append(alone, phaseRec(n))
	}
	l := []impl.Rec{whoRec(1, 0, 0), whoRec(2, 5, 6), whoRec(9, 65535, 6)}
	for i, r := range alone {
		l = append(l, r, by(r, 1+i%9, i*999%65536, i%7), by(r, 9, 65535, 6))
	}
	return l
}

func TestWhatIsAppliedIsAsTheBooksHaveIt(t *testing.T) {
	z := shelfOf()
	met := map[bool]int{}
	for _, x := range rightTabs() {
		for _, r := range append(recsFor(x), someRecs()...) {
			want, is := z.applied(x, r)
			met[is]++
			if is {
				checkApplied(t, x, r, want)
			} else {
				notApplied(t, x, r)
			}
		}
	}
	if met[true] < 1000 || met[false] < 30 {
		t.Errorf("records are applied %d times, and not %d times", met[true], met[false])
	}
}

// wrongRecs are records that are not right, each by one of its parts.
func wrongRecs() []impl.Rec {
	l := []impl.Rec{
		{}, {Kind: -1}, {Kind: 5}, {Kind: 0, N: 3}, {Kind: kindRow}, {Kind: kindGone}, {Kind: kindWho}, {Kind: math.MaxInt, Who: 1}, by(impl.Rec{}, 1, 2, 3), by(impl.Rec{Kind: 5}, 1, 2, 3), {Kind: 5, Key: "a"}, {Kind: 5, R: newRow("a")},
		phaseRec(8), phaseRec(-1), by(phaseRec(8), 1, 2, 3), by(phaseRec(-1), 1, 2, 3),
		goneRec(""), goneRec("K"), goneRec("abcdefg"), by(goneRec(""), 1, 2, 3), by(goneRec("A"), 1, 2, 3),
		whoRec(0, 0, 0), whoRec(0, 1, 0), whoRec(10, 1, 1), whoRec(-1, 1, 1), whoRec(1, 65536, 0), whoRec(1, -1, 0), whoRec(1, 1, 7), whoRec(1, 1, -1),
		by(phaseRec(3), 10, 1, 1), by(phaseRec(3), -1, 1, 1), by(phaseRec(3), 1, 65536, 1), by(phaseRec(3), 1, -1, 1), by(phaseRec(3), 1, 1, 7), by(phaseRec(3), 1, 1, -1), by(phaseRec(3), 0, 1, 0), by(phaseRec(3), 0, 0, 1),
		by(goneRec("a"), 10, 1, 1), by(goneRec("a"), 0, 1, 0), by(rowRec(newRow("a")), 10, 1, 1), by(rowRec(newRow("a")), 0, 0, 1), by(rowRec(newRow("a")), 1, 65536, 0), by(rowRec(newRow("a")), 1, 1, 7),
		{Kind: kindRow, R: newRow("a"), Key: "k"}, {Kind: kindRow, R: newRow("a"), N: 1}, {Kind: kindGone, Key: "a", N: 1}, {Kind: kindGone, Key: "a", R: newRow("a")}, {Kind: kindPhase, N: 3, Key: "a"}, {Kind: kindPhase, N: 3, R: newRow("a")}, {Kind: kindWho, Who: 1, N: 1}, {Kind: kindWho, Who: 1, Key: "a"}, {Kind: kindWho, Who: 1, R: newRow("a")},
	}
	for _, r := range []impl.Row{{Key: "a"}, keyed("A", newRow("a")), keyed("", newRow("a")), bothRow(impl.CsLat, "a", "b"), oldRow(impl.CsUtf, "a"), newRow("\xff"), newRow(strings.Repeat("a", 21)), oldRow(impl.CsWin, "\x81")} {
		l = append(l, rowRec(r), by(rowRec(r), 1, 2, 3))
	}
	return l
}

func TestRecordsThatAreNotRightAreNotApplied(t *testing.T) {
	z := shelfOf()
	for _, r := range wrongRecs() {
		if z.recOk(r) {
			t.Errorf("%v is right by the books", r)
		}
		for _, x := range rightTabs() {
			notApplied(t, x, r)
		}
		notApplied(t, wrongTabs()[0], r)
	}
	for _, r := range wrongRows() {
		for _, one := range []impl.Row{r, aside(r)} {
			if !z.rowOk(one) {
				notApplied(t, impl.Tab{}, rowRec(one))
				notApplied(t, tab(3, rowsOf("a", "k"), mark(1, 2, 3)), by(rowRec(one), 1, 3, 0))
			}
		}
	}
}

// Though the record would mend what is wrong, nothing is applied.
func TestNothingIsAppliedToTabsThatAreNotRight(t *testing.T) {
	mending := []impl.Rec{phaseRec(0), by(phaseRec(3), 5, 1, 1), goneRec("a"), goneRec("b"), goneRec("k"), goneRec("8"), whoRec(5, 1, 1), whoRec(9, 1, 1), by(goneRec("l"), 1, 2, 0), rowRec(newRow("a")), by(rowRec(keyed("l", newRow("a"))), 5, 7, 3)}
	for _, x := range wrongTabs() {
		for _, r := range mending {
			notApplied(t, x, r)
		}
	}
}

func TestRecordsMakeTheTabThatTheyAreOf(t *testing.T) {
	for _, x := range rightTabs() {
		checkMadeOfRecs(t, x)
	}
	for _, r := range rightRows() {
		checkMadeOfRecs(t, tab(3, []impl.Row{r}, mark(4, 5, 6)))
	}
}

func TestRecordsOfATabOneByOne(t *testing.T) {
	if l := impl.RecsOf(impl.Tab{}); !alikeRecs(l, []impl.Rec{phaseRec(0)}) {
		t.Errorf("RecsOf the zero tab is %v", l)
	}
	a, b := keyed("a", aside(oldRow(impl.CsWin, "\x81"))), keyed("ab", bothRow(impl.CsKoi, "\xc1", "а"))
	l := impl.RecsOf(tab(6, []impl.Row{a, b}, mark(2, 65535, 6), mark(9, 0, 0)))
	want := []impl.Rec{
		{Kind: 3, N: 6},
		{Kind: 1, R: a},
		{Kind: 1, R: b},
		{Kind: 4, Who: 2, Seq: 65535, Code: 6},
		{Kind: 4, Who: 9},
	}
	if !alikeRecs(l, want) {
		t.Errorf("RecsOf is %v, not %v", l, want)
	}
	if l := impl.RecsOf(tab(7, rowsOf(eightKeys()...), nineMarks()...)); len(l) != 18 || l[8].R.Key != "zzzzzz" || l[9].Who != 1 || l[17].Who != 9 {
		t.Errorf("RecsOf the greatest tab is %v", l)
	}
}

// The chapter names no other answer for these, so each part has its record.
func TestRecordsOfTabsThatAreNotRight(t *testing.T) {
	for _, x := range wrongTabs() {
		if l := impl.RecsOf(copiedTab(x)); !alikeRecs(l, recsWanted(x)) {
			t.Errorf("RecsOf(%v) is %v", x, l)
		}
	}
}

// parted are rows, each other than r in one field alone.
func parted(r impl.Row) []impl.Row {
	turn := func(b []byte) [][]byte {
		longer := append(bytes.Clone(b), 0)
		if len(b) == 0 {
			return [][]byte{longer}
		}
		first, last := bytes.Clone(b), bytes.Clone(b)
		first[0] ^= 1
		last[len(b)-1] ^= 0x80
		return [][]byte{longer, first, last, b[:len(b)-1], b[1:]}
	}
	var l []impl.Row
	for _, key := range []string{r.Key + "0", "0" + r.Key, strings.ToUpper(r.Key) + "A"} {
		l = append(l, keyed(key, r))
	}
	for _, n := range []int{1, -1, 256, 1 << 32} {
		one, two, three := r, r, r
		one.Old.Tag += n
		two.New.Tag += n
		three.Has += n
		l = append(l, one, two, three)
	}
	for _, b := range turn(r.Old.B) {
		one := r
		one.Old.B = b
		l = append(l, one)
	}
	for _, b := range turn(r.New.B) {
		one := r
		one.New.B = b
		l = append(l, one)
	}
	other := r
	other.Aside = !r.Aside
	swapped := r
	swapped.Old, swapped.New = r.New, r.Old
	if !sameRow(r, swapped) {
		l = append(l, swapped)
	}
	return append(l, other)
}

// partedTabs are tabs, each other than x in one part alone.
func partedTabs(x impl.Tab) []impl.Tab {
	l := []impl.Tab{
		tab(x.Phase, append(slices.Clone(x.Rows), impl.Row{}), x.Marks...), tab(x.Phase, append([]impl.Row{{}}, x.Rows...), x.Marks...), tab(x.Phase, x.Rows, append(slices.Clone(x.Marks), impl.Mark{})...), tab(x.Phase, x.Rows, append([]impl.Mark{{}}, x.Marks...)...),
		tab(x.Phase+1, x.Rows, x.Marks...), tab(x.Phase-1, x.Rows, x.Marks...), tab(x.Phase+256, x.Rows, x.Marks...), tab(x.Phase+1<<32, x.Rows, x.Marks...),
	}
	for i, r := range x.Rows {
		l = append(l, tab(x.Phase, slices.Concat(x.Rows[:i], x.Rows[i+1:]), x.Marks...), tab(x.Phase, slices.Concat(x.Rows[:i], []impl.Row{r}, x.Rows[i:]), x.Marks...))
		for _, one := range parted(r) {
			l = append(l, tab(x.Phase, slices.Concat(x.Rows[:i], []impl.Row{one}, x.Rows[i+1:]), x.Marks...))
		}
	}
	for i, m := range x.Marks {
		l = append(l, tab(x.Phase, x.Rows, slices.Concat(x.Marks[:i], x.Marks[i+1:])...), tab(x.Phase, x.Rows, slices.Concat(x.Marks[:i], []impl.Mark{m}, x.Marks[i:])...))
		for _, n := range []int{1, -1, 256, 1 << 32} {
			for _, one := range []impl.Mark{mark(m.Who+n, m.Seq, m.Code), mark(m.Who, m.Seq+n, m.Code), mark(m.Who, m.Seq, m.Code+n)} {
				l = append(l, tab(x.Phase, x.Rows, slices.Concat(x.Marks[:i], []impl.Mark{one}, x.Marks[i+1:])...))
			}
		}
	}
	rows, marks := slices.Clone(x.Rows), slices.Clone(x.Marks)
	slices.Reverse(rows)
	slices.Reverse(marks)
	for _, back := range []impl.Tab{tab(x.Phase, rows, x.Marks...), tab(x.Phase, x.Rows, marks...)} {
		// Of two that are alike the way back is no other one.
		if !alike(back, x) {
			l = append(l, back)
		}
	}
	return l
}

func TestTabsThatPartInOneFieldAreNotTheSame(t *testing.T) {
	for _, x := range append(rightTabs(), wrongTabs()...) {
		if !impl.SameTab(x, x) || !impl.SameTab(x, copiedTab(x)) {
			t.Errorf("SameTab of %v with itself is false", x)
		}
		for _, other := range partedTabs(x) {
			if impl.SameTab(x, other) || impl.SameTab(other, x) {
				t.Errorf("SameTab of %v and %v is true", x, other)
			}
		}
	}
}

func TestTabsAreTheSameOnlyWithThemselves(t *testing.T) {
	l := append(rightTabs(), wrongTabs()[:60]...)
	for _, a := range l {
		for _, b := range l {
			if got := impl.SameTab(a, b); got != alike(a, b) {
				t.Errorf("SameTab of %v and %v is %v", a, b, got)
			}
		}
	}
}

// An empty list and nil are the same value.
func TestEmptyListsOfTabs(t *testing.T) {
	long, longer, longest := rowsOf(eightKeys()...), nineMarks(), []byte("abc")
	var empty []impl.Tab
	for _, rows := range [][]impl.Row{nil, {}, long[:0]} {
		for _, marks := range [][]impl.Mark{nil, {}, longer[:0]} {
			empty = append(empty, tab(0, rows, marks...))
		}
	}
	for _, a := range empty {
		for _, b := range empty {
			if !impl.SameTab(a, b) {
				t.Errorf("SameTab of %#v and %#v is false", a, b)
			}
		}
		if !impl.TabOk(a) || impl.RowAt(a, "0") != -1 {
			t.Errorf("%#v: TabOk is %v, RowAt %d", a, impl.TabOk(a), impl.RowAt(a, "0"))
		}
		if m, ok := impl.MarkAt(a, 1); ok || m != (impl.Mark{}) {
			t.Errorf("MarkAt 1 of %#v is %v, %v", a, m, ok)
		}
		checkMadeOfRecs(t, a)
		checkApplied(t, a, by(rowRec(long[3]), 4, 5, 6), tab(0, long[3:4], mark(4, 5, 6)))
		if got, ok := impl.Apply(a, goneRec("0")); !ok || !alike(got, impl.Tab{}) {
			t.Errorf("Apply to %#v is %v, %v", a, got, ok)
		}
	}
	for _, b := range [][]byte{nil, {}, longest[:0]} {
		r := impl.Row{Key: "k", Old: impl.Cell{B: b}, New: impl.Cell{B: b}, Has: onlyNew}
		for _, other := range [][]byte{nil, {}, longest[:0]} {
			one := impl.Row{Key: "k", Old: impl.Cell{B: other}, New: impl.Cell{B: other}, Has: onlyNew}
			if !impl.SameTab(tab(0, []impl.Row{r}), tab(0, []impl.Row{one})) {
				t.Errorf("SameTab of %#v and %#v is false", r, one)
			}
		}
	}
}

// What lies behind a list's length is not read.
func TestWhatLiesBehindATabIsNotRead(t *testing.T) {
	rows, marks := rowsOf(append(eightKeys(), "zzzzzz")...), nineMarks()
	for n := range rows {
		x := tab(2, rows[:n], marks[:n]...)
		if !impl.TabOk(x) || !impl.SameTab(x, copiedTab(x)) || impl.RowAt(x, "zzzzzz") >= n {
			t.Errorf("%v is not as it is alone", x)
		}
		if _, ok := impl.MarkAt(x, 9); ok {
			t.Errorf("MarkAt 9 of %v is true", x)
		}
		checkMadeOfRecs(t, x)
		for _, key := range otherKeys() {
			r := by(rowRec(keyed(key, newRow("a"))), 9, 1, 1)
			want, is := shelfOf().applied(copiedTab(x), r)
			if got, ok := impl.Apply(x, r); ok != is || !alike(got, want) {
				t.Errorf("Apply of %v to %v is %v, %v; not %v", r, x, got, ok, want)
			}
		}
	}
	if !alike(tab(2, rows[:8], marks...), tab(2, rowsOf(eightKeys()...), nineMarks()...)) || rows[8].Key != "zzzzzz" {
		t.Errorf("the lists are written: %v, %v", rows, marks)
	}
}

// A walk is a row of numbers that is the same each time.
type walk int

func (w *walk) next(n int) int {
	*w = (*w*1103515245 + 12345) & (1<<31 - 1)
	return int(*w>>8) % n
}

// anyRec answers a record of one of the keys.
func (w *walk) anyRec(keys []string) impl.Rec {
	r := []impl.Rec{
		rowRec(keyed(keys[w.next(len(keys))], someRows()[w.next(len(someRows()))])),
		rowRec(keyed(keys[w.next(len(keys))], someRows()[w.next(len(someRows()))])),
		goneRec(keys[w.next(len(keys))]),
		phaseRec(w.next(10) - 1),
		{Kind: kindWho},
	}[w.next(5)]
	if who := w.next(14); who < 11 {
		r = by(r, who, w.next(65540), w.next(8))
	}
	return r
}

// Whatever is applied behind what, the tab is as the books have it, stays right,
// and comes back of its records.
func TestWhateverIsAppliedOneBehindAnother(t *testing.T) {
	t.Parallel()
	z := shelfOf()
	keys := append(eightKeys(), otherKeys()...)
	for seed := range 4 {
		w := walk(seed)
		x := impl.Tab{}
		met, full := map[bool]int{}, 0
		for range 1500 {
			r := w.anyRec(keys)
			want, is := z.applied(x, r)
			got, ok := impl.Apply(x, r)
			if ok != is || !alike(got, want) || !impl.TabOk(got) {
				t.Fatalf("Apply of %v to %v is %v, %v; not %v, %v", r, x, got, ok, want, is)
			}
			checkMadeOfRecs(t, got)
			for _, key := range keys {
				if at := impl.RowAt(got, key); at != slices.IndexFunc(want.Rows, func(r impl.Row) bool { return r.Key == key }) {
					t.Errorf("RowAt %s of %v is %d", key, got, at)
				}
			}
			if z.recOk(r) && !is {
				full++
			}
			met[is]++
			x = got
		}
		if met[true] < 300 || met[false] < 300 || full < 50 {
			t.Errorf("walk %d: applied %d times, not applied %d times, of them %d times full", seed, met[true], met[false], full)
		}
	}
}

// A tabRoom is all memory of a tab and of a record: their lists with what lies
// behind them.
type tabRoom struct {
	rows  []impl.Row
	marks []impl.Mark
	texts [][]byte
}

func (z *tabRoom) text(b []byte) []byte {
	arg, whole := roomy(string(b))
	z.texts = append(z.texts, whole)
	return arg
}

func (z *tabRoom) row(r impl.Row) impl.Row {
	r.Old.B, r.New.B = z.text(r.Old.B), z.text(r.New.B)
	return r
}

// roomyTab answers a tab and a record as these, each list of which has spare room
// behind it, and that room and they together.
func roomyTab(x impl.Tab, r impl.Rec) (impl.Tab, impl.Rec, *tabRoom) {
	z := &tabRoom{marks: slices.Clone(x.Marks)}
	for _, one := range x.Rows {
		z.rows = append(z.rows, z.row(one))
	}
	for range 3 {
		z.rows = append(z.rows, z.row(keyed("behind", newRow("behind"))))
		z.marks = append(z.marks, mark(8, 8, 8))
	}
	r.R = z.row(r.R)
	return impl.Tab{Rows: z.rows[:len(x.Rows)], Phase: x.Phase, Marks: z.marks[:len(x.Marks)]}, r, z
}

// said answers a copy of all that is in a room.
func (z *tabRoom) said() *tabRoom {
	x := copiedTab(tab(0, z.rows, z.marks...))
	out := &tabRoom{rows: x.Rows, marks: x.Marks}
	for _, b := range z.texts {
		out.texts = append(out.texts, bytes.Clone(b))
	}
	return out
}

func (z *tabRoom) same(other *tabRoom) bool {
	return alike(tab(0, z.rows, z.marks...), tab(0, other.rows, other.marks...)) && slices.EqualFunc(z.texts, other.texts, bytes.Equal)
}

// spoil writes over all that is in a room.
func (z *tabRoom) spoil() {
	for _, b := range z.texts {
		spoil(b)
	}
	spoilTab(tab(0, z.rows, z.marks...))
}

// spoilTab puts other rows and Marks into a tab's lists, behind their lengths
// too.
func spoilTab(x impl.Tab) {
	rows, marks := x.Rows[:cap(x.Rows)], x.Marks[:cap(x.Marks)]
	for i := range rows {
		rows[i] = keyed("other", newRow("other"))
	}
	for i := range marks {
		marks[i] = mark(77, 77, 77)
	}
}

// A made is what a call makes of a tab: another one, or records.
type made struct {
	x    impl.Tab
	recs []impl.Rec
}

// texts answers all lists of bytes of what is made.
func (m made) texts() [][]byte {
	var l [][]byte
	for _, r := range m.x.Rows {
		l = append(l, r.Old.B, r.New.B)
	}
	for _, r := range m.recs {
		l = append(l, r.R.Old.B, r.R.New.B)
	}
	return l
}

func (m made) copied() made {
	out := made{x: copiedTab(m.x)}
	for _, r := range m.recs {
		out.recs = append(out.recs, copiedRec(r))
	}
	return out
}

func (m made) same(other made) bool {
	return alike(m.x, other.x) && alikeRecs(m.recs, other.recs)
}

// spoilMade puts other texts and other parts into all that a call made.
func spoilMade(m made) {
	for _, b := range m.texts() {
		spoil(b)
	}
	spoilTab(m.x)
	for i := range m.recs[:cap(m.recs)] {
		m.recs[:cap(m.recs)][i] = goneRec("other")
	}
}

// A tabCall is a call that is handed a tab and a record.
type tabCall struct {
	name string
	call func(x impl.Tab, r impl.Rec) made
}

func tabCalls() []tabCall {
	return []tabCall{
		{"Apply", func(x impl.Tab, r impl.Rec) made { got, _ := impl.Apply(x, r); return made{x: got} }},
		{"two Apply", func(x impl.Tab, r impl.Rec) made {
			got, _ := impl.Apply(x, r)
			got, _ = impl.Apply(got, r)
			return made{x: got}
		}},
		{"RecsOf", func(x impl.Tab, r impl.Rec) made { return made{recs: impl.RecsOf(x)} }},
		{"TabOk", func(x impl.Tab, r impl.Rec) made { impl.TabOk(x); return made{} }},
		{"RowAt and MarkAt", func(x impl.Tab, r impl.Rec) made { impl.RowAt(x, r.Key); impl.MarkAt(x, r.Who); return made{} }},
		{"SameTab", func(x impl.Tab, r impl.Rec) made { impl.SameTab(x, x); impl.SameTab(x, impl.Tab{}); return made{} }},
	}
}

// checkNoneBehind fails when what is made hands out more behind its lists than
// what is as nothing.
func checkNoneBehind(t *testing.T, name string, m made) {
	t.Helper()
	for _, r := range m.x.Rows[len(m.x.Rows):cap(m.x.Rows)] {
		if !isZeroRow(r) {
			t.Errorf("%s: %v is behind its rows", name, r)
		}
	}
	for _, one := range m.x.Marks[len(m.x.Marks):cap(m.x.Marks)] {
		if one != (impl.Mark{}) {
			t.Errorf("%s: %v is behind its Marks", name, one)
		}
	}
	for _, r := range m.recs[len(m.recs):cap(m.recs)] {
		if !sameRec(r, impl.Rec{}) {
			t.Errorf("%s: %v is behind its records", name, r)
		}
	}
	for _, b := range m.texts() {
		if bytes.Contains(b[len(b):cap(b)], []byte{spareByte}) {
			t.Errorf("%s: what lies behind is handed out", name)
		}
	}
}

// checkTabRoom fails when a call writes into a tab or a record, or the spare room
// behind their lists, or when its answer shares memory with these, or two lists of
// it with each other.
func checkTabRoom(t *testing.T, c tabCall, x impl.Tab, r impl.Rec) {
	t.Helper()
	name := fmt.Sprintf("%s of %v and %v", c.name, x, r)
	arg, rec, z := roomyTab(x, r)
	before := z.said()
	got := c.call(arg, rec)
	if !z.same(before) {
		t.Errorf("%s: an argument is written", name)
	}
	said := got.copied()
	z.spoil()
	if !got.same(said) {
		t.Errorf("%s: the answer goes with an argument: %v, not %v", name, got, said)
	}
	spoilt := z.said()
	checkNoneBehind(t, name, got)
	checkTextsApart(t, name, got.texts())
	spoilMade(got)
	if !z.same(spoilt) {
		t.Errorf("%s: an argument goes with the answer", name)
	}
}

// recsInTurn are records that are applied, some that are not, and one that is
// right, but a row too many for some.
func recsInTurn() []impl.Rec {
	return []impl.Rec{
		{}, phaseRec(5), by(phaseRec(5), 2, 3, 4), phaseRec(8), goneRec("a"), goneRec("0"), goneRec("zzzzzz"), by(goneRec("q"), 9, 8, 1), whoRec(1, 2, 3), whoRec(9, 2, 3), whoRec(10, 2, 3),
		rowRec(keyed("a", bothRow(impl.CsLat, "\xe9", "é"))), by(rowRec(keyed("a1", bothRow(impl.CsLat, "\xe9", "é"))), 5, 6, 0), rowRec(keyed("zzzzzz", newRow("é"))), rowRec(keyed("A", newRow("é"))), rowRec(bothRow(impl.CsLat, "a", "b")), by(rowRec(keyed("0", oldRow(impl.CsLat, "a"))), 10, 1, 1),
	}
}

func TestTabsStayAsTheyAre(t *testing.T) {
	t.Parallel()
	for _, x := range append(rightTabs(), wrongTabs()...) {
		for _, r := range recsInTurn() {
			for _, c := range tabCalls() {
				checkTabRoom(t, c, x, r)
			}
		}
	}
}

// All rows, and the record, may be of the same memory; those of what is made of
// them are not.
func TestRowsOfOneMemory(t *testing.T) {
	for _, s := range []string{"a", "abc", strings.Repeat("z", 20), strings.Repeat("z", 21)} {
		for _, r := range recsInTurn() {
			for _, c := range tabCalls() {
				one, whole := roomy(s)
				before := bytes.Clone(whole)
				row := impl.Row{Old: impl.Cell{Tag: impl.CsLat, B: one}, New: impl.Cell{B: one}, Has: both}
				x := tab(2, []impl.Row{keyed("0", row), keyed("a", row), keyed("b", row)}, mark(1, 2, 3))
				if r.Kind == kindRow {
					r.R = keyed(r.R.Key, row)
				}
				got := c.call(x, r)
				checkTextsApart(t, c.name, got.texts())
				spoilMade(got)
				if !bytes.Equal(whole, before) || !sameRow(x.Rows[2], keyed("b", row)) || x.Marks[0] != mark(1, 2, 3) {
					t.Errorf("%s of rows of one memory: it is written", c.name)
				}
			}
		}
	}
}

func TestTabsAreNewEachTime(t *testing.T) {
	for _, x := range append(rightTabs(), wrongTabs()[:40]...) {
		for _, r := range recsInTurn() {
			for _, c := range tabCalls() {
				one, two := c.call(x, r), c.call(x, r)
				said := two.copied()
				spoilMade(one)
				if three := c.call(x, r); !two.same(said) || !three.same(said) {
					t.Errorf("%s of %v and %v: %v, %v, not %v", c.name, x, r, two, three, said)
				}
			}
		}
	}
}

// What is applied once more, behind what was refused, is answered as ahead.
func TestWhatIsNotAppliedLeavesNothingBehind(t *testing.T) {
	x := tab(2, rowsOf(eightKeys()...), mark(3, 4, 5))
	r := by(rowRec(keyed("a", newRow("é"))), 3, 5, 0)
	want, is := shelfOf().applied(x, r)
	if !is {
		t.Fatal("the record is not applied by the books")
	}
	for _, one := range wrongRecs() {
		notApplied(t, x, one)
		checkApplied(t, x, r, want)
	}
	for _, one := range wrongTabs()[:40] {
		notApplied(t, one, r)
		checkApplied(t, x, r, want)
	}
}
