package tests

import (
	"bytes"
	"math"
	"regexp"
	"slices"
	"strings"
	"testing"

	"loop.example/g00475/impl"
)

// what a row has, written out apart from the program
const (
	nothing = 0
	onlyOld = 1
	onlyNew = 2
	both    = 3
)

var namePattern = regexp.MustCompile(`^[a-z0-9]{1,6}$`)

// allPhases are the phases, in their order.
func allPhases() []int {
	return []int{impl.PhIdle, impl.PhDual, impl.PhFill, impl.PhCheck, impl.PhCut, impl.PhDone, impl.PhBack, impl.PhOver}
}

// noPhases are numbers of which there is no phase, some of them with the lowest
// bits of one.
func noPhases() []int {
	return []int{-1, -2, -8, 8, 9, 16, 256, 260, 1 << 32, 1<<32 + 4, math.MinInt, math.MinInt + 1, math.MinInt + 4, math.MaxInt - 1, math.MaxInt}
}

// oldTags are the sets that an Old may be of.
func oldTags() []int {
	return []int{impl.CsLat, impl.CsNine, impl.CsKoi, impl.CsWin, impl.CsEuc}
}

// noOldTags are numbers that are none of these, CsUtf among them.
func noOldTags() []int {
	return append(noSets(), impl.CsUtf)
}

func oldRow(tag int, b string) impl.Row {
	return impl.Row{Key: "k", Old: cell(tag, b), Has: onlyOld}
}

func newRow(b string) impl.Row {
	return impl.Row{Key: "k", New: cell(impl.CsUtf, b), Has: onlyNew}
}

func bothRow(tag int, b string, s string) impl.Row {
	return impl.Row{Key: "k", Old: cell(tag, b), New: cell(impl.CsUtf, s), Has: both}
}

func aside(r impl.Row) impl.Row {
	r.Aside = true
	return r
}

func keyed(key string, r impl.Row) impl.Row {
	r.Key = key
	return r
}

func copiedRow(r impl.Row) impl.Row {
	r.Old.B, r.New.B = bytes.Clone(r.Old.B), bytes.Clone(r.New.B)
	return r
}

func sameRow(a impl.Row, b impl.Row) bool {
	return a.Key == b.Key && sameCell(a.Old, b.Old) && sameCell(a.New, b.New) && a.Has == b.Has && a.Aside == b.Aside
}

func isZeroRow(r impl.Row) bool {
	return r.Key == "" && r.Old.Tag == 0 && len(r.Old.B) == 0 && r.New.Tag == 0 && len(r.New.B) == 0 && r.Has == 0 && !r.Aside
}

// A rowCall is one of the functions that make a row of a row.
type rowCall struct {
	name string
	call func(r impl.Row) impl.Row
	want func(z shelf, r impl.Row) impl.Row
}

func rowCalls() []rowCall {
	return []rowCall{
		{"FillRow", impl.FillRow, shelf.filled},
		{"CutRow", impl.CutRow, shelf.cut},
		{"BackRow", impl.BackRow, shelf.back},
	}
}

// rowText answers the text of a row by the books.
func (z shelf) rowText(r impl.Row) (string, bool) {
	if r.Has&onlyNew == onlyNew {
		return z.text(r.New)
	}
	return z.text(r.Old)
}

// rowOk says by the books whether a row is right.
func (z shelf) rowOk(r impl.Row) bool {
	if !namePattern.MatchString(r.Key) || r.Has < onlyOld || r.Has > both {
		return false
	}
	_, oldSaid := z.text(r.Old)
	_, newSaid := z.text(r.New)
	old := slices.Contains(oldTags(), r.Old.Tag) && len(r.Old.B) <= cellMost
	if r.Has == onlyNew {
		old = r.Old.Tag == 0 && len(r.Old.B) == 0
	} else if !oldSaid && !(r.Aside && r.Has == onlyOld) {
		old = false
	}
	fresh := r.New.Tag == impl.CsUtf && newSaid
	if r.Has == onlyOld {
		fresh = r.New.Tag == 0 && len(r.New.B) == 0
	}
	if r.Has == both && old && fresh {
		one, _ := z.text(r.Old)
		two, _ := z.text(r.New)
		return one == two
	}
	return old && fresh
}

// rowOf answers by the books what is written in a phase, and its code.
func (z shelf) rowOf(phase int, key string, cs int, s string) (impl.Row, int) {
	fresh, ok := z.cell(impl.CsUtf, s)
	if !ok || !namePattern.MatchString(key) || !slices.Contains(oldTags(), cs) || !slices.Contains(allPhases(), phase) {
		return impl.Row{}, impl.CoForm
	}
	old, fits := z.cell(cs, s)
	// of each phase: what it has where the old set has the text, and where not
	have := []struct {
		has   int
		lacks int
	}{{onlyOld, nothing}, {both, onlyNew}, {both, onlyNew}, {both, onlyNew}, {onlyNew, onlyNew}, {onlyNew, onlyNew}, {onlyOld, onlyNew}, {onlyOld, nothing}}[phase]
	r := impl.Row{Key: key, Has: have.has}
	if !fits {
		r.Has = have.lacks
		r.Aside = have.has != onlyNew
	}
	if r.Has == nothing {
		return impl.Row{}, impl.CoUnfit
	}
	if r.Has != onlyNew {
		r.Old = old
	}
	if r.Has != onlyOld {
		r.New = fresh
	}
	return r, impl.CoGood
}

func (z shelf) filled(r impl.Row) impl.Row {
	if !z.rowOk(r) || r.Has != onlyOld {
		return r
	}
	if s, said := z.text(r.Old); said && len(s) <= cellMost {
		r.New, r.Has = cell(impl.CsUtf, s), both
		return r
	}
	return aside(r)
}

func (z shelf) cut(r impl.Row) impl.Row {
	if !z.rowOk(r) || r.Has == onlyOld {
		return r
	}
	return impl.Row{Key: r.Key, New: r.New, Has: onlyNew}
}

func (z shelf) back(r impl.Row) impl.Row {
	switch {
	case !z.rowOk(r):
		return r
	case r.Has == both:
		return impl.Row{Key: r.Key, Old: r.Old, Has: onlyOld}
	case r.Has == onlyNew:
		return aside(r)
	}
	return r
}

// checkWrittenRow fails when RowOf answers another row than that, or one that is
// not right, or not of that text.
func checkWrittenRow(t *testing.T, phase int, key string, cs int, s string, want impl.Row) {
	t.Helper()
	got, code := impl.RowOf(phase, key, cs, s)
	if code != impl.CoGood || !sameRow(got, want) {
		t.Errorf("RowOf(%d, %q, %d, %x) is %v, %d; not %v", phase, key, cs, s, got, code, want)
	}
	checkRowText(t, got, s)
}

// checkRowText fails when a row is not right, or not of that text.
func checkRowText(t *testing.T, r impl.Row, s string) {
	t.Helper()
	if !impl.RowOk(r) {
		t.Errorf("RowOk(%v) is false", r)
	}
	if got, ok := impl.RowText(r); !ok || got != s {
		t.Errorf("RowText(%v) is %x, %v; not %x", r, got, ok, s)
	}
}

// noRowOf fails when RowOf answers anything but the zero row and that code.
func noRowOf(t *testing.T, phase int, key string, cs int, s string, want int) {
	t.Helper()
	if r, code := impl.RowOf(phase, key, cs, s); code != want || !isZeroRow(r) {
		t.Errorf("RowOf(%d, %q, %d, %x) is %v, %d; not code %d", phase, key, cs, s, r, code, want)
	}
}

// checkMade fails when a function makes another row of a row than that.
func checkMade(t *testing.T, name string, call func(r impl.Row) impl.Row, r impl.Row, want impl.Row) {
	t.Helper()
	if got := call(copiedRow(r)); !sameRow(got, want) {
		t.Errorf("%s of %v is %v, not %v", name, r, got, want)
	}
}

// An oldText is a text and its bytes in an old set.
type oldText struct {
	cs   int
	b, s string
}

// fitting are texts that their old set has, none of them too long.
func fitting() []oldText {
	l := []oldText{
		{impl.CsLat, "caf\xe9", "café"}, {impl.CsLat, "\xa4\xff\x80", "¤ÿ\u0080"}, {impl.CsLat, strings.Repeat("\xe9", 10), strings.Repeat("é", 10)},
		{impl.CsNine, "5 \xa4, \xbduvre", "5 €, œuvre"}, {impl.CsNine, strings.Repeat("\xa4", 6) + "\xe9", strings.Repeat("€", 6) + "é"},
		{impl.CsKoi, "\xe4\xc1, \xb3\xa3", "Да, Ёё"}, {impl.CsKoi, strings.Repeat("\xc1", 10), strings.Repeat("а", 10)},
		{impl.CsWin, "\x93caf\xe9\x94 \x80\x99", "“café” €™"}, {impl.CsWin, strings.Repeat("\x80", 6) + "aa", strings.Repeat("€", 6) + "aa"},
		{impl.CsEuc, "a\xa4\xa2b\xa5\xa2", "aあbア"}, {impl.CsEuc, strings.Repeat("\xa4\xa2", 6) + "aa", strings.Repeat("あ", 6) + "aa"},
	}
	for _, cs := range oldTags() {
		for _, s := range []string{"", "a", "\x00", "?", "\x7f", "plain text", strings.Repeat("z", 19), strings.Repeat("z", 20)} {
			l = append(l, oldText{cs, s, s})
		}
	}
	return l
}

// unfit are texts that the old set has not, none of them too long in utf8.
func unfit() []oldText {
	var l []oldText
	for cs, signs := range map[int][]string{
		impl.CsLat:  {"€", "Š", "ж", "あ", "\U0001f600", lostSign},
		impl.CsNine: {"¤", "½", "ж", "あ", "\U0001f600"},
		impl.CsKoi:  {"é", "€", "\u0080", "あ", "\U0010ffff"},
		impl.CsWin:  {"\u0080", "\u0081", "ж", "あ", "\u0100"},
		impl.CsEuc:  {"é", "€", "ж", "\u3094", "一"},
	} {
		for _, s := range signs {
			l = append(l, oldText{cs, "", s}, oldText{cs, "", "a" + s + "z"}, oldText{cs, "", strings.Repeat("a", cellMost-len(s)) + s})
		}
	}
	return l
}

func TestThePhasesAndCodes(t *testing.T) {
	for i, p := range allPhases() {
		if p != i {
			t.Errorf("the phase %d is %d", i, p)
		}
	}
	for i, c := range []int{impl.CoGood, impl.CoForm, impl.CoNone, impl.CoUnfit, impl.CoAside, impl.CoFull, impl.CoPhase} {
		if c != i {
			t.Errorf("the code %d is %d", i, c)
		}
	}
}

func TestWhatIsWrittenInEachPhase(t *testing.T) {
	for _, x := range fitting() {
		for _, phase := range []int{0, 6, 7} {
			checkWrittenRow(t, phase, "k", x.cs, x.s, oldRow(x.cs, x.b))
		}
		for _, phase := range []int{1, 2, 3} {
			checkWrittenRow(t, phase, "k", x.cs, x.s, bothRow(x.cs, x.b, x.s))
		}
		for _, phase := range []int{4, 5} {
			checkWrittenRow(t, phase, "k", x.cs, x.s, newRow(x.s))
		}
	}
}

func TestWhatTheOldSetHasNotInEachPhase(t *testing.T) {
	for _, x := range unfit() {
		for _, phase := range []int{0, 7} {
			noRowOf(t, phase, "k", x.cs, x.s, impl.CoUnfit)
		}
		for _, phase := range []int{1, 2, 3, 6} {
			checkWrittenRow(t, phase, "k", x.cs, x.s, aside(newRow(x.s)))
		}
		for _, phase := range []int{4, 5} {
			checkWrittenRow(t, phase, "k", x.cs, x.s, newRow(x.s))
		}
	}
}

func TestHowLongAKeyMayBe(t *testing.T) {
	for _, phase := range allPhases() {
		for _, cs := range oldTags() {
			for _, key := range []string{"a", "z", "0", "9", "ab", "key01", "abcdef", "012345"} {
				want := oldRow(cs, "text")
				if phase >= 1 && phase <= 3 {
					want = bothRow(cs, "text", "text")
				} else if phase == 4 || phase == 5 {
					want = newRow("text")
				}
				checkWrittenRow(t, phase, key, cs, "text", keyed(key, want))
			}
			for _, key := range noNames() {
				noRowOf(t, phase, key, cs, "text", impl.CoForm)
				noRowOf(t, phase, key, cs, "", impl.CoForm)
				// the code that is named first
				noRowOf(t, phase, key, cs, "\U0001f600", impl.CoForm)
			}
		}
	}
}

// noNames are texts that are no names.
func noNames() []string {
	return []string{"", "abcdefg", "0123456", "K", "aB", "a b", " a", "a ", "a-b", "a:", "é", "aé", "а", "\x00", "a\x00", "\xff", "a\n", "`", "{", "/", strings.Repeat("a", 257), strings.Repeat("a", 1<<16+1)}
}

func TestPhasesAndSetsThatThereAreNot(t *testing.T) {
	for _, s := range []string{"", "a", "é", "\U0001f600", strings.Repeat("z", 20)} {
		for _, phase := range noPhases() {
			for _, cs := range append(oldTags(), impl.CsUtf, -1, 6) {
				noRowOf(t, phase, "k", cs, s, impl.CoForm)
			}
		}
		for _, cs := range noOldTags() {
			for _, phase := range append(allPhases(), -1, 8) {
				noRowOf(t, phase, "k", cs, s, impl.CoForm)
			}
		}
	}
}

func TestTextsThatAreNotOfTodayAreWrittenNowhere(t *testing.T) {
	for _, s := range []string{"\xff", "a\xff", "\xffa", "\x80", "\xa4\xa2", "\xe9", "\xc1", "\xc3", "é\xc3", "\xe2\x82", "\xc0\x80", "\xed\xa0\x80", "\xf4\x90\x80\x80", strings.Repeat("a", 19) + "\xff"} {
		for _, phase := range allPhases() {
			for _, cs := range oldTags() {
				noRowOf(t, phase, "k", cs, s, impl.CoForm)
			}
		}
	}
}

// In utf8 no text has fewer bytes than in an old set, so this limit bars first.
func TestHowLongATextMayBe(t *testing.T) {
	for _, x := range []oldText{
		{impl.CsLat, strings.Repeat("a", 20), strings.Repeat("a", 20)}, {impl.CsLat, strings.Repeat("\xe9", 10), strings.Repeat("é", 10)}, {impl.CsLat, strings.Repeat("a", 18) + "\xe9", strings.Repeat("a", 18) + "é"},
		{impl.CsNine, strings.Repeat("b", 20), strings.Repeat("b", 20)}, {impl.CsNine, strings.Repeat("\xa4", 6) + "bb", strings.Repeat("€", 6) + "bb"},
		{impl.CsKoi, strings.Repeat("c", 20), strings.Repeat("c", 20)}, {impl.CsKoi, strings.Repeat("\xc1", 10), strings.Repeat("а", 10)},
		{impl.CsWin, strings.Repeat("d", 20), strings.Repeat("d", 20)}, {impl.CsWin, strings.Repeat("\x80", 6) + "dd", strings.Repeat("€", 6) + "dd"},
		{impl.CsEuc, strings.Repeat("e", 20), strings.Repeat("e", 20)}, {impl.CsEuc, strings.Repeat("\xa4\xa2", 6) + "ee", strings.Repeat("あ", 6) + "ee"},
	} {
		if len(x.s) != cellMost {
			t.Fatalf("%s has %d bytes", x.s, len(x.s))
		}
		checkWrittenRow(t, impl.PhIdle, "k", x.cs, x.s, oldRow(x.cs, x.b))
		checkWrittenRow(t, impl.PhDual, "k", x.cs, x.s, bothRow(x.cs, x.b, x.s))
		checkWrittenRow(t, impl.PhDone, "k", x.cs, x.s, newRow(x.s))
		for _, phase := range allPhases() {
			for _, s := range []string{x.s + "a", "a" + x.s, x.s + "é", x.s + x.s, strings.Repeat(x.s, 20)} {
				noRowOf(t, phase, "k", x.cs, s, impl.CoForm)
			}
		}
	}
	// 20 bytes, and fewer, in the old set, and more than that in utf8
	for _, x := range []oldText{{impl.CsLat, "", strings.Repeat("é", 20)}, {impl.CsLat, "", strings.Repeat("é", 11)}, {impl.CsKoi, "", strings.Repeat("ж", 20)}, {impl.CsNine, "", strings.Repeat("€", 7)}, {impl.CsWin, "", strings.Repeat("€", 20)}, {impl.CsEuc, "", strings.Repeat("あ", 10)}, {impl.CsEuc, "", strings.Repeat("あ", 7)}, {impl.CsLat, "", strings.Repeat("あ", 7)}} {
		for _, phase := range allPhases() {
			noRowOf(t, phase, "k", x.cs, x.s, impl.CoForm)
		}
	}
}

func TestRowsOfEachTextAsTheBooksHaveThem(t *testing.T) {
	z := shelfOf()
	texts := append(cellBytes(), "¤", "½", "ж", "あ", "Ž5 €", "\u0081", strings.Repeat("é", 10), strings.Repeat("é", 10)+"a", strings.Repeat("あ", 6)+"aa", strings.Repeat("あ", 7))
	for _, phase := range append(allPhases(), -1, 8, math.MinInt, math.MaxInt) {
		for _, cs := range append(allSets(), -1, 6, math.MinInt, math.MaxInt) {
			for _, key := range []string{"k", "abcdef", "", "abcdefg", "K"} {
				for _, s := range texts {
					got, code := impl.RowOf(phase, key, cs, s)
					want, good := z.rowOf(phase, key, cs, s)
					if code != good || !sameRow(got, want) {
						t.Errorf("RowOf(%d, %q, %d, %x) is %v, %d; not %v, %d", phase, key, cs, s, got, code, want, good)
					}
				}
			}
		}
	}
}

// goThrough does each of the calls, one behind the other in each order, and
// fails when a row is not right ever, or its text another.
func goThrough(t *testing.T, r impl.Row, s string, depth int) {
	t.Helper()
	checkRowText(t, r, s)
	if depth == 0 {
		return
	}
	for _, c := range rowCalls() {
		next := c.call(copiedRow(r))
		if next.Key != r.Key {
			t.Errorf("%s of %v is of %q", c.name, r, next.Key)
		}
		goThrough(t, next, s, depth-1)
	}
}

func TestWhateverIsDoneToARowItsTextStays(t *testing.T) {
	for _, x := range append(fitting(), unfit()...) {
		for _, phase := range allPhases() {
			r, code := impl.RowOf(phase, "key", x.cs, x.s)
			if code == impl.CoGood {
				goThrough(t, r, x.s, 5)
				goThrough(t, aside(r), x.s, 3)
			}
		}
	}
	// an Old whose text is too long to be turned
	for _, x := range []oldText{{impl.CsLat, strings.Repeat("\xe9", 11), strings.Repeat("é", 11)}, {impl.CsKoi, strings.Repeat("\xc1", 20), strings.Repeat("а", 20)}, {impl.CsNine, strings.Repeat("\xa4", 7), strings.Repeat("€", 7)}, {impl.CsWin, strings.Repeat("\x80", 20), strings.Repeat("€", 20)}, {impl.CsEuc, strings.Repeat("\xa4\xa2", 10), strings.Repeat("あ", 10)}} {
		goThrough(t, oldRow(x.cs, x.b), x.s, 5)
		goThrough(t, aside(oldRow(x.cs, x.b)), x.s, 5)
	}
}

// What says nothing is kept as it is, whatever is done.
func TestOldBytesThatSayNothingStay(t *testing.T) {
	for _, r := range []impl.Row{oldRow(impl.CsWin, "\x81"), oldRow(impl.CsKoi, "a\x80"), oldRow(impl.CsEuc, "\xa4"), oldRow(impl.CsEuc, strings.Repeat("\xff", 20)), oldRow(impl.CsWin, strings.Repeat("a", 19)+"\x9d")} {
		for _, c := range rowCalls() {
			checkMade(t, c.name, c.call, aside(r), aside(r))
			checkMade(t, c.name, c.call, r, r)
		}
		if !impl.RowOk(aside(r)) || impl.RowOk(r) {
			t.Errorf("RowOk of %v, which says nothing, is %v, and %v if it is set aside", r, impl.RowOk(r), impl.RowOk(aside(r)))
		}
		if s, ok := impl.RowText(aside(r)); ok || s != "" {
			t.Errorf("RowText of %v is %x, %v", aside(r), s, ok)
		}
	}
}

func TestFilledRows(t *testing.T) {
	for _, x := range fitting() {
		checkMade(t, "FillRow", impl.FillRow, oldRow(x.cs, x.b), bothRow(x.cs, x.b, x.s))
		for _, r := range []impl.Row{bothRow(x.cs, x.b, x.s), newRow(x.s)} {
			checkMade(t, "FillRow", impl.FillRow, r, r)
			checkMade(t, "FillRow", impl.FillRow, aside(r), aside(r))
		}
		// the chapter ends Aside in the other two alone
		checkMade(t, "FillRow", impl.FillRow, aside(oldRow(x.cs, x.b)), aside(bothRow(x.cs, x.b, x.s)))
	}
	for _, r := range []impl.Row{
		// by one too long, and by as many as there are at most
		oldRow(impl.CsLat, strings.Repeat("\xe9", 10)+"a"), oldRow(impl.CsLat, strings.Repeat("\xff", 20)), oldRow(impl.CsNine, strings.Repeat("\xa4", 7)), oldRow(impl.CsKoi, "a"+strings.Repeat("\xc1", 10)), oldRow(impl.CsKoi, strings.Repeat("\xc1", 20)), oldRow(impl.CsWin, strings.Repeat("\x80", 6)+"aaa"), oldRow(impl.CsEuc, strings.Repeat("\xa4\xa2", 6)+"aaa"), oldRow(impl.CsEuc, strings.Repeat("\xa4\xa2", 10)),
	} {
		if !impl.RowOk(r) {
			t.Errorf("RowOk(%v) is false", r)
		}
		checkMade(t, "FillRow", impl.FillRow, r, aside(r))
		checkMade(t, "FillRow", impl.FillRow, aside(r), aside(r))
	}
	checkMade(t, "FillRow", impl.FillRow, keyed("abc123", oldRow(impl.CsKoi, "\xc1")), keyed("abc123", bothRow(impl.CsKoi, "\xc1", "а")))
}

func TestCutRows(t *testing.T) {
	for _, x := range fitting() {
		for _, r := range []impl.Row{bothRow(x.cs, x.b, x.s), newRow(x.s)} {
			checkMade(t, "CutRow", impl.CutRow, r, newRow(x.s))
			checkMade(t, "CutRow", impl.CutRow, aside(r), newRow(x.s))
			checkMade(t, "CutRow", impl.CutRow, keyed("0z", aside(r)), keyed("0z", newRow(x.s)))
		}
		for _, r := range []impl.Row{oldRow(x.cs, x.b), aside(oldRow(x.cs, x.b))} {
			checkMade(t, "CutRow", impl.CutRow, r, r)
		}
	}
}

func TestRowsTurnedBack(t *testing.T) {
	for _, x := range fitting() {
		for _, r := range []impl.Row{bothRow(x.cs, x.b, x.s), aside(bothRow(x.cs, x.b, x.s))} {
			checkMade(t, "BackRow", impl.BackRow, r, oldRow(x.cs, x.b))
			checkMade(t, "BackRow", impl.BackRow, keyed("0z", r), keyed("0z", oldRow(x.cs, x.b)))
		}
		for _, r := range []impl.Row{oldRow(x.cs, x.b), aside(oldRow(x.cs, x.b))} {
			checkMade(t, "BackRow", impl.BackRow, r, r)
		}
		checkMade(t, "BackRow", impl.BackRow, newRow(x.s), aside(newRow(x.s)))
		checkMade(t, "BackRow", impl.BackRow, aside(newRow(x.s)), aside(newRow(x.s)))
	}
}

// rightRows are rows that are right, in each way.
func rightRows() []impl.Row {
	l := []impl.Row{aside(oldRow(impl.CsWin, "\x81")), aside(oldRow(impl.CsKoi, strings.Repeat("\x80", 20))), oldRow(impl.CsLat, strings.Repeat("\xe9", 20)), aside(oldRow(impl.CsEuc, strings.Repeat("\xa4\xa2", 10)))}
	for _, x := range fitting() {
		for _, r := range []impl.Row{oldRow(x.cs, x.b), newRow(x.s), bothRow(x.cs, x.b, x.s)} {
			l = append(l, r, aside(r), keyed("z", r), keyed("abcdef", r), keyed("012345", aside(r)))
		}
	}
	for _, x := range unfit() {
		l = append(l, newRow(x.s), aside(newRow(x.s)))
	}
	return l
}

// wrongRows are rows that are not right, each by one of its parts.
func wrongRows() []impl.Row {
	l := []impl.Row{
		{}, {Key: "k"}, {Key: "k", Aside: true}, {Key: "k", Has: onlyOld}, {Key: "k", Has: both}, {Has: onlyNew}, {Key: "k", Has: onlyOld, Aside: true},
		// bytes that say nothing
		newRow("\xff"), newRow("a\xc3"), newRow("\xed\xa0\x80"), oldRow(impl.CsWin, "\x81"), oldRow(impl.CsKoi, "\x80"), oldRow(impl.CsEuc, "a\xa4"), bothRow(impl.CsWin, "\x81", "\u0081"), bothRow(impl.CsWin, "\x81", "\xff"), bothRow(impl.CsLat, "a", "\xff"), bothRow(impl.CsKoi, "\x80", lostSign), bothRow(impl.CsWin, "\x81", ""),
		// other texts
		bothRow(impl.CsLat, "a", "b"), bothRow(impl.CsLat, "\xe9", "\xe9"), bothRow(impl.CsLat, "\xc3\xa9", "é"), bothRow(impl.CsNine, "\xa4", "¤"), bothRow(impl.CsLat, "\xa4", "€"), bothRow(impl.CsKoi, "\xc1", "a"), bothRow(impl.CsLat, "", "a"), bothRow(impl.CsLat, "a", ""), bothRow(impl.CsLat, "a", "A"), bothRow(impl.CsLat, "ab", "a"),
		// too long
		oldRow(impl.CsLat, strings.Repeat("a", 21)), newRow(strings.Repeat("a", 21)), newRow(strings.Repeat("é", 10) + "a"), oldRow(impl.CsEuc, strings.Repeat("\xa4\xa2", 11)), bothRow(impl.CsLat, strings.Repeat("a", 21), strings.Repeat("a", 21)), bothRow(impl.CsLat, strings.Repeat("\xe9", 11), strings.Repeat("é", 11)), bothRow(impl.CsLat, strings.Repeat("a", 20), strings.Repeat("a", 21)), oldRow(impl.CsLat, strings.Repeat("a", 276)), aside(oldRow(impl.CsWin, strings.Repeat("\x81", 21))),
		// not of the sets that they are to be of
		oldRow(impl.CsUtf, "a"), oldRow(impl.CsUtf, ""), bothRow(impl.CsUtf, "a", "a"), bothRow(impl.CsUtf, "", ""),
		{Key: "k", New: cell(impl.CsEuc, ""), Has: onlyNew}, {Key: "k", Old: cell(impl.CsLat, "a"), New: cell(impl.CsLat, "a"), Has: both}, {Key: "k", Old: cell(impl.CsLat, "\xe9"), New: cell(impl.CsWin, "\xe9"), Has: both},
		// of what there is not
		{Key: "k", Old: cell(impl.CsUtf, "a"), New: cell(impl.CsUtf, "a"), Has: onlyNew}, {Key: "k", Old: cell(impl.CsLat, ""), New: cell(impl.CsUtf, "a"), Has: onlyNew}, {Key: "k", Old: cell(impl.CsLat, "a"), New: cell(impl.CsUtf, "a"), Has: onlyNew}, {Key: "k", Old: cell(-1, ""), New: cell(impl.CsUtf, "a"), Has: onlyNew}, {Key: "k", Old: cell(math.MaxInt, ""), Has: onlyNew}, {Key: "k", Old: cell(impl.CsUtf, "\x00"), Has: onlyNew},
		{Key: "k", Old: cell(impl.CsLat, "a"), New: cell(impl.CsUtf, "a"), Has: onlyOld}, {Key: "k", Old: cell(impl.CsLat, "a"), New: cell(impl.CsLat, ""), Has: onlyOld}, {Key: "k", Old: cell(impl.CsLat, "a"), New: cell(6, ""), Has: onlyOld}, {Key: "k", Old: cell(impl.CsLat, "a"), New: cell(impl.CsUtf, "\x00"), Has: onlyOld}, {Key: "k", Old: cell(impl.CsWin, "\x81"), New: cell(impl.CsUtf, "\xff"), Has: onlyOld, Aside: true}, {Key: "k", Old: cell(impl.CsLat, "a"), New: cell(math.MinInt, ""), Has: onlyOld},
	}
	for _, tag := range noOldTags() {
		l = append(l, oldRow(tag, "a"), bothRow(tag, "a", "a"), aside(oldRow(tag, "\xff")), impl.Row{Key: "k", Old: cell(tag, "a"), New: cell(impl.CsUtf, "a"), Has: onlyNew})
	}
	for _, tag := range append(noSets(), oldTags()...) {
		l = append(l, impl.Row{Key: "k", New: cell(tag, "a"), Has: onlyNew}, impl.Row{Key: "k", Old: cell(impl.CsLat, "a"), New: cell(tag, "a"), Has: both})
	}
	for _, key := range noNames() {
		l = append(l, keyed(key, oldRow(impl.CsLat, "a")), keyed(key, newRow("a")), keyed(key, bothRow(impl.CsKoi, "a", "a")))
	}
	for _, has := range []int{0, 4, 5, 6, 7, 8, -1, -2, -3, 256, 257, 1<<32 + 1, 1<<32 + 3, math.MinInt, math.MinInt + 1, math.MinInt + 3, math.MaxInt - 1, math.MaxInt} {
		for _, r := range []impl.Row{{Key: "k"}, oldRow(impl.CsLat, "a"), newRow("a"), bothRow(impl.CsWin, "a", "a")} {
			r.Has = has
			l = append(l, r)
		}
	}
	return l
}

func TestRowsThatAreRight(t *testing.T) {
	for _, r := range rightRows() {
		if !impl.RowOk(r) {
			t.Errorf("RowOk(%v) is false", r)
		}
	}
}

func TestRowsThatAreNotRight(t *testing.T) {
	for _, r := range wrongRows() {
		says := r.Has == onlyOld && r.New.Tag == 0 && len(r.New.B) == 0
		for _, one := range []impl.Row{r, aside(r)} {
			// An Old alone that says nothing is right once it is set aside.
			if one.Aside && says && impl.CellOk(r.Old) && r.Old.Tag != impl.CsUtf && namePattern.MatchString(r.Key) {
				continue
			}
			if impl.RowOk(one) {
				t.Errorf("RowOk(%v) is true", one)
			}
			for _, c := range rowCalls() {
				checkMade(t, c.name, c.call, one, one)
			}
		}
	}
}

// The zero row has no Old that could say anything; its Old is asked all the same.
func TestTextsOfRows(t *testing.T) {
	for _, z := range []struct {
		r  impl.Row
		s  string
		ok bool
	}{
		{oldRow(impl.CsKoi, "\xc1b"), "аb", true}, {newRow("é"), "é", true}, {bothRow(impl.CsLat, "\xe9", "é"), "é", true}, {aside(newRow("")), "", true}, {oldRow(impl.CsEuc, ""), "", true},
		{oldRow(impl.CsLat, strings.Repeat("\xe9", 20)), strings.Repeat("é", 20), true},
		{aside(oldRow(impl.CsWin, "a\x81")), "", false}, {oldRow(impl.CsWin, "a\x81"), "", false}, {newRow("a\xff"), "", false},
		// whose cells are of other texts: New counts
		{bothRow(impl.CsLat, "a", "b"), "b", true}, {bothRow(impl.CsLat, "a", "\xff"), "", false}, {bothRow(impl.CsWin, "\x81", "b"), "b", true},
		{oldRow(impl.CsLat, strings.Repeat("a", 21)), "", false}, {newRow(strings.Repeat("a", 21)), "", false},
		// no names
		{keyed("", newRow("a")), "a", true}, {keyed("K", oldRow(impl.CsLat, "a")), "a", true},
		{impl.Row{}, "", true},
	} {
		if s, ok := impl.RowText(z.r); ok != z.ok || s != z.s {
			t.Errorf("RowText(%v) is %x, %v; not %x, %v", z.r, s, ok, z.s, z.ok)
		}
	}
}

// Each Old is held with each New, whatever the row tells of them.
func TestAllKindsOfRowsAsTheBooksHaveThem(t *testing.T) {
	z := shelfOf()
	var l []impl.Cell
	for _, tag := range append(allSets(), -1, 6, math.MinInt, math.MaxInt) {
		for _, b := range []string{"", "a", "\xe9", "é", "\x80", "€", "\xa4\xa2", "あ", "\xc1", "а", "\x81", strings.Repeat("a", 20), strings.Repeat("a", 21), strings.Repeat("\xe9", 10), strings.Repeat("é", 10), strings.Repeat("\xe9", 11)} {
			l = append(l, cell(tag, b))
		}
	}
	met := map[bool]int{}
	for _, old := range l {
		for _, fresh := range l {
			for _, has := range []int{0, 1, 2, 3, 4, -1} {
				for _, set := range []bool{false, true} {
					r := impl.Row{Key: "k", Old: old, New: fresh, Has: has, Aside: set}
					ok := z.rowOk(r)
					met[ok]++
					if impl.RowOk(r) != ok {
						t.Errorf("RowOk(%v) is %v", r, !ok)
					}
					if ok {
						checkRowAsShelf(t, z, r)
					}
				}
			}
		}
	}
	if met[true] < 100 || met[false] < 100 {
		t.Errorf("of right rows %d, of others %d", met[true], met[false])
	}
}

// checkRowAsShelf holds all that can be asked of a row against the books.
func checkRowAsShelf(t *testing.T, z shelf, r impl.Row) {
	t.Helper()
	s, said := z.rowText(r)
	if got, ok := impl.RowText(r); got != s || ok != said {
		t.Errorf("RowText(%v) is %x, %v; not %x, %v", r, got, ok, s, said)
	}
	for _, c := range rowCalls() {
		got := c.call(copiedRow(r))
		if want := c.want(z, r); !sameRow(got, want) {
			t.Errorf("%s of %v is %v, not %v", c.name, r, got, want)
		}
		if !impl.RowOk(got) {
			t.Errorf("%s of %v is %v, which is not right", c.name, r, got)
		}
	}
}

// What is done twice is as what is done once.
func TestWhatIsDoneAgainChangesNothing(t *testing.T) {
	for _, r := range rightRows() {
		for _, c := range rowCalls() {
			once := c.call(copiedRow(r))
			if again := c.call(copiedRow(once)); !sameRow(again, once) {
				t.Errorf("%s of %v again is %v, not %v", c.name, r, again, once)
			}
		}
	}
}

// An empty list and nil are the same value, and what lies behind a length is not
// read.
func TestEmptyCellsOfRows(t *testing.T) {
	for _, b := range [][]byte{nil, {}, []byte("abc")[:0]} {
		for _, r := range []impl.Row{
			{Key: "k", Old: impl.Cell{Tag: impl.CsKoi, B: b}, New: impl.Cell{B: b}, Has: onlyOld},
			{Key: "k", Old: impl.Cell{B: b}, New: impl.Cell{B: b}, Has: onlyNew},
			{Key: "k", Old: impl.Cell{Tag: impl.CsKoi, B: b}, New: impl.Cell{B: b}, Has: both},
		} {
			checkRowText(t, r, "")
			goThrough(t, r, "", 3)
		}
	}
	long := []byte(strings.Repeat("a", 99))
	checkRowText(t, impl.Row{Key: "k", Old: impl.Cell{Tag: impl.CsLat, B: long[:20]}, Has: onlyOld}, strings.Repeat("a", 20))
	checkRowText(t, impl.Row{Key: "k", New: impl.Cell{B: long[:20]}, Old: impl.Cell{B: long[:0]}, Has: onlyNew}, strings.Repeat("a", 20))
	half := impl.Row{Key: "k", Old: impl.Cell{Tag: impl.CsEuc, B: []byte("a\xa4\xa2")[:2]}, Has: onlyOld}
	if impl.RowOk(half) {
		t.Errorf("RowOk(%v) is true", half)
	}
}

// checkRowRoom fails when a call writes into a row or the spare room behind its
// cells' bytes, or when the row that it answers shares memory with these, or its
// two cells with each other.
func checkRowRoom(t *testing.T, name string, call func(r impl.Row) impl.Row, r impl.Row) {
	t.Helper()
	one, oldWhole := roomy(string(r.Old.B))
	two, newWhole := roomy(string(r.New.B))
	before, rest := bytes.Clone(oldWhole), bytes.Clone(newWhole)
	arg := r
	arg.Old.B, arg.New.B = one, two
	got := call(arg)
	if !bytes.Equal(oldWhole, before) || !bytes.Equal(newWhole, rest) {
		t.Errorf("%s of %v: the argument is written", name, r)
	}
	said := copiedRow(got)
	spoil(oldWhole)
	spoil(newWhole)
	if !sameRow(got, said) {
		t.Errorf("%s of %v: the answer goes with the argument: %v, not %v", name, r, got, said)
	}
	copy(oldWhole, before)
	copy(newWhole, rest)
	for _, b := range [][]byte{got.Old.B, got.New.B} {
		for _, x := range b[len(b):cap(b)] {
			if x == spareByte {
				t.Errorf("%s of %v: hands out what lies behind", name, r)
				break
			}
		}
	}
	spoil(got.Old.B)
	if !bytes.Equal(got.New.B, said.New.B) {
		t.Errorf("%s of %v: New goes with Old", name, r)
	}
	spoil(got.New.B)
	if !bytes.Equal(oldWhole, before) || !bytes.Equal(newWhole, rest) {
		t.Errorf("%s of %v: the argument goes with the answer", name, r)
	}
}

func TestRowsStayAsTheyAre(t *testing.T) {
	for _, r := range append(rightRows(), wrongRows()...) {
		for _, c := range rowCalls() {
			checkRowRoom(t, c.name, c.call, r)
		}
		checkRowRoom(t, "RowOk", func(r impl.Row) impl.Row { impl.RowOk(r); return impl.Row{} }, r)
		checkRowRoom(t, "RowText", func(r impl.Row) impl.Row {
			s, _ := impl.RowText(r)
			return impl.Row{Key: s}
		}, r)
	}
}

// Both cells of a row may be of the same memory; those of what is made of it are
// not.
func TestCellsOfOneMemory(t *testing.T) {
	for _, b := range []string{"a", "\xff", strings.Repeat("z", 20), strings.Repeat("z", 21)} {
		for _, has := range []int{0, 1, 2, 3, 4} {
			for _, c := range rowCalls() {
				one, whole := roomy(b)
				before := bytes.Clone(whole)
				r := impl.Row{Key: "k", Old: impl.Cell{Tag: impl.CsLat, B: one}, New: impl.Cell{B: one}, Has: has}
				got := c.call(r)
				fresh := bytes.Clone(got.New.B)
				spoil(got.Old.B)
				if !bytes.Equal(whole, before) || !bytes.Equal(got.New.B, fresh) {
					t.Errorf("%s of two cells of %x, with %d: they share memory", c.name, b, has)
				}
			}
		}
	}
}

func TestRowsAreNewEachTime(t *testing.T) {
	for _, x := range append(fitting(), unfit()...) {
		for _, phase := range append(allPhases(), -1, 8) {
			text := strings.Clone(x.s)
			one, _ := impl.RowOf(phase, "k", x.cs, text)
			two, code := impl.RowOf(phase, "k", x.cs, text)
			said := copiedRow(two)
			spoil(one.Old.B)
			if !bytes.Equal(one.New.B, said.New.B) {
				t.Errorf("RowOf(%d, k, %d, %x): New goes with Old", phase, x.cs, x.s)
			}
			spoil(one.New.B)
			three, again := impl.RowOf(phase, "k", x.cs, text)
			if text != x.s || !sameRow(two, said) || !sameRow(three, said) || code != again {
				t.Errorf("RowOf(%d, k, %d, %x): %v, %v, not %v", phase, x.cs, x.s, two, three, said)
			}
		}
	}
}
