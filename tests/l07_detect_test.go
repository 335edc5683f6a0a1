package tests

import (
	"bytes"
	"maps"
	"slices"
	"strings"
	"testing"
	"unicode/utf8"

	"loop.example/g00475/impl"
)

// markOfToday is what stands ahead of a text of CsUtf, so that nothing else is asked.
const markOfToday = "\xef\xbb\xbf"

// weightOf answers the weight of a sign, written out by hand, apart from how the
// program holds it.
func weightOf(r rune) int {
	switch {
	case strings.ContainsRune(" abcdefghijklmnopqrstuvwxyz0123456789", r):
		return 3
	case strings.ContainsRune("ABCDEFGHIJKLMNOPQRSTUVWXYZ", r):
		return 2
	case strings.ContainsRune("\t\n\r", r):
		return 0
	case r < 0x20 || r > 0x7e && r < 0xa0:
		return -5
	case r > 0xbf && r < 0x250 || r > 0x3ff && r < 0x460 || r > 0x3040 && r < 0x3100:
		return 2
	}
	return 0
}

// books answers the book of each set, by its number.
func books() []book {
	var l []book
	for _, cs := range allSets() {
		l = append(l, bookOf(cs))
	}
	return l
}

// scoreIn answers the sum of weights of what b says by a book.
func scoreIn(k book, b string) (int, bool) {
	text, lost := k.read(b)
	if lost > 0 {
		return 0, false
	}
	sum := 0
	for _, r := range text {
		sum += weightOf(r)
	}
	return sum, true
}

// foundIn answers the set of b by the books.
func foundIn(l []book, b string) int {
	if strings.HasPrefix(b, markOfToday) || utf8.ValidString(b) {
		return impl.CsUtf
	}
	scores := map[int]int{}
	for cs := impl.CsLat; cs <= impl.CsEuc; cs++ {
		if n, ok := scoreIn(l[cs], b); ok {
			scores[cs] = n
		}
	}
	greatest := slices.Max(slices.Collect(maps.Values(scores)))
	for cs := impl.CsLat; ; cs++ {
		if n, is := scores[cs]; is && n == greatest {
			return cs
		}
	}
}

func checkScore(t *testing.T, cs int, b string, n int) {
	t.Helper()
	if got, ok := impl.Score(cs, []byte(b)); !ok || got != n {
		t.Errorf("Score(%d, %x) is %d, %v; not %d", cs, b, got, ok, n)
	}
}

func noScore(t *testing.T, cs int, b string) {
	t.Helper()
	if got, ok := impl.Score(cs, []byte(b)); ok || got != 0 {
		t.Errorf("Score(%d, %x) is %d, %v", cs, b, got, ok)
	}
}

func checkFound(t *testing.T, b string, cs int) {
	t.Helper()
	if got, ok := impl.Detect([]byte(b)); !ok || got != cs {
		t.Errorf("Detect(%x) is %d, %v; not %d", b, got, ok, cs)
	}
}

// checkGreatest fails when a set of long ago has a greater score than the one
// that is found, or the same and stands ahead of it.
func checkGreatest(t *testing.T, b string) {
	t.Helper()
	found, ok := impl.Detect([]byte(b))
	if !ok {
		t.Errorf("Detect(%x) is false", b)
		return
	}
	if found == impl.CsUtf {
		if _, said := impl.Decode(impl.CsUtf, []byte(b)); !said && !strings.HasPrefix(b, markOfToday) {
			t.Errorf("Detect(%x) is %d", b, found)
		}
		return
	}
	greatest, said := impl.Score(found, []byte(b))
	if !said {
		t.Errorf("Detect(%x) is %d, which does not say it", b, found)
	}
	for cs := impl.CsLat; cs <= impl.CsEuc; cs++ {
		n, said := impl.Score(cs, []byte(b))
		if said && (n > greatest || n == greatest && cs < found) {
			t.Errorf("Detect(%x) is %d of %d, and %d has %d", b, found, greatest, cs, n)
		}
	}
}

// checkAsBooks holds Score of each set and Detect against the books.
func checkAsBooks(t *testing.T, l []book, b string) {
	t.Helper()
	for cs, k := range l {
		if n, ok := scoreIn(k, b); ok {
			checkScore(t, cs, b, n)
		} else {
			noScore(t, cs, b)
		}
	}
	checkFound(t, b, foundIn(l, b))
	checkGreatest(t, b)
}

func TestWeightAtTheEdges(t *testing.T) {
	for n, w := range map[int]int{
		0x0: -5, 0x1: -5, 0x7: -5, 0x8: -5, 0x9: 0, 0xa: 0, 0xb: -5, 0xc: -5, 0xd: 0, 0xe: -5, 0x1e: -5, 0x1f: -5,
		0x20: 3, 0x21: 0, 0x22: 0, 0x2f: 0, 0x30: 3, 0x31: 3, 0x38: 3, 0x39: 3, 0x3a: 0, 0x3f: 0, 0x40: 0,
		0x41: 2, 0x42: 2, 0x59: 2, 0x5a: 2, 0x5b: 0, 0x5f: 0, 0x60: 0, 0x61: 3, 0x62: 3, 0x79: 3, 0x7a: 3, 0x7b: 0, 0x7d: 0, 0x7e: 0,
		0x7f: -5, 0x80: -5, 0x81: -5, 0x85: -5, 0x9e: -5, 0x9f: -5, 0xa0: 0, 0xa1: 0, 0xad: 0, 0xbe: 0, 0xbf: 0,
		0xc0: 2, 0xc1: 2, 0xd7: 2, 0xf7: 2, 0xff: 2, 0x100: 2, 0x24e: 2, 0x24f: 2, 0x250: 0, 0x251: 0, 0x3fe: 0, 0x3ff: 0,
		0x400: 2, 0x401: 2, 0x45e: 2, 0x45f: 2, 0x460: 0, 0x461: 0, 0x20ac: 0, 0x303f: 0, 0x3040: 0,
		0x3041: 2, 0x3042: 2, 0x3094: 2, 0x30a0: 2, 0x30fe: 2, 0x30ff: 2, 0x3100: 0, 0x3101: 0,
		0xd7ff: 0, 0xe000: 0, 0xfeff: 0, 0xfffd: 0, 0xffff: 0, 0x10000: 0, 0x10020: 0, 0x10061: 0, 0x1f600: 0, 0x10fffe: 0, 0x10ffff: 0,
	} {
		if got := impl.Weight(n); got != w {
			t.Errorf("Weight(%x) is %d, not %d", n, got, w)
		}
	}
}

func TestWeightOfEachSign(t *testing.T) {
	for n := range 0x10ffff + 1 {
		if impl.SignOk(n) && impl.Weight(n) != weightOf(rune(n)) {
			t.Fatalf("Weight(%x) is %d, not %d", n, impl.Weight(n), weightOf(rune(n)))
		}
	}
}

func TestNoSignWeighsNothing(t *testing.T) {
	for _, n := range noSigns() {
		if got := impl.Weight(n); got != 0 {
			t.Errorf("Weight(%x) is %d", n, got)
		}
	}
	for n := 0xd800; n <= 0xdfff; n++ {
		if got := impl.Weight(n); got != 0 {
			t.Errorf("Weight(%x) is %d", n, got)
		}
	}
	for n := range 0x4000 {
		for _, far := range []int{-n - 1, 0x110000 + n, 1<<32 + n, -(1 << 32) + n} {
			if got := impl.Weight(far); got != 0 {
				t.Errorf("Weight(%x) is %d", far, got)
			}
		}
	}
}

func TestScoreAtKnownValues(t *testing.T) {
	for _, z := range []struct {
		cs int
		b  string
		n  int
	}{
		{impl.CsUtf, "é A", 7}, {impl.CsUtf, markOfToday, 0}, {impl.CsUtf, markOfToday + "a", 3}, {impl.CsUtf, "あ1", 5}, {impl.CsUtf, "Ж\n", 2}, {impl.CsUtf, "\U0001f600€", 0}, {impl.CsUtf, "\u0080a", -2}, {impl.CsUtf, lostSign, 0},
		{impl.CsLat, "caf\xe9", 11}, {impl.CsLat, "\x80", -5}, {impl.CsLat, "\x9f\xa0", -5}, {impl.CsLat, "\xa6\xa4\xbf", 0}, {impl.CsLat, "\xc0\xff", 4}, {impl.CsLat, "\xc3\xa9", 2},
		{impl.CsNine, "\xa6koda", 14}, {impl.CsNine, "\xa4\xa3", 0}, {impl.CsNine, "\xa6\xa8\xb4\xb8\xbc\xbd\xbe", 14}, {impl.CsNine, "\x80\xff", -3},
		{impl.CsKoi, "\xc1 A", 7}, {impl.CsKoi, "\xb3\xa3", 4}, {impl.CsKoi, "\xf0\xd2\xc9\xd7\xc5\xd4", 12}, {impl.CsKoi, "\x00\xc0", -3},
		{impl.CsWin, "\x80", 0}, {impl.CsWin, "\x83\x8a\x8c\x8e", 8}, {impl.CsWin, "\x88\x98\x99", 0}, {impl.CsWin, "\x93caf\xe9\x94", 11}, {impl.CsWin, "\x9f\xa0", 2},
		{impl.CsEuc, "\xa4\xa2a", 5}, {impl.CsEuc, "\xa4\xa1\xa4\xf3\xa5\xa1\xa5\xf6", 8}, {impl.CsEuc, "\xa4\xa2\x7f\x00", -8},
	} {
		checkScore(t, z.cs, z.b, z.n)
	}
}

func TestScoreOfSignsThatAllSetsSayAlike(t *testing.T) {
	for b, n := range map[string]int{"": 0, " ": 3, "abc XYZ 019": 30, "\x00\x7f": -10, "\t\n\r!~": 0, "a\x01": -2, "{A}": 2, strings.Repeat("az 09", 4000): 60000, strings.Repeat("\x00", 9000): -45000} {
		for _, cs := range allSets() {
			checkScore(t, cs, b, n)
		}
	}
	for _, cs := range allSets() {
		if n, ok := impl.Score(cs, nil); !ok || n != 0 {
			t.Errorf("Score(%d, nil) is %d, %v", cs, n, ok)
		}
	}
}

// The sum is held against what Decode and Weight answer themselves.
func TestScoreIsTheSumOfWeights(t *testing.T) {
	for _, cs := range allSets() {
		all, _ := bookOf(cs).all()
		for _, b := range []string{"", "a", "plain Text 7!", "\x00\x09\x7f", "é€жあ\U0001f600", "caf\xe9", "\xa4\xa2\xa5\xa2", "\xe4\xc1", "\x80\x93", "\x81", "\xff\xa6", all, all + all} {
			text, said := impl.Decode(cs, []byte(b))
			if !said {
				noScore(t, cs, b)
				continue
			}
			sum := 0
			for _, r := range text {
				sum += impl.Weight(int(r))
			}
			checkScore(t, cs, b, sum)
		}
	}
}

func TestThereIsNoScoreOfNoSet(t *testing.T) {
	for _, cs := range noSets() {
		for _, b := range []string{"", "a", "abc", "\x00", "é", "\xff", "\xa4\xa2", "\x80", markOfToday} {
			noScore(t, cs, b)
		}
		if n, ok := impl.Score(cs, nil); ok || n != 0 {
			t.Errorf("Score(%d, nil) is %d, %v", cs, n, ok)
		}
	}
}

func TestThereIsNoScoreOfWhatASetDoesNotSay(t *testing.T) {
	for cs, l := range map[int][]string{
		impl.CsUtf: {"\xff", "\x80", "caf\xe9", "\xc3", "\xe2\x82", "\xc0\x80", "\xed\xa0\x80", "\xf4\x90\x80\x80", "\xef\xbb", markOfToday + "\xff"},
		impl.CsKoi: {"\x80", "\xa2", "\xa4", "\xbf", "\xa3\xb2"},
		impl.CsWin: {"\x81", "\x8d", "\x8f", "\x90", "\x9d"},
		impl.CsEuc: {"\xff", "\x80", "\xa4", "\xa5a", "\xa4\xf4", "\xa5\xf7", "\xa3\xa1", "\xa4\xa2\xa4"},
	} {
		for _, b := range l {
			noScore(t, cs, b)
			noScore(t, cs, "abc"+b)
			noScore(t, cs, b+" abc")
			noScore(t, cs, "\x00"+b+"\x00")
		}
	}
}

func TestTextsOfEachSetAreFoundAgain(t *testing.T) {
	for cs, l := range map[int][]string{
		impl.CsUtf:  {"abc", "café", "Привет", "こんにちは", "5 €", "\U0001f600", "\u0080", "\x00", "\x7f", lostSign},
		impl.CsLat:  {"café", "ÀÿÖ", "naïve Größe", "«où»", "¤", "\u0081"},
		impl.CsNine: {"Škoda", "œuvre", "Ÿ", "5 € Ž", "ŠšŽžŒœŸ"},
		impl.CsKoi:  {"ёжик", "Ёлка", "ё", "всё", "ЁЖ и ёж"},
		impl.CsWin:  {"“café”", "€", "it’s", "Š", "ƒ…", "5 € – 7 €"},
		impl.CsEuc:  {"あい", "アイ", "ぃ", "aあbア", "ァ A"},
	} {
		for _, s := range l {
			b, ok := impl.Encode(cs, s)
			if !ok {
				t.Fatalf("%q has no bytes in %d", s, cs)
			}
			checkFound(t, string(b), cs)
			checkGreatest(t, string(b))
		}
	}
}

func TestNoBytesAreOfToday(t *testing.T) {
	checkFound(t, "", impl.CsUtf)
	if cs, ok := impl.Detect(nil); !ok || cs != impl.CsUtf {
		t.Errorf("Detect(nil) is %d, %v", cs, ok)
	}
}

func TestTheMarkOfToday(t *testing.T) {
	for _, b := range []string{"", "a", "é", "あ", "\x00", markOfToday} {
		checkFound(t, markOfToday+b, impl.CsUtf)
	}
	for _, b := range []string{"\xff", "\x80", "\xa4\xa2", "caf\xe9", "\xef\xbb", "\xa3", "\x93a\x94", "\xc3", "a\xff", strings.Repeat("\xff", 999)} {
		noScore(t, impl.CsUtf, markOfToday+b)
		checkFound(t, markOfToday+b, impl.CsUtf)
	}
}

func TestWhatIsNoMarkOfToday(t *testing.T) {
	for b, cs := range map[string]int{
		"\xef": impl.CsLat, "\xef\xbb": impl.CsLat, "\xbb\xbf": impl.CsLat, "\xef\xbb\xc0": impl.CsLat, "\xef\xbba": impl.CsLat, "\xef" + markOfToday: impl.CsLat, "\xfe\xff": impl.CsLat, "\xef\xbf": impl.CsLat, "\xbf\xbb\xef": impl.CsLat,
		// not at the front
		"a" + markOfToday + "\xff": impl.CsLat, "\xff" + markOfToday: impl.CsLat, "\x80" + markOfToday: impl.CsWin, "\xef\xbb" + markOfToday: impl.CsLat, "\xbf" + markOfToday + "\xa6": impl.CsNine,
		// these are of today, since they say signs
		"\xef\xbb\xbe": impl.CsUtf, "\xef\xbf\xbb": impl.CsUtf, "a" + markOfToday: impl.CsUtf,
	} {
		checkFound(t, b, cs)
	}
}

func TestOfAlikeScoresTheFirstIsFound(t *testing.T) {
	for _, z := range []struct {
		b     string
		n     int
		alike []int
	}{
		{"\xff", 2, []int{impl.CsLat, impl.CsNine, impl.CsKoi, impl.CsWin}},
		{"caf\xe9", 11, []int{impl.CsLat, impl.CsNine, impl.CsKoi, impl.CsWin}},
		{"\xf0\xd2\xc9\xd7\xc5\xd4", 12, []int{impl.CsLat, impl.CsNine, impl.CsKoi, impl.CsWin}},
		{"\xa4", 0, []int{impl.CsLat, impl.CsNine, impl.CsWin}},
		{"\xa4\xc0", 2, []int{impl.CsLat, impl.CsNine, impl.CsWin, impl.CsEuc}},
		{"a\xa5\xc1\xa4\xf3", 7, []int{impl.CsLat, impl.CsNine, impl.CsWin, impl.CsEuc}},
		{"\xa4\xa6", 2, []int{impl.CsNine, impl.CsEuc}},
		{"\xa5\xbc\xa5\xbd", 4, []int{impl.CsNine, impl.CsEuc}},
		{"\x80\xa6\xa6\xa6\xa6\xa6\x80", 0, []int{impl.CsNine, impl.CsWin}},
		{"\x81", -5, []int{impl.CsLat, impl.CsNine}},
		{"\x01\x01\xff", -8, []int{impl.CsLat, impl.CsNine, impl.CsKoi, impl.CsWin}},
		{"\x01\xa5\xa6", -3, []int{impl.CsNine, impl.CsEuc}},
	} {
		for _, cs := range z.alike {
			checkScore(t, cs, z.b, z.n)
		}
		checkFound(t, z.b, z.alike[0])
		checkGreatest(t, z.b)
	}
}

func TestScoresBelowNothing(t *testing.T) {
	for _, z := range []struct {
		b     string
		cs, n int
	}{
		{"\x00\xff", impl.CsLat, -3}, {"\x81\x8d\x8f", impl.CsLat, -15}, {"\x80\x81", impl.CsLat, -10}, {"\x00\x80\x81a", impl.CsLat, -12},
		{"\x01\x01\xa6", impl.CsNine, -8}, {"\x81\xbd", impl.CsNine, -3},
		{"\x01\xa3", impl.CsKoi, -3}, {"\x7f\x7f\xb3\xff", impl.CsKoi, -6},
		{"\x01\x80", impl.CsWin, -5}, {"\x00\x00\x8a", impl.CsWin, -8},
		{"\x01\x01\xa4\xa2", impl.CsEuc, -8}, {"\xa5\xa1\x00", impl.CsEuc, -3},
	} {
		checkScore(t, z.cs, z.b, z.n)
		checkFound(t, z.b, z.cs)
		checkGreatest(t, z.b)
	}
}

// CsLat and CsNine say whatever bytes there are, so none are said by one set
// alone, and there are always some that say them.
func TestBytesThatFewSetsSay(t *testing.T) {
	for _, z := range []struct {
		b     string
		said  []int
		found int
	}{
		{"\x81", []int{impl.CsLat, impl.CsNine}, impl.CsLat},
		{"\x90az", []int{impl.CsLat, impl.CsNine}, impl.CsLat},
		{"\x9d\xa8", []int{impl.CsLat, impl.CsNine}, impl.CsNine},
		{"\x80", []int{impl.CsLat, impl.CsNine, impl.CsWin}, impl.CsWin},
		{"\xa7", []int{impl.CsLat, impl.CsNine, impl.CsWin}, impl.CsLat},
		{"\xa3", []int{impl.CsLat, impl.CsNine, impl.CsKoi, impl.CsWin}, impl.CsKoi},
		{"\xa4\xa2", []int{impl.CsLat, impl.CsNine, impl.CsWin, impl.CsEuc}, impl.CsEuc},
		{"\xc2\x81", []int{impl.CsUtf, impl.CsLat, impl.CsNine}, impl.CsUtf},
		{"\xc3\x80", []int{impl.CsUtf, impl.CsLat, impl.CsNine, impl.CsWin}, impl.CsUtf},
	} {
		var said []int
		for _, cs := range allSets() {
			if _, ok := impl.Score(cs, []byte(z.b)); ok {
				said = append(said, cs)
			}
		}
		if !slices.Equal(said, z.said) {
			t.Errorf("%x is said by %v, not %v", z.b, said, z.said)
		}
		checkFound(t, z.b, z.found)
	}
	for b := range 256 {
		for _, cs := range []int{impl.CsLat, impl.CsNine} {
			if _, ok := impl.Score(cs, []byte{byte(b)}); !ok {
				t.Errorf("%x has no score in %d", b, cs)
			}
		}
		if _, ok := impl.Detect([]byte{byte(b)}); !ok {
			t.Errorf("%x is found in no set", b)
		}
	}
}

// What utf8 can say is of utf8, whatever score another set has.
func TestTodayIsAheadOfGreaterScores(t *testing.T) {
	for _, b := range []string{"é", "€", "\u0080", "Ж", "あ", "\x00\xc3\x80", "À"} {
		checkFound(t, b, impl.CsUtf)
	}
	for b, cs := range map[string]int{"\xc3\xa6": impl.CsNine, "\xc3\xa3": impl.CsKoi, "\xc4\x8a": impl.CsWin, "\xc2\x83": impl.CsWin, "\xe2\x82\xac": impl.CsWin} {
		today, ok := impl.Score(impl.CsUtf, []byte(b))
		other, said := impl.Score(cs, []byte(b))
		if !ok || !said || other <= today {
			t.Errorf("%x has %d, %v in utf8, %d, %v in %d", b, today, ok, other, said, cs)
		}
		checkFound(t, b, impl.CsUtf)
	}
}

// All bytes of up to two, and all of three out of those at which something
// changes in a set.
func TestShortBytesAreFoundAsTheBooksHaveThem(t *testing.T) {
	l := books()
	edges := "\x00\x09 Aa~\x7f\x80\x81\x9f\xa2\xa3\xa4\xa5\xa6\xb3\xbb\xbf\xc0\xc3\xe2\xef\xf0\xf3\xff"
	for x := range 256 {
		checkAsBooks(t, l, string([]byte{byte(x)}))
		for y := range 256 {
			checkAsBooks(t, l, string([]byte{byte(x), byte(y)}))
		}
	}
	for i := range len(edges) {
		for j := range len(edges) {
			for k := range len(edges) {
				checkAsBooks(t, l, string([]byte{edges[i], edges[j], edges[k]}))
			}
		}
	}
}

func TestMixedBytesAreFoundAsTheBooksHaveThem(t *testing.T) {
	l := books()
	pieces := []string{"", "a", "Z 9", "\x00", "\n", "é", "€", "\x80", "\x81", "\x93", "\xff", "\xa3", "\xa4\xa2", "\xa5\xf6", "\xa4", "\xa6", "\xa6\xbd", "\xbb", "\xc1\xb3", markOfToday, "\xef\xbb"}
	for _, w := range pieces {
		for _, x := range pieces {
			for _, y := range pieces {
				for _, z := range []string{"", "b", "\x01", "\x8a", "\xa4\xa6", "\xff"} {
					checkAsBooks(t, l, w+x+y+z)
				}
			}
		}
	}
}

func TestLongBytesAreFound(t *testing.T) {
	for b, cs := range map[string]int{"é": impl.CsUtf, "\xe9": impl.CsLat, "a\xa6": impl.CsNine, "\xa3\xd6": impl.CsKoi, "\x93a\x94": impl.CsWin, "\xa4\xa2": impl.CsEuc, "\x00\x81": impl.CsLat} {
		checkFound(t, strings.Repeat(b, 5000), cs)
	}
	// one sign at the end is more than the others
	alike := strings.Repeat("caf\xe9 ", 2000)
	for end, cs := range map[string]int{"": impl.CsLat, "\xa8": impl.CsNine, "\xb3": impl.CsKoi, "\x80": impl.CsWin} {
		checkFound(t, alike+end, cs)
		checkFound(t, end+alike, cs)
	}
}

// What lies behind the bytes would make them of another set.
func TestSpareRoomIsNotFound(t *testing.T) {
	for _, z := range []struct {
		b    string
		size int
		cs   int
	}{
		{markOfToday, 2, impl.CsLat}, {markOfToday, 0, impl.CsUtf}, {"é", 1, impl.CsLat}, {"a\xff", 1, impl.CsUtf}, {"\xff\xa3", 1, impl.CsLat}, {"\xff\x80", 1, impl.CsLat}, {"\xa4\xa2", 1, impl.CsLat}, {"\xa4\xa2\xff", 2, impl.CsEuc}, {"\xa3\xa2", 1, impl.CsKoi},
	} {
		b := []byte(z.b)[:z.size]
		if got, ok := impl.Detect(b); !ok || got != z.cs {
			t.Errorf("Detect(%x) is %d, %v; not %d", b, got, ok, z.cs)
		}
	}
	if n, ok := impl.Score(impl.CsLat, []byte("ab\x00")[:2]); !ok || n != 6 {
		t.Errorf("Score of ab is %d, %v", n, ok)
	}
	if n, ok := impl.Score(impl.CsEuc, []byte("a\xa4\xa2")[:2]); ok || n != 0 {
		t.Errorf("Score of a pair that is cut is %d, %v", n, ok)
	}
}

func TestFindingWritesNothingIntoItsArgument(t *testing.T) {
	for _, s := range []string{"", "a", "abc", "é", "\xff", "\x80", "\x81", "\xa3", "\xa6", "\xa4\xa2", "a\xa4", "\x00", markOfToday, markOfToday + "\xff", "\xef\xbb"} {
		arg, whole := roomy(s)
		before := bytes.Clone(whole)
		found, ok := impl.Detect(arg)
		again, too := impl.Detect(arg)
		if found != again || ok != too {
			t.Errorf("Detect(%x) is %d, %v, and then %d, %v", s, found, ok, again, too)
		}
		for _, cs := range append(allSets(), noSets()...) {
			one, ok := impl.Score(cs, arg)
			two, too := impl.Score(cs, arg)
			if one != two || ok != too {
				t.Errorf("Score(%d, %x) is %d, %v, and then %d, %v", cs, s, one, ok, two, too)
			}
		}
		if !bytes.Equal(whole, before) {
			t.Errorf("%x: the argument is written: %x", s, whole)
		}
	}
}
