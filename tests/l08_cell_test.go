package tests

import (
	"bytes"
	"maps"
	"math"
	"slices"
	"strings"
	"testing"
	"unicode/utf8"

	"loop.example/g00475/impl"
)

// cellMost is how many bytes a cell may have, written out apart from the program.
const cellMost = 20

func cell(tag int, b string) impl.Cell {
	return impl.Cell{Tag: tag, B: []byte(b)}
}

func sameCell(a impl.Cell, b impl.Cell) bool {
	return a.Tag == b.Tag && bytes.Equal(a.B, b.B)
}

// tagsAll are the tags of which there is a set, and some of which there is none.
func tagsAll() []int {
	return append(allSets(), noSets()...)
}

// A shelf has the book of each set, and the way back through it.
type shelf struct {
	books []book
	backs []map[string]string
}

func shelfOf() shelf {
	z := shelf{books: books()}
	for _, k := range z.books {
		z.backs = append(z.backs, k.back())
	}
	return z
}

// text answers what a cell says by the books.
func (z shelf) text(c impl.Cell) (string, bool) {
	if !slices.Contains(allSets(), c.Tag) || len(c.B) > cellMost {
		return "", false
	}
	s, lost := z.books[c.Tag].read(string(c.B))
	if lost > 0 {
		return "", false
	}
	return s, true
}

// cell answers the cell that says s in a set, by the books.
func (z shelf) cell(tag int, s string) (impl.Cell, bool) {
	if !slices.Contains(allSets(), tag) || !utf8.ValidString(s) {
		return impl.Cell{}, false
	}
	b := s
	if tag != impl.CsUtf {
		b = ""
		for _, r := range s {
			one, is := z.backs[tag][string(r)]
			if !is {
				return impl.Cell{}, false
			}
			b += one
		}
	}
	if len(b) > cellMost {
		return impl.Cell{}, false
	}
	return cell(tag, b), true
}

// checkCell fails when a cell does not say that text, or the text is not written
// as that cell.
func checkCell(t *testing.T, tag int, b string, s string) {
	t.Helper()
	c := cell(tag, b)
	if !impl.CellOk(c) {
		t.Errorf("CellOk(%d, %x) is false", tag, b)
	}
	if got, ok := impl.CellText(c); !ok || got != s {
		t.Errorf("CellText(%d, %x) is %x, %v; not %x", tag, b, got, ok, s)
	}
	if got, ok := impl.CellOf(tag, s); !ok || !sameCell(got, c) {
		t.Errorf("CellOf(%d, %x) is %d, %x, %v; not %x", tag, s, got.Tag, got.B, ok, b)
	}
	if !impl.SameText(c, cell(tag, b)) {
		t.Errorf("SameText(%d, %x) of itself is false", tag, b)
	}
}

// noCellText fails when a cell says something, or can be turned, or is the same
// as some cell, itself too.
func noCellText(t *testing.T, c impl.Cell) {
	t.Helper()
	if s, ok := impl.CellText(c); ok || s != "" {
		t.Errorf("CellText(%d, %x) is %x, %v", c.Tag, c.B, s, ok)
	}
	for _, tag := range tagsAll() {
		noTurn(t, c, tag)
	}
	noTurn(t, c, c.Tag)
	for _, other := range []impl.Cell{c, {}, {Tag: c.Tag}, cell(impl.CsUtf, lostSign), cell(impl.CsLat, string(c.B)), cell(impl.CsKoi, "\x80")} {
		if impl.SameText(c, other) || impl.SameText(other, c) {
			t.Errorf("SameText of %d, %x, which says nothing, and %d, %x is true", c.Tag, c.B, other.Tag, other.B)
		}
	}
}

// noCellOf fails when CellOf answers anything but the zero cell and false.
func noCellOf(t *testing.T, tag int, s string) {
	t.Helper()
	if c, ok := impl.CellOf(tag, s); ok || c.Tag != 0 || len(c.B) != 0 {
		t.Errorf("CellOf(%d, %x) is %d, %x, %v", tag, s, c.Tag, c.B, ok)
	}
}

// noTurn fails when Turn answers anything but c and false.
func noTurn(t *testing.T, c impl.Cell, tag int) {
	t.Helper()
	if got, ok := impl.Turn(c, tag); ok || !sameCell(got, c) {
		t.Errorf("Turn of %d, %x to %d is %d, %x, %v", c.Tag, c.B, tag, got.Tag, got.B, ok)
	}
}

// checkTurn fails when a cell is not turned into the other, and back.
func checkTurn(t *testing.T, c impl.Cell, other impl.Cell) {
	t.Helper()
	got, ok := impl.Turn(c, other.Tag)
	if !ok || !sameCell(got, other) {
		t.Errorf("Turn of %d, %x to %d is %d, %x, %v; not %x", c.Tag, c.B, other.Tag, got.Tag, got.B, ok, other.B)
		return
	}
	if back, ok := impl.Turn(got, c.Tag); !ok || !sameCell(back, c) {
		t.Errorf("Turn of %d, %x to %d and back is %d, %x, %v", c.Tag, c.B, other.Tag, back.Tag, back.B, ok)
	}
	if !impl.SameText(c, got) || !impl.SameText(got, c) {
		t.Errorf("SameText of %d, %x and %d, %x is false", c.Tag, c.B, got.Tag, got.B)
	}
}

// checkCellAsShelf holds all that can be asked of a cell against the books.
func checkCellAsShelf(t *testing.T, z shelf, c impl.Cell) {
	t.Helper()
	s, said := z.text(c)
	if !said {
		noCellText(t, c)
		return
	}
	checkCell(t, c.Tag, string(c.B), s)
	for _, tag := range allSets() {
		if other, is := z.cell(tag, s); is {
			checkTurn(t, c, other)
		} else {
			noTurn(t, c, tag)
			noCellOf(t, tag, s)
		}
	}
}

func TestTheLimitOfACell(t *testing.T) {
	if impl.MaxCell != cellMost {
		t.Errorf("MaxCell is %d", impl.MaxCell)
	}
}

func TestCellsSayWhatTheyAreOf(t *testing.T) {
	for _, z := range []struct {
		tag  int
		b, s string
	}{
		{impl.CsUtf, "plain", "plain"}, {impl.CsUtf, "caf\xc3\xa9", "café"}, {impl.CsUtf, "\xe2\x82\xac\xd0\xb6\xf0\x9f\x98\x80!", "€ж\U0001f600!"}, {impl.CsUtf, markOfToday + "a", "\ufeffa"}, {impl.CsUtf, lostSign, lostSign},
		{impl.CsLat, "plain", "plain"}, {impl.CsLat, "caf\xe9", "café"}, {impl.CsLat, "\xa4\xff\x80", "¤ÿ\u0080"}, {impl.CsLat, "\xc3\xa9", "Ã©"},
		{impl.CsNine, "plain", "plain"}, {impl.CsNine, "5 \xa4, \xbduvre", "5 €, œuvre"}, {impl.CsNine, "\xa6\xa8\xb4\xb8\xbc\xbd\xbe\xa7", "ŠšŽžŒœŸ§"},
		{impl.CsKoi, "plain", "plain"}, {impl.CsKoi, "\xe4\xc1, \xb3\xa3", "Да, Ёё"}, {impl.CsKoi, "\xc0\xdf\xe0\xff", "юъЮЪ"},
		{impl.CsWin, "plain", "plain"}, {impl.CsWin, "\x93caf\xe9\x94 \x80\x99", "“café” €™"}, {impl.CsWin, "\xa0\xff\x9f", "\u00a0ÿŸ"},
		{impl.CsEuc, "plain", "plain"}, {impl.CsEuc, "a\xa4\xa2b\xa5\xa2", "aあbア"}, {impl.CsEuc, "\xa4\xa1\xa4\xf3\xa5\xa1\xa5\xf6", "ぁんァヶ"},
	} {
		checkCell(t, z.tag, z.b, z.s)
		checkTurn(t, cell(z.tag, z.b), cell(z.tag, z.b))
	}
}

func TestTextsOfAllSetsAreTurnedBetweenThem(t *testing.T) {
	for s, l := range map[string]map[int]string{
		"":              {impl.CsUtf: "", impl.CsLat: "", impl.CsNine: "", impl.CsKoi: "", impl.CsWin: "", impl.CsEuc: ""},
		"a":             {impl.CsUtf: "a", impl.CsLat: "a", impl.CsNine: "a", impl.CsKoi: "a", impl.CsWin: "a", impl.CsEuc: "a"},
		"\x00?\x7f":     {impl.CsUtf: "\x00?\x7f", impl.CsLat: "\x00?\x7f", impl.CsNine: "\x00?\x7f", impl.CsKoi: "\x00?\x7f", impl.CsWin: "\x00?\x7f", impl.CsEuc: "\x00?\x7f"},
		"café":          {impl.CsUtf: "caf\xc3\xa9", impl.CsLat: "caf\xe9", impl.CsNine: "caf\xe9", impl.CsWin: "caf\xe9"},
		"5 €":           {impl.CsUtf: "5 \xe2\x82\xac", impl.CsNine: "5 \xa4", impl.CsWin: "5 \x80"},
		"Ž":             {impl.CsUtf: "\xc5\xbd", impl.CsNine: "\xb4", impl.CsWin: "\x8e"},
		"½ ¤":           {impl.CsUtf: "\xc2\xbd \xc2\xa4", impl.CsLat: "\xbd \xa4", impl.CsWin: "\xbd \xa4"},
		"\u0080":        {impl.CsUtf: "\xc2\x80", impl.CsLat: "\x80", impl.CsNine: "\x80"},
		"всё":           {impl.CsUtf: "\xd0\xb2\xd1\x81\xd1\x91", impl.CsKoi: "\xd7\xd3\xa3"},
		"“a”":           {impl.CsUtf: "\xe2\x80\x9ca\xe2\x80\x9d", impl.CsWin: "\x93a\x94"},
		"あ!ア":           {impl.CsUtf: "\xe3\x81\x82!\xe3\x82\xa2", impl.CsEuc: "\xa4\xa2!\xa5\xa2"},
		"\U0001f600":    {impl.CsUtf: "\xf0\x9f\x98\x80"},
		"€ж":            {impl.CsUtf: "\xe2\x82\xac\xd0\xb6"},
		"¤€":            {impl.CsUtf: "\xc2\xa4\xe2\x82\xac", impl.CsWin: "\xa4\x80"},
		lostSign:        {impl.CsUtf: lostSign},
		"a" + "\ufeff!": {impl.CsUtf: "a\xef\xbb\xbf!"},
	} {
		for tag, b := range l {
			checkCell(t, tag, b, s)
			for _, other := range allSets() {
				if turned, is := l[other]; is {
					checkTurn(t, cell(tag, b), cell(other, turned))
				} else {
					noTurn(t, cell(tag, b), other)
					noCellOf(t, other, s)
				}
			}
		}
	}
}

func TestEachSignOfEachSetIsTurned(t *testing.T) {
	z := shelfOf()
	for _, tag := range allSets() {
		k := z.books[tag]
		if tag == impl.CsUtf {
			k = book{}
			for _, s := range signEdges() {
				k[s] = s
			}
			for _, from := range allSets()[1:] {
				for s := range z.backs[from] {
					k[s] = s
				}
			}
		}
		for b := range k {
			checkCellAsShelf(t, z, cell(tag, b))
			checkCellAsShelf(t, z, cell(tag, "a"+b+b+"z"))
		}
	}
}

func TestEachSingleByteAndPairAsACell(t *testing.T) {
	z := shelfOf()
	edges := "\x00A\x7f\x80\x81\x9f\xa1\xa3\xa4\xa5\xa6\xbd\xbf\xc2\xc3\xe2\xf0\xf3\xf6\xff"
	for _, tag := range allSets() {
		for x := range 256 {
			checkCellAsShelf(t, z, cell(tag, string([]byte{byte(x)})))
		}
		for i := range len(edges) {
			for j := range len(edges) {
				checkCellAsShelf(t, z, cell(tag, string([]byte{edges[i], edges[j]})))
			}
		}
	}
}

// Long ones, which may grow past the limit in some sets and not in others.
func TestMixedCellsAsTheBooksHaveThem(t *testing.T) {
	z := shelfOf()
	pieces := []string{"", "a", "é", "€", "ж", "あ", "\xa4", "\xa6", "\xc1", "\xff", "\x80", "\xa4\xa2"}
	for _, tag := range allSets() {
		for _, x := range pieces {
			for _, y := range pieces {
				for _, n := range []int{1, 3, 6, 9, 10, 18, 19, 20, 21} {
					checkCellAsShelf(t, z, cell(tag, strings.Repeat(x, n)+y))
				}
			}
		}
	}
}

func TestACellOfNoBytes(t *testing.T) {
	for _, tag := range allSets() {
		for _, b := range [][]byte{nil, {}, []byte("abc")[:0]} {
			c := impl.Cell{Tag: tag, B: b}
			if s, ok := impl.CellText(c); !impl.CellOk(c) || !ok || s != "" {
				t.Errorf("a cell of %d without bytes says %x, %v", tag, s, ok)
			}
			for _, other := range allSets() {
				checkTurn(t, c, impl.Cell{Tag: other})
				if !impl.SameText(c, impl.Cell{Tag: other}) || impl.SameText(c, cell(other, "\x00")) || impl.SameText(cell(other, "a"), c) {
					t.Errorf("SameText of cells of %d and %d without bytes", tag, other)
				}
			}
		}
		if c, ok := impl.CellOf(tag, ""); !ok || c.Tag != tag || len(c.B) != 0 {
			t.Errorf("CellOf(%d) of no text is %d, %x, %v", tag, c.Tag, c.B, ok)
		}
	}
}

func TestHowManyBytesACellMayHave(t *testing.T) {
	for _, tag := range allSets() {
		for n := range cellMost + 1 {
			checkCell(t, tag, strings.Repeat("a", n), strings.Repeat("a", n))
		}
		for _, n := range []int{21, 22, 40, 256, 257, 276, 1 << 16, 1<<16 + 1} {
			b := strings.Repeat("a", n)
			if impl.CellOk(cell(tag, b)) {
				t.Errorf("CellOk of %d bytes in %d is true", n, tag)
			}
			noCellText(t, cell(tag, b))
			noCellOf(t, tag, b)
		}
	}
	// bytes are counted, whatever they say
	for _, tag := range allSets() {
		for _, c := range []byte{0x00, 0x7f, 0x80, 0xa4, 0xff} {
			for n, ok := range map[int]bool{0: true, 1: true, 19: true, 20: true, 21: false} {
				if impl.CellOk(impl.Cell{Tag: tag, B: bytes.Repeat([]byte{c}, n)}) != ok {
					t.Errorf("CellOk of %d bytes %x in %d is %v", n, c, tag, !ok)
				}
			}
		}
	}
}

// A text's bytes in its set are counted, not its signs nor its bytes in utf8.
func TestTextsAtTheLimitOfTheirSet(t *testing.T) {
	for _, z := range []struct {
		tag  int
		sign string
		size int
	}{
		{impl.CsUtf, "a", 1}, {impl.CsUtf, "é", 2}, {impl.CsUtf, "\U0001f600", 4},
		{impl.CsLat, "é", 1}, {impl.CsNine, "€", 1}, {impl.CsKoi, "ж", 1}, {impl.CsWin, "€", 1}, {impl.CsEuc, "あ", 2},
	} {
		just := strings.Repeat(z.sign, cellMost/z.size)
		c, ok := impl.CellOf(z.tag, just)
		if !ok || c.Tag != z.tag || len(c.B) != cellMost || !impl.CellOk(c) {
			t.Errorf("CellOf(%d, %s) is %d, %x, %v", z.tag, just, c.Tag, c.B, ok)
		}
		if s, ok := impl.CellText(c); !ok || s != just {
			t.Errorf("CellText(%d, %x) is %s, %v", c.Tag, c.B, s, ok)
		}
		noCellOf(t, z.tag, just+"a")
		noCellOf(t, z.tag, "a"+just)
		noCellOf(t, z.tag, just+z.sign)
	}
	checkCell(t, impl.CsUtf, strings.Repeat("€", 6)+"é", strings.Repeat("€", 6)+"é")
	noCellOf(t, impl.CsUtf, strings.Repeat("€", 7))
	checkCell(t, impl.CsEuc, strings.Repeat("\xa4\xa2", 9)+"a", strings.Repeat("あ", 9)+"a")
	noCellOf(t, impl.CsEuc, "a"+strings.Repeat("あ", 10))
}

func TestTextsThatGrow(t *testing.T) {
	for _, z := range []struct {
		tag  int
		b, s string
	}{
		// to 20 bytes just
		{impl.CsKoi, strings.Repeat("\xc1", 10), strings.Repeat("а", 10)},
		{impl.CsLat, strings.Repeat("\xe9", 10), strings.Repeat("é", 10)},
		{impl.CsLat, strings.Repeat("a", 18) + "\xe9", strings.Repeat("a", 18) + "é"},
		{impl.CsNine, strings.Repeat("\xa4", 6) + "\xe9", strings.Repeat("€", 6) + "é"},
		{impl.CsWin, strings.Repeat("\x80", 6) + "aa", strings.Repeat("€", 6) + "aa"},
		{impl.CsEuc, strings.Repeat("\xa4\xa2", 6) + "aa", strings.Repeat("あ", 6) + "aa"},
	} {
		if len(z.s) != cellMost {
			t.Fatalf("%s has %d bytes", z.s, len(z.s))
		}
		checkTurn(t, cell(z.tag, z.b), cell(impl.CsUtf, z.s))
		// by one more
		for _, c := range []impl.Cell{cell(z.tag, z.b+"a"), cell(z.tag, "a"+z.b)} {
			if s, ok := impl.CellText(c); !ok || len(s) != cellMost+1 {
				t.Errorf("CellText(%d, %x) is %s, %v", c.Tag, c.B, s, ok)
			}
			noTurn(t, c, impl.CsUtf)
			checkTurn(t, c, c)
			if impl.SameText(c, cell(impl.CsUtf, z.s)) {
				t.Errorf("SameText of %d, %x and %s is true", c.Tag, c.B, z.s)
			}
		}
	}
	// by as many as there are at most
	noTurn(t, cell(impl.CsLat, strings.Repeat("\xff", 20)), impl.CsUtf)
	noTurn(t, cell(impl.CsNine, strings.Repeat("\xa4", 20)), impl.CsUtf)
	noTurn(t, cell(impl.CsEuc, strings.Repeat("\xa4\xa2", 10)), impl.CsUtf)
}

func TestTextsThatGrowInOneSetOnly(t *testing.T) {
	seven := strings.Repeat("\xa4", 7)
	noTurn(t, cell(impl.CsNine, seven), impl.CsUtf)
	checkTurn(t, cell(impl.CsNine, seven), cell(impl.CsWin, strings.Repeat("\x80", 7)))
	full := strings.Repeat("\xe9", 20)
	for _, tag := range []int{impl.CsLat, impl.CsNine, impl.CsWin} {
		noTurn(t, cell(tag, full), impl.CsUtf)
		for _, other := range []int{impl.CsLat, impl.CsNine, impl.CsWin} {
			checkTurn(t, cell(tag, full), cell(other, full))
			if !impl.SameText(cell(tag, full), cell(other, full)) {
				t.Errorf("SameText of %x in %d and %d is false", full, tag, other)
			}
		}
		noTurn(t, cell(tag, full), impl.CsKoi)
		noTurn(t, cell(tag, full), impl.CsEuc)
	}
	// what shrank has room for more, and then does not come back
	six := cell(impl.CsUtf, strings.Repeat("あ", 6))
	checkTurn(t, six, cell(impl.CsEuc, strings.Repeat("\xa4\xa2", 6)))
	noTurn(t, cell(impl.CsEuc, strings.Repeat("\xa4\xa2", 7)), impl.CsUtf)
	for _, tag := range allSets() {
		for _, other := range allSets() {
			checkTurn(t, cell(tag, strings.Repeat("z", 20)), cell(other, strings.Repeat("z", 20)))
		}
	}
}

func TestSignsThatTheOtherSetHasNot(t *testing.T) {
	for tag, l := range map[int][]string{
		impl.CsLat:  {"€", "Š", "ж", "あ", "\u0100", "\U0001f600", lostSign},
		impl.CsNine: {"¤", "¦", "¨", "´", "¸", "¼", "½", "¾", "ж", "あ", "\U0001f600"},
		impl.CsKoi:  {"é", "€", "£", "³", "\u0080", "ѐ", "あ", "\U0010ffff"},
		impl.CsWin:  {"\u0080", "\u0081", "\u009d", "ж", "あ", "\u0100"},
		impl.CsEuc:  {"é", "€", "\u0080", "ж", "\u3040", "\u3094", "\u30a0", "\u30f7", "一"},
	} {
		for _, s := range l {
			for _, text := range []string{s, "a" + s, s + "a", "a" + s + "z", s + s} {
				noCellOf(t, tag, text)
				noTurn(t, cell(impl.CsUtf, text), tag)
				checkCell(t, impl.CsUtf, text, text)
			}
		}
	}
	noTurn(t, cell(impl.CsKoi, "\xc1"), impl.CsLat)
	noTurn(t, cell(impl.CsNine, "a\xa4"), impl.CsLat)
	noTurn(t, cell(impl.CsLat, "\xa4"), impl.CsNine)
	noTurn(t, cell(impl.CsLat, "\x80"), impl.CsWin)
	noTurn(t, cell(impl.CsWin, "\x80"), impl.CsLat)
	noTurn(t, cell(impl.CsEuc, "\xa4\xa2"), impl.CsKoi)
}

func TestTagsAtTheEdges(t *testing.T) {
	for _, tag := range []int{0, 5} {
		checkCell(t, tag, "a", "a")
	}
	for _, tag := range append(noSets(), -1, 6, math.MinInt, math.MaxInt) {
		for _, b := range []string{"", "a", "abc", "\x7f", "é", "\xff", "\xa4\xa2", "\x80", strings.Repeat("a", 20), strings.Repeat("a", 21)} {
			if impl.CellOk(cell(tag, b)) {
				t.Errorf("CellOk(%d, %x) is true", tag, b)
			}
			noCellText(t, cell(tag, b))
			noCellOf(t, tag, b)
			for _, from := range allSets() {
				noTurn(t, cell(from, b), tag)
			}
		}
		if impl.CellOk(impl.Cell{Tag: tag}) || impl.SameText(impl.Cell{Tag: tag}, impl.Cell{Tag: tag}) {
			t.Errorf("a cell of %d without bytes is right", tag)
		}
		noTurn(t, impl.Cell{Tag: tag}, impl.CsUtf)
	}
}

// Such a cell is CellOk: only its number of bytes and its tag are asked there.
func TestBytesThatAreNothingInTheirSet(t *testing.T) {
	for tag, l := range map[int][]string{
		impl.CsUtf: {"\xff", "\x80", "caf\xe9", "\xc3", "\xe2\x82", "\xc0\x80", "\xed\xa0\x80", "\xf4\x90\x80\x80", "\xef\xbb", markOfToday + "\xff", strings.Repeat("a", 19) + "\xc3"},
		impl.CsKoi: {"\x80", "\xa2", "\xa4", "\xbf", "\xa3\xb2"},
		impl.CsWin: {"\x81", "\x8d", "\x8f", "\x90", "\x9d"},
		impl.CsEuc: {"\xff", "\x80", "\xa4", "\xa5a", "\xa4\xf4", "\xa5\xf7", "\xa3\xa1", "\xa4\xa2\xa4"},
	} {
		for _, b := range l {
			for _, one := range []string{b, "a" + b, b + "z"} {
				c := cell(tag, one)
				if len(one) <= cellMost && !impl.CellOk(c) {
					t.Errorf("CellOk(%d, %x) is false", tag, one)
				}
				noCellText(t, c)
			}
		}
	}
}

func TestCellsOfTextsThatAreNotOfToday(t *testing.T) {
	for _, tag := range tagsAll() {
		for _, s := range []string{"\xff", "a\xff", "\xffa", "\x80", "\xa4", "\xa4\xa2", "\xe9", "\xc3", "é\xc3", "\xc3a", "\xe2\x82", "\xc0\x80", "\xe0\x80\x80", "\xed\xa0\x80", "\xf4\x90\x80\x80", "\xf8\x88\x80\x80\x80", lostSign + "\xff", strings.Repeat("a", 19) + "\xe2"} {
			noCellOf(t, tag, s)
		}
	}
}

// Each is held against each other one by the text that the books have.
func TestSameTextOfCells(t *testing.T) {
	z := shelfOf()
	var l []impl.Cell
	for _, tag := range append(allSets(), -1, 6, math.MinInt, math.MaxInt) {
		for _, b := range []string{"", "\x00", "a", "A", "ab", "aa", "?", "\xe9", "é", "\x80", "\u0080", "\xa4", "€", "¤", "\xc1", "а", "\xa4\xa2", "あ", "\x81", "\xff", lostSign, strings.Repeat("a", 20), strings.Repeat("a", 21), strings.Repeat("\xe9", 20), strings.Repeat("é", 10)} {
			l = append(l, cell(tag, b))
		}
	}
	met := map[bool]int{}
	for _, a := range l {
		for _, b := range l {
			one, is := z.text(a)
			two, too := z.text(b)
			want := is && too && one == two
			met[want]++
			if got := impl.SameText(a, b); got != want {
				t.Errorf("SameText of %d, %x and %d, %x is %v", a.Tag, a.B, b.Tag, b.B, got)
			}
		}
	}
	if met[true] == 0 || met[false] == 0 {
		t.Errorf("of the same text %d, of others %d", met[true], met[false])
	}
}

func TestTheSameBytesMaySayOtherTexts(t *testing.T) {
	for _, z := range []struct {
		a, b impl.Cell
		same bool
	}{
		{cell(impl.CsLat, "\xe9"), cell(impl.CsWin, "\xe9"), true},
		{cell(impl.CsLat, "\xe9"), cell(impl.CsUtf, "é"), true},
		{cell(impl.CsNine, "\xa4"), cell(impl.CsWin, "\x80"), true},
		{cell(impl.CsKoi, "\xc1b"), cell(impl.CsUtf, "аb"), true},
		{cell(impl.CsEuc, "\xa5\xa2"), cell(impl.CsUtf, "ア"), true},
		{cell(impl.CsNine, "\xa4"), cell(impl.CsLat, "\xa4"), false},
		{cell(impl.CsKoi, "\xc1"), cell(impl.CsLat, "\xc1"), false},
		{cell(impl.CsUtf, "é"), cell(impl.CsLat, "é"), false},
		{cell(impl.CsUtf, "a"), cell(impl.CsUtf, "ab"), false},
		{cell(impl.CsUtf, "a"), cell(impl.CsLat, "A"), false},
		// one, or both, say nothing
		{cell(impl.CsWin, "\x81"), cell(impl.CsWin, "\x81"), false},
		{cell(impl.CsWin, "\x81"), cell(impl.CsWin, "\x8d"), false},
		{cell(impl.CsWin, "\x81"), cell(impl.CsUtf, ""), false},
		{cell(impl.CsKoi, "\x80"), cell(impl.CsUtf, lostSign), false},
		{cell(6, "a"), cell(6, "a"), false},
		{cell(-1, "a"), cell(impl.CsUtf, "a"), false},
		{cell(impl.CsUtf, strings.Repeat("a", 21)), cell(impl.CsUtf, strings.Repeat("a", 21)), false},
		{cell(impl.CsUtf, strings.Repeat("a", 21)), cell(impl.CsUtf, ""), false},
	} {
		if impl.SameText(z.a, z.b) != z.same || impl.SameText(z.b, z.a) != z.same {
			t.Errorf("SameText of %d, %x and %d, %x is %v", z.a.Tag, z.a.B, z.b.Tag, z.b.B, !z.same)
		}
	}
}

// Around all sets that have its signs, a text comes back as it was.
func TestTurnedThroughAllSets(t *testing.T) {
	for s, way := range map[string][]int{
		"plain text": {impl.CsLat, impl.CsNine, impl.CsKoi, impl.CsWin, impl.CsEuc, impl.CsUtf},
		"Größe":      {impl.CsLat, impl.CsNine, impl.CsWin, impl.CsUtf},
		"œuvre 5 €":  {impl.CsWin, impl.CsNine, impl.CsUtf},
		"Ёлка":       {impl.CsKoi, impl.CsUtf},
		"あいアイ":       {impl.CsEuc, impl.CsUtf},
	} {
		first, ok := impl.CellOf(impl.CsUtf, s)
		if !ok {
			t.Fatalf("%s has no cell", s)
		}
		c := first
		for _, tag := range way {
			next, ok := impl.Turn(c, tag)
			if !ok || next.Tag != tag || !impl.SameText(next, first) {
				t.Errorf("%s turned to %d is %d, %x, %v", s, tag, next.Tag, next.B, ok)
			}
			c = next
		}
		if !sameCell(c, first) {
			t.Errorf("%s comes back as %x", s, c.B)
		}
	}
}

// What lies behind the bytes would end the sign that they begin, or be too many.
func TestSpareRoomOfACellIsNotRead(t *testing.T) {
	for _, z := range []struct {
		tag  int
		b    string
		size int
		text string
		ok   bool
	}{
		{impl.CsEuc, "a\xa4\xa2", 2, "", false}, {impl.CsEuc, "a\xa4\xa2", 1, "a", true}, {impl.CsUtf, "é", 1, "", false}, {impl.CsUtf, "ab\xff", 2, "ab", true}, {impl.CsKoi, "\xc1\x80", 1, "а", true}, {impl.CsWin, "\x81", 0, "", true}, {impl.CsLat, strings.Repeat("a", 99), 20, strings.Repeat("a", 20), true}, {impl.CsLat, strings.Repeat("a", 99), 21, "", false},
	} {
		c := impl.Cell{Tag: z.tag, B: []byte(z.b)[:z.size]}
		if s, ok := impl.CellText(c); ok != z.ok || s != z.text {
			t.Errorf("CellText(%d, %x) is %x, %v", c.Tag, c.B, s, ok)
		}
		if impl.SameText(c, impl.Cell{Tag: c.Tag, B: bytes.Clone(c.B)}) != z.ok {
			t.Errorf("SameText(%d, %x) of itself is %v", c.Tag, c.B, !z.ok)
		}
		got, ok := impl.Turn(c, impl.CsUtf)
		if ok != z.ok || ok && string(got.B) != z.text || !ok && !sameCell(got, c) {
			t.Errorf("Turn(%d, %x) is %d, %x, %v", c.Tag, c.B, got.Tag, got.B, ok)
		}
		for _, b := range got.B[len(got.B):cap(got.B)] {
			if b != 0 {
				t.Errorf("Turn(%d, %x) hands out what lies behind: %x", c.Tag, c.B, got.B[:cap(got.B)])
				break
			}
		}
	}
}

// cellBytes are bytes of cells that can be turned, and of those that cannot.
func cellBytes() []string {
	return []string{"", "a", "abc", "\x7f", "\x80", "\x81", "\xe9", "é", "a€b", "\xe2\x82", "\xa4\xa2", "a\xa4", "\xc1\xc1", "\xff", lostSign, strings.Repeat("a", 20), strings.Repeat("a", 21), strings.Repeat("\xe9", 20), strings.Repeat("\xff", 60)}
}

func TestCellsStayAsTheyAre(t *testing.T) {
	for _, tag := range tagsAll() {
		for _, s := range cellBytes() {
			checkTextRoom(t, "CellText", s, func(b []byte) string { out, _ := impl.CellText(impl.Cell{Tag: tag, B: b}); return out })
			checkTextRoom(t, "CellOk", s, func(b []byte) string { impl.CellOk(impl.Cell{Tag: tag, B: b}); return "" })
			for _, other := range append(allSets(), -1, 6, math.MinInt, math.MaxInt, tag) {
				checkRoom(t, "Turn", s, func(b []byte) []byte { c, _ := impl.Turn(impl.Cell{Tag: tag, B: b}, other); return c.B })
			}
		}
	}
}

// Both cells may be of the same memory.
func TestSameTextWritesNothingIntoItsArguments(t *testing.T) {
	for _, tag := range tagsAll() {
		for _, s := range cellBytes() {
			for _, other := range allSets() {
				one, whole := roomy(s)
				two, rest := roomy(s)
				before := bytes.Clone(whole)
				a, b := impl.Cell{Tag: tag, B: one}, impl.Cell{Tag: other, B: two}
				same := impl.SameText(a, b)
				if impl.SameText(a, b) != same || impl.SameText(b, a) != same || impl.SameText(a, impl.Cell{Tag: other, B: one}) != same {
					t.Errorf("SameText of %x in %d and %d is not the same each time", s, tag, other)
				}
				if !bytes.Equal(whole, before) || !bytes.Equal(rest, before) {
					t.Errorf("SameText of %x in %d and %d: the argument is written", s, tag, other)
				}
			}
		}
	}
}

// checkNewEachTime fails when what a call answers goes with what it answered
// ahead.
func checkNewEachTime(t *testing.T, name string, call func() (impl.Cell, bool)) {
	t.Helper()
	one, _ := call()
	two, ok := call()
	said := cell(two.Tag, string(two.B))
	spoil(one.B)
	three, again := call()
	if !sameCell(two, said) || !sameCell(three, said) || ok != again {
		t.Errorf("%s: %x, %x, not %x", name, two.B, three.B, said.B)
	}
}

func TestCellsAreNewEachTime(t *testing.T) {
	for _, tag := range tagsAll() {
		for _, s := range cellBytes() {
			checkNewEachTime(t, "CellOf", func() (impl.Cell, bool) { return impl.CellOf(tag, s) })
			for _, other := range tagsAll() {
				checkNewEachTime(t, "Turn", func() (impl.Cell, bool) { return impl.Turn(cell(other, s), tag) })
			}
		}
	}
}

// Of all signs of a set, those that another has are turned to it, and no others.
func TestWhichSignsCanBeTurned(t *testing.T) {
	z := shelfOf()
	for _, from := range allSets()[1:] {
		for _, b := range slices.Sorted(maps.Keys(z.books[from])) {
			for _, to := range allSets()[1:] {
				_, has := z.backs[to][z.books[from][b]]
				if _, ok := impl.Turn(cell(from, b), to); ok != has {
					t.Errorf("Turn of %d, %x to %d is %v", from, b, to, ok)
				}
			}
		}
	}
}
