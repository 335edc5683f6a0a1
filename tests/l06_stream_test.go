package tests

import (
	"bytes"
	"fmt"
	"math"
	"strings"
	"testing"
	"unicode/utf8"

	"loop.example/g00475/impl"
)

// onlyBegun says whether b begins what stands for a sign and lacks the rest of
// it, apart from how the program finds it.
func onlyBegun(cs int, b string) bool {
	switch cs {
	case impl.CsUtf:
		return b != "" && !utf8.FullRuneInString(b)
	case impl.CsEuc:
		return b == "\xa4" || b == "\xa5"
	}
	return false
}

// A stream is what all parts have told, and how it stands then.
type stream struct {
	text, held string
	bad        bool
}

func (s stream) String() string {
	return fmt.Sprintf("%x (Held %x, Bad %v)", s.text, s.held, s.bad)
}

// streamOf answers what the book reads of bytes that come in one part.
func streamOf(cs int, k book, b string) stream {
	out := stream{}
	for b != "" {
		sign, size := k.first(b)
		switch {
		case size > 0:
			out.text += sign
			b = b[size:]
		case onlyBegun(cs, b):
			out.held = b
			return out
		default:
			out.bad = true
			return out
		}
	}
	return out
}

func sameDec(a impl.Dec, b impl.Dec) bool {
	return a.Cs == b.Cs && bytes.Equal(a.Held, b.Held) && a.Bad == b.Bad
}

// fed answers what all parts have told, of a Dec that is new. What each part
// leaves behind must be right, too.
func fed(t *testing.T, cs int, parts ...string) stream {
	t.Helper()
	d := impl.DecNew(cs)
	var text strings.Builder
	for _, p := range parts {
		next, s := impl.Feed(d, []byte(p))
		text.WriteString(s)
		checkLeft(t, d, p, next, s)
		d = next
	}
	return stream{text.String(), string(d.Held), d.Bad}
}

// checkLeft holds what is answered of one part against what must always be so.
func checkLeft(t *testing.T, d impl.Dec, part string, next impl.Dec, s string) {
	t.Helper()
	if next.Cs != d.Cs || !impl.DecOk(next) {
		t.Fatalf("behind %x in %v there is %v", part, d, next)
	}
	if impl.DecEnd(next) != (!next.Bad && len(next.Held) == 0) {
		t.Fatalf("DecEnd of %v is %v", next, impl.DecEnd(next))
	}
	if len(next.Held) > 3 || next.Bad && len(next.Held) > 0 {
		t.Fatalf("behind %x in %v is Held: %v", part, d, next)
	}
	for size := range len(next.Held) {
		if _, all := impl.Decode(d.Cs, next.Held[:size+1]); all {
			t.Fatalf("behind %x in %v all of a sign is Held: %v", part, d, next)
		}
	}
	if d.Bad && (s != "" || !next.Bad) {
		t.Fatalf("behind Bad %x is read as %x: %v", part, s, next)
	}
}

func bytesApart(b string) []string {
	var l []string
	for i := range len(b) {
		l = append(l, b[i:i+1])
	}
	return l
}

// checkParts fails when b, in one part, in two or byte by byte, with nothing
// between or not, does not come to what is wanted.
func checkParts(t *testing.T, cs int, b string, want stream) {
	t.Helper()
	check := func(parts ...string) {
		t.Helper()
		if got := fed(t, cs, parts...); got != want {
			t.Errorf("%x in %d is %v; not %v", parts, cs, got, want)
		}
	}
	check(b)
	check("", b, "")
	for cut := range len(b) + 1 {
		check(b[:cut], b[cut:])
		check(b[:cut], "", b[cut:])
	}
	check(bytesApart(b)...)
	s, ok := impl.Decode(cs, []byte(b))
	if end := !want.bad && want.held == ""; ok != end || ok && s != want.text {
		t.Errorf("Decode(%d, %x) is %x, %v; in parts it is %v", cs, b, s, ok, want)
	}
}

func TestPartsAreReadAsOne(t *testing.T) {
	for _, z := range []struct {
		cs   int
		b, s string
	}{
		{impl.CsUtf, "plain", "plain"}, {impl.CsUtf, "caf\xc3\xa9", "café"}, {impl.CsUtf, "\xe2\x82\xac\xd0\xb6\xf0\x9f\x98\x80!", "€ж\U0001f600!"}, {impl.CsUtf, "\xef\xbb\xbfa\xef\xbf\xbd", "\ufeffa\ufffd"},
		{impl.CsLat, "plain", "plain"}, {impl.CsLat, "caf\xe9\x80\xff", "café\u0080ÿ"}, {impl.CsLat, "\xc3\xa9", "Ã©"},
		{impl.CsNine, "plain", "plain"}, {impl.CsNine, "5 \xa4, \xbduvre", "5 €, œuvre"}, {impl.CsNine, "\xe2\x82", "â\u0082"},
		{impl.CsKoi, "plain", "plain"}, {impl.CsKoi, "\xe4\xc1, \xb3\xa3", "Да, Ёё"},
		{impl.CsWin, "plain", "plain"}, {impl.CsWin, "\x93caf\xe9\x94 \x80\x99", "“café” €™"},
		{impl.CsEuc, "plain", "plain"}, {impl.CsEuc, "a\xa4\xa2b\xa5\xa2", "aあbア"}, {impl.CsEuc, "\xa4\xa4\xa5\xa5\xa4\xf3\xa5\xf6", "いゥんヶ"},
	} {
		checkParts(t, z.cs, z.b, stream{text: z.s})
		checkParts(t, z.cs, z.b+"\x00"+z.b, stream{text: z.s + "\x00" + z.s})
	}
}

func TestPartsOfNoBytes(t *testing.T) {
	for _, cs := range allSets() {
		checkParts(t, cs, "", stream{})
		fed(t, cs, "", "", "")
		for _, b := range [][]byte{nil, {}} {
			if d, s := impl.Feed(impl.DecNew(cs), b); s != "" || !sameDec(d, impl.DecNew(cs)) {
				t.Errorf("Feed(%d) of no bytes is %v, %x", cs, d, s)
			}
		}
	}
	for _, d := range begunDecs() {
		if next, s := impl.Feed(d, nil); s != "" || !sameDec(next, d) {
			t.Errorf("Feed of no bytes to %v is %v, %x", d, next, s)
		}
	}
}

func TestAllSignsOfEachSetInParts(t *testing.T) {
	for _, cs := range allSets() {
		k := bookOf(cs)
		if cs == impl.CsUtf {
			k = book{}
			for _, s := range signEdges() {
				k[s] = s
			}
		}
		for b, s := range k {
			checkParts(t, cs, b, stream{text: s})
			checkParts(t, cs, "a"+b+b+"z", stream{text: "a" + s + s + "z"})
		}
		b, s := k.all()
		checkParts(t, cs, b, stream{text: s})
	}
}

// All bytes of up to three out of those at which something changes in a set, and
// all of up to two.
func TestShortPartsAsTheBookHasThem(t *testing.T) {
	t.Parallel()
	edges := "A\x7f\x80\x8f\x90\x9f\xa0\xa1\xa3\xa4\xa5\xbf\xc1\xc2\xdf\xe0\xed\xef\xf0\xf3\xf4\xf5\xf6\xf7\xff"
	for _, cs := range allSets() {
		k := bookOf(cs)
		check := func(b ...byte) {
			t.Helper()
			want := streamOf(cs, k, string(b))
			if one, apart := fed(t, cs, string(b)), fed(t, cs, bytesApart(string(b))...); one != want || apart != want {
				t.Fatalf("%x in %d is %v, in parts %v; not %v", b, cs, one, apart, want)
			}
		}
		for x := range 256 {
			check(byte(x))
			for y := range 256 {
				check(byte(x), byte(y))
			}
		}
		for i := range len(edges) {
			for j := range len(edges) {
				for l := range len(edges) {
					check(edges[i], edges[j], edges[l])
				}
			}
		}
	}
}

func TestMixedTextsAsTheBookHasThem(t *testing.T) {
	pieces := []string{"", "a", "é", "€", "\U0001f600", "\xc3", "\xe2", "\xe2\x82", "\xf0\x9f", "\xf0\x9f\x98", "\x80", "\xff", "\xa4", "\xa5", "\xa4\xa2", "\xa5\xf6", "\xa1", "\x81", "\xc1"}
	for _, cs := range allSets() {
		k := bookOf(cs)
		for _, x := range pieces {
			for _, y := range pieces {
				for _, z := range []string{"", "b", "\x82", "\xa2", "€", "\xff"} {
					checkParts(t, cs, x+y+z, streamOf(cs, k, x+y+z))
				}
			}
		}
	}
}

func TestASignIsCutBehindEachOfItsBytes(t *testing.T) {
	cases := map[int][]string{impl.CsUtf: {"é", "\u0080", "\u07ff", "€", "\u0800", "\ud7ff", "\ue000", "\uffff", "\U0001f600", "\U00010000", "\U0010ffff"}, impl.CsEuc: {"\xa4\xa1", "\xa4\xf3", "\xa5\xa1", "\xa5\xf6", "\xa4\xa4", "\xa5\xa4"}}
	for cs, l := range cases {
		for _, sign := range l {
			text, _ := impl.Decode(cs, []byte(sign))
			for cut := 1; cut < len(sign); cut++ {
				begun := sign[:cut]
				checkParts(t, cs, begun, stream{held: begun})
				checkParts(t, cs, "a"+begun, stream{text: "a", held: begun})
				checkParts(t, cs, sign+begun, stream{text: text, held: begun})
				checkParts(t, cs, "z"+sign+sign+begun, stream{text: "z" + text + text, held: begun})
				checkParts(t, cs, begun+"A", stream{bad: true})
			}
			checkParts(t, cs, sign+sign, stream{text: text + text})
		}
	}
	if got := fed(t, impl.CsUtf, "\xf0", "\x9f", "\x98"); got != (stream{held: "\xf0\x9f\x98"}) {
		t.Errorf("three bytes of four are %v", got)
	}
	if got := fed(t, impl.CsUtf, "\xf0\x9f\x98", "\x80"); got != (stream{text: "\U0001f600"}) {
		t.Errorf("three bytes and one are %v", got)
	}
}

// Of these first bytes not all that go on may be the second; of the others all.
func TestSecondBytesOfSignsOfToday(t *testing.T) {
	t.Parallel()
	for first := 0x80; first < 0x100; first++ {
		least, last := 0x80, 0xbf
		switch {
		case first < 0xc2 || first > 0xf4:
			least, last = 0x100, 0
		case first == 0xe0:
			least = 0xa0
		case first == 0xed:
			last = 0x9f
		case first == 0xf0:
			least = 0x90
		case first == 0xf4:
			last = 0x8f
		}
		for second := range 0x100 {
			b := string([]byte{byte(first), byte(second)})
			want := stream{bad: true}
			switch {
			case second < least || second > last:
			case first < 0xe0:
				want = stream{text: b}
			default:
				want = stream{held: b}
			}
			checkParts(t, impl.CsUtf, b, want)
			checkParts(t, impl.CsUtf, "x"+b, stream{"x" + want.text, want.held, want.bad})
		}
	}
}

func TestNarrowSecondBytesWithTheRestOfTheSign(t *testing.T) {
	for b, rest := range map[string]string{
		"\xe0\xa0": "\x80", "\xe0\xbf": "\xbf", "\xed\x80": "\x80", "\xed\x9f": "\xbf",
		"\xf0\x90": "\x80\x80", "\xf0\xbf": "\xbf\xbf", "\xf4\x80": "\x80\x80", "\xf4\x8f": "\xbf\xbf",
	} {
		checkParts(t, impl.CsUtf, b, stream{held: b})
		checkParts(t, impl.CsUtf, b+rest, stream{text: b + rest})
		checkParts(t, impl.CsUtf, b+rest+b, stream{text: b + rest, held: b})
	}
	for _, b := range []string{"\xe0\x80", "\xe0\x9f", "\xe0\xc0", "\xed\xa0", "\xed\xbf", "\xed\x7f", "\xf0\x80", "\xf0\x8f", "\xf0\xc0", "\xf4\x90", "\xf4\xbf", "\xf4\x7f", "\xf5\x80", "\xc0\x80", "\xc1\xbf"} {
		checkParts(t, impl.CsUtf, b, stream{bad: true})
		checkParts(t, impl.CsUtf, "é"+b+"\x80\x80", stream{text: "é", bad: true})
		checkParts(t, impl.CsUtf, "é"+b+"\xbf\xbf", stream{text: "é", bad: true})
	}
}

func TestPairsInParts(t *testing.T) {
	for _, hi := range []string{"\xa4", "\xa5"} {
		checkParts(t, impl.CsEuc, hi, stream{held: hi})
		checkParts(t, impl.CsEuc, "a\xa4\xa2"+hi, stream{text: "aあ", held: hi})
		for _, lo := range []string{"A", "\x00", "\x7f", "\x80", "\xa0", "\xf7", "\xff"} {
			checkParts(t, impl.CsEuc, "ab"+hi+lo, stream{text: "ab", bad: true})
			checkParts(t, impl.CsEuc, "ab"+hi+lo+"\xa4\xa2z", stream{text: "ab", bad: true})
		}
	}
	checkParts(t, impl.CsEuc, "\xa4\xf3", stream{text: "ん"})
	checkParts(t, impl.CsEuc, "\xa4\xf4", stream{bad: true})
	checkParts(t, impl.CsEuc, "\xa5\xf6", stream{text: "ヶ"})
	checkParts(t, impl.CsEuc, "\xa5\xf7", stream{bad: true})
	for c := 0x80; c < 0x100; c++ {
		if b := string([]byte{byte(c)}); c != 0xa4 && c != 0xa5 {
			checkParts(t, impl.CsEuc, b, stream{bad: true})
			checkParts(t, impl.CsEuc, "a"+b+"\xa1", stream{text: "a", bad: true})
		}
	}
}

func TestSingleBytesInParts(t *testing.T) {
	for _, cs := range byteSets() {
		for b, n := range signsOf(cs) {
			one := string([]byte{byte(b)})
			if n == none {
				checkParts(t, cs, one, stream{bad: true})
				checkParts(t, cs, "az"+one+"b", stream{text: "az", bad: true})
			} else {
				checkParts(t, cs, one, stream{text: string(rune(n))})
				checkParts(t, cs, "a"+one+"b", stream{text: "a" + string(rune(n)) + "b"})
			}
		}
	}
	for _, b := range []string{"\x81", "\x8d", "\x8f", "\x90", "\x9d"} {
		checkParts(t, impl.CsWin, "\x80"+b+"\x80", stream{text: "€", bad: true})
	}
	for _, b := range []string{"\x80", "\x9f", "\xa0", "\xa2", "\xa4", "\xb2", "\xb4", "\xbf"} {
		checkParts(t, impl.CsKoi, "\xa3"+b+"\xb3", stream{text: "ё", bad: true})
	}
}

// What stood ahead of it is told, and nothing behind it, whatever comes.
func TestBadIsBadForGood(t *testing.T) {
	for cs, b := range map[int]string{impl.CsUtf: "é\xff", impl.CsKoi: "\xc1\x80", impl.CsWin: "\x80\x81", impl.CsEuc: "\xa4\xa2\xff"} {
		ahead, _ := impl.Decode(cs, []byte(b[:len(b)-1]))
		d, s := impl.Feed(impl.DecNew(cs), []byte(b+"more"))
		if s != ahead || !sameDec(d, impl.Dec{Cs: cs, Bad: true}) {
			t.Errorf("Feed(%d, %x) is %v, %x", cs, b, d, s)
		}
		if !impl.DecOk(d) || impl.DecEnd(d) {
			t.Errorf("%v: DecOk is %v, DecEnd %v", d, impl.DecOk(d), impl.DecEnd(d))
		}
		for _, more := range []string{"", "a", "é", "\xc3", "\xa9", "\xa4", "\xa2", "\xff", "a long text"} {
			next, s := impl.Feed(d, []byte(more))
			if s != "" || !sameDec(next, d) {
				t.Errorf("Feed of %x to %v is %v, %x", more, d, next, s)
			}
			d = next
		}
	}
	// what was begun in the part ahead is not Held any more
	for _, z := range []struct {
		cs         int
		begun, bad string
	}{{impl.CsUtf, "\xe2\x82", "A"}, {impl.CsUtf, "\xf0\x9f\x98", "\xf0"}, {impl.CsUtf, "\xc3", "\xc3\xa9"}, {impl.CsEuc, "\xa4", "A"}, {impl.CsEuc, "\xa5", "\xf7"}} {
		d, s := impl.Feed(impl.Dec{Cs: z.cs, Held: []byte(z.begun)}, []byte(z.bad))
		if s != "" || !sameDec(d, impl.Dec{Cs: z.cs, Bad: true}) {
			t.Errorf("Feed of %x behind %x in %d is %v, %x", z.bad, z.begun, z.cs, d, s)
		}
	}
}

// begunDecs are right ones with something Held.
func begunDecs() []impl.Dec {
	var l []impl.Dec
	for _, s := range []string{"\xc2", "\xc3", "\xdf", "\xe0", "\xe0\xa0", "\xe0\xbf", "\xe2", "\xe2\x82", "\xed", "\xed\x80", "\xed\x9f", "\xef\xbf", "\xf0", "\xf0\x90", "\xf0\x9f\x98", "\xf0\x90\x80", "\xf3\xbf\xbf", "\xf4", "\xf4\x8f", "\xf4\x8f\xbf", "\xf4\x80\x80"} {
		l = append(l, impl.Dec{Cs: impl.CsUtf, Held: []byte(s)})
	}
	return append(l, impl.Dec{Cs: impl.CsEuc, Held: []byte("\xa4")}, impl.Dec{Cs: impl.CsEuc, Held: []byte("\xa5")})
}

// wrongDecs are some of those that DecOk refuses.
func wrongDecs() []impl.Dec {
	var l []impl.Dec
	for _, cs := range noSets() {
		for _, s := range []string{"", "a", "\xe2", "\xa4", "\xf0\x9f\x98", "\xff"} {
			l = append(l, impl.Dec{Cs: cs, Held: []byte(s)}, impl.Dec{Cs: cs, Held: []byte(s), Bad: true})
		}
		l = append(l, impl.Dec{Cs: cs}, impl.Dec{Cs: cs, Bad: true})
	}
	helds := map[int][]string{
		impl.CsUtf: {
			// all of a sign, or of several
			"\x00", "a", "\x7f", "é", "€", "\U0001f600", "ab", "abc", "aé", "éa", "éé", "a€", "abcd", "a\U0001f600", "\xef\xbf\xbd",
			// something begun behind all of a sign
			"a\xc3", "ab\xe2", "a\xe2\x82", "é\xc3", "a\xf0\x9f", "€\xe2",
			// the beginning of none
			"\x80", "\xbf", "\xc0", "\xc1", "\xf5", "\xf8", "\xfe", "\xff", "\x80\x80", "\xc0\x80", "\xe2A", "\xe2\xe2", "\xe0\x80", "\xe0\x9f", "\xed\xa0", "\xed\xbf", "\xf0\x80", "\xf0\x8f", "\xf4\x90", "\xf4\xbf",
			"\xe2\x82A", "\xf0\x9fA", "\xf0\x9f\xc0", "\xf0\x8f\xbf", "\xf4\x90\x80", "\xf5\x80\x80", "\xf0A\x80", "\xed\xa0\x80", "\xff\xff\xff",
			// more than 3
			"\xf0\x9f\x98\xf0", "\xf0\x9f\x98A", "\xf8\x88\x80\x80", "\xf0\x9f\x98\x80\xf0", "\xe2\x82\xe2\x82", strings.Repeat("\xe2", 1000),
		},
		impl.CsEuc: {"\x00", "a", "\x7f", "\xa4\xa2", "\xa5\xf6", "ab", "a\xa4", "\xa4\xa2\xa5", "\xa4\xa2\xa4\xa2", "a\xa4\xa2", "\x80", "\xa0", "\xa1", "\xa3", "\xa6", "\xff", "\xe2", "\xa4A", "\xa4\x80", "\xa4\xf4", "\xa5\xf7", "\xa3\xa1", "\xa4\xa0\xa4", "\xa4A\xa2", "\xa5\xa5\xa5\xa5\xa5", strings.Repeat("\xa4", 999)},
	}
	for _, cs := range byteSets() {
		helds[cs] = []string{"a", "\x80", "\x81", "\xa3", "\xa4", "\xa5", "\xc3", "\xe2", "\xe9", "\xf0", "\xff", "ab", "\xe2\x82", "abc", "\xf0\x9f\x98", "abcd", "\xe2\x82\xac\xe2", strings.Repeat("\xff", 1000)}
	}
	for cs, all := range helds {
		for _, s := range all {
			l = append(l, impl.Dec{Cs: cs, Held: []byte(s)}, impl.Dec{Cs: cs, Held: []byte(s), Bad: true})
		}
	}
	for _, d := range begunDecs() {
		d.Bad = true
		l = append(l, d)
	}
	return l
}

func copied(d impl.Dec) impl.Dec {
	return impl.Dec{Cs: d.Cs, Held: bytes.Clone(d.Held), Bad: d.Bad}
}

func TestWrongDecsAreRefused(t *testing.T) {
	for _, d := range wrongDecs() {
		if impl.DecOk(d) || impl.DecEnd(d) {
			t.Errorf("%v: DecOk is %v, DecEnd %v", d, impl.DecOk(d), impl.DecEnd(d))
		}
		before := copied(d)
		for _, b := range []string{"", "a", "é", "\x82\xac", "\x80", "\xa2", "\xff"} {
			if got, s := impl.Feed(d, []byte(b)); s != "" || !sameDec(got, before) {
				t.Errorf("Feed of %x to %v is %v, %x", b, before, got, s)
			}
		}
		if got, s := impl.Feed(d, nil); s != "" || !sameDec(got, before) {
			t.Errorf("Feed of nil to %v is %v, %x", before, got, s)
		}
	}
}

func TestRightDecs(t *testing.T) {
	for _, d := range begunDecs() {
		if !impl.DecOk(d) || impl.DecEnd(d) {
			t.Errorf("%v: DecOk is %v, DecEnd %v", d, impl.DecOk(d), impl.DecEnd(d))
		}
	}
	for _, cs := range allSets() {
		for _, held := range [][]byte{nil, {}} {
			d := impl.Dec{Cs: cs, Held: held}
			if !impl.DecOk(d) || !impl.DecEnd(d) {
				t.Errorf("%v: DecOk is %v, DecEnd %v", d, impl.DecOk(d), impl.DecEnd(d))
			}
			d.Bad = true
			if !impl.DecOk(d) || impl.DecEnd(d) {
				t.Errorf("%v: DecOk is %v, DecEnd %v", d, impl.DecOk(d), impl.DecEnd(d))
			}
		}
	}
}

// utfBeginnings answers what begins a sign of today and does not end it.
func utfBeginnings() map[string]struct{} {
	out := map[string]struct{}{}
	for n := rune(0x80); n <= utf8.MaxRune; n++ {
		if s := string(n); utf8.ValidRune(n) {
			for cut := 1; cut < len(s); cut++ {
				out[s[:cut]] = struct{}{}
			}
		}
	}
	return out
}

func TestDecOkOfWhateverIsHeld(t *testing.T) {
	begun := map[int]map[string]struct{}{impl.CsUtf: utfBeginnings(), impl.CsEuc: {"\xa4": {}, "\xa5": {}}}
	for _, cs := range allSets() {
		check := func(held ...byte) {
			t.Helper()
			d := impl.Dec{Cs: cs, Held: held}
			if _, is := begun[cs][string(held)]; impl.DecOk(d) != is || impl.DecEnd(d) {
				t.Errorf("%v: DecOk is %v, DecEnd %v", d, impl.DecOk(d), impl.DecEnd(d))
			}
			d.Bad = true
			if impl.DecOk(d) || impl.DecEnd(d) {
				t.Errorf("%v: DecOk is %v, DecEnd %v", d, impl.DecOk(d), impl.DecEnd(d))
			}
		}
		for x := range 256 {
			check(byte(x))
			for y := range 256 {
				check(byte(x), byte(y))
				if x >= 0xe0 {
					for _, z := range []byte("A\x7f\x80\xa1\xbf\xc0\xff") {
						check(byte(x), byte(y), z)
						check(byte(x), byte(y), z, 0x80)
					}
				}
			}
		}
	}
}

func TestDecNew(t *testing.T) {
	for _, cs := range allSets() {
		if d := impl.DecNew(cs); !sameDec(d, impl.Dec{Cs: cs}) || !impl.DecOk(d) || !impl.DecEnd(d) {
			t.Errorf("DecNew(%d) is %v", cs, d)
		}
	}
	for _, cs := range append([]int{-1, 6, math.MinInt, math.MaxInt}, noSets()...) {
		d := impl.DecNew(cs)
		if !sameDec(d, impl.Dec{Cs: cs}) || impl.DecOk(d) || impl.DecEnd(d) {
			t.Errorf("DecNew(%d) is %v", cs, d)
		}
		if got, s := impl.Feed(d, []byte("a")); s != "" || !sameDec(got, d) {
			t.Errorf("Feed of DecNew(%d) is %v, %x", cs, got, s)
		}
	}
}

func TestLongParts(t *testing.T) {
	for cs, sign := range map[int][2]string{impl.CsUtf: {"é€\U0001f600", "é€\U0001f600"}, impl.CsLat: {"\xe9\xff", "éÿ"}, impl.CsNine: {"\xa4\xe9", "€é"}, impl.CsKoi: {"\xc1\xa3", "аё"}, impl.CsWin: {"\x80\xe9", "€é"}, impl.CsEuc: {"\xa4\xa2\xa5\xa2", "あア"}} {
		b, want := strings.Repeat(sign[0]+"a", 5000), stream{text: strings.Repeat(sign[1]+"a", 5000)}
		for _, size := range []int{1, 2, 3, 5, 7, 64, 1000, len(b)} {
			var parts []string
			for at := 0; at < len(b); at += size {
				parts = append(parts, b[at:min(at+size, len(b))])
			}
			if fed(t, cs, parts...) != want {
				t.Errorf("a long text in %d, in parts of %d, is not as it is in one", cs, size)
			}
		}
	}
	long := strings.Repeat("a", 9000)
	if got := fed(t, impl.CsUtf, long+"\xff"+long, long); got != (stream{text: long, bad: true}) {
		t.Errorf("%d bytes are told, Bad is %v", len(got.text), got.bad)
	}
}

// What lies behind what is Held, and behind the bytes, would end what they begin.
func TestSpareRoomOfPartsIsNotRead(t *testing.T) {
	for _, z := range []struct {
		cs   int
		sign string
	}{{impl.CsUtf, "é"}, {impl.CsUtf, "€"}, {impl.CsUtf, "\U0001f600"}, {impl.CsEuc, "\xa4\xa2"}} {
		for cut := 1; cut < len(z.sign); cut++ {
			begun := []byte(z.sign)[:cut]
			d, s := impl.Feed(impl.DecNew(z.cs), begun)
			if s != "" || !sameDec(d, impl.Dec{Cs: z.cs, Held: []byte(z.sign[:cut])}) {
				t.Errorf("Feed(%d, %x) is %v, %x", z.cs, begun, d, s)
			}
			held := impl.Dec{Cs: z.cs, Held: begun}
			if next, s := impl.Feed(held, []byte("a")[:0]); s != "" || !sameDec(next, held) || !impl.DecOk(held) {
				t.Errorf("Feed of no bytes to %v is %v, %x", held, next, s)
			}
			if next, s := impl.Feed(held, []byte("A")); s != "" || !next.Bad {
				t.Errorf("Feed of A to %v is %v, %x", held, next, s)
			}
		}
	}
}

// checkFeedRoom fails when Feed writes into what it is handed or the spare room
// behind it, or when its answer shares memory with these.
func checkFeedRoom(t *testing.T, d impl.Dec, part string) {
	t.Helper()
	held, heldRoom := roomy(string(d.Held))
	b, room := roomy(part)
	heldBefore, before := bytes.Clone(heldRoom), bytes.Clone(room)
	same := func(when string) {
		t.Helper()
		if !bytes.Equal(heldRoom, heldBefore) || !bytes.Equal(room, before) {
			t.Errorf("Feed of %x to %v: what was handed in %s", part, d, when)
		}
	}
	arg := impl.Dec{Cs: d.Cs, Held: held, Bad: d.Bad}
	impl.DecOk(arg)
	impl.DecEnd(arg)
	got, s := impl.Feed(arg, b)
	same("is written")
	said, text := copied(got), strings.Clone(s)
	spoil(heldRoom)
	spoil(room)
	if !sameDec(got, said) || s != text {
		t.Errorf("Feed of %x to %v: the answer goes with what was handed in: %v, %x; not %v, %x", part, d, got, s, said, text)
	}
	copy(heldRoom, heldBefore)
	copy(room, before)
	spoil(got.Held)
	same("goes with the answer")
	if again, s := impl.Feed(arg, b); !sameDec(again, said) || s != text {
		t.Errorf("Feed of %x to %v goes with an earlier answer: %v, %x", part, d, again, s)
	}
}

func TestFeedWritesNothingIntoItsArguments(t *testing.T) {
	l := append(begunDecs(), wrongDecs()...)
	for _, cs := range allSets() {
		l = append(l, impl.DecNew(cs), impl.Dec{Cs: cs, Bad: true})
	}
	for _, d := range l {
		for _, part := range []string{"", "a", "é", "\xc3", "\xe2", "\x82", "\x82\xac", "\x98\x80b", "\xf0\x9f\x98", "\xa4", "\xa2", "\xa2\xa5", "\x81", "\xff", "a\xe2\x82", "ab\xff"} {
			checkFeedRoom(t, d, part)
		}
	}
}

// What is Held and the bytes may lie in one memory, one behind the other or one
// upon the other.
func TestHeldAndBytesOfOneMemory(t *testing.T) {
	for cut := 1; cut < 4; cut++ {
		whole := []byte("\U0001f600é\xe2")
		d, s := impl.Feed(impl.Dec{Held: whole[:cut]}, whole[cut:])
		if s != "\U0001f600é" || string(d.Held) != "\xe2" || string(whole) != "\U0001f600é\xe2" {
			t.Errorf("cut at %d: %v, %x; %x", cut, d, s, whole)
		}
	}
	whole := []byte("\xa4\xa4\xa5\xa5")
	d, s := impl.Feed(impl.Dec{Cs: impl.CsEuc, Held: whole[:1]}, whole)
	if s != "いぅ" || string(d.Held) != "\xa5" || d.Bad || string(whole) != "\xa4\xa4\xa5\xa5" {
		t.Errorf("upon each other: %v, %x; %x", d, s, whole)
	}
}

func TestTwoAnswersOfFeedShareNothing(t *testing.T) {
	for _, d := range append(begunDecs(), wrongDecs()...) {
		one, _ := impl.Feed(d, nil)
		two, _ := impl.Feed(d, nil)
		before := copied(two)
		spoil(one.Held)
		if !sameDec(two, before) {
			t.Errorf("two answers of Feed to %v share memory", before)
		}
	}
	// one Dec, that goes on in two ways
	d, _ := impl.Feed(impl.DecNew(impl.CsUtf), []byte("\xf0"))
	left, _ := impl.Feed(d, []byte("\x9f"))
	right, _ := impl.Feed(d, []byte("\x90\x80"))
	if string(d.Held) != "\xf0" || string(left.Held) != "\xf0\x9f" || string(right.Held) != "\xf0\x90\x80" {
		t.Errorf("%v, %v, %v", d, left, right)
	}
}
