package tests

import (
	"bytes"
	"maps"
	"math"
	"slices"
	"strings"
	"testing"
	"unicode/utf8"

	"loop.example/g00475/impl"
)

// lostSign is what is read where no sign can be got.
const lostSign = "\xef\xbf\xbd"

func allSets() []int {
	return []int{impl.CsUtf, impl.CsLat, impl.CsNine, impl.CsKoi, impl.CsWin, impl.CsEuc}
}

// noSets are numbers of which there is no set, some of them with the lowest bits
// of one.
func noSets() []int {
	return []int{-1, -2, -5, -256, 6, 7, 8, 255, 256, 257, 261, 1 << 16, 1 << 32, 1<<32 + 1, 1<<32 + 5, math.MinInt, math.MinInt + 1, math.MinInt + 5, math.MaxInt - 1, math.MaxInt}
}

// A book holds the sign of all bytes that stand for one in a set, written out by
// hand (see signsOf and eucTexts); that of CsUtf is nil, as the library knows it.
type book map[string]string

func bookOf(cs int) book {
	k := book{}
	switch cs {
	case impl.CsUtf:
		return nil
	case impl.CsEuc:
		for n, b := range eucTexts() {
			k[b] = string(rune(n))
		}
	default:
		for b, n := range signsOf(cs) {
			if n != none {
				k[string([]byte{byte(b)})] = string(rune(n))
			}
		}
	}
	return k
}

// first answers the sign with which b begins, and of how many bytes it is; 0,
// when it begins with none.
func (k book) first(b string) (string, int) {
	if k == nil {
		r, size := utf8.DecodeRuneInString(b)
		if r == utf8.RuneError && size < 2 {
			return "", 0
		}
		return string(r), size
	}
	for size := 1; size <= min(len(b), 2); size++ {
		if sign, is := k[b[:size]]; is {
			return sign, size
		}
	}
	return "", 0
}

// read answers what b says, with lostSign for what says nothing, and how many
// of these.
func (k book) read(b string) (string, int) {
	var out strings.Builder
	lost := 0
	for b != "" {
		sign, size := k.first(b)
		if size == 0 {
			sign, size = lostSign, 1
			lost++
		}
		out.WriteString(sign)
		b = b[size:]
	}
	return out.String(), lost
}

// back answers the bytes of each sign; nil of CsUtf.
func (k book) back() map[string]string {
	if k == nil {
		return nil
	}
	out := map[string]string{}
	for b, sign := range k {
		out[sign] = b
	}
	return out
}

// all answers all bytes that stand for a sign, one behind another, and their
// text.
func (k book) all() (string, string) {
	var b, s strings.Builder
	for _, one := range slices.Sorted(maps.Keys(k)) {
		b.WriteString(one)
		s.WriteString(k[one])
	}
	return b.String(), s.String()
}

// checkRead fails when b does not say s, whether it may be lossy or not.
func checkRead(t *testing.T, cs int, b string, s string) {
	t.Helper()
	if got, ok := impl.Decode(cs, []byte(b)); !ok || got != s {
		t.Errorf("Decode(%d, %x) is %x, %v; not %x", cs, b, got, ok, s)
	}
	if got, lost := impl.DecodeLossy(cs, []byte(b)); lost != 0 || got != s {
		t.Errorf("DecodeLossy(%d, %x) is %x, %d; not %x", cs, b, got, lost, s)
	}
}

// checkWritten fails when s is not written as b, whether it may be lossy or not.
func checkWritten(t *testing.T, cs int, s string, b string) {
	t.Helper()
	if got, ok := impl.Encode(cs, s); !ok || string(got) != b {
		t.Errorf("Encode(%d, %x) is %x, %v; not %x", cs, s, got, ok, b)
	}
	if got, lost := impl.EncodeLossy(cs, s); lost != 0 || string(got) != b {
		t.Errorf("EncodeLossy(%d, %x) is %x, %d; not %x", cs, s, got, lost, b)
	}
	if !impl.Fits(cs, s) {
		t.Errorf("Fits(%d, %x) is false", cs, s)
	}
}

func checkBoth(t *testing.T, cs int, b string, s string) {
	t.Helper()
	checkRead(t, cs, b, s)
	checkWritten(t, cs, s, b)
}

// notRead fails when b is read wholly, or DecodeLossy does not make that text of
// it, with so many lost.
func notRead(t *testing.T, cs int, b string, s string, lost int) {
	t.Helper()
	if got, ok := impl.Decode(cs, []byte(b)); ok || got != "" {
		t.Errorf("Decode(%d, %x) is %x, %v", cs, b, got, ok)
	}
	if got, n := impl.DecodeLossy(cs, []byte(b)); n != lost || got != s {
		t.Errorf("DecodeLossy(%d, %x) is %x, %d; not %x, %d", cs, b, got, n, s, lost)
	}
}

// notWritten fails when s is written wholly, or EncodeLossy does not make these
// bytes of it, with so many lost.
func notWritten(t *testing.T, cs int, s string, b string, lost int) {
	t.Helper()
	if got, ok := impl.Encode(cs, s); ok || len(got) != 0 {
		t.Errorf("Encode(%d, %x) is %x, %v", cs, s, got, ok)
	}
	if got, n := impl.EncodeLossy(cs, s); n != lost || string(got) != b {
		t.Errorf("EncodeLossy(%d, %x) is %x, %d; not %x, %d", cs, s, got, n, b, lost)
	}
	if impl.Fits(cs, s) {
		t.Errorf("Fits(%d, %x) is true", cs, s)
	}
}

// checkReadAsBook holds what is read of b against the book; what is read wholly
// must be written as b again.
func checkReadAsBook(t *testing.T, cs int, k book, b string) {
	t.Helper()
	s, lost := k.read(b)
	if lost > 0 {
		notRead(t, cs, b, s, lost)
		return
	}
	checkBoth(t, cs, b, s)
}

func TestWhatIsReadIsWrittenAgain(t *testing.T) {
	for _, z := range []struct {
		cs   int
		b, s string
	}{
		{impl.CsUtf, "plain", "plain"}, {impl.CsUtf, "caf\xc3\xa9", "café"}, {impl.CsUtf, "\xe2\x82\xac\xd0\xb6\xf0\x9f\x98\x80!", "€ж\U0001f600!"}, {impl.CsUtf, "\xef\xbb\xbfa", "\ufeffa"},
		{impl.CsLat, "plain", "plain"}, {impl.CsLat, "caf\xe9", "café"}, {impl.CsLat, "\xa4\xff\x80", "¤ÿ\u0080"},
		{impl.CsNine, "plain", "plain"}, {impl.CsNine, "5 \xa4, \xbduvre", "5 €, œuvre"}, {impl.CsNine, "\xa6\xa8\xb4\xb8\xbc\xbd\xbe\xa7", "ŠšŽžŒœŸ§"},
		{impl.CsKoi, "plain", "plain"}, {impl.CsKoi, "\xe4\xc1, \xb3\xa3", "Да, Ёё"}, {impl.CsKoi, "\xc0\xdf\xe0\xff", "юъЮЪ"},
		{impl.CsWin, "plain", "plain"}, {impl.CsWin, "\x93caf\xe9\x94 \x80\x99", "“café” €™"}, {impl.CsWin, "\xa0\xff\x9f", "\u00a0ÿŸ"},
		{impl.CsEuc, "plain", "plain"}, {impl.CsEuc, "a\xa4\xa2b\xa5\xa2", "aあbア"}, {impl.CsEuc, "\xa4\xa1\xa4\xf3\xa5\xa1\xa5\xf6", "ぁんァヶ"},
	} {
		checkBoth(t, z.cs, z.b, z.s)
		checkBoth(t, z.cs, z.b+z.b+"\x00"+z.b, z.s+z.s+"\x00"+z.s)
	}
}

func TestNothingSaysNothing(t *testing.T) {
	for _, cs := range allSets() {
		checkBoth(t, cs, "", "")
		if s, ok := impl.Decode(cs, nil); !ok || s != "" {
			t.Errorf("Decode(%d, nil) is %x, %v", cs, s, ok)
		}
		if s, lost := impl.DecodeLossy(cs, nil); lost != 0 || s != "" {
			t.Errorf("DecodeLossy(%d, nil) is %x, %d", cs, s, lost)
		}
	}
}

func TestEachSignAloneAndAmongOthers(t *testing.T) {
	for _, cs := range allSets() {
		k := bookOf(cs)
		if cs == impl.CsUtf {
			k = book{}
			for _, s := range signEdges() {
				k[s] = s
			}
		}
		for b, s := range k {
			checkBoth(t, cs, b, s)
			checkBoth(t, cs, b+b, s+s)
			checkBoth(t, cs, "a"+b+"z", "a"+s+"z")
		}
		b, s := k.all()
		checkBoth(t, cs, b, s)
	}
}

func TestEachSingleByteOfSets(t *testing.T) {
	for _, cs := range byteSets() {
		for b, n := range signsOf(cs) {
			one := string([]byte{byte(b)})
			if n == none {
				notRead(t, cs, one, lostSign, 1)
			} else {
				checkBoth(t, cs, one, string(rune(n)))
			}
		}
	}
}

func TestEachSignIsWrittenOrNot(t *testing.T) {
	for _, cs := range allSets() {
		back := bookOf(cs).back()
		for n := range 0x10ffff + 1 {
			if !impl.SignOk(n) || n > 0x3200 && n%1009 != 0 && n < 0x10fff0 {
				continue
			}
			s := string(rune(n))
			if cs == impl.CsUtf {
				checkBoth(t, cs, s, s)
			} else if b, is := back[s]; is {
				checkBoth(t, cs, b, s)
			} else {
				notWritten(t, cs, s, "?", 1)
			}
		}
	}
}

// All bytes of up to three out of those at which something changes in a set, and
// all of up to two.
func TestShortBytesAsTheBookHasThem(t *testing.T) {
	t.Parallel()
	edges := "\x00A?\x7f\x80\x81\x8d\x90\x9f\xa0\xa1\xa3\xa4\xa5\xb3\xbd\xbf\xc0\xc2\xdf\xe0\xe2\xed\xef\xf0\xf3\xf4\xf6\xf7\xff"
	for _, cs := range allSets() {
		k := bookOf(cs)
		for x := range 256 {
			checkReadAsBook(t, cs, k, string([]byte{byte(x)}))
			for y := range 256 {
				checkReadAsBook(t, cs, k, string([]byte{byte(x), byte(y)}))
			}
		}
		for i := range len(edges) {
			for j := range len(edges) {
				for l := range len(edges) {
					checkReadAsBook(t, cs, k, string([]byte{edges[i], edges[j], edges[l]}))
				}
			}
		}
	}
}

func TestBytesAroundTheFirstHalf(t *testing.T) {
	for _, cs := range allSets() {
		checkBoth(t, cs, "\x7f", "\x7f")
		checkBoth(t, cs, "\x00\x7f\x01", "\x00\x7f\x01")
	}
	for cs, s := range map[int]string{impl.CsLat: "\u0080", impl.CsNine: "\u0080", impl.CsWin: "€"} {
		checkBoth(t, cs, "\x80", s)
		checkBoth(t, cs, "\x7f\x80\x7f", "\x7f"+s+"\x7f")
	}
	for _, cs := range []int{impl.CsUtf, impl.CsKoi, impl.CsEuc} {
		notRead(t, cs, "\x80", lostSign, 1)
		notRead(t, cs, "\x7f\x80\x7f", "\x7f"+lostSign+"\x7f", 1)
	}
	for _, cs := range []int{impl.CsKoi, impl.CsWin, impl.CsEuc} {
		notWritten(t, cs, "\u0080", "?", 1)
	}
}

func TestSingleBytesThatSayNothing(t *testing.T) {
	bare := map[int][]byte{impl.CsWin: {0x81, 0x8d, 0x8f, 0x90, 0x9d}}
	for b := 0x80; b < 0xc0; b++ {
		if b != 0xa3 && b != 0xb3 {
			bare[impl.CsKoi] = append(bare[impl.CsKoi], byte(b))
		}
	}
	for cs, l := range bare {
		for _, c := range l {
			b := string([]byte{c})
			notRead(t, cs, b, lostSign, 1)
			notRead(t, cs, b+"az", lostSign+"az", 1)
			notRead(t, cs, "a"+b+"z", "a"+lostSign+"z", 1)
			notRead(t, cs, "az"+b, "az"+lostSign, 1)
			notRead(t, cs, b+"a"+b+b+"z"+b, lostSign+"a"+lostSign+lostSign+"z"+lostSign, 4)
		}
	}
	notRead(t, impl.CsKoi, "\xe1\x80\xc2", "А"+lostSign+"б", 1)
	notRead(t, impl.CsWin, "\x80\x81\xff", "€"+lostSign+"ÿ", 1)
}

func TestABytePairThatLacksItsSecond(t *testing.T) {
	l := lostSign
	for _, z := range []struct {
		b, s string
		lost int
	}{
		{"\xa4", l, 1}, {"\xa5", l, 1}, {"a\xa4", "a" + l, 1}, {"\xa4\xa2\xa5", "あ" + l, 1},
		{"\xa4a", l + "a", 1}, {"\xa5\x7f", l + "\x7f", 1}, {"\xa4\x00b", l + "\x00b", 1}, {"a\xa5?", "a" + l + "?", 1},
		{"\xa4\x80", l + l, 2}, {"\xa4\xa0", l + l, 2}, {"\xa4\xf4", l + l, 2}, {"\xa5\xf7", l + l, 2}, {"\xa3\xa1", l + l, 2}, {"\xff\xff", l + l, 2},
		// the byte behind is the first one of the next sign
		{"\xa1\xa4\xa2", l + "あ", 1}, {"\xff\xa5\xa2z", l + "アz", 1}, {"\xa4\x80\xa4\xa2", l + l + "あ", 2}, {"\xa3\xa4\xf3", l + "ん", 1},
		// the byte behind is a second one
		{"\xa4\xa4\xa2", "い" + l, 1}, {"\xa4\xa5\xa2", "ぅ" + l, 1}, {"\xa5\xa4\xa4\xa1", "イぁ", 0}, {"\xa5\xa5\xa5", "ゥ" + l, 1},
		{"a\xa4b\xa5c\xa4", "a" + l + "b" + l + "c" + l, 3},
	} {
		if z.lost == 0 {
			checkBoth(t, impl.CsEuc, z.b, z.s)
		} else {
			notRead(t, impl.CsEuc, z.b, z.s, z.lost)
		}
	}
}

func TestSignsOfTodayThatAreBroken(t *testing.T) {
	l := lostSign
	for b, s := range map[string]string{
		"\xff": l, "a\xff": "a" + l, "\xffa": l + "a", "\x80": l, "\xbf\xbf": l + l,
		"\xc3": l, "\xc3A": l + "A", "\xc3\xc3\xa9": l + "é", "é\xa9": "é" + l,
		"\xe2": l, "\xe2\x82": l + l, "\xe2\x82A": l + l + "A", "\xe2A": l + "A", "\xe2\x82\xc3\xa9": l + l + "é", "\xe2\xe2\x82\xac": l + "€", "\xe2\x82\xe2\x82\xac": l + l + "€",
		"\xf0\x9f\x98": l + l + l, "\xf0\x9f\x98A": l + l + l + "A", "\xf0\x9f\xe2\x82\xac": l + l + "€", "\xf0\xf0\x9f\x98\x80": l + "\U0001f600",
		// these say less than they could
		"\xc0\x80": l + l, "\xc1\xbf": l + l, "\xe0\x80\x80": l + l + l, "\xe0\x9f\xbf": l + l + l, "\xf0\x80\x80\x80": l + l + l + l, "\xf0\x8f\xbf\xbf": l + l + l + l, "a\xc1\x81b": "a" + l + l + "b",
		// these say what is no sign
		"\xed\xa0\x80": l + l + l, "\xed\xbf\xbf": l + l + l, "\xf4\x90\x80\x80": l + l + l + l, "\xf7\xbf\xbf\xbf": l + l + l + l, "\xf8\x88\x80\x80\x80": l + l + l + l + l,
	} {
		notRead(t, impl.CsUtf, b, s, strings.Count(s, l))
	}
}

func TestSignsOfTodayAreCutAtEachPlace(t *testing.T) {
	for _, s := range signEdges() {
		for cut := 1; cut < len(s); cut++ {
			lost := strings.Repeat(lostSign, cut)
			notRead(t, impl.CsUtf, s[:cut], lost, cut)
			notRead(t, impl.CsUtf, s+s[:cut]+"A", s+lost+"A", cut)
			notRead(t, impl.CsUtf, s[:cut]+s, lost+s, cut)
			rest := len(s) - cut
			notRead(t, impl.CsUtf, s[cut:]+"A", strings.Repeat(lostSign, rest)+"A", rest)
		}
	}
}

// The sign that is told for what is lost may be there itself.
func TestTheSignOfWhatIsLostIsASign(t *testing.T) {
	checkBoth(t, impl.CsUtf, lostSign, lostSign)
	checkBoth(t, impl.CsUtf, "a"+lostSign+lostSign, "a"+lostSign+lostSign)
	notRead(t, impl.CsUtf, lostSign+"\xff"+lostSign, lostSign+lostSign+lostSign, 1)
	for _, cs := range allSets()[1:] {
		notWritten(t, cs, lostSign, "?", 1)
	}
}

func TestSignsThatASetHasNot(t *testing.T) {
	for cs, l := range map[int][]string{
		impl.CsLat:  {"€", "Š", "ж", "あ", "\u0100", "\U0001f600", lostSign},
		impl.CsNine: {"¤", "¦", "¨", "´", "¸", "¼", "½", "¾", "ж", "あ", "\u0100", "\U0001f600"},
		impl.CsKoi:  {"é", "€", "£", "³", "\u0080", "Ѐ", "ѐ", "ђ", "あ", "\U0010ffff"},
		impl.CsWin:  {"\u0080", "\u0081", "\u008d", "\u0090", "\u009f", "ж", "あ", "\u0100", "\U0001f600"},
		impl.CsEuc:  {"é", "€", "\u0080", "¤", "ж", "\u3040", "\u3094", "\u30a0", "\u30f7", "一", "\U0001f600"},
	} {
		for _, s := range l {
			notWritten(t, cs, s, "?", 1)
			notWritten(t, cs, s+"az", "?az", 1)
			notWritten(t, cs, "a"+s+"z", "a?z", 1)
			notWritten(t, cs, "az"+s, "az?", 1)
			notWritten(t, cs, s+s+"a"+s, "??a?", 3)
			// a ? of the text itself is not lost
			notWritten(t, cs, "?"+s+"??", "????", 1)
		}
	}
}

func TestAQuestionMarkIsASign(t *testing.T) {
	for _, cs := range allSets() {
		checkBoth(t, cs, "?", "?")
		checkBoth(t, cs, "a??b?", "a??b?")
	}
}

func TestSomeSignsAreLostAmongThoseOfTheSet(t *testing.T) {
	for cs, b := range map[int]string{
		impl.CsLat: "a?\xe9????z", impl.CsNine: "a\xa4\xe9????z", impl.CsKoi: "a??\xd6???z", impl.CsWin: "a\x80\xe9????z", impl.CsEuc: "a???\xa4\xa2??z",
	} {
		lost := strings.Count(b, "?") - 1
		notWritten(t, cs, "a€éжあ\U0001f600?z", b, lost)
	}
	notWritten(t, impl.CsLat, "€xé", "?x\xe9", 1)
}

func TestThereIsNoSuchSet(t *testing.T) {
	for _, cs := range noSets() {
		for _, s := range []string{"", "a", "?", "\x7f", "é", "€", "\xff", "\xa4\xa2", "\x80", lostSign} {
			notRead(t, cs, s, "", 0)
			notWritten(t, cs, s, "", 0)
		}
		if s, ok := impl.Decode(cs, nil); ok || s != "" {
			t.Errorf("Decode(%d, nil) is %x, %v", cs, s, ok)
		}
	}
}

func TestTextsThatAreNotOfToday(t *testing.T) {
	for _, cs := range allSets() {
		for _, s := range []string{"\xff", "a\xff", "\xffa", "a\xffz", "\x80", "\xa4", "\xa4\xa2", "\xe9", "\xc3", "é\xc3", "\xc3é", "\xc3a", "\xe2\x82", "a\xe2\x82z", "\xf0\x9f\x98",
			"\xc0\x80", "\xc1\x81", "\xe0\x80\x80", "\xe0\x9f\xbf", "\xf0\x80\x80\x80", "\xf0\x8f\xbf\xbf", "\xed\xa0\x80", "\xed\xbf\xbf", "\xf4\x90\x80\x80", "\xf8\x88\x80\x80\x80", "\xef\xbf",
			"?\xff", "€\xff", "\xffж", lostSign + "\xff", strings.Repeat("a", 1000) + "\xe2"} {
			notWritten(t, cs, s, "", 0)
		}
	}
}

func TestLongTextsOfEachSet(t *testing.T) {
	for cs, sign := range map[int][2]string{impl.CsUtf: {"é€", "é€"}, impl.CsLat: {"\xe9\xff", "éÿ"}, impl.CsNine: {"\xa4\xe9", "€é"}, impl.CsKoi: {"\xc1\xa3", "аё"}, impl.CsWin: {"\x80\xe9", "€é"}, impl.CsEuc: {"\xa4\xa2\xa5\xa2", "あア"}} {
		checkBoth(t, cs, strings.Repeat(sign[0]+"a", 5000), strings.Repeat(sign[1]+"a", 5000))
	}
	notRead(t, impl.CsUtf, strings.Repeat("\xff", 9000), strings.Repeat(lostSign, 9000), 9000)
	notWritten(t, impl.CsKoi, strings.Repeat("é", 9000), strings.Repeat("?", 9000), 9000)
}

// What lies behind the bytes would end the sign that they begin.
func TestSpareRoomIsNotRead(t *testing.T) {
	for _, z := range []struct {
		cs   int
		b    string
		size int
		s    string
	}{
		{impl.CsEuc, "a\xa4\xa2", 2, "a" + lostSign}, {impl.CsEuc, "\xa5\xf6", 1, lostSign}, {impl.CsUtf, "é", 1, lostSign}, {impl.CsUtf, "a€", 3, "a" + lostSign + lostSign}, {impl.CsUtf, "\U0001f600", 3, lostSign + lostSign + lostSign},
	} {
		b := []byte(z.b)[:z.size]
		if s, ok := impl.Decode(z.cs, b); ok || s != "" {
			t.Errorf("Decode(%d, %x) is %x, %v", z.cs, b, s, ok)
		}
		if s, lost := impl.DecodeLossy(z.cs, b); s != z.s || lost != strings.Count(z.s, lostSign) {
			t.Errorf("DecodeLossy(%d, %x) is %x, %d", z.cs, b, s, lost)
		}
	}
	for _, cs := range allSets() {
		if s, ok := impl.Decode(cs, []byte("ab\xff")[:2]); !ok || s != "ab" {
			t.Errorf("Decode(%d, ab) is %x, %v", cs, s, ok)
		}
		if s, ok := impl.Decode(cs, []byte("ab")[:0]); !ok || s != "" {
			t.Errorf("Decode(%d) of no bytes is %x, %v", cs, s, ok)
		}
	}
}

// checkTextRoom fails when a call writes into its argument or the spare room
// behind it, or when the text that it answers goes with these.
func checkTextRoom(t *testing.T, name string, s string, call func(b []byte) string) {
	t.Helper()
	arg, whole := roomy(s)
	before := bytes.Clone(whole)
	got := call(arg)
	if !bytes.Equal(whole, before) {
		t.Errorf("%s of %x: the argument is written: %x", name, s, whole)
	}
	said := strings.Clone(got)
	for i := range whole {
		whole[i] ^= 0xff
	}
	if got != said {
		t.Errorf("%s of %x: the answer goes with the argument: %x, not %x", name, s, got, said)
	}
}

func TestWhatIsReadStaysAsItIs(t *testing.T) {
	for _, cs := range append(allSets(), noSets()...) {
		for _, s := range []string{"", "a", "abc", "\x7f", "\x80", "\xa4\xa2", "a\xa4", "é", "a€b", "\xe2\x82", "\xff", "a\x81b", "\U0001f600", lostSign} {
			checkTextRoom(t, "Decode", s, func(b []byte) string { out, _ := impl.Decode(cs, b); return out })
			checkTextRoom(t, "DecodeLossy", s, func(b []byte) string { out, _ := impl.DecodeLossy(cs, b); return out })
		}
	}
}

// spoil turns all bytes of an answer, and those of the spare room behind it.
func spoil(b []byte) {
	b = b[:cap(b)]
	for i := range b {
		b[i] ^= 0xff
	}
}

func TestWhatIsWrittenIsNewEachTime(t *testing.T) {
	for _, cs := range append(allSets(), noSets()...) {
		for _, s := range []string{"", "a", "?", "abc", "é", "€", "ж", "aあ", "é€жあ", "\U0001f600", "\xff", "a\xe2\x82"} {
			text := strings.Clone(s)
			one, _ := impl.Encode(cs, text)
			two, ok := impl.Encode(cs, text)
			said := bytes.Clone(two)
			spoil(one)
			three, again := impl.Encode(cs, text)
			if text != s || !bytes.Equal(two, said) || !bytes.Equal(three, said) || ok != again {
				t.Errorf("Encode(%d, %x): %x, %x, not %x", cs, s, two, three, said)
			}
			one, _ = impl.EncodeLossy(cs, text)
			two, lost := impl.EncodeLossy(cs, text)
			said = bytes.Clone(two)
			spoil(one)
			three, more := impl.EncodeLossy(cs, text)
			if text != s || !bytes.Equal(two, said) || !bytes.Equal(three, said) || lost != more {
				t.Errorf("EncodeLossy(%d, %x): %x, %x, not %x", cs, s, two, three, said)
			}
		}
	}
}
