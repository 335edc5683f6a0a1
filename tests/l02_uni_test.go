package tests

import (
	"bytes"
	"math"
	"slices"
	"strings"
	"testing"
	"unicode/utf8"

	"loop.example/g00475/impl"
)

// signEdges are the signs at the edges of each length of bytes, with their
// bytes.
func signEdges() map[int]string {
	return map[int]string{
		0: "\x00", 1: "\x01", 0x41: "A", 0x7e: "~", 0x7f: "\x7f",
		0x80: "\xc2\x80", 0xbf: "\xc2\xbf", 0xc0: "\xc3\x80", 0xe9: "\xc3\xa9", 0x44f: "\xd1\x8f", 0x7fe: "\xdf\xbe", 0x7ff: "\xdf\xbf",
		0x800: "\xe0\xa0\x80", 0x801: "\xe0\xa0\x81", 0xfff: "\xe0\xbf\xbf", 0x1000: "\xe1\x80\x80", 0x20ac: "\xe2\x82\xac", 0x3042: "\xe3\x81\x82",
		0xd7fe: "\xed\x9f\xbe", 0xd7ff: "\xed\x9f\xbf", 0xe000: "\xee\x80\x80", 0xe001: "\xee\x80\x81",
		0xfeff: "\xef\xbb\xbf", 0xfffc: "\xef\xbf\xbc", 0xfffd: "\xef\xbf\xbd", 0xfffe: "\xef\xbf\xbe", 0xffff: "\xef\xbf\xbf",
		0x10000: "\xf0\x90\x80\x80", 0x10001: "\xf0\x90\x80\x81", 0x1f600: "\xf0\x9f\x98\x80", 0x3ffff: "\xf0\xbf\xbf\xbf", 0x40000: "\xf1\x80\x80\x80",
		0xfffff: "\xf3\xbf\xbf\xbf", 0x100000: "\xf4\x80\x80\x80", 0x10fffe: "\xf4\x8f\xbf\xbe", 0x10ffff: "\xf4\x8f\xbf\xbf",
	}
}

// noSigns are numbers that are no signs.
func noSigns() []int {
	return []int{-1, -2, -0x41, -0x10ffff, math.MinInt, math.MinInt + 0x41, 0xd800, 0xd801, 0xdabc, 0xdbff, 0xdc00, 0xdffe, 0xdfff,
		0x110000, 0x110001, 0x110041, 0x1fffff, 0x200000, 1 << 31, 1 << 32, 1<<32 + 0x41, 1<<63 - 0x41, math.MaxInt}
}

func TestSignOkAtItsEdges(t *testing.T) {
	for n := -70000; n < 0x120000; n++ {
		want := n >= 0 && n <= 1114111 && !(n >= 55296 && n <= 57343)
		if impl.SignOk(n) != want {
			t.Fatalf("SignOk(%x) is %v", n, !want)
		}
	}
	for _, n := range noSigns() {
		if impl.SignOk(n) {
			t.Errorf("SignOk(%x) is true", n)
		}
	}
}

func TestPutSignAtTheEdges(t *testing.T) {
	for n, s := range signEdges() {
		for _, ahead := range []string{"", "x", "\xff\xc2"} {
			if got := impl.PutSign([]byte(ahead), n); string(got) != ahead+s {
				t.Errorf("PutSign of %x: %x", n, got)
			}
			if got, next, ok := impl.GetSign([]byte(ahead+s), len(ahead)); !ok || got != n || next != len(ahead)+len(s) {
				t.Errorf("GetSign of %x: %x, %d, %v", n, got, next, ok)
			}
		}
	}
	if got := impl.PutSign(nil, 0x20ac); string(got) != "€" {
		t.Errorf("PutSign behind nil: %x", got)
	}
}

func TestNoSignIsNotPut(t *testing.T) {
	for _, n := range noSigns() {
		for _, ahead := range []string{"", "x", "\xf0\x90"} {
			if got := impl.PutSign([]byte(ahead), n); string(got) != ahead {
				t.Errorf("PutSign of %x: %x", n, got)
			}
		}
		if got := impl.PutSign(nil, n); len(got) != 0 {
			t.Errorf("PutSign of %x behind nil: %x", n, got)
		}
	}
}

func TestEachSignComesBack(t *testing.T) {
	head := []byte("h")
	for n := range 0x110000 {
		want := ""
		if utf8.ValidRune(rune(n)) {
			want = string(rune(n))
		}
		b := impl.PutSign(head, n)
		if string(b) != "h"+want {
			t.Fatalf("PutSign of %x: %x", n, b)
		}
		if want == "" {
			continue
		}
		for _, behind := range []string{"", "\x80", "A"} {
			got, next, ok := impl.GetSign(append(bytes.Clone(b), behind...), 1)
			if !ok || got != n || next != len(b) {
				t.Fatalf("GetSign of %x: %x, %d, %v", b, got, next, ok)
			}
		}
		if l, ok := impl.Signs(want); !ok || len(l) != 1 || l[0] != n {
			t.Fatalf("Signs of %x: %x, %v", want, l, ok)
		}
	}
}

func noSign(t *testing.T, b []byte, at int) {
	t.Helper()
	if n, next, ok := impl.GetSign(b, at); ok || n != 0 || next != 0 {
		t.Errorf("GetSign of %x at %d: %x, %d, %v", b, at, n, next, ok)
	}
}

// noText8 checks a text of which not all signs can be got.
func noText8(t *testing.T, s string) {
	t.Helper()
	if l, ok := impl.Signs(s); ok || len(l) != 0 {
		t.Errorf("Signs of %x: %x, %v", s, l, ok)
	}
	if impl.Utf8Ok(s) || impl.Count(s) != 0 {
		t.Errorf("%x: %v, %d", s, impl.Utf8Ok(s), impl.Count(s))
	}
}

// putLong puts the lowest bits of n into that many bytes, whether they are too
// many or not.
func putLong(n int, size int) string {
	b := make([]byte, size)
	for i := size - 1; i > 0; i-- {
		b[i] = 0x80 | byte(n&0x3f)
		n >>= 6
	}
	b[0] = []byte{0, 0, 0xc0, 0xe0, 0xf0, 0xf8, 0xfc}[size] | byte(n)
	return string(b)
}

func TestBytesThatSayLessThanTheyCould(t *testing.T) {
	for size, below := range map[int]int{2: 0x80, 3: 0x800, 4: 0x10000} {
		for n := range below {
			s := putLong(n, size)
			noSign(t, []byte(s), 0)
			noText8(t, s)
			if n%97 == 0 {
				noSign(t, []byte("ab"+s+"c"), 2)
				noText8(t, "ab"+s+"c")
			}
		}
		// the next one is told as it should be
		if n, next, ok := impl.GetSign([]byte(putLong(below, size)), 0); !ok || n != below || next != size {
			t.Errorf("GetSign of %x: %x, %d, %v", putLong(below, size), n, next, ok)
		}
	}
}

func TestBytesOfNumbersThatAreNoSigns(t *testing.T) {
	for n := 0xd800; n <= 0xdfff; n++ {
		noSign(t, []byte(putLong(n, 3)), 0)
		noText8(t, putLong(n, 3))
		noText8(t, "a"+putLong(n, 3))
	}
	for n := 0x110000; n <= 0x1fffff; n += 0x3f1 {
		noSign(t, []byte(putLong(n, 4)), 0)
		noText8(t, putLong(n, 4))
	}
	for _, s := range []string{putLong(0x110000, 4), putLong(0x13ffff, 4), putLong(0x140000, 4), putLong(0x1fffff, 4),
		putLong(0x200000, 5), putLong(0x41, 5), putLong(0x10ffff, 5), putLong(0x4000000, 6), putLong(0x41, 6)} {
		noSign(t, []byte(s), 0)
		noText8(t, s)
	}
}

func TestBytesThatBeginNoSign(t *testing.T) {
	for c := 0x80; c < 0x100; c++ {
		if c >= 0xc2 && c <= 0xf4 {
			continue
		}
		for _, behind := range []string{"", "A", "\x80", "\xbf\xbf", "\x80\x80\x80", "\xbf\xbf\xbf", "\x80\x80\x80\x80\x80\x80", "\xc3\xa9"} {
			s := string([]byte{byte(c)}) + behind
			noSign(t, []byte(s), 0)
			noText8(t, s)
			noText8(t, "é"+s)
		}
	}
}

func TestSignsAreCutAtEachPlace(t *testing.T) {
	for n, s := range signEdges() {
		for cut := range len(s) {
			part, _ := roomy(s[:cut])
			noSign(t, part, 0)
			// what was cut off still lies in the spare room
			noSign(t, []byte(s)[:cut], 0)
			if cut > 0 {
				noText8(t, s[:cut])
				noText8(t, "a"+s[:cut])
				noText8(t, s[:cut]+"a")
				noText8(t, s[:cut]+s)
				noSign(t, []byte(s[:cut]+s), 0)
				noSign(t, []byte(s), cut)
				noText8(t, s[cut:])
			}
		}
		if got, next, ok := impl.GetSign([]byte(s), 0); !ok || got != n || next != len(s) {
			t.Errorf("GetSign of %x: %x, %d, %v", s, got, next, ok)
		}
	}
}

// Each byte of a sign is put in place of each other one; the library says
// what is to be read.
func TestSignsWithOneByteTurned(t *testing.T) {
	for _, s := range signEdges() {
		for at := range len(s) {
			for c := range 256 {
				b := []byte(s + "\x80\xbf\x80")
				b[at] = byte(c)
				r, size := utf8.DecodeRune(b)
				if r == utf8.RuneError && size == 1 {
					noSign(t, b, 0)
					continue
				}
				if n, next, ok := impl.GetSign(b, 0); !ok || n != int(r) || next != size {
					t.Errorf("GetSign of %x: %x, %d, %v", b, n, next, ok)
				}
			}
		}
	}
}

func TestGetSignOfWrongPlaces(t *testing.T) {
	for _, s := range []string{"", "A", "é", "a€", "\U0001f600", "abcdefgh"} {
		b, _ := roomy(s)
		for _, at := range farPlaces(len(s)) {
			noSign(t, b, at)
		}
		for past := range 6 {
			noSign(t, b, len(s)+past)
			noSign(t, b, math.MaxInt-past)
			noSign(t, b, -1-past)
		}
	}
	noSign(t, nil, 0)
	noSign(t, []byte{}, 0)
}

func TestSignsOfTexts(t *testing.T) {
	for s, want := range map[string][]int{
		"":             {},
		"A":            {0x41},
		"\x00\x00":     {0, 0},
		"a\xc3\xa9€":   {0x61, 0xe9, 0x20ac},
		"жук":          {0x436, 0x443, 0x43a},
		"\U0001f600b€": {0x1f600, 0x62, 0x20ac},
		"\ufffd":       {0xfffd},
		"a\ufffd\ufffdb\U0010ffff": {0x61, 0xfffd, 0xfffd, 0x62,
			0x10ffff},
		"\xef\xbb\xbfx": {0xfeff, 0x78},
		"\u0301e\u0301": {0x301, 0x65, 0x301},
	} {
		l, ok := impl.Signs(s)
		if !ok || !slices.Equal(l, want) {
			t.Errorf("Signs of %x: %x, %v", s, l, ok)
		}
		if got := impl.TextOf(want); got != s {
			t.Errorf("TextOf of %x: %x", want, got)
		}
		if !impl.Utf8Ok(s) || impl.Count(s) != len(want) {
			t.Errorf("%x: %v, %d", s, impl.Utf8Ok(s), impl.Count(s))
		}
	}
}

func TestTextsThatCannotBeReadToTheirEnd(t *testing.T) {
	for _, s := range []string{"\xff", "a\xff", "\xffa", "é\xc3", "\xc3é", "a\xef\xbf", "a\xef\xbf\xbe\xef\xbf", "\xef\xbf\xbd\xef\xbf",
		"\xef\xbf\xbd\xff", "\xff\xef\xbf\xbd", "\xbd\xef\xbf\xbd", "\xef\xef\xbf\xbd", "\x80", "€\x80", strings.Repeat("€", 1000) + "\xe2"} {
		noText8(t, s)
	}
}

func TestTextOfLeavesOutWhatIsNoSign(t *testing.T) {
	for _, n := range noSigns() {
		if got := impl.TextOf([]int{n}); got != "" {
			t.Errorf("TextOf of %x: %x", n, got)
		}
		if got := impl.TextOf([]int{n, 0x41, n, n, 0x20ac, n}); got != "A€" {
			t.Errorf("TextOf with %x: %x", n, got)
		}
	}
	if got := impl.TextOf(noSigns()); got != "" {
		t.Errorf("TextOf of no signs: %x", got)
	}
	if impl.TextOf(nil) != "" || impl.TextOf([]int{}) != "" {
		t.Error("TextOf of nothing is not empty")
	}
}

func TestTextsOfAllSignsComeBack(t *testing.T) {
	var all []int
	for n := range 0x110000 {
		if n%7 == 0 && impl.SignOk(n) {
			all = append(all, n)
		}
	}
	s := impl.TextOf(all)
	l, ok := impl.Signs(s)
	if !ok || !slices.Equal(l, all) || impl.Count(s) != len(all) || !utf8.ValidString(s) {
		t.Fatalf("%d of %d signs come back, %v", len(l), len(all), ok)
	}
	b, at := []byte(s), 0
	for i, want := range all {
		n, next, ok := impl.GetSign(b, at)
		if !ok || n != want {
			t.Fatalf("sign %d at %d: %x, %v", i, at, n, ok)
		}
		at = next
	}
	if at != len(b) {
		t.Errorf("%d of %d bytes are read", at, len(b))
	}
}

// All texts of up to three bytes out of those at which something changes.
func TestShortTextsAsTheLibraryReadsThem(t *testing.T) {
	edges := []byte{0, 0x41, 0x7f, 0x80, 0x8f, 0x90, 0x9f, 0xa0, 0xbd, 0xbf, 0xc0, 0xc1, 0xc2, 0xdf, 0xe0, 0xe1, 0xec, 0xed, 0xee, 0xef, 0xf0, 0xf1, 0xf3, 0xf4, 0xf5, 0xf7, 0xf8, 0xff}
	texts := [][]byte{{}}
	for from := 0; from < len(texts); from++ {
		s := texts[from]
		if impl.Utf8Ok(string(s)) != utf8.Valid(s) {
			t.Errorf("Utf8Ok of %x is %v", s, !utf8.Valid(s))
		}
		if utf8.Valid(s) && impl.Count(string(s)) != utf8.RuneCount(s) {
			t.Errorf("Count of %x: %d", s, impl.Count(string(s)))
		}
		if len(s) < 4 {
			for _, c := range edges {
				if len(s) < 3 || c >= 0x80 && c < 0xc0 {
					texts = append(texts, append(bytes.Clone(s), c))
				}
			}
		}
	}
}

func TestSignsWriteNothingIntoTheirArguments(t *testing.T) {
	for _, s := range []string{"", "A", "é", "€uro", "\xff", "\xf0\x9f\x98\x80"} {
		for _, n := range []int{0x41, 0xe9, 0x20ac, 0x1f600, 0xd800, -1, 0x110000} {
			checkRoom(t, "PutSign", s, func(b []byte) []byte { return impl.PutSign(b, n) })
		}
		checkRoom(t, "GetSign", s, func(b []byte) []byte { impl.GetSign(b, 0); return nil })
	}
	whole := []int{0x41, 0xd800, 0x20ac, 7, 7, 7}
	before := slices.Clone(whole)
	impl.TextOf(whole[:3])
	if !slices.Equal(whole, before) {
		t.Errorf("TextOf writes into its list: %x", whole)
	}
}

func TestTwoAnswersOfSignsShareNothing(t *testing.T) {
	arg, _ := roomy("ab")
	one, two := impl.PutSign(arg, 0xe9), impl.PutSign(arg, 0xea)
	if string(one) != "abé" || string(two) != "abê" {
		t.Errorf("PutSign: %x, %x", one, two)
	}
	one, two = impl.PutSign(one, 0x31), impl.PutSign(one, 0x32)
	if string(one) != "abé1" || string(two) != "abé2" {
		t.Errorf("PutSign of an answer: %x, %x", one, two)
	}
	l, _ := impl.Signs("abc")
	k, _ := impl.Signs("abc")
	l[0] = 0
	if k[0] != 'a' {
		t.Error("two lists of Signs share memory")
	}
}
