package tests

import (
	"math"
	"strings"
	"testing"

	"loop.example/g00475/impl"
)

// none stands in a list of signs where a byte stands for none.
const none = -1

// byteSets are the sets in which each byte stands for one sign at most.
func byteSets() []int {
	return []int{impl.CsLat, impl.CsNine, impl.CsKoi, impl.CsWin}
}

// noByteSets are numbers of sets in which ByteSign and SignByte know none.
func noByteSets() []int {
	return []int{impl.CsUtf, impl.CsEuc, -1, -2, -4, 6, 7, 255, 256, 257, 1 << 16, 1<<32 + 1, 1<<32 + 4, math.MinInt, math.MinInt + 1, math.MaxInt}
}

// signsOf answers the sign of each byte of a set, written out by hand, apart
// from how the program holds them.
func signsOf(cs int) [256]int {
	var l [256]int
	for b := range l {
		l[b] = b
	}
	switch cs {
	case impl.CsNine:
		for b, r := range map[int]rune{0xa4: '€', 0xa6: 'Š', 0xa8: 'š', 0xb4: 'Ž', 0xb8: 'ž', 0xbc: 'Œ', 0xbd: 'œ', 0xbe: 'Ÿ'} {
			l[b] = int(r)
		}
	case impl.CsKoi:
		for b := 0x80; b < 0xc0; b++ {
			l[b] = none
		}
		l[0xa3], l[0xb3] = 'ё', 'Ё'
		layRow(&l, 0xc0, "юабцдефгхийклмнопярстужвьызшэщчъ")
		layRow(&l, 0xe0, "ЮАБЦДЕФГХИЙКЛМНОПЯРСТУЖВЬЫЗШЭЩЧЪ")
	case impl.CsWin:
		layRow(&l, 0x80, "€ ‚ƒ„…†‡ˆ‰Š‹Œ Ž  ‘’“”•–—˜™š›œ žŸ")
	}
	return l
}

// layRow lays the signs of s from a byte on; a blank stands for none.
func layRow(l *[256]int, b int, s string) {
	for _, r := range s {
		l[b] = int(r)
		if r == ' ' {
			l[b] = none
		}
		b++
	}
}

// checkByte fails when a byte does not stand for that sign, or the sign does
// not have that byte.
func checkByte(t *testing.T, cs int, b int, n int) {
	t.Helper()
	if n == none {
		noByte(t, cs, b)
		return
	}
	if got, ok := impl.ByteSign(cs, b); !ok || got != n {
		t.Errorf("ByteSign(%d, %x) is %x, %v; not %x", cs, b, got, ok, n)
	}
	if got, ok := impl.SignByte(cs, n); !ok || got != b {
		t.Errorf("SignByte(%d, %x) is %x, %v; not %x", cs, n, got, ok, b)
	}
}

// noByte fails when b stands for a sign.
func noByte(t *testing.T, cs int, b int) {
	t.Helper()
	if got, ok := impl.ByteSign(cs, b); ok || got != 0 {
		t.Errorf("ByteSign(%d, %x) is %x, %v", cs, b, got, ok)
	}
}

// noSignByte fails when n has a byte.
func noSignByte(t *testing.T, cs int, n int) {
	t.Helper()
	if got, ok := impl.SignByte(cs, n); ok || got != 0 {
		t.Errorf("SignByte(%d, %x) is %x, %v", cs, n, got, ok)
	}
}

func TestNumbersOfSets(t *testing.T) {
	got := [...]int{impl.CsUtf, impl.CsLat, impl.CsNine, impl.CsKoi, impl.CsWin, impl.CsEuc}
	if got != [...]int{0, 1, 2, 3, 4, 5} {
		t.Errorf("the sets are %v", got)
	}
}

func TestNamesOfSets(t *testing.T) {
	for cs, name := range []string{"utf8", "latin1", "latin9", "koi8", "cp1252", "eucjp"} {
		if got := impl.CsName(cs); got != name {
			t.Errorf("CsName(%d) is %q", cs, got)
		}
		if got := impl.CsOf(name); got != cs {
			t.Errorf("CsOf(%q) is %d", name, got)
		}
	}
}

func TestNoSuchSet(t *testing.T) {
	for _, cs := range noByteSets() {
		if cs == impl.CsUtf || cs == impl.CsEuc {
			continue
		}
		if got := impl.CsName(cs); got != "" {
			t.Errorf("CsName(%d) is %q", cs, got)
		}
	}
	for _, s := range []string{"", " ", "x", "utf", "utf8 ", " utf8", "utf-8", "UTF8", "Utf8", "utf8\x00", "utf88", "latin", "latin2", "latin10", "Latin1",
		"koi", "koi7", "koi8r", "cp125", "cp1251", "cp12522", "eucj", "eucjpp", "0", "1", "-1", "utf8latin1", "\xff", strings.Repeat("utf8", 1000)} {
		if got := impl.CsOf(s); got != -1 {
			t.Errorf("CsOf(%q) is %d", s, got)
		}
	}
}

func TestEachByteOfEachSet(t *testing.T) {
	for _, cs := range byteSets() {
		for b, n := range signsOf(cs) {
			checkByte(t, cs, b, n)
		}
	}
}

func TestAByteSignHasThatByte(t *testing.T) {
	for _, cs := range byteSets() {
		for b := range 256 {
			n, ok := impl.ByteSign(cs, b)
			if !ok {
				continue
			}
			if !impl.SignOk(n) {
				t.Errorf("ByteSign(%d, %x) is %x, which is no sign", cs, b, n)
			}
			if got, ok := impl.SignByte(cs, n); !ok || got != b {
				t.Errorf("SignByte(%d, %x) is %x, %v; not %x", cs, n, got, ok, b)
			}
		}
	}
}

func TestASignByteStandsForThatSign(t *testing.T) {
	counts := map[int]int{impl.CsLat: 256, impl.CsNine: 256, impl.CsKoi: 194, impl.CsWin: 251}
	for _, cs := range byteSets() {
		count := 0
		for n := -300; n < 0x11000; n++ {
			b, ok := impl.SignByte(cs, n)
			if !ok {
				if b != 0 {
					t.Errorf("SignByte(%d, %x) is %x beside false", cs, n, b)
				}
				continue
			}
			count++
			if got, ok := impl.ByteSign(cs, b); !ok || got != n {
				t.Errorf("ByteSign(%d, %x) is %x, %v; not %x", cs, b, got, ok, n)
			}
		}
		if count != counts[cs] {
			t.Errorf("set %d: %d signs have a byte, not %d", cs, count, counts[cs])
		}
	}
}

func TestBytesAtTheEdgesOfSets(t *testing.T) {
	lat, nine, koi, win := impl.CsLat, impl.CsNine, impl.CsKoi, impl.CsWin
	for _, z := range []struct{ cs, b, n int }{
		{lat, 0, 0}, {lat, 0x7f, 0x7f}, {lat, 0x80, 0x80}, {lat, 0x9f, 0x9f}, {lat, 0xa4, 0xa4}, {lat, 0xff, 0xff},
		{nine, 0, 0}, {nine, 0x7f, 0x7f}, {nine, 0x80, 0x80}, {nine, 0x9f, 0x9f}, {nine, 0xa0, 0xa0}, {nine, 0xa3, 0xa3}, {nine, 0xa4, 0x20ac},
		{nine, 0xa5, 0xa5}, {nine, 0xa6, 0x160}, {nine, 0xa7, 0xa7}, {nine, 0xa8, 0x161}, {nine, 0xa9, 0xa9}, {nine, 0xb3, 0xb3},
		{nine, 0xb4, 0x17d}, {nine, 0xb5, 0xb5}, {nine, 0xb7, 0xb7}, {nine, 0xb8, 0x17e}, {nine, 0xb9, 0xb9}, {nine, 0xbb, 0xbb},
		{nine, 0xbc, 0x152}, {nine, 0xbd, 0x153}, {nine, 0xbe, 0x178}, {nine, 0xbf, 0xbf}, {nine, 0xc0, 0xc0}, {nine, 0xff, 0xff},
		{koi, 0, 0}, {koi, 0x7f, 0x7f}, {koi, 0x80, none}, {koi, 0xa2, none}, {koi, 0xa3, 0x451}, {koi, 0xa4, none}, {koi, 0xb2, none},
		{koi, 0xb3, 0x401}, {koi, 0xb4, none}, {koi, 0xbf, none}, {koi, 0xc0, 0x44e}, {koi, 0xc1, 0x430}, {koi, 0xde, 0x447}, {koi, 0xdf, 0x44a},
		{koi, 0xe0, 0x42e}, {koi, 0xe1, 0x410}, {koi, 0xfe, 0x427}, {koi, 0xff, 0x42a},
		{win, 0, 0}, {win, 0x7f, 0x7f}, {win, 0x80, 0x20ac}, {win, 0x81, none}, {win, 0x82, 0x201a}, {win, 0x8c, 0x152}, {win, 0x8d, none},
		{win, 0x8e, 0x17d}, {win, 0x8f, none}, {win, 0x90, none}, {win, 0x91, 0x2018}, {win, 0x9c, 0x153}, {win, 0x9d, none}, {win, 0x9e, 0x17e},
		{win, 0x9f, 0x178}, {win, 0xa0, 0xa0}, {win, 0xa1, 0xa1}, {win, 0xff, 0xff},
	} {
		checkByte(t, z.cs, z.b, z.n)
	}
}

func TestBytesThatStandForNone(t *testing.T) {
	for b := 0x80; b < 0xc0; b++ {
		if b != 0xa3 && b != 0xb3 {
			noByte(t, impl.CsKoi, b)
		}
	}
	for _, b := range []int{0x81, 0x8d, 0x8f, 0x90, 0x9d} {
		noByte(t, impl.CsWin, b)
	}
	for _, cs := range byteSets() {
		for _, b := range []int{-1, -2, -0x41, -128, -256, -0x7fffff00, 256, 257, 0x141, 0x20ac, 0x430, 1 << 16, 1 << 32, 1<<32 + 0x41, math.MinInt, math.MinInt + 0x41, math.MaxInt} {
			noByte(t, cs, b)
		}
	}
}

func TestSetsWithoutSingleBytes(t *testing.T) {
	for _, cs := range noByteSets() {
		for b := -2; b < 260; b++ {
			noByte(t, cs, b)
			noSignByte(t, cs, b)
		}
		for _, n := range []int{math.MinInt, 0x401, 0x430, 0x20ac, 0x3042, math.MaxInt} {
			noByte(t, cs, n)
			noSignByte(t, cs, n)
		}
	}
}

func TestSignsThatHaveNoByte(t *testing.T) {
	away := map[int][]int{
		impl.CsLat:  {0x100, 0x152, 0x20ac, 0x430, 0x2122, 0x3042, 0x1f600, 0x10ffff},
		impl.CsNine: {0xa4, 0xa6, 0xa8, 0xb4, 0xb8, 0xbc, 0xbd, 0xbe, 0x100, 0x192, 0x430, 0x201c, 0x10ffff},
		impl.CsKoi:  {0x80, 0xa3, 0xb3, 0xc0, 0xe1, 0xff, 0x400, 0x402, 0x40f, 0x450, 0x452, 0x20ac, 0x2500, 0x10ffff},
		impl.CsWin:  {0x100, 0x17c, 0x430, 0x2017, 0x201b, 0x20ad, 0x10ffff},
	}
	for n := 0x80; n < 0xa0; n++ {
		away[impl.CsWin] = append(away[impl.CsWin], n)
	}
	for _, cs := range byteSets() {
		for _, n := range append(away[cs], noSigns()...) {
			noSignByte(t, cs, n)
		}
	}
}
