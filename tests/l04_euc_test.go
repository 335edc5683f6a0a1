package tests

import (
	"bytes"
	"math"
	"slices"
	"testing"

	"loop.example/g00475/impl"
)

// The signs of each first byte, written out by hand in the order of their
// second bytes, apart from how the program holds them.
const (
	roundSigns = "ぁあぃいぅうぇえぉおかがきぎくぐけげこごさざしじすずせぜそぞただちぢっつづてでとどなにぬねの" +
		"はばぱひびぴふぶぷへべぺほぼぽまみむめもゃやゅゆょよらりるれろゎわゐゑをん"
	edgedSigns = "ァアィイゥウェエォオカガキギクグケゲコゴサザシジスズセゼソゾタダチヂッツヅテデトドナニヌネノ" +
		"ハバパヒビピフブプヘベペホボポマミムメモャヤュユョヨラリルレロヮワヰヱヲンヴヵヶ"
)

type bytePair struct{ hi, lo int }

// text answers the two bytes of a pair.
func (p bytePair) text() string {
	return string([]byte{byte(p.hi), byte(p.lo)})
}

// pairSigns answers the sign of each pair that stands for one.
func pairSigns() map[bytePair]int {
	out := map[bytePair]int{}
	for hi, s := range map[int]string{0xa4: roundSigns, 0xa5: edgedSigns} {
		lo := 0xa1
		for _, r := range s {
			out[bytePair{hi, lo}] = int(r)
			lo++
		}
	}
	return out
}

// eucTexts answers the bytes of each sign that has some.
func eucTexts() map[int]string {
	out := map[int]string{}
	for n := range 0x80 {
		out[n] = string([]byte{byte(n)})
	}
	for p, n := range pairSigns() {
		out[n] = p.text()
	}
	return out
}

// eucSigns answers all signs that have bytes, ascending.
func eucSigns() []int {
	var l []int
	for n := range eucTexts() {
		l = append(l, n)
	}
	slices.Sort(l)
	return l
}

// noBytes are numbers that are no byte, some of them with the lowest bits of
// one that would fit.
func noBytes() []int {
	return []int{-1, -2, -0x41, -0x5b, -0x5c, -0x5f, -128, -256, 256, 257, 0x1a1, 0x1a4, 0x1a5, 0x3041, 1 << 16, 1<<16 + 0xa4, 1 << 32, 1<<32 + 0xa1, 1<<32 + 0xa4, 1<<32 + 0xa5,
		math.MinInt, math.MinInt + 1, math.MinInt + 0xa1, math.MinInt + 0xa4, math.MaxInt - 0x5a, math.MaxInt - 1, math.MaxInt}
}

// checkPair fails when a pair does not stand for that sign, or the sign does
// not have that pair.
func checkPair(t *testing.T, p bytePair, n int) {
	t.Helper()
	if got, ok := impl.PairSign(p.hi, p.lo); !ok || got != n {
		t.Errorf("PairSign(%x, %x) is %x, %v; not %x", p.hi, p.lo, got, ok, n)
	}
	if hi, lo, ok := impl.SignPair(n); !ok || hi != p.hi || lo != p.lo {
		t.Errorf("SignPair(%x) is %x, %x, %v; not %x, %x", n, hi, lo, ok, p.hi, p.lo)
	}
}

// noPair fails when two numbers stand for a sign.
func noPair(t *testing.T, hi int, lo int) {
	t.Helper()
	if got, ok := impl.PairSign(hi, lo); ok || got != 0 {
		t.Errorf("PairSign(%x, %x) is %x, %v", hi, lo, got, ok)
	}
}

// noSignPair fails when n has a pair.
func noSignPair(t *testing.T, n int) {
	t.Helper()
	if hi, lo, ok := impl.SignPair(n); ok || hi != 0 || lo != 0 {
		t.Errorf("SignPair(%x) is %x, %x, %v", n, hi, lo, ok)
	}
}

// checkEuc fails when not just n, of that many bytes, is read at a place.
func checkEuc(t *testing.T, b []byte, at int, n int, size int) {
	t.Helper()
	if got, next, ok := impl.EucSign(b, at); !ok || got != n || next != at+size {
		t.Errorf("EucSign of %x at %d: %x, %d, %v; not %x", b, at, got, next, ok, n)
	}
}

// noEuc fails when a sign is read at a place.
func noEuc(t *testing.T, b []byte, at int) {
	t.Helper()
	if n, next, ok := impl.EucSign(b, at); ok || n != 0 || next != 0 {
		t.Errorf("EucSign of %x at %d: %x, %d, %v", b, at, n, next, ok)
	}
}

// noPutEuc fails when n is put behind some bytes.
func noPutEuc(t *testing.T, n int) {
	t.Helper()
	for _, ahead := range []string{"", "A", "\xa4", "\xa5\xa1x"} {
		if got, ok := impl.PutEuc([]byte(ahead), n); ok || string(got) != ahead {
			t.Errorf("PutEuc of %x behind %x: %x, %v", n, ahead, got, ok)
		}
	}
	if got, ok := impl.PutEuc(nil, n); ok || len(got) != 0 {
		t.Errorf("PutEuc of %x behind nil: %x, %v", n, got, ok)
	}
}

func TestEachPairHasItsSignAndBack(t *testing.T) {
	pairs := pairSigns()
	if len(pairs) != 83+86 {
		t.Fatalf("%d pairs are written out", len(pairs))
	}
	for p, n := range pairs {
		checkPair(t, p, n)
	}
}

func TestNoOtherBytesAreAPair(t *testing.T) {
	pairs := pairSigns()
	for hi := range 256 {
		for lo := range 256 {
			if _, is := pairs[bytePair{hi, lo}]; !is {
				noPair(t, hi, lo)
			}
		}
	}
}

func TestPairsAtTheirEdges(t *testing.T) {
	for p, n := range map[bytePair]int{
		{0xa4, 0xa1}: 0x3041, {0xa4, 0xa2}: 0x3042, {0xa4, 0xf2}: 0x3092, {0xa4, 0xf3}: 0x3093,
		{0xa5, 0xa1}: 0x30a1, {0xa5, 0xa2}: 0x30a2, {0xa5, 0xf3}: 0x30f3, {0xa5, 0xf4}: 0x30f4, {0xa5, 0xf5}: 0x30f5, {0xa5, 0xf6}: 0x30f6,
	} {
		checkPair(t, p, n)
	}
	for _, p := range []bytePair{{0xa4, 0xa0}, {0xa4, 0xf4}, {0xa4, 0xf5}, {0xa4, 0xf6}, {0xa4, 0xf7}, {0xa4, 0xff}, {0xa4, 0}, {0xa4, 0x21}, {0xa4, 0x7f}, {0xa4, 0x80},
		{0xa5, 0xa0}, {0xa5, 0xf7}, {0xa5, 0xff}, {0xa5, 0}, {0xa5, 0x21}, {0xa3, 0xa1}, {0xa6, 0xa1}, {0x24, 0xa1}, {0x24, 0x21}, {0xa1, 0xa4}, {0x41, 0x42}, {0, 0}} {
		noPair(t, p.hi, p.lo)
	}
}

func TestNumbersThatAreNoByteMakeNoPair(t *testing.T) {
	for _, n := range noBytes() {
		for b := range 256 {
			noPair(t, n, b)
			noPair(t, b, n)
		}
		for _, other := range noBytes() {
			noPair(t, n, other)
		}
	}
}

func TestEachSignOfAPairAndNoOther(t *testing.T) {
	signs := map[int]bytePair{}
	for p, n := range pairSigns() {
		signs[n] = p
	}
	for n := -300; n < 0x11100; n++ {
		if p, is := signs[n]; is {
			checkPair(t, p, n)
		} else {
			noSignPair(t, n)
		}
	}
}

func TestSignsWithoutAPair(t *testing.T) {
	for _, n := range append([]int{0, 0x41, 0x7f, 0x80, 0xa1, 0xa4, 0xa4a1, 0xa5f6, 0x3000, 0x3040, 0x3094, 0x3096, 0x309f, 0x30a0, 0x30f7, 0x30ff, 0x4e00, 0x1f600, 0x10ffff,
		1<<16 + 0x3041, 1<<32 + 0x3041, 1<<32 + 0x30f6, math.MinInt + 0x3040, math.MinInt + 0x3041, math.MinInt + 0x3093, math.MinInt + 0x30a1, math.MaxInt - 0x3041}, noSigns()...) {
		noSignPair(t, n)
	}
}

func TestEachSignIsPutAndReadAgain(t *testing.T) {
	for n, s := range eucTexts() {
		for _, ahead := range []string{"", "A", "\xa4", "\xa4\xa1", "ab\xa5", "\xff\x80\xa5\xf6"} {
			b, ok := impl.PutEuc([]byte(ahead), n)
			if !ok || string(b) != ahead+s {
				t.Errorf("PutEuc of %x behind %x: %x, %v", n, ahead, b, ok)
			}
			for _, behind := range []string{"", "A", "\xa1", "\xa4\xa1", "\xff"} {
				checkEuc(t, []byte(ahead+s+behind), len(ahead), n, len(s))
			}
		}
		if b, ok := impl.PutEuc(nil, n); !ok || string(b) != s {
			t.Errorf("PutEuc of %x behind nil: %x, %v", n, b, ok)
		}
	}
}

func TestAllSignsOneBehindAnother(t *testing.T) {
	all := eucSigns()
	all = append(all, 0x3042, 0x41, 0x30a2, 0, 0x3093, 0x30f6, 0x7f)
	var b []byte
	for _, n := range all {
		next, ok := impl.PutEuc(b, n)
		if !ok {
			t.Fatalf("PutEuc of %x is false", n)
		}
		b = next
	}
	at := 0
	for i, want := range all {
		n, next, ok := impl.EucSign(b, at)
		if !ok || n != want {
			t.Fatalf("sign %d at %d: %x, %v; not %x", i, at, n, ok, want)
		}
		at = next
	}
	if at != len(b) {
		t.Errorf("%d of %d bytes are read", at, len(b))
	}
}

func TestATextOfBothLengthsIsRead(t *testing.T) {
	b := []byte("A\xa4\xa2\x7f\xa5\xf6\x00")
	checkEuc(t, b, 0, 0x41, 1)
	checkEuc(t, b, 1, 0x3042, 2)
	checkEuc(t, b, 3, 0x7f, 1)
	checkEuc(t, b, 4, 0x30f6, 2)
	checkEuc(t, b, 6, 0, 1)
	// what begins amid a pair
	noEuc(t, b, 2)
	noEuc(t, b, 5)
	checkEuc(t, []byte("\xa4\xa4\xa4\xa1"), 1, 0x3044, 2)
}

// Each two bytes there are, with and without others around them.
func TestEachTwoBytesAreReadAsTheyStand(t *testing.T) {
	pairs := pairSigns()
	for hi := range 256 {
		for lo := range 256 {
			p := bytePair{hi, lo}
			n, is := pairs[p]
			for _, b := range [][]byte{[]byte("\xa4\xa5" + p.text()), []byte("\xa4\xa5" + p.text() + "\xa1")} {
				switch {
				case hi <= 0x7f:
					checkEuc(t, b, 2, hi, 1)
				case is:
					checkEuc(t, b, 2, n, 2)
				default:
					noEuc(t, b, 2)
				}
			}
		}
	}
}

func TestAByteThatLacksItsSecond(t *testing.T) {
	for c := 0x80; c < 0x100; c++ {
		last := string([]byte{byte(c)})
		for _, ahead := range []string{"", "A", "\xa4\xa1", "\xa4"} {
			noEuc(t, []byte(ahead+last), len(ahead))
			// a second byte that would fit still lies in the spare room
			for _, spare := range []string{"\xa1", "\xf3", "A"} {
				noEuc(t, []byte(ahead + last + spare)[:len(ahead)+1], len(ahead))
			}
		}
	}
	for c := range 0x80 {
		checkEuc(t, []byte{byte(c)}, 0, c, 1)
		checkEuc(t, []byte{0xa4, byte(c)}, 1, c, 1)
	}
}

func TestEucSignOfWrongPlaces(t *testing.T) {
	for _, s := range []string{"", "A", "\xa4", "\xa4\xa1", "A\xa5\xf6", "\xa5\xa1\xa4", "abcdefgh"} {
		b, _ := roomy(s)
		for _, at := range farPlaces(len(s)) {
			noEuc(t, b, at)
		}
		for past := range 6 {
			noEuc(t, b, len(s)+past)
			noEuc(t, b, math.MaxInt-past)
			noEuc(t, b, math.MinInt+past)
			noEuc(t, b, -1-past)
		}
	}
	noEuc(t, nil, 0)
	noEuc(t, []byte{}, 0)
	noEuc(t, []byte("A\xa4\xa1")[:0], 0)
}

func TestPutEucAtTheEdges(t *testing.T) {
	for n, s := range map[int]string{0: "\x00", 1: "\x01", 0x41: "A", 0x7e: "~", 0x7f: "\x7f", 0x3041: "\xa4\xa1", 0x3093: "\xa4\xf3", 0x30a1: "\xa5\xa1", 0x30f6: "\xa5\xf6"} {
		if got, ok := impl.PutEuc([]byte("\x80"), n); !ok || string(got) != "\x80"+s {
			t.Errorf("PutEuc of %x: %x, %v", n, got, ok)
		}
	}
	for _, n := range []int{0x80, 0x81, 0xa1, 0xa4, 0xff, 0x100, 0x141, 0x3040, 0x3094, 0x30a0, 0x30f7} {
		noPutEuc(t, n)
	}
}

func TestWhatHasNoBytesIsNotPut(t *testing.T) {
	texts := eucTexts()
	for n := -300; n < 0x4000; n++ {
		if _, is := texts[n]; !is {
			noPutEuc(t, n)
		}
	}
	for _, n := range append([]int{0x4e00, 0xa4a1, 0xfffd, 0x1f600, 0x10ffff, 1<<16 + 0x3041, 1<<32 + 0x3041, math.MinInt + 0x3041, math.MinInt + 0x7f}, noSigns()...) {
		noPutEuc(t, n)
	}
}

func TestPairsWriteNothingIntoTheirArguments(t *testing.T) {
	for _, s := range []string{"", "A", "\xa4", "\xa4\xa1", "x\xa5\xf6y", "\xff"} {
		for _, n := range []int{0, 0x41, 0x7f, 0x3041, 0x30f6, 0x80, 0xe9, 0x3094, -1, 0x110000, math.MinInt, math.MaxInt} {
			checkRoom(t, "PutEuc", s, func(b []byte) []byte {
				out, _ := impl.PutEuc(b, n)
				return out
			})
		}
		for at := -1; at <= len(s)+1; at++ {
			checkRoom(t, "EucSign", s, func(b []byte) []byte { impl.EucSign(b, at); return nil })
		}
	}
}

func TestTwoAnswersOfPutEucShareNothing(t *testing.T) {
	arg, _ := roomy("ab")
	one, _ := impl.PutEuc(arg, 0x3041)
	two, _ := impl.PutEuc(arg, 0x30a2)
	if string(one) != "ab\xa4\xa1" || string(two) != "ab\xa5\xa2" {
		t.Errorf("PutEuc: %x, %x", one, two)
	}
	left, _ := impl.PutEuc(one, 0x31)
	right, _ := impl.PutEuc(one, 0x32)
	if string(left) != "ab\xa4\xa11" || string(right) != "ab\xa4\xa12" {
		t.Errorf("PutEuc of an answer: %x, %x", left, right)
	}
	// both times nothing is put
	left, _ = impl.PutEuc(one, 0x80)
	right, _ = impl.PutEuc(one, 0x80)
	left[0] = 'z'
	if !bytes.Equal(right, one) || one[0] != 'a' {
		t.Errorf("answers beside false go with each other: %x, %x", right, one)
	}
}
