package tests

import (
	"bytes"
	"math"
	"strings"
	"testing"

	"loop.example/g00475/impl"
)

func TestNameOkByLength(t *testing.T) {
	for s, want := range map[string]bool{
		"": false, "a": true, "0": true, "z9": true, "abc12": true,
		"abcdef": true, "000000": true, "abcdefg": false, "0000000": false,
		strings.Repeat("a", 1000): false,
	} {
		if impl.NameOk(s) != want {
			t.Errorf("NameOk(%q) is %v", s, !want)
		}
	}
}

func TestNameOkOfEachByteAtEachPlace(t *testing.T) {
	const good = "abcdefghijklmnopqrstuvwxyz0123456789"
	for length := 1; length <= 6; length++ {
		for at := range length {
			for c := range 256 {
				b := bytes.Repeat([]byte{'k'}, length)
				b[at] = byte(c)
				want := strings.IndexByte(good, byte(c)) >= 0
				if impl.NameOk(string(b)) != want {
					t.Errorf("NameOk(%q) is %v", b, !want)
				}
			}
		}
	}
}

func TestNameOkTakesNoSignsOfMoreBytes(t *testing.T) {
	for _, s := range []string{"ä", "aé", "ж", "あ", "\u0661", "\xff", "a\x00", " a", "a ", "a\n", "Ab", "a_b", "a-b"} {
		if impl.NameOk(s) {
			t.Errorf("NameOk(%q) is true", s)
		}
	}
}

func TestEachWordComesBack(t *testing.T) {
	for n := range 65536 {
		b := impl.PutW([]byte("x"), n)
		if !bytes.Equal(b, []byte{'x', byte(n / 256), byte(n % 256)}) {
			t.Fatalf("PutW of %d: %x", n, b)
		}
		if got, next, ok := impl.GetW(b, 1); !ok || got != n || next != 3 {
			t.Fatalf("GetW of %d: %d, %d, %v", n, got, next, ok)
		}
	}
}

func TestOnlyTheLowest16BitsArePut(t *testing.T) {
	for n, want := range map[int]string{
		65535: "\xff\xff", 65536: "\x00\x00", 65537: "\x00\x01", 0x123456: "\x34\x56",
		-1: "\xff\xff", -2: "\xff\xfe", -256: "\xff\x00", -65535: "\x00\x01", -65536: "\x00\x00", -65537: "\xff\xff",
		math.MaxInt: "\xff\xff", math.MaxInt - 1: "\xff\xfe", math.MinInt: "\x00\x00", math.MinInt + 258: "\x01\x02",
	} {
		for _, ahead := range []string{"", "ab"} {
			if got := impl.PutW([]byte(ahead), n); string(got) != ahead+want {
				t.Errorf("PutW of %d: %x", n, got)
			}
		}
	}
	if got := impl.PutW(nil, 258); string(got) != "\x01\x02" {
		t.Errorf("PutW behind nil: %x", got)
	}
}

// farPlaces are places that no bytes of length n have; adding to the great ones
// wraps round.
func farPlaces(n int) []int {
	return []int{-1, -2, -3, math.MinInt, math.MinInt + 1, n, n + 1, n + 2, n + 1000,
		1 << 32, math.MaxInt - 2, math.MaxInt - 1, math.MaxInt}
}

func TestGetWOfWrongPlaces(t *testing.T) {
	for length := range 6 {
		b, _ := roomy("\x01\x02\x03\x04\x05"[:length])
		for at := range length {
			got, next, ok := impl.GetW(b, at)
			if at+2 <= length {
				if !ok || got != (at+1)*256+at+2 || next != at+2 {
					t.Errorf("GetW of %x at %d: %d, %d, %v", b, at, got, next, ok)
				}
			} else if ok || got != 0 || next != 0 {
				t.Errorf("GetW of %x, cut at %d: %d, %d, %v", b, at, got, next, ok)
			}
		}
		for _, at := range farPlaces(length) {
			if got, next, ok := impl.GetW(b, at); ok || got != 0 || next != 0 {
				t.Errorf("GetW of %x at %d: %d, %d, %v", b, at, got, next, ok)
			}
		}
	}
	if got, next, ok := impl.GetW(nil, 0); ok || got != 0 || next != 0 {
		t.Errorf("GetW of nil: %d, %d, %v", got, next, ok)
	}
}

// someText is a text of n bytes, of all kinds of them.
func someText(n int) string {
	b := make([]byte, n)
	for i := range b {
		b[i] = byte(i*37 + n)
	}
	return string(b)
}

func TestTextsComeBack(t *testing.T) {
	for n := range 61 {
		s := someText(n)
		for _, ahead := range []string{"", "x", "xyz"} {
			b := impl.PutText([]byte(ahead), s)
			if string(b) != ahead+"\x00"+string(rune(n))+s {
				t.Errorf("PutText of %d bytes: %x", n, b)
			}
			got, next, ok := impl.GetText(b, len(ahead))
			if !ok || got != s || next != len(b) {
				t.Errorf("GetText of %d bytes: %x, %d, %v", n, got, next, ok)
			}
			got, next, ok = impl.GetText(append(b, "more"...), len(ahead))
			if !ok || got != s || next != len(b) {
				t.Errorf("GetText of %d bytes with more behind: %x, %d, %v", n, got, next, ok)
			}
		}
	}
	if got := impl.PutText(nil, ""); string(got) != "\x00\x00" {
		t.Errorf("PutText of nothing: %x", got)
	}
}

func TestTextsThatAreTooLongAreNotPut(t *testing.T) {
	for _, n := range []int{61, 62, 120, 65535, 65536, 65538, 70000} {
		for _, ahead := range []string{"", "x", "xyz"} {
			if got := impl.PutText([]byte(ahead), someText(n)); string(got) != ahead {
				t.Errorf("PutText of %d bytes: %d bytes", n, len(got))
			}
		}
		if got := impl.PutText(nil, someText(n)); len(got) != 0 {
			t.Errorf("PutText of %d bytes behind nil: %d bytes", n, len(got))
		}
	}
	// the limit is of bytes, not of signs
	if got := impl.PutText(nil, strings.Repeat("ж", 30)); len(got) != 62 {
		t.Errorf("30 signs of two bytes: %d bytes", len(got))
	}
	if got := impl.PutText(nil, strings.Repeat("ж", 31)); len(got) != 0 {
		t.Errorf("31 signs of two bytes: %d bytes", len(got))
	}
}

func noText(t *testing.T, b []byte, at int) {
	t.Helper()
	if s, next, ok := impl.GetText(b, at); ok || s != "" || next != 0 {
		t.Errorf("GetText of %d bytes at %d: %x, %d, %v", len(b), at, s, next, ok)
	}
}

func TestGetTextOfTooLongAText(t *testing.T) {
	long := someText(70000)
	for _, n := range []int{61, 62, 255, 256, 258, 316, 32768, 65535} {
		noText(t, append(impl.PutW(nil, n), long...), 0)
		noText(t, append(impl.PutW(nil, n), long[:n]...), 0)
		noText(t, impl.PutW(nil, n), 0)
	}
	if s, next, ok := impl.GetText(append(impl.PutW(nil, 60), long...), 0); !ok || s != long[:60] || next != 62 {
		t.Errorf("60 bytes: %x, %d, %v", s, next, ok)
	}
}

func TestGetTextOfCutBytes(t *testing.T) {
	for n := range 61 {
		for _, ahead := range []string{"", "xyz"} {
			whole := impl.PutText([]byte(ahead), someText(n))
			for cut := range len(whole) {
				// what was cut off still lies in the spare room
				noText(t, whole[:cut], len(ahead))
				noText(t, bytes.Clone(whole[:cut]), len(ahead))
			}
		}
	}
	noText(t, nil, 0)
	noText(t, []byte{}, 0)
}

func TestGetTextOfWrongPlaces(t *testing.T) {
	for _, b := range [][]byte{nil, {}, {0}, {0, 0}, impl.PutText(nil, "hi"), make([]byte, 100)} {
		for _, at := range farPlaces(len(b)) {
			noText(t, b, at)
		}
		if len(b) > 0 {
			noText(t, b, len(b)-1)
		}
	}
}

func TestWordsAndTextsOneBehindAnother(t *testing.T) {
	words := []int{0, 1, 255, 256, 65535, 0x1234}
	texts := []string{"", "a", someText(60), "\x00\xff", "жук", someText(59)}
	var b []byte
	for i := range words {
		b = impl.PutText(impl.PutW(b, words[i]), texts[i])
	}
	at := 0
	for i := range words {
		n, next, ok := impl.GetW(b, at)
		if !ok || n != words[i] || next != at+2 {
			t.Fatalf("word %d: %d, %d, %v", i, n, next, ok)
		}
		s, behind, ok := impl.GetText(b, next)
		if !ok || s != texts[i] || behind != next+2+len(s) {
			t.Fatalf("text %d: %x, %d, %v", i, s, behind, ok)
		}
		at = behind
	}
	if at != len(b) {
		t.Errorf("%d of %d bytes are read", at, len(b))
	}
}

func TestSumAtKnownValues(t *testing.T) {
	all := make([]byte, 256)
	for i := range all {
		all[i] = byte(i)
	}
	for s, want := range map[string]int{
		"": 0xffff, "A": 0xb915, "hi": 0x6203, "123456789": 0x29b1,
		"\x00": 0xe1f0, "\x00\x00": 0x1d0f, "\x80": 0x7078, "\xff": 0xff00, "\xff\xff": 0,
		string(all): 0x3fbd,
	} {
		arg, _ := roomy(s)
		if got := impl.Sum(arg); got != want {
			t.Errorf("Sum of %x: %x, not %x", s, got, want)
		}
	}
	if got := impl.Sum(nil); got != 0xffff {
		t.Errorf("Sum of nil: %x", got)
	}
}

func TestBytesWithTheirSumBehindSumToNothing(t *testing.T) {
	for n := range 300 {
		b := []byte(someText(n))
		sum := impl.Sum(b)
		if sum < 0 || sum > 65535 {
			t.Fatalf("Sum of %d bytes: %d", n, sum)
		}
		if got := impl.Sum(impl.PutW(b, sum)); got != 0 {
			t.Errorf("%d bytes and their Sum: %x", n, got)
		}
	}
}

func TestSumTellsOneByteThatIsTurned(t *testing.T) {
	b := []byte(someText(20))
	sum := impl.Sum(b)
	for at := range b {
		for turn := 1; turn < 256; turn++ {
			c := bytes.Clone(b)
			c[at] ^= byte(turn)
			if impl.Sum(c) == sum {
				t.Errorf("byte %d turned by %x has the same Sum", at, turn)
			}
		}
	}
}

func TestWordsWriteNothingIntoTheirArguments(t *testing.T) {
	for _, s := range []string{"", "\x00", "\x00\x02hi", someText(80)} {
		checkRoom(t, "PutW", s, func(b []byte) []byte { return impl.PutW(b, 0x1234) })
		for _, n := range []int{0, 1, 60, 61, 200} {
			checkRoom(t, "PutText", s, func(b []byte) []byte { return impl.PutText(b, someText(n)) })
		}
		checkRoom(t, "GetW", s, func(b []byte) []byte { impl.GetW(b, 0); return nil })
		checkRoom(t, "GetText", s, func(b []byte) []byte { impl.GetText(b, 0); return nil })
		checkRoom(t, "Sum", s, func(b []byte) []byte { impl.Sum(b); return nil })
	}
}

func TestATextThatWasGotStays(t *testing.T) {
	b := impl.PutText(nil, "stays")
	s, _, _ := impl.GetText(b, 0)
	clear(b)
	if s != "stays" {
		t.Errorf("the text goes with the bytes: %q", s)
	}
}

func TestTwoAnswersOfOneArgumentShareNothing(t *testing.T) {
	arg, _ := roomy("ab")
	one, two := impl.PutW(arg, 1), impl.PutW(arg, 2)
	if string(one) != "ab\x00\x01" || string(two) != "ab\x00\x02" {
		t.Errorf("PutW: %x, %x", one, two)
	}
	one, two = impl.PutText(arg, "one"), impl.PutText(arg, "two")
	if string(one) != "ab\x00\x03one" || string(two) != "ab\x00\x03two" {
		t.Errorf("PutText: %x, %x", one, two)
	}
	// of an answer with room behind it, too
	head := impl.PutW(nil, 7)
	one, two = impl.PutW(head, 1), impl.PutW(head, 2)
	if string(one) != "\x00\x07\x00\x01" || string(two) != "\x00\x07\x00\x02" {
		t.Errorf("PutW of an answer: %x, %x", one, two)
	}
}
