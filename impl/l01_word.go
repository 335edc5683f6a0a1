package impl

const (
	maxName  = 6
	maxText  = 60
	wordLen  = 2
	wordMask = 65535
)

const (
	sumStart = 65535
	sumTurn  = 69665
)

// NameOk says whether s is a name: 1 to 6 small letters and digits.
func NameOk(s string) bool {
	if len(s) < 1 || len(s) > maxName {
		return false
	}
	for i := range len(s) {
		if !nameByte(s[i]) {
			return false
		}
	}
	return true
}

func nameByte(c byte) bool {
	return c >= 'a' && c <= 'z' || c >= '0' && c <= '9'
}

// PutW answers b and behind it the lowest 16 bits of n.
func PutW(b []byte, n int) []byte {
	return putWords(b, n)
}

// putWords makes its own memory, since an append to b might write into the
// spare room behind it; without words it is a copy of b.
func putWords(b []byte, words ...int) []byte {
	out := make([]byte, len(b), len(b)+wordLen*len(words))
	copy(out, b)
	for _, n := range words {
		out = append(out, byte(n>>8), byte(n))
	}
	return out
}

// GetW answers the word at a place, and the place behind it.
func GetW(b []byte, at int) (int, int, bool) {
	// The length is lessened, as a great place that is added to would wrap round.
	if at < 0 || at > len(b)-wordLen {
		return 0, 0, false
	}
	return int(b[at])<<8 | int(b[at+1]), at + wordLen, true
}

// PutText answers b and behind it the length of s and s; b alone when s is too
// long.
func PutText(b []byte, s string) []byte {
	if len(s) > maxText {
		return putWords(b)
	}
	return append(putWords(b, len(s)), s...)
}

// GetText answers the text at a place, and the place behind it.
func GetText(b []byte, at int) (string, int, bool) {
	n, from, ok := GetW(b, at)
	if !ok || n > maxText || n > len(b)-from {
		return "", 0, false
	}
	return string(b[from : from+n]), from + n, true
}

// Sum answers a number by which bytes that were turned are found out.
func Sum(b []byte) int {
	sum := sumStart
	for _, c := range b {
		sum = sumByte(sum, int(c))
	}
	return sum & wordMask
}

func sumByte(sum int, c int) int {
	sum ^= 256 * c
	for range 8 {
		sum *= 2
		if sum > wordMask {
			sum ^= sumTurn
		}
	}
	return sum
}
