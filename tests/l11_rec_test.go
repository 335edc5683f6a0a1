package tests

import (
	"bytes"
	"fmt"
	"math"
	"slices"
	"strings"
	"testing"

	"loop.example/g00475/impl"
)

// the limits of a record, written out apart from the program
const (
	wordMost = 65535
	whoMost  = 9
	codeMost = 6
	longMost = 60
)

// the kinds of records, written out likewise
const (
	kindRow   = 1
	kindGone  = 2
	kindPhase = 3
	kindWho   = 4
)

// wordText answers the two bytes of a number, the higher one first.
func wordText(n int) string {
	return string([]byte{byte(n >> 8), byte(n)})
}

func longText(s string) string {
	return wordText(len(s)) + s
}

// sumBits works the Sum out bit by bit, each one as it comes.
func sumBits(b string) int {
	sum := 0xffff
	for i := range len(b) {
		for bit := 7; bit >= 0; bit-- {
			turns := sum>>15 != int(b[i])>>bit&1
			sum = sum << 1 & 0xffff
			if turns {
				sum ^= 0x1021
			}
		}
	}
	return sum
}

// sealed answers bytes and the Sum of them behind.
func sealed(body string) string {
	return body + wordText(sumBits(body))
}

// rawRow answers the bytes that say this row, right or not.
func rawRow(r impl.Row) string {
	b := longText(r.Key) + string([]byte{byte(r.Has), 0})
	if r.Aside {
		b = longText(r.Key) + string([]byte{byte(r.Has), 1})
	}
	for i, c := range []impl.Cell{r.Old, r.New} {
		if r.Has>>i%2 != 0 {
			b += string([]byte{byte(c.Tag)}) + longText(string(c.B))
		}
	}
	return b
}

// rawRec answers the bytes that say this record, right or not, without a Sum.
func rawRec(gen int, place int, r impl.Rec) string {
	what := map[int]string{kindRow: rawRow(r.R), kindGone: longText(r.Key), kindPhase: string([]byte{byte(r.N)})}[r.Kind]
	return wordText(gen) + wordText(place) + string([]byte{byte(r.Kind)}) + what + string([]byte{byte(r.Who), byte(r.Code)}) + wordText(r.Seq)
}

func sameRec(a impl.Rec, b impl.Rec) bool {
	return a.Kind == b.Kind && sameRow(a.R, b.R) && a.Key == b.Key && a.N == b.N && a.Who == b.Who && a.Seq == b.Seq && a.Code == b.Code
}

func copiedRec(r impl.Rec) impl.Rec {
	r.R = copiedRow(r.R)
	return r
}

// by answers a record by somebody, with a number and a code.
func by(r impl.Rec, who int, seq int, code int) impl.Rec {
	r.Who, r.Seq, r.Code = who, seq, code
	return r
}

func rowRec(r impl.Row) impl.Rec {
	return impl.Rec{Kind: kindRow, R: r}
}

func goneRec(key string) impl.Rec {
	return impl.Rec{Kind: kindGone, Key: key}
}

func phaseRec(n int) impl.Rec {
	return impl.Rec{Kind: kindPhase, N: n}
}

func whoRec(who int, seq int, code int) impl.Rec {
	return by(impl.Rec{Kind: kindWho}, who, seq, code)
}

// recOk says by the books whether a record is right: it is as one that has only
// what its kind names.
func (z shelf) recOk(r impl.Rec) bool {
	named := impl.Rec{Kind: r.Kind, Who: r.Who}
	good := r.Who >= 0 && r.Who <= whoMost
	switch r.Kind {
	case kindRow:
		named.R = r.R
		good = good && z.rowOk(r.R)
	case kindGone:
		named.Key = r.Key
		good = good && namePattern.MatchString(r.Key)
	case kindPhase:
		named.N = r.N
		good = good && slices.Contains(allPhases(), r.N)
	case kindWho:
		good = good && r.Who != 0
	default:
		return false
	}
	if r.Who != 0 {
		named.Seq, named.Code = r.Seq, r.Code
		good = good && r.Seq >= 0 && r.Seq <= wordMost && r.Code >= 0 && r.Code <= codeMost
	}
	return good && sameRec(r, named)
}

// A tape is read from the front on; it is torn once a part is not there.
type tape struct {
	rest string
	torn bool
}

func (p *tape) take(n int) string {
	if p.torn || n > len(p.rest) {
		*p = tape{torn: true}
		return ""
	}
	s := p.rest[:n]
	p.rest = p.rest[n:]
	return s
}

func (p *tape) number(size int) int {
	n := 0
	for _, c := range []byte(p.take(size)) {
		n = n*256 + int(c)
	}
	return n
}

func (p *tape) text() string {
	n := p.number(2)
	if n > longMost {
		p.torn = true
	}
	return p.take(n)
}

func (p *tape) row() impl.Row {
	r := impl.Row{Key: p.text(), Has: p.number(1)}
	set := p.number(1)
	r.Aside = set == 1
	p.torn = p.torn || set > 1
	for i, c := range []*impl.Cell{&r.Old, &r.New} {
		if r.Has>>i%2 != 0 {
			*c = cell(p.number(1), p.text())
		}
	}
	return r
}

// readRow answers by the books which row stands at a place, and the place behind.
func (z shelf) readRow(b string, at int) (impl.Row, int, bool) {
	if at < 0 || at > len(b) {
		return impl.Row{}, 0, false
	}
	p := &tape{rest: b[at:]}
	r := p.row()
	if p.torn || !z.rowOk(r) {
		return impl.Row{}, 0, false
	}
	return r, len(b) - len(p.rest), true
}

// readRec answers by the books which record these bytes are of.
func (z shelf) readRec(b string) (int, int, impl.Rec, bool) {
	if len(b) < 2 || sealed(b[:len(b)-2]) != b {
		return 0, 0, impl.Rec{}, false
	}
	p := &tape{rest: b[:len(b)-2]}
	gen, place := p.number(2), p.number(2)
	r := impl.Rec{Kind: p.number(1)}
	switch r.Kind {
	case kindRow:
		r.R = p.row()
	case kindGone:
		r.Key = p.text()
	case kindPhase:
		r.N = p.number(1)
	}
	r.Who, r.Code, r.Seq = p.number(1), p.number(1), p.number(2)
	if p.torn || p.rest != "" || !z.recOk(r) {
		return 0, 0, impl.Rec{}, false
	}
	return gen, place, r, true
}

// checkRowAt fails when another row than that is got at a place, or another place
// behind it.
func checkRowAt(t *testing.T, b string, at int, want impl.Row, behind int) {
	t.Helper()
	if r, next, ok := impl.GetRow([]byte(b), at); !ok || next != behind || !sameRow(r, want) {
		t.Errorf("GetRow of %x at %d is %v, %d, %v; not %v, %d", b, at, r, next, ok, want, behind)
	}
}

// noRowAt fails when a row is got at a place.
func noRowAt(t *testing.T, b string, at int) {
	t.Helper()
	arg, _ := roomy(b)
	for _, one := range [][]byte{[]byte(b), arg} {
		if r, next, ok := impl.GetRow(one, at); ok || next != 0 || !isZeroRow(r) {
			t.Errorf("GetRow of %x at %d is %v, %d, %v", b, at, r, next, ok)
		}
	}
}

// checkRowBytes fails when a row has other bytes than these, or does not come
// back of them.
func checkRowBytes(t *testing.T, r impl.Row, want string) {
	t.Helper()
	for _, ahead := range []string{"", "\x00", "xyz", want, strings.Repeat("a", 200)} {
		b := impl.PutRow([]byte(ahead), copiedRow(r))
		if string(b) != ahead+want {
			t.Errorf("PutRow of %v behind %x is %x, not %x", r, ahead, b, ahead+want)
		}
		checkRowAt(t, string(b), len(ahead), r, len(ahead)+len(want))
		checkRowAt(t, string(b)+"\x00more", len(ahead), r, len(ahead)+len(want))
	}
	if b := impl.PutRow(nil, r); string(b) != want {
		t.Errorf("PutRow of %v behind nil is %x, not %x", r, b, want)
	}
}

// notPut fails when PutRow answers anything but b.
func notPut(t *testing.T, r impl.Row) {
	t.Helper()
	for _, b := range []string{"", "\x00", "xyz", strings.Repeat("a", 200)} {
		if got := impl.PutRow([]byte(b), copiedRow(r)); string(got) != b {
			t.Errorf("PutRow of %v behind %x is %x", r, b, got)
		}
	}
	if got := impl.PutRow(nil, r); len(got) != 0 {
		t.Errorf("PutRow of %v behind nil is %x", r, got)
	}
}

// checkRowAsTape holds what is got at a place against the books.
func checkRowAsTape(t *testing.T, z shelf, b string, at int) bool {
	t.Helper()
	want, behind, is := z.readRow(b, at)
	r, next, ok := impl.GetRow([]byte(b), at)
	if ok != is || next != behind || !sameRow(r, want) {
		t.Errorf("GetRow of %x at %d is %v, %d, %v; not %v, %d, %v", b, at, r, next, ok, want, behind, is)
	}
	return is
}

// checkRecBytes fails when a record has other bytes than these, or does not come
// back of them.
func checkRecBytes(t *testing.T, gen int, place int, r impl.Rec, want string) {
	t.Helper()
	if !impl.RecOk(r) {
		t.Errorf("RecOk(%v) is false", r)
	}
	b := impl.PutRec(gen, place, copiedRec(r))
	if string(b) != want {
		t.Errorf("PutRec(%d, %d, %v) is %x, not %x", gen, place, r, b, want)
	}
	if g, p, got, ok := impl.GetRec([]byte(want)); !ok || g != gen || p != place || !sameRec(got, r) {
		t.Errorf("GetRec of %x is %d, %d, %v, %v; not %d, %d, %v", want, g, p, got, ok, gen, place, r)
	}
}

// noRec fails when a record is got.
func noRec(t *testing.T, b string) {
	t.Helper()
	arg, _ := roomy(b)
	for _, one := range [][]byte{[]byte(b), arg} {
		if gen, place, r, ok := impl.GetRec(one); ok || gen != 0 || place != 0 || !sameRec(r, impl.Rec{}) {
			t.Errorf("GetRec of %x is %d, %d, %v, %v", b, gen, place, r, ok)
		}
	}
}

// checkRecAsTape holds what is got of bytes against the books.
func checkRecAsTape(t *testing.T, z shelf, b string) bool {
	t.Helper()
	g, p, want, is := z.readRec(b)
	gen, place, r, ok := impl.GetRec([]byte(b))
	if ok != is || gen != g || place != p || !sameRec(r, want) {
		t.Errorf("GetRec of %x is %d, %d, %v, %v; not %d, %d, %v, %v", b, gen, place, r, ok, g, p, want, is)
	}
	return is
}

// notRight fails when a record is right, or is put, or is got of the bytes that
// say it with a right Sum.
func notRight(t *testing.T, r impl.Rec) {
	t.Helper()
	if impl.RecOk(copiedRec(r)) {
		t.Errorf("RecOk(%v) is true", r)
	}
	for _, at := range []int{0, 5, wordMost} {
		if b := impl.PutRec(at, at, copiedRec(r)); len(b) != 0 {
			t.Errorf("PutRec(%d, %d, %v) is %x", at, at, r, b)
		}
	}
}

// alsoNotGot fails when a record is right, and when it is got of the bytes that
// say it: it is one that bytes can say.
func alsoNotGot(t *testing.T, r impl.Rec) {
	t.Helper()
	notRight(t, r)
	noRec(t, sealed(rawRec(0, 5, r)))
}

// someRows are right rows, one in each way.
func someRows() []impl.Row {
	return []impl.Row{
		oldRow(impl.CsLat, "\xe9"), keyed("abcdef", oldRow(impl.CsEuc, "")), aside(oldRow(impl.CsWin, "\x81")), oldRow(impl.CsKoi, strings.Repeat("\xc1", 20)),
		keyed("0z", newRow("é")), aside(newRow("€")), newRow(""), newRow(strings.Repeat("z", 20)),
		bothRow(impl.CsKoi, "\xc1", "а"), aside(bothRow(impl.CsNine, "\xa4a", "€a")), bothRow(impl.CsLat, "", ""), keyed("012345", bothRow(impl.CsEuc, strings.Repeat("\xa4\xa2", 6)+"aa", strings.Repeat("あ", 6)+"aa")),
	}
}

// someRecs are right records of each kind, of somebody and of nobody.
func someRecs() []impl.Rec {
	l := []impl.Rec{whoRec(1, 0, 0), whoRec(9, 65535, 6), whoRec(2, 258, 3)}
	var alone []impl.Rec
	for _, r := range someRows() {
		alone = append(alone, rowRec(r))
	}
	for _, key := range []string{"k", "0", "abcdef"} {
		alone = append(alone, goneRec(key))
	}
	for _, n := range allPhases() {
		alone = append(alone, phaseRec(n))
	}
	for i, r := range alone {
		l = append(l, r, by(r, 1, 0, 0), by(r, 9, 65535, 6), by(r, 1+i%9, i*999, i%7))
	}
	return l
}

func TestTheKindsOfRecords(t *testing.T) {
	if impl.RcRow != kindRow || impl.RcGone != kindGone || impl.RcPhase != kindPhase || impl.RcWho != kindWho {
		t.Errorf("the kinds are %d, %d, %d, %d", impl.RcRow, impl.RcGone, impl.RcPhase, impl.RcWho)
	}
}

func TestTheSumOfRecordsIsTheSumOfBytes(t *testing.T) {
	for n := range 200 {
		if s := someText(n); impl.Sum([]byte(s)) != sumBits(s) {
			t.Errorf("Sum of %x is %x, and bit by bit %x", s, impl.Sum([]byte(s)), sumBits(s))
		}
	}
}

func TestTheBytesOfRows(t *testing.T) {
	for _, x := range []struct {
		r impl.Row
		b string
	}{
		{oldRow(impl.CsLat, "\xe9"), "\x00\x01k\x01\x00\x01\x00\x01\xe9"},
		{keyed("abcdef", oldRow(impl.CsEuc, "")), "\x00\x06abcdef\x01\x00\x05\x00\x00"},
		{keyed("0z", newRow("é")), "\x00\x020z\x02\x00\x00\x00\x02\xc3\xa9"},
		{newRow(""), "\x00\x01k\x02\x00\x00\x00\x00"},
		{bothRow(impl.CsKoi, "\xc1", "а"), "\x00\x01k\x03\x00\x03\x00\x01\xc1\x00\x00\x02\xd0\xb0"},
		{bothRow(impl.CsWin, "", ""), "\x00\x01k\x03\x00\x04\x00\x00\x00\x00\x00"},
		{aside(oldRow(impl.CsWin, "\x81")), "\x00\x01k\x01\x01\x04\x00\x01\x81"},
		{aside(newRow("€")), "\x00\x01k\x02\x01\x00\x00\x03\xe2\x82\xac"},
		{aside(bothRow(impl.CsNine, "\xa4", "€")), "\x00\x01k\x03\x01\x02\x00\x01\xa4\x00\x00\x03\xe2\x82\xac"},
		{oldRow(impl.CsLat, strings.Repeat("\xe9", 20)), "\x00\x01k\x01\x00\x01\x00\x14" + strings.Repeat("\xe9", 20)},
		{bothRow(impl.CsLat, strings.Repeat("z", 20), strings.Repeat("z", 20)), "\x00\x01k\x03\x00\x01\x00\x14" + strings.Repeat("z", 20) + "\x00\x00\x14" + strings.Repeat("z", 20)},
	} {
		checkRowBytes(t, x.r, x.b)
	}
}

func TestRightRowsComeBack(t *testing.T) {
	for _, r := range append(rightRows(), someRows()...) {
		checkRowBytes(t, r, rawRow(r))
	}
}

func TestRowsThatAreNotRightAreNotPut(t *testing.T) {
	z := shelfOf()
	for _, r := range wrongRows() {
		for _, one := range []impl.Row{r, aside(r)} {
			if z.rowOk(one) {
				continue
			}
			notPut(t, one)
			// Bytes have no room for what is in the place of a cell that there is not,
			// nor for great numbers; so what they say may be right.
			checkRowAsTape(t, z, rawRow(one), 0)
		}
	}
}

func TestBytesThatSayARowThatIsNotRight(t *testing.T) {
	for _, r := range []impl.Row{
		{}, {Key: "k"}, {Key: "k", Has: 4}, {Key: "k", Has: 4, Aside: true},
		keyed("", newRow("a")), keyed("abcdefg", newRow("a")), keyed("K", oldRow(impl.CsLat, "a")), keyed("aB", bothRow(impl.CsLat, "a", "a")), keyed("é", newRow("a")), keyed(strings.Repeat("a", 60), newRow("a")),
		oldRow(0, "a"), oldRow(6, "a"), oldRow(255, "a"), bothRow(0, "a", "a"), bothRow(6, "a", "a"), bothRow(255, "", ""),
		{Key: "k", New: cell(1, "a"), Has: onlyNew}, {Key: "k", New: cell(5, ""), Has: onlyNew}, {Key: "k", New: cell(6, "a"), Has: onlyNew}, {Key: "k", Old: cell(1, "a"), New: cell(1, "a"), Has: both}, {Key: "k", Old: cell(1, "a"), New: cell(255, "a"), Has: both},
		oldRow(impl.CsWin, "\x81"), oldRow(impl.CsKoi, "\x80"), newRow("\xff"), aside(newRow("\xff")), bothRow(impl.CsWin, "\x81", "a"), aside(bothRow(impl.CsWin, "\x81", "a")),
		bothRow(impl.CsLat, "a", "b"), aside(bothRow(impl.CsLat, "\xe9", "e")), bothRow(impl.CsNine, "\xa4", "¤"),
		oldRow(impl.CsLat, strings.Repeat("a", 21)), newRow(strings.Repeat("a", 21)), oldRow(impl.CsLat, strings.Repeat("a", 60)), newRow(strings.Repeat("a", 60)), bothRow(impl.CsLat, strings.Repeat("a", 21), strings.Repeat("a", 21)), aside(oldRow(impl.CsWin, strings.Repeat("\x81", 21))),
	} {
		b := rawRow(r)
		for _, behind := range []string{"", "\x00", b, strings.Repeat("\x00", 99)} {
			noRowAt(t, b+behind, 0)
			noRowAt(t, "xyz"+b+behind, 3)
		}
		alsoNotGot(t, rowRec(r))
		alsoNotGot(t, by(rowRec(r), 1, 7, 0))
	}
}

func TestBytesOfAside(t *testing.T) {
	for _, x := range []struct{ ahead, behind string }{
		{"\x00\x01k\x01", "\x01\x00\x01a"}, {"\x00\x01k\x02", "\x00\x00\x01a"}, {"\x00\x01k\x03", "\x01\x00\x01a\x00\x00\x01a"},
	} {
		for n := range 256 {
			b := x.ahead + string([]byte{byte(n)}) + x.behind
			r, next, ok := impl.GetRow([]byte(b), 0)
			if n > 1 {
				noRowAt(t, b, 0)
				noRec(t, sealed("\x00\x01\x00\x02\x01"+b+"\x00\x00\x00\x00"))
			} else if !ok || next != len(b) || r.Aside != (n == 1) {
				t.Errorf("GetRow of %x is %v, %d, %v", b, r, next, ok)
			}
		}
	}
	// nothing that could be said is lost when it is set aside
	checkRowAt(t, "\x00\x01k\x01\x01\x03\x00\x01\x80", 0, aside(oldRow(impl.CsKoi, "\x80")), 9)
	noRowAt(t, "\x00\x01k\x01\x00\x03\x00\x01\x80", 0)
}

func TestBytesOfWhatARowHas(t *testing.T) {
	cells := map[int]string{1: "\x01\x00\x01a", 2: "\x00\x00\x01a", 3: "\x01\x00\x01a\x00\x00\x01a"}
	for n := range 256 {
		for has, b := range cells {
			b = "\x00\x01k" + string([]byte{byte(n)}) + "\x00" + b
			if n != has {
				r, next, ok := impl.GetRow([]byte(b), 0)
				// of both only the Old is read, where only that is told
				if n == 1 && has == 3 && ok && next == 9 && sameRow(r, oldRow(impl.CsLat, "a")) {
					continue
				}
				noRowAt(t, b, 0)
			}
		}
	}
	for _, has := range []int{0, 4, 5, 6, 7, 8, 255} {
		noRowAt(t, "\x00\x01k"+string([]byte{byte(has)})+"\x00", 0)
	}
	checkRowAt(t, "\x00\x01k\x03\x00\x01\x00\x01a\x00\x00\x01a", 0, bothRow(impl.CsLat, "a", "a"), 13)
}

func TestBytesOfTags(t *testing.T) {
	for n := range 256 {
		tag := string([]byte{byte(n)})
		old := "\x00\x01k\x01\x00" + tag + "\x00\x01a"
		fresh := "\x00\x01k\x02\x00" + tag + "\x00\x01a"
		if slices.Contains(oldTags(), n) {
			checkRowAt(t, old, 0, oldRow(n, "a"), 9)
			checkRowAt(t, "\x00\x01k\x03\x00"+tag+"\x00\x01a\x00\x00\x01a", 0, bothRow(n, "a", "a"), 13)
		} else {
			noRowAt(t, old, 0)
			noRowAt(t, "\x00\x01k\x03\x00"+tag+"\x00\x01a\x00\x00\x01a", 0)
		}
		if n == impl.CsUtf {
			checkRowAt(t, fresh, 0, newRow("a"), 9)
		} else {
			noRowAt(t, fresh, 0)
			noRowAt(t, "\x00\x01k\x03\x00\x01\x00\x01a"+tag+"\x00\x01a", 0)
		}
	}
}

func TestRowsWithEachByteTurnedAsTheBooksHaveThem(t *testing.T) {
	z := shelfOf()
	met := map[bool]int{}
	for _, r := range someRows() {
		whole := rawRow(r)
		for at := range len(whole) {
			for c := range 256 {
				b := []byte("p" + whole + "\x00\x02ab")
				b[at+1] = byte(c)
				met[checkRowAsTape(t, z, string(b), 1)]++
			}
		}
	}
	if met[true] < 1000 || met[false] < 1000 {
		t.Errorf("rows are got %d times, and not %d times", met[true], met[false])
	}
}

func TestRowsAreCutAtEachPlace(t *testing.T) {
	z := shelfOf()
	for _, r := range someRows() {
		whole := rawRow(r)
		for cut := range len(whole) {
			noRowAt(t, whole[:cut], 0)
			noRowAt(t, "xyz"+whole[:cut], 3)
			// what was cut off still lies in the spare room
			if got, next, ok := impl.GetRow([]byte(whole)[:cut], 0); ok || next != 0 || !isZeroRow(got) {
				t.Errorf("GetRow of %x, cut at %d, is %v, %d, %v", whole, cut, got, next, ok)
			}
			checkRowAsTape(t, z, whole[cut+1:], 0)
		}
	}
	noRowAt(t, "", 0)
}

func TestRowsAtWrongPlaces(t *testing.T) {
	for _, r := range someRows() {
		b := rawRow(r)
		for _, at := range farPlaces(len(b)) {
			noRowAt(t, b, at)
		}
		noRowAt(t, b, len(b)-1)
		noRowAt(t, b, 1)
	}
	for _, at := range append(farPlaces(0), 0, 1) {
		if r, next, ok := impl.GetRow(nil, at); ok || next != 0 || !isZeroRow(r) {
			t.Errorf("GetRow of nil at %d is %v, %d, %v", at, r, next, ok)
		}
	}
}

func TestTextsOfARowThatAreTooLong(t *testing.T) {
	long := strings.Repeat("a", 70000)
	for _, n := range []int{21, 60, 61, 62, 255, 256, 257, 32768, 65535} {
		for _, behind := range []string{long[:n], long, long[:n] + "\x01\x00\x01\x00\x01a", ""} {
			text := wordText(n) + behind
			for _, ahead := range []string{"", "\x00\x01k\x01\x00\x01", "\x00\x01k\x01\x01\x01", "\x00\x01k\x02\x00\x00", "\x00\x01k\x03\x00\x01", "\x00\x01k\x03\x00\x01\x00\x01a\x00"} {
				noRowAt(t, ahead+text, 0)
				noRec(t, sealed("\x00\x01\x00\x02\x01"+ahead+text+"\x00\x00\x00\x00"))
			}
			noRec(t, sealed("\x00\x01\x00\x02\x02"+text+"\x00\x00\x00\x00"))
		}
	}
}

func TestRowsOneBehindAnother(t *testing.T) {
	var b []byte
	for _, r := range someRows() {
		b = impl.PutRow(b, r)
	}
	at := 0
	for _, r := range someRows() {
		got, next, ok := impl.GetRow(b, at)
		if !ok || !sameRow(got, r) {
			t.Fatalf("at %d: %v, %v; not %v", at, got, ok, r)
		}
		at = next
	}
	if at != len(b) {
		t.Errorf("%d of %d bytes are read", at, len(b))
	}
}

// The Sums are worked out apart from all else here.
func TestTheBytesOfRecords(t *testing.T) {
	for _, x := range []struct {
		gen, place int
		r          impl.Rec
		b          string
	}{
		{1, 2, phaseRec(3), "\x00\x01\x00\x02\x03\x03\x00\x00\x00\x00\x4a\xcb"},
		{65535, 0, by(phaseRec(7), 9, 258, 6), "\xff\xff\x00\x00\x03\x07\x09\x06\x01\x02\xfb\x90"},
		{258, 5, goneRec("k"), "\x01\x02\x00\x05\x02\x00\x01k\x00\x00\x00\x00\x6f\xd6"},
		{0, 65535, by(goneRec("abcdef"), 9, 65535, 6), "\x00\x00\xff\xff\x02\x00\x06abcdef\x09\x06\xff\xff\x4b\x84"},
		{258, 5, whoRec(9, 65535, 3), "\x01\x02\x00\x05\x04\x09\x03\xff\xff\x01\xd8"},
		{0, 0, whoRec(1, 0, 0), "\x00\x00\x00\x00\x04\x01\x00\x00\x00\xe7\xc0"},
		{1, 0, rowRec(oldRow(impl.CsLat, "\xe9")), "\x00\x01\x00\x00\x01\x00\x01k\x01\x00\x01\x00\x01\xe9\x00\x00\x00\x00\xe7\xc0"},
		{60000, 29, by(rowRec(aside(keyed("k0", newRow("€")))), 2, 7, 0), "\xea\x60\x00\x1d\x01\x00\x02k0\x02\x01\x00\x00\x03\xe2\x82\xac\x02\x00\x00\x07\xb0\xa7"},
		{258, 5, by(rowRec(bothRow(impl.CsKoi, "\xc1", "а")), 1, 7, 4), "\x01\x02\x00\x05\x01\x00\x01k\x03\x00\x03\x00\x01\xc1\x00\x00\x02\xd0\xb0\x01\x04\x00\x07\x5b\xc3"},
		{258, 5, by(rowRec(aside(oldRow(impl.CsWin, "\x81"))), 3, 256, 6), "\x01\x02\x00\x05\x01\x00\x01k\x01\x01\x04\x00\x01\x81\x03\x06\x01\x00\xb1\xb8"},
	} {
		checkRecBytes(t, x.gen, x.place, x.r, x.b)
	}
}

func TestRecordsComeBack(t *testing.T) {
	for _, r := range someRecs() {
		for _, at := range [][2]int{{0, 0}, {1, 2}, {65535, 65535}, {256, 255}, {60000, 30}} {
			checkRecBytes(t, at[0], at[1], r, sealed(rawRec(at[0], at[1], r)))
		}
	}
	for _, r := range rightRows() {
		checkRecBytes(t, 3, 4, rowRec(r), sealed(rawRec(3, 4, rowRec(r))))
		checkRecBytes(t, 3, 4, by(rowRec(r), 5, 6, 1), sealed(rawRec(3, 4, by(rowRec(r), 5, 6, 1))))
	}
}

func TestRecordsWithOneByteTurnedDoNotComeBack(t *testing.T) {
	for _, r := range someRecs() {
		whole := impl.PutRec(258, 5, r)
		if len(whole) < 11 {
			t.Fatalf("PutRec of %v is %x", r, whole)
		}
		for at := range whole {
			for turn := 1; turn < 256; turn++ {
				b := bytes.Clone(whole)
				b[at] ^= byte(turn)
				if gen, place, got, ok := impl.GetRec(b); ok || gen != 0 || place != 0 || !sameRec(got, impl.Rec{}) {
					t.Errorf("GetRec of %x, turned at %d, is %d, %d, %v, %v", b, at, gen, place, got, ok)
				}
			}
		}
	}
}

func TestGenerationsAndPlaces(t *testing.T) {
	for _, r := range []impl.Rec{phaseRec(0), goneRec("k"), whoRec(1, 1, 1), rowRec(newRow("a")), by(phaseRec(7), 1, 2, 3)} {
		for _, n := range []int{0, 1, 255, 256, 60000, 60001, 65534, 65535} {
			checkRecBytes(t, n, 7, r, sealed(rawRec(n, 7, r)))
			checkRecBytes(t, 7, n, r, sealed(rawRec(7, n, r)))
			checkRecBytes(t, n, n, r, sealed(rawRec(n, n, r)))
		}
		for _, n := range append(farNumbers(), -1, 65536, 65537, 1<<17) {
			for _, b := range [][]byte{impl.PutRec(n, 7, r), impl.PutRec(7, n, r), impl.PutRec(n, n, r), impl.PutRec(0, n, r), impl.PutRec(n, 65535, r)} {
				if len(b) != 0 {
					t.Errorf("PutRec of %v at %d is %x", r, n, b)
				}
			}
		}
	}
}

func TestKindsAtTheirEdges(t *testing.T) {
	z := shelfOf()
	for _, r := range []impl.Rec{rowRec(newRow("a")), goneRec("k"), phaseRec(0), phaseRec(3), whoRec(1, 1, 1), {}, by(phaseRec(0), 1, 2, 3), by(goneRec("k"), 1, 2, 3), by(rowRec(newRow("a")), 1, 2, 3)} {
		for _, kind := range append(farNumbers(), -1, 0, 5, 6, 255, 256, 257, 258, 259, 260) {
			r.Kind = kind
			notRight(t, r)
		}
		for _, kind := range []int{1, 2, 3, 4} {
			r.Kind = kind
			if impl.RecOk(r) != z.recOk(r) {
				t.Errorf("RecOk(%v) is %v", r, impl.RecOk(r))
			}
		}
	}
	for kind := range 256 {
		if kind < 1 || kind > 4 {
			noRec(t, sealed("\x00\x01\x00\x02"+string([]byte{byte(kind)})+"\x01\x00\x00\x00"))
			noRec(t, sealed("\x00\x01\x00\x02"+string([]byte{byte(kind)})+"\x00\x00\x00\x00"))
			noRec(t, sealed("\x00\x01\x00\x02"+string([]byte{byte(kind)})+"\x03\x00\x00\x00\x00"))
			noRec(t, sealed("\x00\x01\x00\x02"+string([]byte{byte(kind)})+"\x00\x01k\x00\x00\x00\x00"))
		}
	}
}

func TestPhasesOfRecords(t *testing.T) {
	for _, n := range allPhases() {
		checkRecBytes(t, 1, 2, phaseRec(n), sealed("\x00\x01\x00\x02\x03"+string([]byte{byte(n)})+"\x00\x00\x00\x00"))
	}
	for n := 8; n < 256; n++ {
		alsoNotGot(t, phaseRec(n))
		alsoNotGot(t, by(phaseRec(n), 1, 2, 3))
	}
	for _, n := range noPhases() {
		notRight(t, phaseRec(n))
		notRight(t, by(phaseRec(n), 1, 2, 3))
	}
}

func TestKeysThatAreGone(t *testing.T) {
	for _, key := range []string{"a", "z", "0", "9", "ab", "abcdef", "012345"} {
		checkRecBytes(t, 1, 2, goneRec(key), sealed("\x00\x01\x00\x02\x02"+longText(key)+"\x00\x00\x00\x00"))
		checkRecBytes(t, 1, 2, by(goneRec(key), 1, 2, 3), sealed("\x00\x01\x00\x02\x02"+longText(key)+"\x01\x03\x00\x02"))
	}
	for _, key := range noNames() {
		alsoNotGot(t, goneRec(key))
		alsoNotGot(t, by(goneRec(key), 1, 2, 3))
	}
}

func TestByWhomARecordIs(t *testing.T) {
	for _, r := range []impl.Rec{phaseRec(0), phaseRec(7), goneRec("k"), rowRec(oldRow(impl.CsLat, "a")), rowRec(newRow("a"))} {
		for who := range 10 {
			checkRecBytes(t, 1, 2, by(r, who, 0, 0), sealed(rawRec(1, 2, by(r, who, 0, 0))))
		}
		for who := 10; who < 256; who++ {
			alsoNotGot(t, by(r, who, 0, 0))
			alsoNotGot(t, by(r, who, 1, 1))
		}
		for _, who := range append(farNumbers(), -1, -9, 256, 257, 265) {
			notRight(t, by(r, who, 0, 0))
			notRight(t, by(r, who, 1, 1))
		}
	}
	for who := 1; who <= whoMost; who++ {
		checkRecBytes(t, 1, 2, whoRec(who, 7, 1), sealed("\x00\x01\x00\x02\x04"+string([]byte{byte(who)})+"\x01\x00\x07"))
	}
	for _, who := range []int{0, 10, 11, 128, 255} {
		alsoNotGot(t, whoRec(who, 0, 0))
		alsoNotGot(t, whoRec(who, 7, 1))
	}
	for _, who := range append(farNumbers(), -1, 256, 257) {
		notRight(t, whoRec(who, 0, 0))
		notRight(t, whoRec(who, 7, 1))
	}
}

func TestNumbersAndCodesOfRecords(t *testing.T) {
	for _, r := range []impl.Rec{whoRec(1, 0, 0), whoRec(9, 0, 0), by(phaseRec(0), 1, 0, 0), by(goneRec("k"), 9, 0, 0), by(rowRec(newRow("a")), 5, 0, 0)} {
		for _, seq := range []int{0, 1, 255, 256, 60000, 65534, 65535} {
			for code := range 7 {
				one := by(r, r.Who, seq, code)
				checkRecBytes(t, 1, 2, one, sealed(rawRec(1, 2, one)))
			}
			for code := 7; code < 256; code++ {
				alsoNotGot(t, by(r, r.Who, seq, code))
			}
		}
		for _, n := range append(farNumbers(), -1, 65536, 65537) {
			notRight(t, by(r, r.Who, n, 0))
			notRight(t, by(r, r.Who, n, 6))
			notRight(t, by(r, r.Who, 0, n))
			notRight(t, by(r, r.Who, 65535, n))
		}
		for _, code := range []int{-1, 7, 256, 257, 262} {
			notRight(t, by(r, r.Who, 1, code))
		}
	}
}

// What nobody asked for has neither a number nor a code.
func TestRecordsOfNobody(t *testing.T) {
	for _, r := range []impl.Rec{phaseRec(0), phaseRec(7), goneRec("k"), rowRec(oldRow(impl.CsLat, "a")), rowRec(aside(newRow("a")))} {
		checkRecBytes(t, 1, 2, r, sealed(rawRec(1, 2, r)))
		for _, seq := range []int{0, 1, 255, 256, 65535} {
			for code := range 8 {
				if seq != 0 || code != 0 {
					alsoNotGot(t, by(r, 0, seq, code))
				}
			}
		}
		for _, n := range append(farNumbers(), -1, 65536) {
			notRight(t, by(r, 0, n, 0))
			notRight(t, by(r, 0, 0, n))
		}
	}
	for _, r := range []impl.Rec{whoRec(0, 0, 0), whoRec(0, 1, 0), whoRec(0, 0, 1), whoRec(0, 65535, 6)} {
		alsoNotGot(t, r)
	}
}

// rowRests are rows of which one part is not empty, or not 0.
func rowRests() []impl.Row {
	return []impl.Row{
		{Key: "k"}, {Key: "K"}, {Has: 1}, {Has: 2}, {Has: 3}, {Has: -1}, {Has: 4}, {Aside: true},
		{Old: cell(1, "")}, {Old: cell(-1, "")}, {Old: cell(256, "")}, {Old: cell(0, "a")}, {Old: cell(0, "\x00")}, {New: cell(1, "")}, {New: cell(-1, "")}, {New: cell(256, "")}, {New: cell(0, "a")}, {New: cell(0, "\x00")},
		oldRow(impl.CsLat, "a"), newRow(""), bothRow(impl.CsLat, "a", "a"), aside(oldRow(impl.CsLat, "\xff")),
	}
}

func TestWhatAKindDoesNotName(t *testing.T) {
	for _, whom := range [][3]int{{0, 0, 0}, {1, 0, 0}, {9, 65535, 6}} {
		for _, r := range []impl.Rec{goneRec("k"), phaseRec(0), phaseRec(7), whoRec(1, 1, 1), rowRec(newRow("a")), rowRec(aside(oldRow(impl.CsWin, "\x81")))} {
			if r.Kind != kindWho {
				r = by(r, whom[0], whom[1], whom[2])
			}
			if !impl.RecOk(r) {
				t.Errorf("RecOk(%v) is false", r)
			}
			if r.Kind != kindRow {
				for _, rest := range rowRests() {
					one := r
					one.R = rest
					notRight(t, one)
				}
			}
			for _, key := range []string{"k", "a", "abcdef", "K", "\x00", strings.Repeat("a", 61)} {
				if one := r; r.Kind != kindGone {
					one.Key = key
					notRight(t, one)
				}
			}
			for _, n := range append(farNumbers(), -1, 1, 2, 7, 8, 256) {
				if one := r; r.Kind != kindPhase {
					one.N = n
					notRight(t, one)
				}
			}
		}
	}
}

func TestRecordsOfRowsThatAreNotRight(t *testing.T) {
	z := shelfOf()
	for _, r := range wrongRows() {
		for _, one := range []impl.Row{r, aside(r)} {
			if !z.rowOk(one) {
				notRight(t, rowRec(one))
				notRight(t, by(rowRec(one), 1, 2, 3))
				checkRecAsTape(t, z, sealed(rawRec(1, 2, rowRec(one))))
			}
		}
	}
}

// Each kind is held with each row, key, number and whom.
func TestAllKindsOfRecordsAsTheBooksHaveThem(t *testing.T) {
	z := shelfOf()
	rows := append(rowRests(), impl.Row{}, keyed("", newRow("a")), keyed("abcdef", newRow("é")), bothRow(impl.CsLat, "a", "b"), oldRow(impl.CsWin, "\x81"))
	whom := [][3]int{{0, 0, 0}, {0, 1, 0}, {0, 0, 1}, {1, 0, 0}, {1, 65535, 6}, {9, 7, 3}, {9, 65536, 3}, {9, 7, 7}, {1, -1, 0}, {1, 0, -1}, {10, 7, 3}, {10, 0, 0}, {-1, 0, 0}, {-1, 7, 3}}
	met := map[bool]int{}
	for kind := -1; kind <= 6; kind++ {
		for _, row := range rows {
			for _, key := range []string{"", "k", "abcdef", "abcdefg", "K"} {
				for _, n := range []int{-1, 0, 1, 7, 8} {
					for _, w := range whom {
						r := by(impl.Rec{Kind: kind, R: row, Key: key, N: n}, w[0], w[1], w[2])
						ok := z.recOk(r)
						met[ok]++
						if impl.RecOk(r) != ok {
							t.Errorf("RecOk(%v) is %v", r, !ok)
						}
						want := ""
						if ok {
							want = sealed(rawRec(300, 29, r))
							checkRecAsTape(t, z, want)
						}
						if b := impl.PutRec(300, 29, r); string(b) != want {
							t.Errorf("PutRec(300, 29, %v) is %x, not %x", r, b, want)
						}
					}
				}
			}
		}
	}
	if met[true] < 40 || met[false] < 1000 {
		t.Errorf("of right records %d, of others %d", met[true], met[false])
	}
}

// Of bytes that are turned and have their right Sum again some are records.
func TestTurnedBytesWithARightSumAsTheBooksHaveThem(t *testing.T) {
	t.Parallel()
	z := shelfOf()
	met := map[bool]int{}
	for i, r := range someRecs() {
		if i%4 == 1 {
			continue
		}
		whole := rawRec(258, 5, r)
		for at := range len(whole) {
			for c := range 256 {
				b := []byte(whole)
				b[at] = byte(c)
				met[checkRecAsTape(t, z, sealed(string(b)))]++
			}
		}
	}
	if met[true] < 1000 || met[false] < 1000 {
		t.Errorf("records are got %d times, and not %d times", met[true], met[false])
	}
}

func TestRecordsAreCutAtEachPlace(t *testing.T) {
	z := shelfOf()
	for _, r := range someRecs() {
		body := rawRec(258, 5, r)
		whole := sealed(body)
		for cut := range len(whole) {
			noRec(t, whole[:cut])
			noRec(t, whole[cut+1:])
			// what was cut off still lies in the spare room
			if gen, place, got, ok := impl.GetRec([]byte(whole)[:cut]); ok || gen != 0 || place != 0 || !sameRec(got, impl.Rec{}) {
				t.Errorf("GetRec of %x, cut at %d, is %d, %d, %v, %v", whole, cut, gen, place, got, ok)
			}
		}
		for cut := range len(body) {
			noRec(t, sealed(body[:cut]))
			// without what was ahead, the rest may be another record
			checkRecAsTape(t, z, sealed(body[cut+1:]))
		}
	}
}

func TestRecordsWithMoreBehind(t *testing.T) {
	for _, r := range someRecs() {
		body := rawRec(258, 5, r)
		whole := sealed(body)
		for c := range 256 {
			one := string([]byte{byte(c)})
			noRec(t, whole+one)
			noRec(t, sealed(body+one))
			noRec(t, one+whole)
		}
		for _, more := range []string{"\x00\x00", whole, whole[:5], strings.Repeat("\x00", 99)} {
			noRec(t, whole+more)
			noRec(t, sealed(body+more))
		}
		// whose Sum is 0 with the Sum behind
		noRec(t, sealed(whole))
		noRec(t, whole+"\x00\x00\x00")
	}
}

func TestOtherSumsBehindARecord(t *testing.T) {
	for _, r := range []impl.Rec{phaseRec(3), by(goneRec("k"), 1, 2, 3), whoRec(9, 65535, 6), rowRec(newRow("a"))} {
		body := rawRec(258, 5, r)
		got := 0
		for sum := range 65536 {
			gen, place, one, ok := impl.GetRec([]byte(body + wordText(sum)))
			switch {
			case ok && sum == sumBits(body) && sameRec(one, r) && gen == 258 && place == 5:
				got++
			case ok || gen != 0 || place != 0 || !sameRec(one, impl.Rec{}):
				t.Errorf("GetRec of %x with the Sum %x is %d, %d, %v, %v", body, sum, gen, place, one, ok)
			}
		}
		if got != 1 {
			t.Errorf("%x is got with %d Sums", body, got)
		}
		swapped := sealed(body)
		noRec(t, body+swapped[len(body)+1:]+swapped[len(body):len(body)+1])
		// of a part of what is ahead
		noRec(t, body+wordText(sumBits(body[4:])))
		noRec(t, body+wordText(sumBits(body[1:])))
	}
}

func TestVeryFewBytesAreNoRecord(t *testing.T) {
	if gen, place, r, ok := impl.GetRec(nil); ok || gen != 0 || place != 0 || !sameRec(r, impl.Rec{}) {
		t.Errorf("GetRec of nil is %d, %d, %v, %v", gen, place, r, ok)
	}
	noRec(t, "")
	for n := range 256 {
		noRec(t, string([]byte{byte(n)}))
	}
	for n := range 65536 {
		if _, _, _, ok := impl.GetRec([]byte(wordText(n))); ok {
			t.Errorf("GetRec of %04x is true", n)
		}
	}
	noRec(t, sealed(""))
	for n := range 200 {
		noRec(t, sealed(strings.Repeat("\x00", n)))
		noRec(t, strings.Repeat("\xff", n))
		noRec(t, sealed(someText(n)))
	}
}

// An empty list and nil are the same value, and what lies behind a length is not
// read.
func TestEmptyListsOfRecords(t *testing.T) {
	long := []byte("abcdefghijklmnopqrstuvwxyz")
	for _, b := range [][]byte{nil, {}, long[:0]} {
		no := impl.Row{Old: impl.Cell{B: b}, New: impl.Cell{B: b}}
		for _, r := range []impl.Rec{phaseRec(3), goneRec("k"), whoRec(1, 2, 3)} {
			r.R = no
			checkRecBytes(t, 1, 2, r, sealed(rawRec(1, 2, r)))
		}
		for _, r := range []impl.Row{{Key: "k", Old: impl.Cell{Tag: 1, B: b}, New: impl.Cell{B: b}, Has: onlyOld}, {Key: "k", Old: impl.Cell{B: b}, New: impl.Cell{B: b}, Has: onlyNew}, {Key: "k", Old: impl.Cell{Tag: 5, B: b}, New: impl.Cell{B: b}, Has: both}} {
			checkRowBytes(t, r, rawRow(r))
			checkRecBytes(t, 1, 2, rowRec(r), sealed(rawRec(1, 2, rowRec(r))))
		}
	}
	r := impl.Row{Key: "k", Old: impl.Cell{Tag: 1, B: long[:3]}, New: impl.Cell{B: long[:3]}, Has: both}
	if b := impl.PutRow(long[:2], r); string(b) != "ab\x00\x01k\x03\x00\x01\x00\x03abc\x00\x00\x03abc" || string(long) != "abcdefghijklmnopqrstuvwxyz" {
		t.Errorf("PutRow of %v is %x", r, b)
	}
}

// checkPutRoom fails when a call writes into the bytes or the row that it is
// handed, or the spare room behind these, or when the bytes that it answers share
// memory with them, or have what lies behind them.
func checkPutRoom(t *testing.T, name string, s string, r impl.Row, call func(b []byte, r impl.Row) []byte) {
	t.Helper()
	b, whole := roomy(s)
	old, oldWhole := roomy(string(r.Old.B))
	fresh, newWhole := roomy(string(r.New.B))
	rooms := [][]byte{whole, oldWhole, newWhole}
	before := string(slices.Concat(rooms...))
	arg := r
	arg.Old.B, arg.New.B = old, fresh
	got := call(b, arg)
	if string(slices.Concat(rooms...)) != before {
		t.Errorf("%s of %x and %v: an argument is written", name, s, r)
	}
	said := string(got)
	for _, room := range rooms {
		spoil(room)
	}
	if string(got) != said {
		t.Errorf("%s of %x and %v: the answer goes with an argument", name, s, r)
	}
	if bytes.Contains(got[len(got):cap(got)], []byte{spareByte, spareByte}) {
		t.Errorf("%s of %x and %v: hands out what lies behind", name, s, r)
	}
	spoilt := string(slices.Concat(rooms...))
	spoil(got)
	if string(slices.Concat(rooms...)) != spoilt {
		t.Errorf("%s of %x and %v: an argument goes with the answer", name, s, r)
	}
}

func TestWhatIsPutStaysAsItIs(t *testing.T) {
	for _, r := range append(rightRows(), wrongRows()...) {
		for _, s := range []string{"", "x", strings.Repeat("xyz", 30)} {
			checkPutRoom(t, "PutRow", s, r, impl.PutRow)
		}
		for _, whom := range [][3]int{{0, 0, 0}, {1, 2, 3}, {10, 2, 3}} {
			checkPutRoom(t, "PutRec", "", r, func(b []byte, r impl.Row) []byte {
				return impl.PutRec(1, 2, by(rowRec(r), whom[0], whom[1], whom[2]))
			})
		}
		checkPutRoom(t, "RecOk", "", r, func(b []byte, r impl.Row) []byte { impl.RecOk(rowRec(r)); return nil })
	}
	for _, r := range rowRests() {
		checkPutRoom(t, "PutRec", "", r, func(b []byte, r impl.Row) []byte {
			return impl.PutRec(1, 2, impl.Rec{Kind: kindGone, Key: "k", R: r})
		})
	}
}

// checkGotRoom fails when a call writes into bytes or the spare room behind them,
// or when the row that it answers shares memory with these, or its two cells with
// each other.
func checkGotRoom(t *testing.T, name string, s string, call func(b []byte) impl.Row) {
	t.Helper()
	b, whole := roomy(s)
	before := string(whole)
	got := call(b)
	if string(whole) != before {
		t.Errorf("%s of %x: the argument is written", name, s)
	}
	said := copiedRow(got)
	spoil(whole)
	if !sameRow(got, said) {
		t.Errorf("%s of %x: the answer goes with the argument: %v, not %v", name, s, got, said)
	}
	spoilt := string(whole)
	spoil(got.Old.B)
	if !bytes.Equal(got.New.B, said.New.B) {
		t.Errorf("%s of %x: New goes with Old", name, s)
	}
	spoil(got.New.B)
	if string(whole) != spoilt {
		t.Errorf("%s of %x: the argument goes with the answer", name, s)
	}
}

func TestWhatIsGotStaysAsItIs(t *testing.T) {
	getRec := func(b []byte) impl.Row {
		_, _, r, _ := impl.GetRec(b)
		return keyed(r.R.Key+r.Key, r.R)
	}
	for _, r := range append(rightRows(), wrongRows()...) {
		for _, at := range []int{0, 1, 3, -1, 1000} {
			checkGotRoom(t, fmt.Sprint("GetRow at ", at), "xyz"+rawRow(r)+"more", func(b []byte) impl.Row {
				got, _, _ := impl.GetRow(b, at)
				return got
			})
		}
		checkGotRoom(t, "GetRec", sealed(rawRec(1, 2, rowRec(r))), getRec)
		checkGotRoom(t, "GetRec", rawRec(1, 2, rowRec(r)), getRec)
	}
	for _, r := range someRecs() {
		checkGotRoom(t, "GetRec", sealed(rawRec(1, 2, r)), getRec)
	}
}

// The bytes and both cells may be of the same memory; what is made of them is not.
func TestBytesAndCellsOfOneMemory(t *testing.T) {
	for _, s := range []string{"a", "\xff", "", strings.Repeat("z", 20), strings.Repeat("z", 21)} {
		for _, has := range []int{0, 1, 2, 3, 4} {
			one, whole := roomy(s)
			before := string(whole)
			r := impl.Row{Key: "k", Old: impl.Cell{Tag: impl.CsLat, B: one}, New: impl.Cell{B: one}, Has: has}
			if has == onlyOld {
				r.New = impl.Cell{}
			}
			if has == onlyNew {
				r.Old = impl.Cell{}
			}
			want := s
			if impl.RowOk(r) {
				want += rawRow(r)
			}
			got := impl.PutRow(one, r)
			if string(got) != want {
				t.Errorf("PutRow of %v behind its own bytes is %x, not %x", r, got, want)
			}
			spoil(got)
			spoil(impl.PutRec(1, 2, rowRec(r)))
			if string(whole) != before {
				t.Errorf("PutRow of %v behind its own bytes shares memory with them", r)
			}
		}
	}
}

func TestWhatIsPutAndGotIsNewEachTime(t *testing.T) {
	for _, r := range someRecs() {
		one, two := impl.PutRec(1, 2, r), impl.PutRec(1, 2, r)
		said := string(two)
		spoil(one)
		if three := impl.PutRec(1, 2, r); string(two) != said || string(three) != said {
			t.Errorf("PutRec of %v: %x, %x, not %x", r, two, three, said)
		}
		_, _, first, _ := impl.GetRec(two)
		_, _, next, _ := impl.GetRec(two)
		spoil(first.R.Old.B)
		spoil(first.R.New.B)
		if _, _, last, _ := impl.GetRec(two); !sameRec(next, r) || !sameRec(last, r) {
			t.Errorf("GetRec of %x: %v, %v, not %v", two, next, last, r)
		}
	}
	for _, r := range append(someRows(), impl.Row{}) {
		head := impl.PutRow([]byte("ab"), r)
		one, two := impl.PutRow(head, someRows()[0]), impl.PutRow(head, someRows()[1])
		if string(one) != string(head)+rawRow(someRows()[0]) || string(two) != string(head)+rawRow(someRows()[1]) {
			t.Errorf("PutRow behind %x: %x, %x", head, one, two)
		}
	}
}

// What is asked for once more, behind what was refused, is answered as ahead.
func TestWhatIsRefusedLeavesNothingBehind(t *testing.T) {
	whole := sealed(rawRec(258, 5, by(rowRec(bothRow(impl.CsKoi, "\xc1", "а")), 1, 7, 4)))
	for cut := range len(whole) {
		noRec(t, whole[:cut])
		noRowAt(t, whole[:cut], 5+14)
		if _, _, r, ok := impl.GetRec([]byte(whole)); !ok || !sameRec(r, by(rowRec(bothRow(impl.CsKoi, "\xc1", "а")), 1, 7, 4)) {
			t.Fatalf("GetRec of %x is %v, %v", whole, r, ok)
		}
	}
	checkRowAt(t, whole, 5, bothRow(impl.CsKoi, "\xc1", "а"), 19)
	for _, at := range []int{math.MinInt, -1, math.MaxInt} {
		noRowAt(t, whole, at)
	}
}
