package tests

import (
	"bytes"
	"fmt"
	"math"
	"slices"
	"strings"
	"testing"

	"loop.example/g00475/impl"
)

// the limits of a store, written out apart from the program
const (
	areaMost  = 30
	gensMost  = 60000
	storeHas  = 62
	evenFirst = 2
	oddFirst  = 32
)

// farGens and farCounts are numbers that no head has.
func farGens() []int {
	return append(farNumbers(), 0, -1, 60001, 60002, 65535, 65536, 65537, 1<<32+1)
}

func farCounts() []int {
	return append(farNumbers(), -1, 31, 32, 255, 256, 65535, 65536, 1<<32+3)
}

func isHead(gen int, n int) bool {
	return gen >= 1 && gen <= gensMost && n >= 0 && n <= areaMost
}

// headText answers by the books the bytes of a head.
func headText(gen int, n int) string {
	if !isHead(gen, n) {
		return ""
	}
	return sealed(wordText(gen) + wordText(n))
}

// placeSec answers by the books the sector of a record.
func placeSec(gen int, place int) int {
	if gen%2 == 0 {
		return evenFirst + place
	}
	return oddFirst + place
}

func recText(gen int, place int, r impl.Rec) string {
	return sealed(rawRec(gen, place, r))
}

// A vault is a store as the chapter tells of it, on a ledger.
type vault struct {
	d     ledger
	x     impl.Tab
	gen   int
	place int
}

func (v vault) store() impl.Store {
	return impl.Store{D: v.d.dev(), T: copiedTab(v.x), Gen: v.gen, Place: v.place}
}

func (v vault) fused(fuse int) vault {
	v.d.fuse = fuse
	return v
}

// fallen is the vault when the power is back: what is known is known no more.
func (v vault) fallen(keep int) ledger {
	return v.d.fall(keep)
}

// ok says by the books whether a vault is right.
func (z shelf) vaultOk(v vault) bool {
	return v.d.ok() && len(v.d.secs) == storeHas && (v.d.down || len(v.d.wrote) == 0) && z.tabOk(v.x) && isHead(v.gen, v.place)
}

// replayed answers by the books what the records of a generation make.
func (z shelf) replayed(l ledger, gen int) (impl.Tab, int) {
	x := impl.Tab{}
	if !isHead(gen, 0) {
		return x, 0
	}
	for place := range areaMost {
		g, p, r, is := z.readRec(l.read(placeSec(gen, place)))
		if !is || g != gen || p != place {
			return x, place
		}
		if x, is = z.applied(x, r); !is {
			return x, place
		}
	}
	return x, areaMost
}

// laidOn answers by the books a ledger with all of a tab laid on it, and how many
// records that is.
func laidOn(l ledger, x impl.Tab, gen int) (ledger, int) {
	recs := recsWanted(x)
	for place, r := range recs {
		l = l.write(placeSec(gen, place), recText(gen, place, r))
	}
	return l.flush().write(gen%2, headText(gen, len(recs))).flush(), len(recs)
}

func (z shelf) laid(v vault) vault {
	if !z.vaultOk(v) || v.d.down || v.gen == gensMost {
		return v
	}
	d, n := laidOn(v.d, v.x, v.gen+1)
	if v.d = d; !d.down {
		v.gen, v.place = v.gen+1, n
	}
	return v
}

// added answers by the books a vault with one more record.
func (z shelf) added(v vault, r impl.Rec) (vault, bool) {
	x, is := z.applied(v.x, r)
	if !z.vaultOk(v) || v.d.down || !is {
		return v, false
	}
	if v.place == areaMost {
		v = z.laid(v)
	}
	if v.d.down || v.place == areaMost {
		return v, false
	}
	v.d = v.d.write(placeSec(v.gen, v.place), recText(v.gen, v.place, r)).flush()
	if v.d.down {
		return v, false
	}
	v.x, v.place = x, v.place+1
	return v, true
}

// opened answers by the books what a ledger has: each count that a head of each
// sector may tell is tried.
func (z shelf) opened(l ledger) (vault, bool) {
	found := vault{}
	for sec := range 2 {
		p := &tape{rest: l.read(sec)}
		gen := p.number(2)
		for n := range areaMost + 1 {
			x, place := z.replayed(l, gen)
			if isHead(gen, n) && l.read(sec) == headText(gen, n) && gen%2 == sec && place >= n && gen > found.gen {
				found = vault{l, x, gen, place}
			}
		}
	}
	if !z.vaultOk(found) {
		return vault{}, false
	}
	return z.laid(found), true
}

// vaultAt answers a vault of a generation in which a tab was laid on nothing, and
// to which these records were added.
func (z shelf) vaultAt(gen int, x impl.Tab, more ...impl.Rec) vault {
	d, n := laidOn(ledgerOf(dev(make([]string, storeHas)...)), x, gen)
	v := vault{d, x, gen, n}
	for _, r := range more {
		v, _ = z.added(v, r)
	}
	return v
}

// asked are n records of somebody, each of a greater number.
func asked(n int) []impl.Rec {
	var l []impl.Rec
	for i := range n {
		l = append(l, whoRec(3, 100+i, 0))
	}
	return l
}

// greatest is the tab of which there are most records.
func greatest() impl.Tab {
	return tab(7, rowsOf(eightKeys()...), nineMarks()...)
}

func copiedStore(s impl.Store) impl.Store {
	return impl.Store{D: copiedDev(s.D), T: copiedTab(s.T), Gen: s.Gen, Place: s.Place}
}

func sameStore(a impl.Store, b impl.Store) bool {
	return sameDev(a.D, b.D) && alike(a.T, b.T) && a.Gen == b.Gen && a.Place == b.Place
}

// told answers what a person wants to see of a store.
func told(s impl.Store) string {
	out := fmt.Sprintf("generation %d, place %d, %d sectors, Fuse %d, Down %v, %v", s.Gen, s.Place, len(s.D.Secs), s.D.Fuse, s.D.Down, s.T)
	for n, b := range s.D.Secs {
		if len(b) > 0 {
			out += fmt.Sprintf("; %d: %x", n, b)
		}
	}
	for _, w := range s.D.Cache {
		out += fmt.Sprintf("; to %d: %x", w.N, w.B)
	}
	return out
}

// checkStore fails when a store is another one than that.
func checkStore(t *testing.T, name string, got impl.Store, want vault) {
	t.Helper()
	if !sameStore(got, want.store()) {
		t.Errorf("%s is %s; not %s", name, told(got), told(want.store()))
	}
}

// checkAdded fails when Add of a record is another store than the books have, or
// not as true.
func checkAdded(t *testing.T, z shelf, v vault, r impl.Rec) (vault, bool) {
	t.Helper()
	want, is := z.added(v, r)
	got, ok := impl.Add(v.store(), copiedRec(r))
	if ok != is {
		t.Errorf("Add of %v to %s is %v", r, told(v.store()), ok)
	}
	checkStore(t, fmt.Sprintf("Add of %v", r), got, want)
	return want, is
}

// checkOpened fails when Open of a device is another store than the books have,
// or not as true.
func checkOpened(t *testing.T, z shelf, l ledger) (vault, bool) {
	t.Helper()
	want, is := z.opened(l)
	got, ok := impl.Open(l.dev())
	if ok != is {
		t.Errorf("Open of %s is %v", told(impl.Store{D: l.dev()}), ok)
	}
	checkStore(t, "Open", got, want)
	return want, is
}

// notOpened fails when Open of a device answers anything but the zero store and
// false.
func notOpened(t *testing.T, name string, d impl.Dev) {
	t.Helper()
	if got, ok := impl.Open(d); ok || !sameStore(got, impl.Store{}) {
		t.Errorf("Open of %s is %s, %v", name, told(got), ok)
	}
}

func TestTheLimitsOfAStore(t *testing.T) {
	if impl.Area != areaMost || impl.MaxGen != gensMost {
		t.Errorf("an Area of %d, and %d generations", impl.Area, impl.MaxGen)
	}
}

// noHead fails when bytes are a head.
func noHead(t *testing.T, b string) {
	t.Helper()
	arg, _ := roomy(b)
	for _, one := range [][]byte{[]byte(b), arg} {
		if gen, n, ok := impl.GetHead(one); ok || gen != 0 || n != 0 {
			t.Errorf("GetHead of %x is %d, %d, %v", b, gen, n, ok)
		}
	}
}

// checkHead fails when a head has other bytes than these, or does not come back of
// them.
func checkHead(t *testing.T, gen int, n int, want string) {
	t.Helper()
	if b := impl.HeadOf(gen, n); string(b) != want {
		t.Errorf("HeadOf(%d, %d) is %x, not %x", gen, n, b, want)
	}
	arg, _ := roomy(want)
	for _, one := range [][]byte{[]byte(want), arg} {
		if g, k, ok := impl.GetHead(one); !ok || g != gen || k != n {
			t.Errorf("GetHead of %x is %d, %d, %v; not %d, %d", want, g, k, ok, gen, n)
		}
	}
}

func TestHeadsComeBackOfTheirBytes(t *testing.T) {
	checkHead(t, 258, 3, "\x01\x02\x00\x03\xac\x77")
	checkHead(t, 1, 0, "\x00\x01\x00\x00"+wordText(sumBits("\x00\x01\x00\x00")))
	checkHead(t, 60000, 30, "\xea\x60\x00\x1e"+wordText(sumBits("\xea\x60\x00\x1e")))
	for _, gen := range []int{1, 2, 3, 7, 254, 255, 256, 257, 258, 4095, 32767, 32768, 59998, 59999, 60000} {
		for n := range 31 {
			checkHead(t, gen, n, headText(gen, n))
		}
	}
	for gen := 1; gen <= gensMost; gen += 97 {
		checkHead(t, gen, gen%31, headText(gen, gen%31))
	}
}

func TestHeadsThatThereAreNot(t *testing.T) {
	for _, gen := range farGens() {
		for _, n := range append(farCounts(), 0, 1, 29, 30) {
			if b := impl.HeadOf(gen, n); len(b) != 0 {
				t.Errorf("HeadOf(%d, %d) is %x", gen, n, b)
			}
			if !isHead(gen&wordMost, n&wordMost) {
				noHead(t, sealed(wordText(gen)+wordText(n)))
			}
		}
	}
	for _, n := range farCounts() {
		for _, gen := range []int{1, 2, 258, 59999, 60000} {
			if b := impl.HeadOf(gen, n); len(b) != 0 {
				t.Errorf("HeadOf(%d, %d) is %x", gen, n, b)
			}
			if n&wordMost > areaMost {
				noHead(t, sealed(wordText(gen)+wordText(n)))
			}
		}
	}
}

func TestEachHeadThatThereMayBe(t *testing.T) {
	for gen := 0; gen <= wordMost; gen += 13 {
		for _, n := range []int{0, 1, 30, 31, 256, wordMost} {
			b := sealed(wordText(gen) + wordText(n))
			if isHead(gen, n) {
				checkHead(t, gen, n, b)
			} else {
				noHead(t, b)
			}
		}
	}
	for n := range 1 << 16 {
		if b := sealed("\x00\x05" + wordText(n)); n <= areaMost {
			checkHead(t, 5, n, b)
		} else if gen, k, ok := impl.GetHead([]byte(b)); ok || gen != 0 || k != 0 {
			t.Errorf("GetHead of %x is %d, %d, %v", b, gen, k, ok)
		}
	}
}

func TestHeadsWithAByteTurnedDoNotComeBack(t *testing.T) {
	for _, h := range [][2]int{{1, 0}, {1, 1}, {2, 18}, {258, 3}, {32768, 16}, {59999, 29}, {60000, 30}} {
		b := headText(h[0], h[1])
		for i := range b {
			for turn := 1; turn < 256; turn++ {
				one := []byte(b)
				one[i] ^= byte(turn)
				noHead(t, string(one))
			}
		}
		for n := range b {
			noHead(t, b[:n])
			noHead(t, b[n+1:])
			noHead(t, b[:n]+b[n+1:])
		}
		for c := range 256 {
			noHead(t, b+string([]byte{byte(c)}))
			noHead(t, string([]byte{byte(c)})+b)
		}
		noHead(t, b+b)
		// A Sum over all of these is that of no head.
		noHead(t, sealed(b))
		noHead(t, sealed(b[:2]))
		noHead(t, sealed(b[:4]+"\x00"))
	}
}

func TestBytesThatAreNoHead(t *testing.T) {
	for n := range 40 {
		if n != 6 {
			noHead(t, strings.Repeat("\x00", n))
			noHead(t, strings.Repeat("\x01", n))
		}
		noHead(t, someText(n))
	}
	for _, b := range []string{"", "\x00", "\x00\x05", "\x00\x05\x00", "\x00\x05\x00\x03", "\x00\x00\x00\x00\x00\x00", "\xff\xff\xff\xff\xff\xff", "\x00\x05\x00\x03\x00"} {
		noHead(t, b)
		noHead(t, sealed(b[:min(len(b), 2)]))
	}
	if gen, n, ok := impl.GetHead(nil); ok || gen != 0 || n != 0 {
		t.Errorf("GetHead of nil is %d, %d, %v", gen, n, ok)
	}
}

func TestANewStore(t *testing.T) {
	secs := make([]string, storeHas)
	secs[1] = headText(1, 1)
	secs[32] = recText(1, 0, phaseRec(0))
	want := vault{ledgerOf(dev(secs...)), impl.Tab{}, 1, 1}
	s := impl.Format()
	checkStore(t, "Format", s, want)
	if !impl.StoreOk(s) {
		t.Error("what Format answers is not right")
	}
	if x, n := impl.Replay(s.D, 1); n != 1 || !alike(x, impl.Tab{}) {
		t.Errorf("Replay is %v, %d", x, n)
	}
	o, ok := impl.Open(s.D)
	if !ok || o.Gen != 2 || o.Place != 1 || !alike(o.T, impl.Tab{}) {
		t.Errorf("Open is %s, %v", told(o), ok)
	}
	secs[0] = headText(2, 1)
	secs[2] = recText(2, 0, phaseRec(0))
	checkStore(t, "Open", o, vault{ledgerOf(dev(secs...)), impl.Tab{}, 2, 1})
}

// One record behind the other is there, with all ahead of it, also when the power
// went in between.
func TestRecordsOfEachKindAreAdded(t *testing.T) {
	z := shelfOf()
	v := z.vaultAt(1, impl.Tab{})
	s := impl.Format()
	for i, r := range append(someRecs(), recsInTurn()...) {
		want, is := z.applied(v.x, r)
		ahead := v
		got, ok := impl.Add(s, copiedRec(r))
		v, _ = checkAdded(t, z, v, r)
		if ok != is || !alike(got.T, want) || !impl.StoreOk(got) {
			t.Fatalf("Add of the record %d, %v: %s, %v", i, r, told(got), ok)
		}
		if is && ahead.place < areaMost && (got.Place != ahead.place+1 || got.Gen != ahead.gen) {
			t.Errorf("Add of the record %d: place %d behind %d", i, got.Place, ahead.place)
		}
		if is && ahead.place == areaMost && (got.Gen != ahead.gen+1 || got.Place != len(recsWanted(ahead.x))+1) {
			t.Errorf("Add of the record %d: generation %d, place %d", i, got.Gen, got.Place)
		}
		checkStore(t, "Add", got, v)
		for _, d := range []impl.Dev{got.D, impl.FallDev(got.D, keepMost), fused(got.D, 1000)} {
			o, ok := impl.Open(d)
			if !ok || !alike(o.T, want) || o.Gen != got.Gen+1 || o.Place != len(recsWanted(want)) || !impl.StoreOk(o) {
				t.Errorf("Open behind the record %d is %s, %v", i, told(o), ok)
			}
		}
		x, n := impl.Replay(got.D, got.Gen)
		if n != got.Place || !alike(x, got.T) {
			t.Errorf("Replay behind the record %d is %v, %d", i, x, n)
		}
		if s = got; i%7 == 6 {
			s, _ = impl.Open(s.D)
			v, _ = checkOpened(t, z, v.d)
		}
	}
	if v.gen < 10 {
		t.Errorf("there are %d generations only", v.gen)
	}
}

func TestEachSectorOfWhatIsAdded(t *testing.T) {
	s := impl.Format()
	secs := make([]string, storeHas)
	secs[1] = headText(1, 1)
	secs[32] = recText(1, 0, phaseRec(0))
	for i, r := range asked(29) {
		next, ok := impl.Add(s, r)
		secs[33+i] = recText(1, 1+i, r)
		if !ok || !sameDev(next.D, dev(secs...)) {
			t.Fatalf("Add of the record %d is %s, %v", i, told(next), ok)
		}
		s = next
	}
	if s.Place != 30 || s.Gen != 1 || secs[61] == "" {
		t.Errorf("behind 29 records the place is %d", s.Place)
	}
	// There is no room for one more: all is laid anew ahead of it.
	next, ok := impl.Add(s, phaseRec(4))
	secs[0] = headText(2, 2)
	secs[2], secs[3], secs[4] = recText(2, 0, phaseRec(0)), recText(2, 1, whoRec(3, 128, 0)), recText(2, 2, phaseRec(4))
	checkStore(t, "Add", next, vault{ledgerOf(dev(secs...)), tab(4, nil, mark(3, 128, 0)), 2, 3})
	if !ok {
		t.Error("Add is false")
	}
	// What it is laid over goes one by one.
	l := impl.Lay(next)
	secs[1] = headText(3, 2)
	secs[32], secs[33] = recText(3, 0, phaseRec(4)), recText(3, 1, whoRec(3, 128, 0))
	checkStore(t, "Lay", l, vault{ledgerOf(dev(secs...)), tab(4, nil, mark(3, 128, 0)), 3, 2})
	if x, n := impl.Replay(l.D, 1); n != 0 || !alike(x, impl.Tab{}) {
		t.Errorf("Replay of what it was laid over is %v, %d", x, n)
	}
	if x, n := impl.Replay(l.D, 2); n != 3 || !alike(x, l.T) {
		t.Errorf("Replay of the generation ahead is %v, %d", x, n)
	}
}

// vaultsThatDo are vaults that are right and not down, with the power on.
func (z shelf) vaultsThatDo() []vault {
	rows := tab(3, rowsOf("a", "ab", "b"), mark(2, 7, 1), mark(5, 65535, 6))
	return []vault{
		z.vaultAt(1, impl.Tab{}), z.vaultAt(2, impl.Tab{}), z.vaultAt(1, rows), z.vaultAt(6, rows, by(goneRec("a"), 1, 2, 3)), z.vaultAt(7, rows, phaseRec(4), rowRec(keyed("a", newRow("z")))), z.vaultAt(4, greatest()), z.vaultAt(9, greatest(), asked(5)...),
		z.vaultAt(1, impl.Tab{}, asked(28)...), z.vaultAt(1, impl.Tab{}, asked(29)...), z.vaultAt(2, rows, asked(23)...), z.vaultAt(2, rows, asked(24)...), z.vaultAt(3, rows, asked(24)...), z.vaultAt(8, greatest(), asked(11)...), z.vaultAt(8, greatest(), asked(12)...), z.vaultAt(11, tab(6, nil, nineMarks()...), asked(20)...),
		z.vaultAt(59998, rows, asked(24)...), z.vaultAt(59999, rows), z.vaultAt(59999, rows, asked(23)...), z.vaultAt(59999, rows, asked(24)...), z.vaultAt(60000, rows), z.vaultAt(60000, rows, asked(23)...), z.vaultAt(60000, rows, asked(24)...), z.vaultAt(60000, greatest(), asked(12)...),
		// What is on the device is not asked.
		{ledgerOf(dev(make([]string, storeHas)...)), rows, 5, 0}, {ledgerOf(dev(make([]string, storeHas)...)), rows, 5, 30}, {z.vaultAt(4, greatest()).d, impl.Tab{}, 3, 2}, {ledgerOf(dev(slices.Repeat([]string{strings.Repeat("f", 120)}, storeHas)...)), greatest(), 59999, 29},
	}
}

// recsForStores are records that can be added to some of these, and some that
// cannot.
func recsForStores() []impl.Rec {
	return append(recsInTurn(), rowRec(keyed("c", aside(oldRow(impl.CsWin, "\x81")))), rowRec(keyed("0", bothRow(impl.CsLat, strings.Repeat("z", 20), strings.Repeat("z", 20)))))
}

func TestWhatIsAddedIsAsTheBooksHaveIt(t *testing.T) {
	z := shelfOf()
	met := map[bool]int{}
	for _, v := range z.vaultsThatDo() {
		if !impl.StoreOk(v.store()) || !z.vaultOk(v) {
			t.Errorf("%s is not right", told(v.store()))
		}
		for _, r := range recsForStores() {
			for _, fuse := range []int{-1, 0, 1, 2, 3, 7, 10, 25, 1000} {
				_, is := checkAdded(t, z, v.fused(fuse), r)
				met[is]++
			}
		}
	}
	if met[true] < 500 || met[false] < 500 {
		t.Errorf("records are added %d times, and not %d times", met[true], met[false])
	}
}

func TestWhatIsLaidIsAsTheBooksHaveIt(t *testing.T) {
	z := shelfOf()
	for _, v := range z.vaultsThatDo() {
		for fuse := -1; fuse < 25; fuse++ {
			from := v.fused(fuse)
			got, want := impl.Lay(from.store()), z.laid(from)
			checkStore(t, "Lay", got, want)
			if !alike(got.T, v.x) || !impl.StoreOk(got) {
				t.Errorf("Lay of %s is %s", told(from.store()), told(got))
			}
			if enough := len(recsWanted(v.x)) + 3; v.gen < gensMost && got.D.Down != (fuse >= 0 && fuse < enough) {
				t.Errorf("Lay with a Fuse of %d: Down is %v", fuse, got.D.Down)
			}
			if !got.D.Down && v.gen < gensMost && (got.Gen != v.gen+1 || got.Place != len(recsWanted(v.x))) {
				t.Errorf("Lay is %s", told(got))
			}
			if (got.D.Down || v.gen == gensMost) && (got.Gen != v.gen || got.Place != v.place) {
				t.Errorf("Lay that is not done is %s", told(got))
			}
		}
	}
}

func TestWhatIsOpenedIsAsTheBooksHaveIt(t *testing.T) {
	t.Parallel()
	z := shelfOf()
	for _, v := range z.vaultsThatDo() {
		for fuse := -1; fuse < 25; fuse++ {
			l := v.fused(fuse).d
			o, is := checkOpened(t, z, l)
			x, n := z.replayed(l, v.gen)
			if got, k := impl.Replay(l.dev(), v.gen); k != n || !alike(got, x) {
				t.Errorf("Replay is %v, %d; not %v, %d", got, k, x, n)
			}
			if is && !impl.StoreOk(o.store()) {
				t.Errorf("what is opened is not right: %s", told(o.store()))
			}
			l.down = true
			if gone, is := checkOpened(t, z, l); is && !sameDev(gone.d.dev(), l.dev()) {
				t.Errorf("Open of a device that is Down is %s", told(gone.store()))
			}
		}
	}
}

// Of 30 records the place is past the last one: what comes behind is written to
// the next generation, if there is one.
func TestPlacesAtTheEndOfAnArea(t *testing.T) {
	z := shelfOf()
	for _, x := range []struct {
		v     vault
		ok    bool
		gen   int
		place int
	}{
		{z.vaultAt(1, impl.Tab{}, asked(28)...), true, 1, 30},
		{z.vaultAt(1, impl.Tab{}, asked(29)...), true, 2, 3},
		{z.vaultAt(59999, impl.Tab{}, asked(28)...), true, 59999, 30},
		{z.vaultAt(59999, impl.Tab{}, asked(29)...), true, 60000, 3},
		{z.vaultAt(60000, impl.Tab{}, asked(28)...), true, 60000, 30},
		{z.vaultAt(60000, impl.Tab{}, asked(29)...), false, 60000, 30},
		{z.vaultAt(5, greatest(), asked(12)...), true, 6, 19},
	} {
		got, ok := impl.Add(x.v.store(), phaseRec(6))
		if ok != x.ok || got.Gen != x.gen || got.Place != x.place {
			t.Errorf("Add to %s is %s, %v", told(x.v.store()), told(got), ok)
		}
		if !ok && !sameStore(got, x.v.store()) {
			t.Errorf("Add to %s where there is no room is %s", told(x.v.store()), told(got))
		}
		if ok && got.T.Phase != 6 {
			t.Errorf("Add to %s: the phase is %d", told(x.v.store()), got.T.Phase)
		}
		checkAdded(t, z, x.v, phaseRec(6))
	}
}

func TestOneRowTooManyIsNotAdded(t *testing.T) {
	z := shelfOf()
	for _, v := range []vault{z.vaultAt(4, greatest()), z.vaultAt(8, greatest(), asked(12)...), z.vaultAt(60000, greatest())} {
		for _, key := range otherKeys() {
			for _, r := range []impl.Rec{rowRec(keyed(key, newRow("a"))), by(rowRec(keyed(key, newRow("a"))), 1, 65535, 0)} {
				if got, ok := impl.Add(v.store(), r); ok || !sameStore(got, v.store()) {
					t.Errorf("Add of %v to %s is %s, %v", r, told(v.store()), told(got), ok)
				}
			}
		}
	}
}

// withSec answers a ledger with other bytes in one of its sectors.
func (l ledger) withSec(n int, b string) ledger {
	l.secs = slices.Clone(l.secs)
	l.secs[n] = b
	return l
}

// checkReplayed fails when a generation makes another tab, or is of another count.
func checkReplayed(t *testing.T, name string, l ledger, gen int, want impl.Tab, n int) {
	t.Helper()
	for _, d := range []impl.Dev{l.dev(), down(l.dev()), fused(l.dev(), 0)} {
		if x, k := impl.Replay(d, gen); k != n || !alike(x, want) {
			t.Errorf("%s: Replay of the generation %d is %v, %d; not %v, %d", name, gen, x, k, want, n)
		}
	}
	if x, k := shelfOf().replayed(l, gen); k != n || !alike(x, want) {
		t.Errorf("%s: by the books it is %v, %d; not %v, %d", name, x, k, want, n)
	}
}

func TestReplayOfGenerations(t *testing.T) {
	z := shelfOf()
	for _, gen := range []int{1, 2, 3, 257, 59999, 60000} {
		v := z.vaultAt(gen, greatest(), asked(3)...)
		checkReplayed(t, "what was written", v.d, gen, v.x, 21)
		for _, other := range append(farGens(), gen-2, gen+2, gen-1, gen+1, gen+256, gen+65536) {
			if other != gen {
				checkReplayed(t, "another generation", v.d, other, impl.Tab{}, 0)
			}
		}
		checkReplayed(t, "no record", ledgerOf(dev(make([]string, storeHas)...)), gen, impl.Tab{}, 0)
	}
	// A record may tell of these, and yet there is no such generation.
	for _, gen := range []int{0, 60001, 60002, 65535} {
		l := ledgerOf(dev(make([]string, storeHas)...)).withSec(placeSec(gen, 0), recText(gen, 0, phaseRec(3)))
		checkReplayed(t, "no generation", l, gen, impl.Tab{}, 0)
	}
}

// The records up to the first one that is none are what is there.
func TestReplayUpToTheFirstThatIsNone(t *testing.T) {
	z := shelfOf()
	x := tab(0, nil)
	for _, gen := range []int{4, 5} {
		v := z.vaultAt(gen, x, asked(29)...)
		checkReplayed(t, "all", v.d, gen, tab(0, nil, mark(3, 128, 0)), 30)
		for place := range areaMost {
			want := impl.Tab{}
			if place > 1 {
				want = tab(0, nil, mark(3, 98+place, 0))
			}
			sec := placeSec(gen, place)
			there := v.d.secs[sec]
			for name, b := range map[string]string{
				"nothing":              "",
				"another generation":   recText(gen+2, place, whoRec(1, 1, 1)),
				"the generation ahead": recText(gen-2, place, whoRec(1, 1, 1)),
				"the other area":       recText(gen+1, place, whoRec(1, 1, 1)),
				"another place":        recText(gen, place+1, whoRec(1, 1, 1)),
				"the place ahead":      recText(gen, max(place-1, 0)+32*max(1-place, 0), whoRec(1, 1, 1)),
				"a head":               headText(gen, 1),
				"a byte less":          there[:len(there)-1],
				"a byte more":          there + "\x00",
				"a byte turned":        string([]byte{there[0] ^ 1}) + there[1:],
				"other bytes":          "other",
				"not right":            recText(gen, place, phaseRec(8)),
			} {
				checkReplayed(t, fmt.Sprintf("%s at the place %d", name, place), v.d.withSec(sec, b), gen, want, place)
			}
			one := tab(5, nil, want.Marks...)
			if place < 29 {
				checkReplayed(t, "another one", v.d.withSec(sec, recText(gen, place, phaseRec(5))), gen, tab(5, nil, mark(3, 128, 0)), 30)
			} else {
				checkReplayed(t, "another one", v.d.withSec(sec, recText(gen, place, phaseRec(5))), gen, one, 30)
			}
		}
	}
}

// A row too many is a right record, and yet is not applied; nor is one behind it.
func TestReplayUpToTheFirstThatIsNotApplied(t *testing.T) {
	z := shelfOf()
	v := z.vaultAt(6, greatest(), asked(2)...)
	full := v.d.withSec(placeSec(6, 20), recText(6, 20, by(rowRec(keyed("b", newRow("a"))), 4, 65535, 0)))
	checkReplayed(t, "a row too many", full, 6, v.x, 20)
	checkReplayed(t, "a row too many", full.withSec(placeSec(6, 21), recText(6, 21, goneRec("a"))), 6, v.x, 20)
	less, _ := z.applied(v.x, goneRec("a"))
	less, _ = z.applied(less, rowRec(keyed("b", newRow("a"))))
	room := v.d.withSec(placeSec(6, 20), recText(6, 20, goneRec("a"))).withSec(placeSec(6, 21), recText(6, 21, rowRec(keyed("b", newRow("a")))))
	checkReplayed(t, "room for a row", room, 6, less, 22)
}

// An area ends where the next one begins, or the device does.
func TestReplayEndsWithItsArea(t *testing.T) {
	z := shelfOf()
	for _, gen := range []int{4, 5} {
		v := z.vaultAt(gen, impl.Tab{}, asked(29)...)
		behind := placeSec(gen, 30)
		l := ledgerOf(dev(append(slices.Clone(v.d.secs), "", "")...)).withSec(behind, recText(gen, 30, phaseRec(7)))
		checkReplayed(t, "a record behind the area", l, gen, tab(0, nil, mark(3, 128, 0)), 30)
	}
	// Devices of other lengths are read as far as they go.
	v := z.vaultAt(5, impl.Tab{}, asked(29)...)
	for _, secs := range []int{1, 2, 31, 32, 33, 40, 61, 62} {
		l := v.d
		l.secs = l.secs[:secs]
		want, n := impl.Tab{}, max(secs-32, 0)
		if n > 1 {
			want = tab(0, nil, mark(3, 98+n, 0))
		}
		checkReplayed(t, fmt.Sprintf("%d sectors", secs), l, 5, want, n)
	}
}

func TestReplayReadsWhatIsNotFlushedYet(t *testing.T) {
	z := shelfOf()
	v := z.vaultAt(6, impl.Tab{})
	l := v.d.write(placeSec(6, 1), recText(6, 1, phaseRec(2))).write(placeSec(6, 2), recText(6, 2, phaseRec(3)))
	checkReplayed(t, "not flushed", l, 6, tab(3, nil), 3)
	checkReplayed(t, "written over", l.write(placeSec(6, 1), ""), 6, impl.Tab{}, 1)
}

func TestReplayOfDevicesThatAreNotRight(t *testing.T) {
	v := shelfOf().vaultAt(5, tab(3, nil))
	long := v.d.withSec(61, strings.Repeat("l", 121))
	for _, d := range append(wrongDevs(), long.dev(), fused(v.d.dev(), -2), fused(v.d.dev(), 1001), caching(v.d.dev(), wr(62, "")), caching(v.d.dev(), manyWrs(41, 3)...)) {
		for _, gen := range []int{1, 2, 5, 6, 0, 60001} {
			if x, n := impl.Replay(d, gen); n != 0 || !alike(x, impl.Tab{}) {
				t.Errorf("Replay of a device that is not right is %v, %d", x, n)
			}
		}
		notOpened(t, "a device that is not right", d)
	}
}

// rightStores are stores that are right, in each way.
func rightStores() []impl.Store {
	z := shelfOf()
	var l []impl.Store
	for _, v := range z.vaultsThatDo() {
		s := v.store()
		l = append(l, s, impl.Store{D: down(s.D), T: s.T, Gen: s.Gen, Place: s.Place}, impl.Store{D: down(caching(s.D, manyWrs(40, 62)...)), T: s.T, Gen: s.Gen, Place: s.Place})
	}
	from := z.vaultAt(9, tab(3, rowsOf("a", "b"), mark(2, 7, 1))).store()
	for _, fuse := range []int{0, 1, 999, 1000} {
		s := copiedStore(from)
		s.D.Fuse = fuse
		l = append(l, s)
	}
	for _, gen := range []int{1, 2, 59999, 60000} {
		for _, place := range []int{0, 1, 29, 30} {
			s := copiedStore(from)
			s.Gen, s.Place = gen, place
			l = append(l, s)
		}
	}
	for _, x := range rightTabs() {
		s := copiedStore(from)
		s.T = x
		l = append(l, s)
	}
	return l
}

// wrongStores are stores that are not right, each by one of its parts.
func wrongStores() []impl.Store {
	from := shelfOf().vaultAt(9, tab(3, rowsOf("a", "b"), mark(2, 7, 1))).store()
	l := []impl.Store{{}, {D: from.D}, {Gen: 1, Place: 1}}
	with := func(turn func(s *impl.Store)) {
		s := copiedStore(from)
		turn(&s)
		l = append(l, s)
	}
	for _, n := range []int{0, 1, 2, 32, 60, 61, 63, 64, 65, 128} {
		with(func(s *impl.Store) { s.D.Secs = append(s.D.Secs, make([][]byte, 70)...)[:n] })
		with(func(s *impl.Store) { s.D.Secs, s.D.Down = append(s.D.Secs, make([][]byte, 70)...)[:n], true })
	}
	for _, n := range []int{1, 2, 40} {
		with(func(s *impl.Store) { s.D.Cache = manyWrs(n, 62) })
		with(func(s *impl.Store) { s.D.Cache, s.D.Fuse = manyWrs(n, 62), 5 })
	}
	for _, gone := range []bool{false, true} {
		with(func(s *impl.Store) { s.D.Secs[61], s.D.Down = []byte(strings.Repeat("l", 121)), gone })
		with(func(s *impl.Store) { s.D.Cache, s.D.Down = manyWrs(41, 62), gone })
		with(func(s *impl.Store) { s.D.Cache, s.D.Down = []impl.Wr{wr(62, "")}, gone })
		for _, fuse := range append(farNumbers(), 1001) {
			with(func(s *impl.Store) { s.D.Fuse, s.D.Down = fuse, gone })
		}
	}
	for _, gen := range farGens() {
		with(func(s *impl.Store) { s.Gen = gen })
	}
	for _, place := range farCounts() {
		with(func(s *impl.Store) { s.Place = place })
	}
	for _, x := range wrongTabs() {
		with(func(s *impl.Store) { s.T = copiedTab(x) })
	}
	return l
}

func TestStoresThatAreRight(t *testing.T) {
	z := shelfOf()
	for _, s := range rightStores() {
		v := vault{ledgerOf(s.D), s.T, s.Gen, s.Place}
		if !impl.StoreOk(s) || !z.vaultOk(v) {
			t.Errorf("StoreOk of %s is %v", told(s), impl.StoreOk(s))
		}
		checkStore(t, "Lay", impl.Lay(s), z.laid(v))
		checkAdded(t, z, v, phaseRec(6))
		checkOpened(t, z, v.d)
	}
}

func TestStoresThatAreNotRight(t *testing.T) {
	z := shelfOf()
	recs := []impl.Rec{phaseRec(4), {}, goneRec("a"), by(rowRec(keyed("c", newRow("é"))), 2, 8, 0), whoRec(2, 8, 0)}
	for _, s := range wrongStores() {
		if impl.StoreOk(s) || z.vaultOk(vault{ledgerOf(s.D), s.T, s.Gen, s.Place}) {
			t.Errorf("StoreOk of %s is %v", told(s), impl.StoreOk(s))
		}
		if got := impl.Lay(copiedStore(s)); !sameStore(got, s) {
			t.Errorf("Lay of %s is %s", told(s), told(got))
		}
		for _, r := range recs {
			if got, ok := impl.Add(copiedStore(s), r); ok || !sameStore(got, s) {
				t.Errorf("Add to %s is %s, %v", told(s), told(got), ok)
			}
		}
	}
}

func TestRecordsThatAreNotRightAreNotAdded(t *testing.T) {
	for _, s := range rightStores()[:30] {
		for _, r := range wrongRecs() {
			if got, ok := impl.Add(copiedStore(s), r); ok || !sameStore(got, s) {
				t.Errorf("Add of %v to %s is %s, %v", r, told(s), told(got), ok)
			}
		}
	}
}

// A store that is Down stays as it is, until its device is opened.
func TestStoresThatAreDown(t *testing.T) {
	z := shelfOf()
	for _, v := range z.vaultsThatDo() {
		for _, fuse := range []int{-1, 0, 5} {
			for _, cache := range [][]impl.Wr{nil, manyWrs(3, 62)} {
				s := v.store()
				s.D = down(fused(caching(s.D, cache...), fuse))
				if !impl.StoreOk(s) {
					t.Errorf("StoreOk of %s is false", told(s))
				}
				if got := impl.Lay(copiedStore(s)); !sameStore(got, s) {
					t.Errorf("Lay of %s is %s", told(s), told(got))
				}
				for _, r := range recsForStores() {
					if got, ok := impl.Add(copiedStore(s), r); ok || !sameStore(got, s) {
						t.Errorf("Add to %s is %s, %v", told(s), told(got), ok)
					}
				}
			}
		}
	}
}

// Which operations there are is told by when the power goes, and what is known
// then.
func TestThePowerGoesInTheMidstOfAdd(t *testing.T) {
	z := shelfOf()
	x := tab(3, rowsOf("a", "b"), mark(2, 7, 1))
	room, none := z.vaultAt(8, x, asked(3)...), z.vaultAt(8, x, asked(26)...)
	r := by(rowRec(keyed("c", newRow("é"))), 2, 8, 0)
	text := recText(8, 7, r)
	for fuse, want := range map[int][]impl.Wr{0: nil, 1: {wr(9, text)}} {
		got, ok := impl.Add(room.fused(fuse).store(), r)
		s := room.store()
		s.D = down(caching(s.D, want...))
		if ok || !sameStore(got, s) {
			t.Errorf("Add with a Fuse of %d is %s, %v", fuse, told(got), ok)
		}
	}
	// Two operations are enough, three leave one of them.
	for _, fuse := range []int{2, 3, 1000} {
		got, ok := impl.Add(room.fused(fuse).store(), r)
		if !ok || got.D.Down || got.D.Fuse != fuse-2 || got.Place != 8 {
			t.Errorf("Add with a Fuse of %d is %s, %v", fuse, told(got), ok)
		}
	}
	// Five records, a flush, the head, a flush, the record, a flush.
	for fuse := range 12 {
		got, ok := impl.Add(none.fused(fuse).store(), r)
		if ok != (fuse >= 10) || got.D.Down == ok {
			t.Errorf("Add with a Fuse of %d is %s, %v", fuse, told(got), ok)
		}
		laid, want := fuse >= 8, none.x
		if ok {
			want, _ = z.applied(none.x, r)
		}
		place := map[bool]int{false: 30, true: 5}[laid]
		if ok {
			place = 6
		}
		if got.Gen != map[bool]int{false: 8, true: 9}[laid] || got.Place != place || !alike(got.T, want) {
			t.Errorf("Add with a Fuse of %d is %s", fuse, told(got))
		}
	}
}

// keeps are what may be kept of n writes: each part of a few, of many all,
// nothing, each one alone, each but one, and as far as each.
func keeps(n int) []int {
	if n <= 5 {
		l := make([]int, 1<<n)
		for i := range l {
			l[i] = i
		}
		return l
	}
	all := 1<<n - 1
	l := []int{0, all, all & 0x15555555, all & 0x2aaaaaaa}
	for i := range n {
		l = append(l, 1<<i, all&^(1<<i), 1<<i-1, all&^(1<<i-1))
	}
	slices.Sort(l)
	return slices.Compact(l)
}

// checkOpensAs fails when a device is not opened with one of these tabs, or one
// opening leaves it with another tab than that which it found, also when the power
// goes in its midst, so often as told.
func checkOpensAs(t *testing.T, name string, d impl.Dev, may []impl.Tab, often int) {
	t.Helper()
	o, ok := impl.Open(copiedDev(d))
	if !ok || o.D.Down || !impl.StoreOk(o) || !slices.ContainsFunc(may, func(x impl.Tab) bool { return alike(x, o.T) }) {
		t.Fatalf("%s: Open of %s is %s, %v; not of %v", name, told(impl.Store{D: d}), told(o), ok, may)
	}
	if often == 0 {
		return
	}
	for fuse := range len(recsWanted(o.T)) + 3 {
		again, ok := impl.Open(fused(copiedDev(d), fuse))
		// The last generation is not laid anew.
		if down := again.D.Down; !ok || down == (again.Gen == gensMost) || !impl.StoreOk(again) || !alike(again.T, o.T) {
			t.Fatalf("%s: Open with a Fuse of %d is %s, %v", name, fuse, told(again), ok)
		}
		for _, keep := range keeps(len(again.D.Cache)) {
			checkOpensAs(t, fmt.Sprintf("%s, opened with %d, kept %b", name, fuse, keep), impl.FallDev(again.D, keep), []impl.Tab{o.T}, often-1)
		}
	}
}

// storesToFall are stores to whose records the power may go: with room, without
// room, with much and with little.
func storesToFall() []impl.Store {
	z := shelfOf()
	x := tab(3, rowsOf("a", "b"), mark(2, 7, 1))
	l := []impl.Store{impl.Format(), z.vaultAt(8, x, asked(3)...).store(), z.vaultAt(8, x, asked(25)...).store(), z.vaultAt(8, x, asked(26)...).store(), z.vaultAt(59998, x, asked(26)...).store(), z.vaultAt(59999, x, asked(2)...).store()}
	// one that was laid over others
	s := impl.Format()
	for _, r := range append(asked(40), rowRec(keyed("a", newRow("z"))), rowRec(keyed("b", newRow("z"))), goneRec("a")) {
		s, _ = impl.Add(s, r)
	}
	return append(l, s)
}

func recsToFall() []impl.Rec {
	return []impl.Rec{by(rowRec(keyed("a", bothRow(impl.CsLat, "\xe9", "é"))), 1, 5, 0), goneRec("b"), by(phaseRec(6), 2, 8, 3), whoRec(9, 65535, 6)}
}

// What is added is there wholly, or not at all, whenever the power goes, and
// whatever is kept then.
func TestWhateverIsKeptARecordIsThereWhollyOrNotAtAll(t *testing.T) {
	t.Parallel()
	z := shelfOf()
	for i, s := range storesToFall() {
		for _, r := range recsToFall() {
			behind, is := z.applied(s.T, r)
			if !is {
				t.Fatalf("%v is not applied", r)
			}
			seen := map[bool]int{}
			for fuse := range 14 {
				from := copiedStore(s)
				from.D.Fuse = fuse
				got, ok := impl.Add(from, r)
				may := []impl.Tab{s.T, behind}
				if ok {
					may = may[1:]
				} else if !got.D.Down {
					t.Errorf("Add with a Fuse of %d is false, and not Down", fuse)
				}
				for _, keep := range keeps(len(got.D.Cache)) {
					d := impl.FallDev(got.D, keep)
					o, _ := impl.Open(d)
					seen[alike(o.T, behind)]++
					checkOpensAs(t, fmt.Sprintf("store %d, %v, fuse %d, kept %b", i, r, fuse, keep), d, may, 1)
				}
			}
			if seen[true] == 0 || seen[false] == 0 && !alike(s.T, behind) {
				t.Errorf("store %d, %v: there %d times, not there %d times", i, r, seen[true], seen[false])
			}
		}
	}
}

// What is laid changes nothing that is known, whenever the power goes.
func TestWhateverIsKeptWhatIsLaidIsAsItWas(t *testing.T) {
	t.Parallel()
	z := shelfOf()
	for i, s := range append(storesToFall(), z.vaultAt(4, greatest()).store(), z.vaultAt(5, greatest(), asked(12)...).store()) {
		for fuse := range 22 {
			from := copiedStore(s)
			from.D.Fuse = fuse
			got := impl.Lay(from)
			for _, keep := range keeps(len(got.D.Cache)) {
				checkOpensAs(t, fmt.Sprintf("store %d, laid with %d, kept %b", i, fuse, keep), impl.FallDev(got.D, keep), []impl.Tab{s.T}, map[bool]int{true: 1, false: 0}[len(s.T.Rows) < 8])
			}
		}
	}
}

// The power goes in the midst of opening, and again, and again.
func TestThePowerGoesAgainAndAgain(t *testing.T) {
	s := impl.Format()
	s, _ = impl.Add(s, rowRec(keyed("a", newRow("z"))))
	for fuse := range 5 {
		from := copiedStore(s)
		from.D.Fuse = fuse
		got := impl.Lay(from)
		for _, keep := range keeps(len(got.D.Cache)) {
			checkOpensAs(t, fmt.Sprintf("laid with %d, kept %b", fuse, keep), impl.FallDev(got.D, keep), []impl.Tab{s.T}, 3)
		}
	}
}

// What is laid and has no head is not there: the generation ahead is.
func TestWhatIsLaidWithoutAHead(t *testing.T) {
	z := shelfOf()
	x := tab(3, rowsOf("a", "b"), mark(2, 7, 1))
	for _, gen := range []int{8, 9, 59998, 59999} {
		v := z.vaultAt(gen, x, asked(3)...)
		n := len(recsWanted(v.x))
		for fuse, want := range map[int]int{n: gen, n + 1: gen, n + 2: gen} {
			got := impl.Lay(v.fused(fuse).store())
			if !got.D.Down || got.Gen != gen || got.Place != v.place {
				t.Errorf("Lay with a Fuse of %d is %s", fuse, told(got))
			}
			d := impl.FallDev(got.D, 0)
			if fuse > n {
				if y, k := impl.Replay(d, gen+1); k != n || !alike(y, v.x) {
					t.Errorf("what is laid is %v, %d", y, k)
				}
			}
			o, ok := impl.Open(d)
			if !ok || o.Gen != want+1 || !alike(o.T, v.x) {
				t.Errorf("Open behind a Fuse of %d is %s, %v", fuse, told(o), ok)
			}
			// What Open does not lay is of the generation that it found.
			if o, ok := impl.Open(fused(d, 0)); !ok || o.Gen != want || o.Place != v.place || !alike(o.T, v.x) {
				t.Errorf("Open behind a Fuse of %d, and no more, is %s, %v", fuse, told(o), ok)
			}
		}
		// The head was kept, and so all is.
		got := impl.Lay(v.fused(n + 2).store())
		if o, ok := impl.Open(fused(impl.FallDev(got.D, 1), 0)); !ok || o.Gen != gen+1 || o.Place != n || !alike(o.T, v.x) {
			t.Errorf("Open with the head kept is %s, %v", told(o), ok)
		}
		// Other records of a generation without a head are not there either.
		l := v.d
		for place, r := range recsWanted(greatest()) {
			l = l.withSec(placeSec(gen+1, place), recText(gen+1, place, r))
		}
		if o, ok := impl.Open(fused(l.dev(), 0)); !ok || o.Gen != gen || !alike(o.T, v.x) {
			t.Errorf("Open with another tab laid is %s, %v", told(o), ok)
		}
		checkOpened(t, z, l)
	}
}

// heads answers a ledger of these bytes in the heads' sectors, with a tab's
// records laid as of each of these generations.
func heads(even string, odd string, gens map[int]impl.Tab) ledger {
	l := ledgerOf(dev(make([]string, storeHas)...)).withSec(0, even).withSec(1, odd)
	for gen, x := range gens {
		for place, r := range recsWanted(x) {
			l = l.withSec(placeSec(gen, place), recText(gen, place, r))
		}
	}
	return l
}

func TestWhichHeadIsTaken(t *testing.T) {
	z := shelfOf()
	a, b := tab(3, rowsOf("a", "b"), mark(2, 7, 1)), tab(5, rowsOf("c"), mark(4, 9, 2))
	for _, x := range []struct {
		name string
		l    ledger
		gen  int
		want impl.Tab
	}{
		{"both are right", heads(headText(8, 4), headText(7, 3), map[int]impl.Tab{8: a, 7: b}), 8, a},
		{"both are right, the odd one is greater", heads(headText(8, 4), headText(9, 3), map[int]impl.Tab{8: a, 9: b}), 9, b},
		{"one is much greater", heads(headText(8, 4), headText(259, 3), map[int]impl.Tab{8: a, 259: b}), 259, b},
		{"the even one is much greater", heads(headText(512, 4), headText(259, 3), map[int]impl.Tab{512: a, 259: b}), 512, a},
		{"the greatest", heads(headText(60000, 4), headText(59999, 3), map[int]impl.Tab{60000: a, 59999: b}), 60000, a},
		{"the least", heads("", headText(1, 3), map[int]impl.Tab{1: b}), 1, b},
		{"an even one alone", heads(headText(8, 4), "", map[int]impl.Tab{8: a, 9: b}), 8, a},
		{"an odd one alone", heads("", headText(7, 3), map[int]impl.Tab{8: a, 7: b}), 7, b},
		{"the greater one is of more than there are", heads(headText(8, 5), headText(7, 3), map[int]impl.Tab{8: a, 7: b}), 7, b},
		{"the greater one is of all places", heads(headText(8, 30), headText(7, 3), map[int]impl.Tab{8: a, 7: b}), 7, b},
		{"the greater one has no record", heads(headText(8, 1), headText(7, 3), map[int]impl.Tab{7: b}), 7, b},
		{"the greater one is of fewer than there are", heads(headText(8, 1), headText(7, 3), map[int]impl.Tab{8: a, 7: b}), 8, a},
		{"the greater one is of none", heads(headText(8, 0), headText(7, 3), map[int]impl.Tab{7: b}), 8, impl.Tab{}},
		{"the lesser one is of more than there are", heads(headText(8, 4), headText(7, 4), map[int]impl.Tab{8: a, 7: b}), 8, a},
		{"the greater one is in the other one's sector", heads(headText(9, 0), headText(7, 3), map[int]impl.Tab{7: b}), 7, b},
		{"the even one is in the other one's sector", heads(headText(8, 4), headText(10, 0), map[int]impl.Tab{8: a}), 8, a},
		{"the lesser one is in the other one's sector", heads(headText(8, 4), headText(6, 0), map[int]impl.Tab{8: a}), 8, a},
		{"the greater one has a byte turned", heads(headText(8, 4)[:5]+"\x00", headText(7, 3), map[int]impl.Tab{8: a, 7: b}), 7, b},
		{"the greater one has a byte more", heads(headText(8, 4)+"\x00", headText(7, 3), map[int]impl.Tab{8: a, 7: b}), 7, b},
		{"the greater one is of no generation", heads(sealed(wordText(60002)+wordText(1)), headText(7, 3), map[int]impl.Tab{60002: a, 7: b}), 7, b},
		{"the greater one is of too many", heads(sealed(wordText(8)+wordText(31)), headText(7, 3), map[int]impl.Tab{8: a, 7: b}), 7, b},
	} {
		found := x.l
		found.fuse = 0
		o, ok := impl.Open(found.dev())
		if !ok || o.Gen != x.gen || !alike(o.T, x.want) {
			t.Errorf("%s: Open without laying is %s, %v", x.name, told(o), ok)
		}
		if _, is := checkOpened(t, z, x.l); !is {
			t.Errorf("%s: it is not opened by the books", x.name)
		}
		o, ok = impl.Open(x.l.dev())
		if !ok || !alike(o.T, x.want) || o.Gen != min(x.gen+1, gensMost) || o.Place != len(recsWanted(x.want)) || !impl.StoreOk(o) {
			t.Errorf("%s: Open is %s, %v", x.name, told(o), ok)
		}
	}
}

func TestDevicesWithoutAHead(t *testing.T) {
	a, b := tab(3, rowsOf("a", "b"), mark(2, 7, 1)), tab(5, rowsOf("c"), mark(4, 9, 2))
	both := map[int]impl.Tab{8: a, 7: b}
	for name, l := range map[string]ledger{
		"no head":                         heads("", "", both),
		"both in the other one's sector":  heads(headText(7, 3), headText(8, 4), both),
		"one in the other one's sector":   heads(headText(7, 3), "", both),
		"the even one in the odd sector":  heads("", headText(8, 4), both),
		"both of more than there are":     heads(headText(8, 5), headText(7, 4), both),
		"of other generations":            heads(headText(10, 1), headText(9, 1), both),
		"of no record":                    heads(headText(8, 1), "", nil),
		"a record in the place of a head": heads(recText(8, 0, phaseRec(1)), recText(7, 0, phaseRec(1)), both),
		"generations 0 and 60001":         heads(sealed(wordText(0)+wordText(0)), sealed(wordText(60001)+wordText(0)), map[int]impl.Tab{0: a, 60001: b}),
		"bytes turned":                    heads(headText(8, 4)[:3]+"\x05"+headText(8, 4)[4:], headText(7, 3)[1:], both),
		"too many":                        heads(sealed(wordText(8)+wordText(31)), sealed(wordText(7)+wordText(256)), both),
		"nothing":                         heads("", "", nil),
	} {
		for _, d := range []impl.Dev{l.dev(), down(l.dev()), fused(l.dev(), 0), fused(l.dev(), 1000)} {
			notOpened(t, name, d)
		}
	}
}

func TestDevicesOfOtherLengths(t *testing.T) {
	v := shelfOf().vaultAt(8, tab(3, rowsOf("a", "b"), mark(2, 7, 1)))
	for _, n := range []int{1, 2, 7, 31, 32, 60, 61, 63, 64} {
		l := v.d
		l.secs = append(slices.Clone(l.secs), "", "")[:n]
		for _, d := range []impl.Dev{l.dev(), down(l.dev()), fused(l.dev(), 3)} {
			notOpened(t, fmt.Sprintf("%d sectors", n), d)
		}
	}
	for n := range 70 {
		notOpened(t, fmt.Sprintf("%d new sectors", n), impl.DevNew(n))
	}
}

// What is not flushed yet is of a store that is Down, or of none.
func TestOpenOfWhatIsNotFlushedYet(t *testing.T) {
	z := shelfOf()
	v := z.vaultAt(8, tab(3, rowsOf("a"), mark(2, 7, 1)))
	l := v.d.write(placeSec(8, 3), recText(8, 3, phaseRec(5)))
	notOpened(t, "a device that is not flushed", l.dev())
	checkOpened(t, z, l)
	l.down = true
	want := tab(5, rowsOf("a"), mark(2, 7, 1))
	o, ok := impl.Open(l.dev())
	if !ok || !sameStore(o, vault{l, want, 8, 4}.store()) || !impl.StoreOk(o) {
		t.Errorf("Open of a device that is Down is %s, %v", told(o), ok)
	}
	// A head that is not flushed is read as what was last written, too.
	n := len(recsWanted(v.x))
	got := impl.Lay(v.fused(n + 2).store())
	if o, ok := impl.Open(got.D); !ok || o.Gen != 9 || o.Place != n || !alike(o.T, v.x) || !o.D.Down {
		t.Errorf("Open of a device that is Down is %s, %v", told(o), ok)
	}
	if o, ok := impl.Open(impl.FallDev(got.D, 0)); !ok || o.Gen != 9 || !alike(o.T, v.x) {
		t.Errorf("Open of what is left is %s, %v", told(o), ok)
	}
}

// The last generation is opened as it is.
func TestOpenOfTheLastGeneration(t *testing.T) {
	z := shelfOf()
	for _, n := range []int{0, 3, 24} {
		v := z.vaultAt(60000, tab(3, rowsOf("a", "b"), mark(2, 7, 1), mark(4, 5, 6), mark(6, 7, 0)), asked(n)...)
		o, ok := impl.Open(v.d.dev())
		if !ok || !sameStore(o, v.store()) {
			t.Errorf("Open of the last generation is %s, %v", told(o), ok)
		}
	}
	v := z.vaultAt(59999, tab(3, nil))
	o, ok := impl.Open(v.d.dev())
	if !ok || o.Gen != 60000 || o.Place != 1 {
		t.Errorf("Open of the last but one is %s, %v", told(o), ok)
	}
	again, ok := impl.Open(o.D)
	if !ok || !sameStore(again, o) {
		t.Errorf("Open again is %s, %v", told(again), ok)
	}
}

// Whatever is done, one behind the other, and whenever the power goes, each store
// is as the books have it, and knows what it is to know.
func TestWhateverIsDoneAStoreIsAsTheBooksHaveIt(t *testing.T) {
	t.Parallel()
	z := shelfOf()
	keys := append(eightKeys(), "b", "c", "d")
	for seed := range 6 {
		w := walk(seed + 40)
		v := z.vaultAt(1, impl.Tab{})
		met := map[string]int{}
		for range 400 {
			if w.next(4) == 0 {
				v = v.fused(w.next(14))
			}
			r := w.anyRec(keys)
			behind, can := z.applied(v.x, r)
			ahead := v.x
			next, is := checkAdded(t, z, v, r)
			met[fmt.Sprint("added ", is)]++
			if v = next; !v.d.down {
				continue
			}
			met["fallen"]++
			l := v.fallen(w.next(1 << len(v.d.wrote)))
			for l.down || l.fuse < 0 {
				l.fuse = w.next(60)
				o, is := checkOpened(t, z, l)
				if !is || !alike(o.x, ahead) && !(can && alike(o.x, behind)) {
					t.Fatalf("walk %d: what is opened is %v, not %v nor %v", seed, o.x, ahead, behind)
				}
				if v = o.fused(-1); !o.d.down {
					break
				}
				met["fallen again"]++
				ahead, behind = o.x, o.x
				l = o.fallen(w.next(1 << min(len(o.d.wrote), 29)))
			}
		}
		if met["added true"] < 100 || met["added false"] < 100 || met["fallen"] < 30 || met["fallen again"] < 5 || v.gen < 20 {
			t.Errorf("walk %d: %v, generation %d", seed, met, v.gen)
		}
	}
}

// An empty list and nil are the same value.
func TestEmptyListsOfStores(t *testing.T) {
	z := shelfOf()
	for _, rows := range [][]impl.Row{nil, {}, rowsOf("a")[:0]} {
		for _, marks := range [][]impl.Mark{nil, {}, nineMarks()[:0]} {
			for _, cache := range [][]impl.Wr{nil, {}, manyWrs(3, 62)[:0]} {
				for _, b := range [][]byte{nil, {}, []byte("abc")[:0]} {
					s := impl.Format()
					s.T, s.D.Cache, s.D.Secs[0], s.D.Secs[61] = tab(0, rows, marks...), cache, b, b
					v := vault{ledgerOf(s.D), s.T, 1, 1}
					if !impl.StoreOk(s) {
						t.Errorf("StoreOk of %#v is false", s)
					}
					checkStore(t, "Lay", impl.Lay(s), z.laid(v))
					want, _ := z.added(v, phaseRec(3))
					if got, ok := impl.Add(s, phaseRec(3)); !ok || !sameStore(got, want.store()) {
						t.Errorf("Add is %s, %v", told(got), ok)
					}
					opened, _ := z.opened(v.d)
					if got, ok := impl.Open(s.D); !ok || !sameStore(got, opened.store()) {
						t.Errorf("Open is %s, %v", told(got), ok)
					}
				}
			}
		}
	}
}

// A storeCall is a call that is handed a store and a record.
type storeCall struct {
	name string
	call func(s impl.Store, r impl.Rec) impl.Store
}

func storeCalls() []storeCall {
	l := []storeCall{
		{"StoreOk", func(s impl.Store, r impl.Rec) impl.Store { impl.StoreOk(s); return impl.Store{} }},
		{"Lay", func(s impl.Store, r impl.Rec) impl.Store { return impl.Lay(s) }},
		{"two Lay", func(s impl.Store, r impl.Rec) impl.Store { return impl.Lay(impl.Lay(s)) }},
		{"Add", func(s impl.Store, r impl.Rec) impl.Store { got, _ := impl.Add(s, r); return got }},
		{"two Add", func(s impl.Store, r impl.Rec) impl.Store {
			got, _ := impl.Add(s, r)
			got, _ = impl.Add(got, r)
			return got
		}},
		{"Open", func(s impl.Store, r impl.Rec) impl.Store { got, _ := impl.Open(s.D); return got }},
		{"Format", func(s impl.Store, r impl.Rec) impl.Store { return impl.Format() }},
		{"GetHead", func(s impl.Store, r impl.Rec) impl.Store {
			for _, b := range s.D.Secs {
				impl.GetHead(b)
			}
			return impl.Store{}
		}},
	}
	for _, gen := range []int{0, 1, 2, 8, 9, 60000} {
		l = append(l, storeCall{fmt.Sprint("Replay of ", gen), func(s impl.Store, r impl.Rec) impl.Store { x, _ := impl.Replay(s.D, gen); return impl.Store{T: x} }})
	}
	return l
}

// spoilStore puts other texts and other parts into all lists of a store, behind
// their lengths too.
func spoilStore(s impl.Store) {
	for _, b := range textsOf(s.D) {
		spoil(b)
	}
	spoilMade(made{x: s.T})
	spoilLists(s.D)
}

// checkStoreRoom fails when a call writes into a store or a record, or the spare
// room behind their lists, or when its answer shares memory with these, or two
// lists of it with each other.
func checkStoreRoom(t *testing.T, c storeCall, s impl.Store, r impl.Rec) {
	t.Helper()
	d, dz := roomyDev(s.D)
	x, rec, xz := roomyTab(s.T, r)
	devAhead, tabAhead := dz.said(), xz.said()
	got := c.call(impl.Store{D: d, T: x, Gen: s.Gen, Place: s.Place}, rec)
	if !dz.same(devAhead) || !xz.same(tabAhead) {
		t.Errorf("%s of %s and %v: an argument is written", c.name, told(s), r)
	}
	said := copiedStore(got)
	dz.spoil()
	xz.spoil()
	if !sameStore(got, said) {
		t.Errorf("%s of %s and %v: the answer goes with an argument: %s, not %s", c.name, told(s), r, told(got), told(said))
	}
	devSpoilt, tabSpoilt := dz.said(), xz.said()
	checkNothingBehind(t, c.name, got.D)
	checkNoneBehind(t, c.name, made{x: got.T})
	checkTextsApart(t, c.name, append(textsOf(got.D), made{x: got.T}.texts()...))
	spoilStore(got)
	if !dz.same(devSpoilt) || !xz.same(tabSpoilt) {
		t.Errorf("%s of %s and %v: an argument goes with the answer", c.name, told(s), r)
	}
}

// storesOfAllSorts are stores that are right, some at whose operations the power
// goes, some that are not right.
func storesOfAllSorts() []impl.Store {
	var l []impl.Store
	for i, s := range append(storesToFall(), rightStores()[:30]...) {
		for _, fuse := range []int{-1, 0, 1, 2, 9} {
			if i > 6 && fuse > 0 {
				continue
			}
			one := copiedStore(s)
			one.D.Fuse = fuse
			l = append(l, one)
		}
	}
	return append(l, wrongStores()[:60]...)
}

func TestStoresStayAsTheyAre(t *testing.T) {
	t.Parallel()
	for _, s := range storesOfAllSorts() {
		for _, r := range append(recsToFall(), impl.Rec{}, rowRec(keyed("A", newRow("é")))) {
			for _, c := range storeCalls() {
				checkStoreRoom(t, c, s, r)
			}
		}
	}
}

// checkOneMemory fails when a call writes into a store whose lists of bytes are
// all of the same memory, or when two lists of its answer share any.
func checkOneMemory(t *testing.T, c storeCall, phase int, text string, fuse int, gone bool) {
	t.Helper()
	one, whole := roomy(text)
	before := bytes.Clone(whole)
	row := impl.Row{Old: impl.Cell{Tag: impl.CsLat, B: one[:0]}, New: impl.Cell{B: one[:0]}, Has: both}
	s := impl.Store{D: impl.Dev{Fuse: fuse, Down: gone}, T: tab(phase, []impl.Row{keyed("0", row), keyed("a", row)}), Gen: 8, Place: 30}
	for range storeHas {
		s.D.Secs = append(s.D.Secs, one)
	}
	got := c.call(s, rowRec(keyed("b", row)))
	checkTextsApart(t, c.name, append(textsOf(got.D), made{x: got.T}.texts()...))
	spoilStore(got)
	if !bytes.Equal(whole, before) || string(s.D.Secs[61]) != text || !sameRow(s.T.Rows[1], keyed("a", row)) {
		t.Errorf("%s of a store of one memory: it is written", c.name)
	}
}

// All lists of bytes of a store may be of the same memory; those of what is made
// of it are not.
func TestStoresOfOneMemory(t *testing.T) {
	for _, text := range []string{"", "a", headText(2, 0), headText(1, 0), recText(1, 0, phaseRec(3)), strings.Repeat("z", 20)} {
		for _, fuse := range []int{-1, 0, 2} {
			for _, c := range storeCalls() {
				checkOneMemory(t, c, 2, text, fuse, false)
				checkOneMemory(t, c, 2, text, fuse, true)
			}
		}
	}
}

// checkStoreIsNew fails when what a call answers goes with what it answered
// ahead.
func checkStoreIsNew(t *testing.T, c storeCall, s impl.Store, r impl.Rec) {
	t.Helper()
	one, two := c.call(s, r), c.call(s, r)
	said := copiedStore(two)
	spoilStore(one)
	if three := c.call(s, r); !sameStore(two, said) || !sameStore(three, said) {
		t.Errorf("%s of %s: %s, %s, not %s", c.name, told(s), told(two), told(three), told(said))
	}
}

func TestStoresAreNewEachTime(t *testing.T) {
	for _, s := range storesOfAllSorts() {
		for _, c := range storeCalls() {
			for _, r := range recsToFall()[:2] {
				checkStoreIsNew(t, c, s, r)
			}
		}
	}
	one, two := impl.HeadOf(5, 3), impl.HeadOf(5, 3)
	spoil(one)
	if string(two) != headText(5, 3) || string(impl.HeadOf(5, 3)) != headText(5, 3) {
		t.Errorf("HeadOf goes with what it answered ahead: %x", two)
	}
}

func TestNumbersFarFromWhatAStoreHas(t *testing.T) {
	s := impl.Format()
	for _, n := range farNumbers() {
		for _, one := range []impl.Store{{D: s.D, Gen: n, Place: 1}, {D: s.D, Gen: 1, Place: n}, {D: s.D, Gen: n, Place: n}, {D: fused(s.D, n), Gen: 1, Place: 1}} {
			if impl.StoreOk(one) || !sameStore(impl.Lay(one), one) {
				t.Errorf("%s: StoreOk is %v", told(one), impl.StoreOk(one))
			}
			if got, ok := impl.Add(one, phaseRec(n)); ok || !sameStore(got, one) {
				t.Errorf("Add to %s is %v", told(one), ok)
			}
		}
		if x, k := impl.Replay(s.D, n); k != 0 || !alike(x, impl.Tab{}) {
			t.Errorf("Replay of %d is %v, %d", n, x, k)
		}
	}
	if impl.StoreOk(impl.Store{D: s.D, Gen: math.MaxInt, Place: math.MinInt}) {
		t.Error("StoreOk is true")
	}
}
