package tests

import (
	"fmt"
	"math"
	"slices"
	"strings"
	"testing"

	"loop.example/g00475/impl"
)

// batchMost is how many rows a step goes through, written out apart from the
// program.
const batchMost = 2

// A clerk is a node as the chapter tells of it, on a vault.
type clerk struct {
	v  vault
	cs int
}

func (c clerk) node() impl.Node {
	return impl.Node{S: c.v.store(), Cs: c.cs}
}

func (c clerk) fused(fuse int) clerk {
	c.v = c.v.fused(fuse)
	return c
}

func clerkOf(n impl.Node) clerk {
	return clerk{vault{ledgerOf(n.S.D), copiedTab(n.S.T), n.S.Gen, n.S.Place}, n.Cs}
}

// A request is what somebody asks of a node: a put, or a delete.
type request struct {
	del bool
	who int
	seq int
	key string
	s   string
}

func put(who int, seq int, key string, s string) request {
	return request{false, who, seq, key, s}
}

func del(who int, seq int, key string) request {
	return request{true, who, seq, key, ""}
}

// of asks it of the program.
func (q request) of(n impl.Node) (impl.Node, int, bool) {
	if q.del {
		return impl.NodeDel(n, q.who, q.seq, q.key)
	}
	return impl.NodePut(n, q.who, q.seq, q.key, q.s)
}

// clerkOk and awake say by the books whether a node is right, and can do
// anything.
func (z shelf) clerkOk(c clerk) bool {
	return z.vaultOk(c.v) && slices.Contains(oldTags(), c.cs)
}

func (z shelf) awake(c clerk) bool {
	return z.clerkOk(c) && !c.v.d.down
}

func (c clerk) rowAt(key string) (impl.Row, bool) {
	for _, r := range c.v.x.Rows {
		if r.Key == key {
			return r, true
		}
	}
	return impl.Row{}, false
}

// given answers by the books a clerk with one more record.
func (z shelf) given(c clerk, r impl.Rec) (clerk, bool) {
	v, is := z.added(c.v, r)
	return clerk{v, c.cs}, is
}

func (z shelf) loaded(c clerk, key string, b string) (clerk, int) {
	switch {
	case !z.awake(c) || !namePattern.MatchString(key) || len(b) > cellMost:
		return c, impl.CoForm
	case c.v.x.Phase != impl.PhIdle:
		return c, impl.CoPhase
	}
	r := keyed(key, oldRow(c.cs, b))
	if _, said := z.text(r.Old); !said {
		r = aside(r)
	}
	out, is := z.given(c, rowRec(r))
	if !is {
		return out, impl.CoFull
	}
	return out, impl.CoGood
}

func (z shelf) got(c clerk, key string) (string, int) {
	if !z.awake(c) {
		return "", impl.CoForm
	}
	r, there := c.rowAt(key)
	if !there {
		return "", impl.CoNone
	}
	s, said := z.rowText(r)
	if !said {
		return "", impl.CoAside
	}
	return s, impl.CoGood
}

// due answers by the books the record of what is asked for the first time, and
// its code.
func (z shelf) due(c clerk, q request) (impl.Rec, int) {
	refused := impl.Rec{Kind: kindWho}
	_, there := c.rowAt(q.key)
	if q.del {
		switch {
		case !namePattern.MatchString(q.key):
			return refused, impl.CoForm
		case !there:
			return refused, impl.CoNone
		}
		return goneRec(q.key), impl.CoGood
	}
	r, code := z.rowOf(c.v.x.Phase, q.key, c.cs, q.s)
	if code != impl.CoGood {
		return refused, code
	}
	if !there && len(c.v.x.Rows) == rowsMost {
		return refused, impl.CoFull
	}
	return rowRec(r), impl.CoGood
}

func (z shelf) served(c clerk, q request) (clerk, int, bool) {
	if !z.awake(c) || q.who < 1 || q.who > whoMost || q.seq < 1 || q.seq > wordMost {
		return c, impl.CoForm, false
	}
	for _, m := range c.v.x.Marks {
		if m.Who == q.who && m.Seq > q.seq {
			return c, impl.CoForm, false
		}
		if m.Who == q.who && m.Seq == q.seq {
			return c, m.Code, false
		}
	}
	r, code := z.due(c, q)
	out, is := z.given(c, by(r, q.who, q.seq, code))
	if !is {
		return out, impl.CoFull, false
	}
	return out, code, true
}

func (z shelf) phased(c clerk, p int) (clerk, bool) {
	if !z.awake(c) {
		return c, false
	}
	if isPhase(p) && phaseBooks()[c.v.x.Phase].follows[p] == 'x' {
		return z.given(c, phaseRec(p))
	}
	return c, c.v.x.Phase == p
}

// turned answers by the books a row as a phase is to have it.
func (z shelf) turned(phase int, r impl.Row) impl.Row {
	switch phase {
	case impl.PhFill, impl.PhCheck:
		return z.filled(r)
	case impl.PhCut:
		return z.cut(r)
	case impl.PhBack:
		return z.back(r)
	}
	return r
}

// A stride is what NodeStep answers beside the node.
type stride struct {
	from string
	last int
	ok   bool
}

func (z shelf) stepped(c clerk, from string) (clerk, stride) {
	if !z.awake(c) || !phaseBooks()[c.v.x.Phase].walks {
		return c, stride{from, 0, false}
	}
	behind := slices.DeleteFunc(slices.Clone(c.v.x.Rows), func(r impl.Row) bool { return strings.Compare(r.Key, from) <= 0 })
	out, at := c, from
	for i := 0; i < batchMost && i < len(behind); i++ {
		r := z.turned(c.v.x.Phase, behind[i])
		at = behind[i].Key
		if sameRow(r, behind[i]) {
			continue
		}
		var is bool
		if out, is = z.given(out, rowRec(r)); !is {
			return out, stride{from, 0, false}
		}
	}
	if len(behind) > batchMost {
		return out, stride{at, 0, true}
	}
	return out, stride{at, 1, true}
}

func copiedNode(n impl.Node) impl.Node {
	return impl.Node{S: copiedStore(n.S), Cs: n.Cs}
}

func sameNode(a impl.Node, b impl.Node) bool {
	return sameStore(a.S, b.S) && a.Cs == b.Cs
}

func toldNode(n impl.Node) string {
	return fmt.Sprintf("old signs %d, %s", n.Cs, told(n.S))
}

// checkNode fails when a node is another one than that.
func checkNode(t *testing.T, name string, got impl.Node, want impl.Node) {
	t.Helper()
	if !sameNode(got, want) {
		t.Errorf("%s is %s; not %s", name, toldNode(got), toldNode(want))
	}
}

// checkLoaded, checkGot, checkServed, checkPhased and checkStepped fail when a
// call answers other than the books have.
func checkLoaded(t *testing.T, z shelf, c clerk, key string, b string) (clerk, int) {
	t.Helper()
	want, good := z.loaded(c, key, b)
	got, code := impl.NodeLoad(c.node(), key, []byte(b))
	if code != good {
		t.Errorf("NodeLoad of %q and %x to %s: the code %d, not %d", key, b, toldNode(c.node()), code, good)
	}
	checkNode(t, fmt.Sprintf("NodeLoad of %q and %x", key, b), got, want.node())
	return want, good
}

func checkGot(t *testing.T, z shelf, c clerk, key string) (string, int) {
	t.Helper()
	want, good := z.got(c, key)
	if got, code := impl.NodeGet(c.node(), key); got != want || code != good {
		t.Errorf("NodeGet of %q of %s is %q, %d; not %q, %d", key, toldNode(c.node()), got, code, want, good)
	}
	return want, good
}

func checkServed(t *testing.T, z shelf, c clerk, q request) (clerk, int, bool) {
	t.Helper()
	want, good, is := z.served(c, q)
	got, code, now := q.of(c.node())
	if code != good || now != is {
		t.Errorf("%v, asked of %s: %d, %v; not %d, %v", q, toldNode(c.node()), code, now, good, is)
	}
	checkNode(t, fmt.Sprint(q), got, want.node())
	return want, good, is
}

func checkPhased(t *testing.T, z shelf, c clerk, p int) (clerk, bool) {
	t.Helper()
	want, is := z.phased(c, p)
	got, ok := impl.NodePhase(c.node(), p)
	if ok != is {
		t.Errorf("NodePhase %d of %s: %v", p, toldNode(c.node()), ok)
	}
	checkNode(t, fmt.Sprint("NodePhase ", p), got, want.node())
	return want, is
}

func checkStepped(t *testing.T, z shelf, c clerk, from string) (clerk, stride) {
	t.Helper()
	want, is := z.stepped(c, from)
	got, key, last, ok := impl.NodeStep(c.node(), from)
	if (stride{key, last, ok}) != is {
		t.Errorf("NodeStep from %q of %s: %q, %d, %v; not %v", from, toldNode(c.node()), key, last, ok, is)
	}
	checkNode(t, fmt.Sprintf("NodeStep from %q", from), got, want.node())
	return want, is
}

// clerkAt answers a clerk of a generation in which a tab was laid on nothing, and
// to which these records were added.
func (z shelf) clerkAt(cs int, gen int, x impl.Tab, more ...impl.Rec) clerk {
	return clerk{z.vaultAt(gen, x, more...), cs}
}

// holding answers the tab of a phase with one row a key, of both texts where that
// is told, else of an Old alone.
func holding(phase int, has int, keys ...string) impl.Tab {
	var rows []impl.Row
	for _, key := range keys {
		r := oldRow(impl.CsLat, key)
		if has == both {
			r = bothRow(impl.CsLat, key, key)
		} else if has == onlyNew {
			r = newRow(key)
		}
		rows = append(rows, keyed(key, r))
	}
	return tab(phase, rows)
}

func TestHowManyRowsAStepGoesThrough(t *testing.T) {
	if impl.Batch != batchMost {
		t.Errorf("Batch is %d", impl.Batch)
	}
}

func TestNewNodes(t *testing.T) {
	for cs := 1; cs <= 5; cs++ {
		n := impl.NodeNew(cs)
		checkNode(t, fmt.Sprint("NodeNew ", cs), n, impl.Node{S: shelfOf().vaultAt(1, impl.Tab{}).store(), Cs: cs})
		if !impl.NodeOk(n) {
			t.Errorf("NodeOk of NodeNew %d is false", cs)
		}
	}
	for _, cs := range append(noOldTags(), 0, -1, 6, 7, 1<<32+1) {
		n := impl.NodeNew(cs)
		checkNode(t, fmt.Sprint("NodeNew ", cs), n, impl.Node{})
		if impl.NodeOk(n) || impl.NodeOk(impl.Node{S: impl.Format(), Cs: cs}) {
			t.Errorf("NodeOk of a node of %d is true", cs)
		}
	}
}

func TestNodesThatAreRight(t *testing.T) {
	for i, s := range rightStores() {
		for cs := 1; cs <= 5; cs++ {
			n := impl.Node{S: s, Cs: cs}
			if !impl.NodeOk(n) {
				t.Errorf("NodeOk of %s is false", toldNode(n))
			}
		}
		for _, cs := range []int{0, 6, -1} {
			if n := (impl.Node{S: s, Cs: cs}); i < 50 && impl.NodeOk(n) {
				t.Errorf("NodeOk of %s is true", toldNode(n))
			}
		}
	}
	for i, s := range wrongStores() {
		if n := (impl.Node{S: s, Cs: 1 + i%5}); impl.NodeOk(n) {
			t.Errorf("NodeOk of %s is true", toldNode(n))
		}
	}
}

// checkText fails when a key of a node has another text or code than that.
func checkText(t *testing.T, n impl.Node, key string, want string, good int) {
	t.Helper()
	if s, code := impl.NodeGet(n, key); s != want || code != good {
		t.Errorf("NodeGet of %q is %q, %d; not %q, %d", key, s, code, want, good)
	}
}

// checkDone fails when what is asked is not done for the first time, with that
// code.
func checkDone(t *testing.T, n impl.Node, q request, want int) impl.Node {
	t.Helper()
	got, code, now := q.of(n)
	if code != want || !now || !impl.NodeOk(got) || got.S.D.Down {
		t.Errorf("%v: %d, %v; not %d", q, code, now, want)
	}
	m, there := impl.MarkAt(got.S.T, q.who)
	if !there || m != mark(q.who, q.seq, want) {
		t.Errorf("%v: the Mark is %v, %v", q, m, there)
	}
	return got
}

// notDone fails when what is asked is done, or anything is turned by it.
func notDone(t *testing.T, n impl.Node, q request, want int) {
	t.Helper()
	got, code, now := q.of(copiedNode(n))
	if code != want || now {
		t.Errorf("%v: %d, %v; not %d and false", q, code, now, want)
	}
	checkNode(t, fmt.Sprint(q), got, n)
}

func TestTextsOfEachOldSetAreLoadedPutDeletedAndGot(t *testing.T) {
	for i, x := range fitting() {
		n, code := impl.NodeLoad(impl.NodeNew(x.cs), "a", []byte(x.b))
		if code != impl.CoGood || len(n.S.T.Rows) != 1 || !sameRow(n.S.T.Rows[0], keyed("a", oldRow(x.cs, x.b))) || len(n.S.T.Marks) != 0 {
			t.Errorf("NodeLoad of %x is %s, %d", x.b, toldNode(n), code)
		}
		checkText(t, n, "a", x.s, impl.CoGood)
		checkText(t, n, "b", "", impl.CoNone)
		n = checkDone(t, n, put(1+i%9, 1, "b", x.s), impl.CoGood)
		if !sameRow(n.S.T.Rows[1], keyed("b", oldRow(x.cs, x.b))) {
			t.Errorf("NodePut of %q: the row is %v", x.s, n.S.T.Rows[1])
		}
		checkText(t, n, "b", x.s, impl.CoGood)
		n = checkDone(t, n, put(1+i%9, 2, "a", "other"), impl.CoGood)
		checkText(t, n, "a", "other", impl.CoGood)
		checkText(t, n, "b", x.s, impl.CoGood)
		n = checkDone(t, n, del(1+i%9, 3, "b"), impl.CoGood)
		checkText(t, n, "b", "", impl.CoNone)
		checkText(t, n, "a", "other", impl.CoGood)
		if len(n.S.T.Rows) != 1 {
			t.Errorf("behind NodeDel there are %d rows", len(n.S.T.Rows))
		}
		n = checkDone(t, n, put(1+i%9, 4, "b", x.s), impl.CoGood)
		checkText(t, n, "b", x.s, impl.CoGood)
	}
	for _, x := range unfit() {
		n := checkDone(t, impl.NodeNew(x.cs), put(1, 1, "a", x.s), impl.CoUnfit)
		checkText(t, n, "a", "", impl.CoNone)
	}
}

// P15: whoever asks the same again, whatever it is then, has the answer that it
// had, and nothing is turned.
func TestWhatWasAskedBeforeIsAnsweredAsItWas(t *testing.T) {
	full := shelfOf().clerkAt(impl.CsLat, 4, holding(impl.PhIdle, onlyOld, eightKeys()...)).node()
	idle := shelfOf().clerkAt(impl.CsLat, 4, holding(impl.PhIdle, onlyOld, "a", "b")).node()
	for _, x := range []struct {
		n    impl.Node
		q    request
		code int
	}{
		{idle, put(1, 5, "a", "new"), impl.CoGood}, {idle, put(1, 5, "c", "new"), impl.CoGood}, {idle, del(1, 5, "a"), impl.CoGood},
		{idle, put(2, 1, "K", "new"), impl.CoForm}, {idle, put(2, 65535, "c", "\xff"), impl.CoForm}, {idle, del(9, 7, "K"), impl.CoForm}, {idle, put(2, 1, "c", strings.Repeat("a", 21)), impl.CoForm},
		{idle, del(3, 7, "c"), impl.CoNone}, {idle, put(4, 7, "a", "€"), impl.CoUnfit}, {full, put(5, 7, "c", "new"), impl.CoFull},
		{full, put(5, 7, "aa", "new"), impl.CoGood}, {full, del(5, 7, "zzzzzz"), impl.CoGood}, {full, put(5, 7, "", "new"), impl.CoForm}, {full, put(5, 7, "c", "€"), impl.CoUnfit},
	} {
		n := checkDone(t, copiedNode(x.n), x.q, x.code)
		for _, again := range []request{x.q, put(0, 0, "a", "other"), put(0, 0, "b", "other"), put(0, 0, "c", "€"), put(0, 0, "K", "\xff"), put(0, 0, "", ""), del(0, 0, "a"), del(0, 0, "b"), del(0, 0, "c"), del(0, 0, "")} {
			again.who, again.seq = x.q.who, x.q.seq
			notDone(t, n, again, x.code)
			// in another phase, and behind what somebody else asked, too
			other, _ := impl.NodePhase(n, impl.PhDual)
			notDone(t, other, again, x.code)
			other = checkDone(t, n, del(8, 3, "q"), impl.CoNone)
			notDone(t, other, again, x.code)
		}
	}
}

// Of nine who ask in turn, each has its own last number.
func TestEachWhoHasItsOwnNumbers(t *testing.T) {
	n := impl.NodeNew(impl.CsLat)
	for who := 1; who <= 9; who++ {
		n = checkDone(t, n, put(who, 10*who, "a", fmt.Sprint("text", who)), impl.CoGood)
	}
	for who := 1; who <= 9; who++ {
		for _, seq := range []int{1, 2, 10*who - 1} {
			notDone(t, n, put(who, seq, "a", "late"), impl.CoForm)
			notDone(t, n, del(who, seq, "a"), impl.CoForm)
		}
		notDone(t, n, put(who, 10*who, "a", "again"), impl.CoGood)
		notDone(t, n, del(who, 10*who, "a"), impl.CoGood)
		for _, seq := range []int{10*who + 1, 10*who + 2, 65534, 65535} {
			next := checkDone(t, n, put(who, seq, "a", "next"), impl.CoGood)
			checkText(t, next, "a", "next", impl.CoGood)
			next = checkDone(t, n, del(who, seq, "a"), impl.CoGood)
			checkText(t, next, "a", "", impl.CoNone)
		}
	}
	checkText(t, n, "a", "text9", impl.CoGood)
	last := checkDone(t, n, put(4, 65535, "a", "last"), impl.CoGood)
	notDone(t, last, put(4, 65535, "a", "again"), impl.CoGood)
	notDone(t, last, put(4, 65534, "a", "late"), impl.CoForm)
	notDone(t, last, put(4, 65536, "a", "late"), impl.CoForm)
}

// A Mark may have the number 0, ahead of which there is none.
func TestMarksOfNothingAskedYet(t *testing.T) {
	for code := range codeMost + 1 {
		n := shelfOf().clerkAt(impl.CsLat, 4, tab(0, rowsOf("a"), mark(1, 0, code), mark(3, 1, code))).node()
		notDone(t, n, put(1, 0, "a", "x"), impl.CoForm)
		checkDone(t, n, put(1, 1, "a", "x"), impl.CoGood)
		notDone(t, n, put(3, 0, "a", "x"), impl.CoForm)
		notDone(t, n, put(3, 1, "a", "x"), code)
		checkDone(t, n, put(3, 2, "a", "x"), impl.CoGood)
		checkDone(t, n, put(2, 1, "a", "x"), impl.CoGood)
	}
}

func TestWhoAndNumbersThatCannotBe(t *testing.T) {
	n := shelfOf().clerkAt(impl.CsLat, 4, holding(impl.PhIdle, onlyOld, "a", "b")).node()
	for _, x := range []struct{ who, seq int }{{1, 1}, {9, 1}, {1, 65535}, {9, 65535}} {
		checkDone(t, n, put(x.who, x.seq, "a", "x"), impl.CoGood)
		checkDone(t, n, del(x.who, x.seq, "a"), impl.CoGood)
	}
	wrong := []struct{ who, seq int }{{0, 1}, {10, 1}, {1, 0}, {1, 65536}, {9, 0}, {9, 65536}, {-1, 1}, {1, -1}, {0, 0}, {10, 65536}, {11, 5}, {257, 5}, {5, 65537}}
	for _, far := range farNumbers() {
		wrong = append(wrong, []struct{ who, seq int }{{far, 1}, {1, far}, {far, far}}...)
	}
	for _, x := range wrong {
		for _, key := range []string{"a", "c", "K", ""} {
			notDone(t, n, put(x.who, x.seq, key, "x"), impl.CoForm)
			notDone(t, n, del(x.who, x.seq, key), impl.CoForm)
		}
	}
}

func TestKeysThatAreNoNames(t *testing.T) {
	n := shelfOf().clerkAt(impl.CsLat, 4, holding(impl.PhIdle, onlyOld, "a", "b")).node()
	for _, key := range []string{"0", "z", "abcdef", "012345"} {
		if got, code := impl.NodeLoad(n, key, []byte("x")); code != impl.CoGood || len(got.S.T.Rows) != 3 {
			t.Errorf("NodeLoad of %q: %d", key, code)
		}
		got := checkDone(t, n, put(1, 1, key, "x"), impl.CoGood)
		checkText(t, got, key, "x", impl.CoGood)
		checkDone(t, n, del(1, 1, key), impl.CoNone)
		got = checkDone(t, got, del(1, 2, key), impl.CoGood)
		checkText(t, got, key, "", impl.CoNone)
	}
	for _, key := range noNames() {
		got, code := impl.NodeLoad(n, key, []byte("x"))
		if code != impl.CoForm {
			t.Errorf("NodeLoad of %q: %d", key, code)
		}
		checkNode(t, "NodeLoad", got, n)
		checkDone(t, n, put(1, 1, key, "x"), impl.CoForm)
		checkDone(t, n, del(1, 1, key), impl.CoForm)
		checkText(t, n, key, "", impl.CoNone)
	}
}

func TestHowManyBytesAreLoaded(t *testing.T) {
	for cs := 1; cs <= 5; cs++ {
		n := impl.NodeNew(cs)
		for _, size := range []int{0, 1, 19, 20} {
			got, code := impl.NodeLoad(n, "a", []byte(strings.Repeat("z", size)))
			if code != impl.CoGood {
				t.Errorf("NodeLoad of %d bytes: %d", size, code)
			}
			checkText(t, got, "a", strings.Repeat("z", size), impl.CoGood)
			got = checkDone(t, n, put(1, 1, "a", strings.Repeat("z", size)), impl.CoGood)
			checkText(t, got, "a", strings.Repeat("z", size), impl.CoGood)
		}
		for _, size := range []int{21, 22, 60, 61, 120, 256 + 20, 1 << 16} {
			got, code := impl.NodeLoad(n, "a", []byte(strings.Repeat("z", size)))
			if code != impl.CoForm {
				t.Errorf("NodeLoad of %d bytes: %d", size, code)
			}
			checkNode(t, "NodeLoad", got, n)
			checkDone(t, n, put(1, 1, "a", strings.Repeat("z", size)), impl.CoForm)
		}
	}
	// 20 bytes that have more than that in utf8 are loaded, but cannot be put
	n, code := impl.NodeLoad(impl.NodeNew(impl.CsLat), "a", []byte(strings.Repeat("\xe9", 20)))
	if code != impl.CoGood || n.S.T.Rows[0].Aside {
		t.Errorf("NodeLoad: %d, %v", code, n.S.T.Rows)
	}
	checkText(t, n, "a", strings.Repeat("é", 20), impl.CoGood)
	checkDone(t, n, put(1, 1, "a", strings.Repeat("é", 20)), impl.CoForm)
	checkDone(t, n, put(1, 1, "a", strings.Repeat("é", 10)), impl.CoGood)
}

// Bytes that have no text are set aside, and kept as they are.
func TestBytesWithoutATextAreSetAside(t *testing.T) {
	z := shelfOf()
	found := 0
	for cs := 1; cs <= 5; cs++ {
		for hi := range 256 {
			for _, b := range []string{string([]byte{byte(hi)}), string([]byte{'a', byte(hi)}), string([]byte{byte(hi), 0xa2}), string([]byte{0xa4, byte(hi)})} {
				s, said := z.text(cell(cs, b))
				n, code := impl.NodeLoad(impl.NodeNew(cs), "a", []byte(b))
				want := keyed("a", oldRow(cs, b))
				want.Aside = !said
				if code != impl.CoGood || !sameRow(n.S.T.Rows[0], want) {
					t.Errorf("NodeLoad of %x: %d, %v", b, code, n.S.T.Rows)
				}
				if said {
					checkText(t, n, "a", s, impl.CoGood)
					continue
				}
				found++
				checkText(t, n, "a", "", impl.CoAside)
				n = checkDone(t, n, put(1, 1, "a", "x"), impl.CoGood)
				checkText(t, n, "a", "x", impl.CoGood)
			}
		}
	}
	if found < 200 {
		t.Errorf("only %d have no text", found)
	}
}

// What is set aside because it has no Old has a text.
func TestWhatFitsNoOldSet(t *testing.T) {
	for _, x := range unfit() {
		for _, phase := range allPhases() {
			n := shelfOf().clerkAt(x.cs, 4, holding(phase, onlyNew, "a")).node()
			if phase == impl.PhIdle || phase == impl.PhOver {
				n = checkDone(t, n, put(1, 1, "a", x.s), impl.CoUnfit)
				checkText(t, n, "a", "a", impl.CoGood)
				continue
			}
			n = checkDone(t, n, put(1, 1, "a", x.s), impl.CoGood)
			checkText(t, n, "a", x.s, impl.CoGood)
			if r := n.S.T.Rows[0]; r.Has != onlyNew || r.Aside == (phase == impl.PhCut || phase == impl.PhDone) {
				t.Errorf("in the phase %d the row is %v", phase, r)
			}
		}
	}
}

func TestTheRowThatIsOneTooMany(t *testing.T) {
	z := shelfOf()
	seven := z.clerkAt(impl.CsLat, 4, holding(impl.PhIdle, onlyOld, eightKeys()[:7]...)).node()
	full, code := impl.NodeLoad(seven, "c", []byte("x"))
	if code != impl.CoGood || len(full.S.T.Rows) != 8 {
		t.Errorf("NodeLoad of the eighth row: %d", code)
	}
	put8 := checkDone(t, seven, put(1, 1, "c", "x"), impl.CoGood)
	for _, n := range []impl.Node{full, put8} {
		for _, key := range append(otherKeys(), "zzzzzz") {
			got, code := impl.NodeLoad(n, key, []byte("x"))
			if code != impl.CoFull {
				t.Errorf("NodeLoad of one row too many: %d", code)
			}
			checkNode(t, "NodeLoad", got, n)
			got = checkDone(t, n, put(2, 2, key, "x"), impl.CoFull)
			checkText(t, got, key, "", impl.CoNone)
			checkDone(t, n, put(2, 2, key, "\xff"), impl.CoForm)
			checkDone(t, n, put(2, 2, key, "€"), impl.CoUnfit)
			checkDone(t, n, del(2, 2, key), impl.CoNone)
		}
		for _, key := range append(eightKeys()[:7], "c") {
			got, code := impl.NodeLoad(n, key, []byte("y"))
			if code != impl.CoGood {
				t.Errorf("NodeLoad of a row that is there: %d", code)
			}
			checkText(t, got, key, "y", impl.CoGood)
			got = checkDone(t, n, put(2, 2, key, "y"), impl.CoGood)
			checkText(t, got, key, "y", impl.CoGood)
			got = checkDone(t, n, del(2, 2, key), impl.CoGood)
			got = checkDone(t, got, put(2, 3, "zz", "y"), impl.CoGood)
			checkDone(t, got, put(2, 4, "b", "y"), impl.CoFull)
		}
	}
	for _, phase := range allPhases() {
		n := z.clerkAt(impl.CsLat, 4, holding(phase, onlyOld, eightKeys()...)).node()
		checkDone(t, n, put(2, 2, "c", "x"), impl.CoFull)
		checkDone(t, n, put(2, 2, "a", "x"), impl.CoGood)
	}
}

func TestRowsAreLoadedInPhIdleAlone(t *testing.T) {
	for _, phase := range allPhases() {
		n := shelfOf().clerkAt(impl.CsKoi, 4, holding(phase, onlyOld, eightKeys()...)).node()
		want := impl.CoPhase
		if phase == impl.PhIdle {
			want = impl.CoGood
		}
		got, code := impl.NodeLoad(n, "a", []byte("\xc1"))
		if code != want || sameNode(got, n) == (phase == impl.PhIdle) {
			t.Errorf("NodeLoad in the phase %d: %d", phase, code)
		}
		// the code that is named first
		if got, code := impl.NodeLoad(n, "K", nil); code != impl.CoForm || !sameNode(got, n) {
			t.Errorf("NodeLoad of no name in the phase %d: %d", phase, code)
		}
		if got, code := impl.NodeLoad(n, "a", make([]byte, 21)); code != impl.CoForm || !sameNode(got, n) {
			t.Errorf("NodeLoad of 21 bytes in the phase %d: %d", phase, code)
		}
		if _, code := impl.NodeLoad(n, "c", nil); phase != impl.PhIdle && code != impl.CoPhase {
			t.Errorf("NodeLoad of one row too many in the phase %d: %d", phase, code)
		}
	}
}

// What is put in a phase is as RowOf of that phase has it.
func TestWhatIsPutInEachPhase(t *testing.T) {
	z := shelfOf()
	for i, x := range append(fitting(), unfit()...) {
		for _, phase := range allPhases() {
			c := z.clerkAt(x.cs, 2+i%7, holding(phase, []int{onlyOld, both, onlyNew}[i%3], "a", "b"))
			for _, key := range []string{"a", "c"} {
				got, _, _ := checkServed(t, z, c, put(1, 7, key, x.s))
				want, code := z.rowOf(phase, key, x.cs, x.s)
				if r, there := got.rowAt(key); code == impl.CoGood && (!there || !sameRow(r, want)) {
					t.Errorf("in the phase %d the row is %v", phase, r)
				}
			}
		}
	}
}

func TestPhasesOfNodes(t *testing.T) {
	z := shelfOf()
	for _, phase := range allPhases() {
		c := z.clerkAt(impl.CsLat, 4, holding(phase, onlyOld, "a", "b"))
		n := c.node()
		for _, p := range numbersAround() {
			got, ok := impl.NodePhase(c.node(), p)
			next := isPhase(p) && phaseBooks()[phase].follows[p] == 'x'
			if ok != (next || p == phase) {
				t.Errorf("NodePhase from %d to %d: %v", phase, p, ok)
			}
			if !next {
				checkNode(t, fmt.Sprintf("NodePhase from %d to %d", phase, p), got, n)
				continue
			}
			if got.S.T.Phase != p || got.S.Place != n.S.Place+1 || !slices.EqualFunc(got.S.T.Rows, n.S.T.Rows, sameRow) {
				t.Errorf("NodePhase from %d to %d is %s", phase, p, toldNode(got))
			}
			// It is so already, and nothing is added again.
			again, ok := impl.NodePhase(copiedNode(got), p)
			if !ok {
				t.Errorf("NodePhase %d again: false", p)
			}
			checkNode(t, "NodePhase again", again, got)
		}
	}
}

// eightSteps are where a node of eightKeys is behind each step.
var eightSteps = []stride{{"09", 0, true}, {"a", 0, true}, {"aa", 0, true}, {"zzzzzz", 1, true}}

func TestStepsGoThroughAllRows(t *testing.T) {
	z := shelfOf()
	for _, x := range []struct {
		phase int
		has   int
		want  int
	}{
		{impl.PhFill, onlyOld, both}, {impl.PhCheck, onlyOld, both}, {impl.PhCut, both, onlyNew}, {impl.PhBack, both, onlyOld},
		// rows that stay as they are
		{impl.PhFill, both, both}, {impl.PhFill, onlyNew, onlyNew}, {impl.PhCheck, both, both}, {impl.PhCut, onlyOld, onlyOld}, {impl.PhCut, onlyNew, onlyNew}, {impl.PhBack, onlyOld, onlyOld},
	} {
		n := z.clerkAt(impl.CsLat, 4, holding(x.phase, x.has, eightKeys()...)).node()
		from := ""
		for i, want := range eightSteps {
			ahead := copiedNode(n)
			var last int
			var ok bool
			n, from, last, ok = impl.NodeStep(n, from)
			if (stride{from, last, ok}) != want {
				t.Errorf("step %d in the phase %d: %q, %d, %v", i, x.phase, from, last, ok)
			}
			for k, r := range n.S.T.Rows {
				has := x.has
				if k < 2*i+2 {
					has = x.want
				}
				if r.Has != has || r.Aside {
					t.Errorf("behind step %d in the phase %d the row %d is %v", i, x.phase, k, r)
				}
				checkText(t, n, r.Key, r.Key, impl.CoGood)
			}
			if len(n.S.T.Marks) != 0 {
				t.Errorf("a step leaves the Mark %v", n.S.T.Marks)
			}
			if x.has == x.want {
				checkNode(t, "NodeStep of rows that stay", n, ahead)
			} else if n.S.Place != ahead.S.Place+2 {
				t.Errorf("step %d in the phase %d: the place is %d", i, x.phase, n.S.Place)
			}
		}
		checkNodeEnds(t, n)
	}
}

// checkNodeEnds fails when there is anything to do behind the last row.
func checkNodeEnds(t *testing.T, n impl.Node) {
	t.Helper()
	for _, from := range []string{"zzzzzz", "zzzzzz0", "zzzzzzz", "{", "~", "é", "\xff", strings.Repeat("z", 7), strings.Repeat("\xff", 300)} {
		got, at, last, ok := impl.NodeStep(copiedNode(n), from)
		if at != from || last != 1 || !ok {
			t.Errorf("NodeStep from %q: %q, %d, %v", from, at, last, ok)
		}
		checkNode(t, fmt.Sprintf("NodeStep from %q", from), got, n)
	}
}

func TestHowManyRowsAreBehind(t *testing.T) {
	z := shelfOf()
	for _, x := range []struct {
		keys []string
		from string
		want stride
		// of how many rows each is turned
		turned []int
	}{
		{nil, "", stride{"", 1, true}, nil},
		{nil, "k", stride{"k", 1, true}, nil},
		{[]string{"k"}, "", stride{"k", 1, true}, []int{0}},
		{[]string{"k"}, "j", stride{"k", 1, true}, []int{0}},
		{[]string{"k"}, "jzzzzzzzzz", stride{"k", 1, true}, []int{0}},
		{[]string{"k"}, "k", stride{"k", 1, true}, nil},
		{[]string{"k"}, "k\x00", stride{"k\x00", 1, true}, nil},
		{[]string{"k"}, "kk", stride{"kk", 1, true}, nil},
		{[]string{"k"}, "K", stride{"k", 1, true}, []int{0}},
		{[]string{"k"}, "\x00", stride{"k", 1, true}, []int{0}},
		{[]string{"k", "l"}, "", stride{"l", 1, true}, []int{0, 1}},
		{[]string{"k", "l"}, "k", stride{"l", 1, true}, []int{1}},
		{[]string{"k", "l"}, "l", stride{"l", 1, true}, nil},
		{[]string{"k", "l", "m"}, "", stride{"l", 0, true}, []int{0, 1}},
		{[]string{"k", "l", "m"}, "jj", stride{"l", 0, true}, []int{0, 1}},
		{[]string{"k", "l", "m"}, "k", stride{"m", 1, true}, []int{1, 2}},
		{[]string{"k", "l", "m"}, "k1", stride{"m", 1, true}, []int{1, 2}},
		{[]string{"k", "l", "m"}, "l", stride{"m", 1, true}, []int{2}},
		{[]string{"k", "l", "m"}, "lz", stride{"m", 1, true}, []int{2}},
		{[]string{"k", "l", "m"}, "m", stride{"m", 1, true}, nil},
		{[]string{"k", "l", "m", "n"}, "", stride{"l", 0, true}, []int{0, 1}},
		{[]string{"k", "l", "m", "n"}, "k", stride{"m", 0, true}, []int{1, 2}},
		{[]string{"k", "l", "m", "n"}, "l", stride{"n", 1, true}, []int{2, 3}},
		{[]string{"k", "kk", "kkk", "l"}, "k", stride{"kkk", 0, true}, []int{1, 2}},
		{[]string{"9", "a"}, "9zzzzz", stride{"a", 1, true}, []int{1}},
	} {
		for _, phase := range []int{impl.PhFill, impl.PhCheck} {
			n := z.clerkAt(impl.CsLat, 5, holding(phase, onlyOld, x.keys...)).node()
			got, at, last, ok := impl.NodeStep(n, x.from)
			if (stride{at, last, ok}) != x.want {
				t.Errorf("NodeStep from %q of %v: %q, %d, %v; not %v", x.from, x.keys, at, last, ok, x.want)
			}
			for i, r := range got.S.T.Rows {
				if (r.Has == both) != slices.Contains(x.turned, i) {
					t.Errorf("NodeStep from %q of %v: the row %d is %v", x.from, x.keys, i, r)
				}
			}
			if got.S.Place != n.S.Place+len(x.turned) {
				t.Errorf("NodeStep from %q of %v: the place is %d", x.from, x.keys, got.S.Place)
			}
		}
	}
}

// A row that stays stands between two that are turned.
func TestRowsThatAStepLeaves(t *testing.T) {
	z := shelfOf()
	rows := []impl.Row{keyed("a", bothRow(impl.CsLat, "\xe9", "é")), keyed("b", oldRow(impl.CsLat, "\xe9")), keyed("c", newRow("é")), keyed("d", oldRow(impl.CsLat, "\xe8"))}
	n := z.clerkAt(impl.CsLat, 4, tab(impl.PhFill, rows)).node()
	one, at, last, ok := impl.NodeStep(n, "")
	if at != "b" || last != 0 || !ok || one.S.Place != n.S.Place+1 || one.S.T.Rows[1].Has != both || one.S.T.Rows[3].Has != onlyOld {
		t.Errorf("the first step: %q, %d, %v, %s", at, last, ok, toldNode(one))
	}
	two, at, last, ok := impl.NodeStep(one, at)
	if at != "d" || last != 1 || !ok || two.S.Place != one.S.Place+1 || two.S.T.Rows[3].Has != both || !sameRow(two.S.T.Rows[2], rows[2]) {
		t.Errorf("the second step: %q, %d, %v, %s", at, last, ok, toldNode(two))
	}
	// What is set aside is set aside once.
	rows = []impl.Row{keyed("a", oldRow(impl.CsLat, strings.Repeat("\xe9", 20))), keyed("b", aside(oldRow(impl.CsWin, "\x81")))}
	n = z.clerkAt(impl.CsLat, 4, tab(impl.PhFill, rows)).node()
	one, _, _, ok = impl.NodeStep(n, "")
	if !ok || one.S.Place != n.S.Place+1 || !sameRow(one.S.T.Rows[0], aside(rows[0])) || !sameRow(one.S.T.Rows[1], rows[1]) {
		t.Errorf("the step that sets aside: %v, %s", ok, toldNode(one))
	}
	two, _, _, ok = impl.NodeStep(one, "")
	if !ok {
		t.Error("the step again: false")
	}
	checkNode(t, "the step again", two, one)
}

func TestStepsInPhasesThatDoNotWalk(t *testing.T) {
	for _, phase := range []int{impl.PhIdle, impl.PhDual, impl.PhDone, impl.PhOver} {
		for _, has := range []int{onlyOld, onlyNew, both} {
			n := shelfOf().clerkAt(impl.CsLat, 4, holding(phase, has, eightKeys()...)).node()
			for _, from := range []string{"", "a", "zzzzzz", "\xff"} {
				got, at, last, ok := impl.NodeStep(copiedNode(n), from)
				if at != from || last != 0 || ok {
					t.Errorf("NodeStep in the phase %d from %q: %q, %d, %v", phase, from, at, last, ok)
				}
				checkNode(t, "NodeStep", got, n)
			}
		}
	}
}

// clerksThatDo are clerks of each phase and old set that are right, with the
// power on.
func (z shelf) clerksThatDo() []clerk {
	var l []clerk
	for i, v := range z.vaultsThatDo() {
		for _, phase := range allPhases() {
			v.x.Phase = phase
			l = append(l, clerk{v, 1 + (i+phase)%5})
		}
	}
	return l
}

func requestsForClerks() []request {
	return []request{
		put(1, 1, "a", "x"), put(2, 7, "b", "x"), put(2, 8, "c", "é€"), put(5, 65535, "ab", "é"), put(9, 63000, "a", "x"), put(9, 62999, "a", "x"), put(9, 63001, "0", "жё"), put(3, 21001, "q", "あ"), put(4, 65535, "abcdef", strings.Repeat("z", 20)),
		put(6, 65535, "abcdefg", "x"), put(7, 65535, "a", strings.Repeat("z", 21)), put(7, 49000, "a", "x"), put(8, 65535, "a", "\xff"), put(0, 65535, "a", "x"), put(1, 65536, "a", "x"), put(3, 65535, "zzzzzz", "\U0001f600"),
		del(1, 1, "a"), del(2, 7, "b"), del(2, 8, "b"), del(5, 65535, "ab"), del(9, 63001, "zzzzzz"), del(7, 65535, "K"), del(8, 65535, "q"), del(10, 1, "a"), del(1, 0, "a"),
	}
}

func TestWhateverIsAskedANodeIsAsTheBooksHaveIt(t *testing.T) {
	t.Parallel()
	z := shelfOf()
	met := map[string]int{}
	for i, c := range z.clerksThatDo() {
		if !impl.NodeOk(c.node()) || !z.clerkOk(c) {
			t.Errorf("%s is not right", toldNode(c.node()))
		}
		for k, fuse := range []int{-1, 0, 1, 2, 3, 9, 15} {
			c := c.fused(fuse)
			for _, q := range requestsForClerks() {
				_, code, now := checkServed(t, z, c, q)
				met[fmt.Sprintf("served %d %v", code, now)]++
			}
			for _, b := range []string{"", "a", "\x81", "\xa4", "\xa4\xa2", strings.Repeat("z", 20), strings.Repeat("\xe9", 20), strings.Repeat("z", 21)} {
				_, code := checkLoaded(t, z, c, []string{"a", "b", "00", "abcdef", "K"}[(i+k)%5], b)
				met[fmt.Sprint("loaded ", code)]++
			}
			for _, key := range []string{"", "a", "0", "9", "ab", "q", "K", "zzzzzz"} {
				_, code := checkGot(t, z, c, key)
				met[fmt.Sprint("got ", code)]++
				_, is := checkStepped(t, z, c, key)
				met[fmt.Sprint("stepped ", is.ok)]++
			}
			for p := -1; p <= 8; p++ {
				_, is := checkPhased(t, z, c, p)
				met[fmt.Sprint("phased ", is)]++
			}
		}
	}
	for _, want := range []string{
		"served 0 true", "served 1 true", "served 2 true", "served 3 true", "served 5 true", "served 0 false", "served 1 false", "served 5 false", "served 6 false",
		"loaded 0", "loaded 1", "loaded 5", "loaded 6", "got 0", "got 2", "got 4", "stepped true", "stepped false", "phased true", "phased false",
	} {
		if met[want] < 20 {
			t.Errorf("%s: %d times; all are %v", want, met[want], met)
		}
	}
}

// notAwake fails when anything is done by a node, or anything but itself and the
// codes of that answered.
func notAwake(t *testing.T, n impl.Node) {
	t.Helper()
	same := func(name string, got impl.Node) {
		t.Helper()
		checkNode(t, name, got, n)
	}
	for _, key := range []string{"a", "c", "", "K"} {
		got, code := impl.NodeLoad(copiedNode(n), key, []byte("x"))
		if code != impl.CoForm {
			t.Errorf("NodeLoad of %s: %d", toldNode(n), code)
		}
		same("NodeLoad", got)
		if s, code := impl.NodeGet(copiedNode(n), key); s != "" || code != impl.CoForm {
			t.Errorf("NodeGet of %s: %q, %d", toldNode(n), s, code)
		}
		for _, q := range []request{put(1, 1, key, "x"), put(2, 7, key, "x"), put(2, 65535, key, "\xff"), del(1, 1, key), del(2, 7, key), del(2, 65535, key)} {
			notDone(t, n, q, impl.CoForm)
		}
		got, at, last, ok := impl.NodeStep(copiedNode(n), key)
		if at != key || last != 0 || ok {
			t.Errorf("NodeStep of %s: %q, %d, %v", toldNode(n), at, last, ok)
		}
		same("NodeStep", got)
	}
	for _, p := range append(allPhases(), n.S.T.Phase, -1, 8) {
		got, ok := impl.NodePhase(copiedNode(n), p)
		if ok {
			t.Errorf("NodePhase %d of %s: true", p, toldNode(n))
		}
		same("NodePhase", got)
	}
}

func TestNodesThatAreNotRight(t *testing.T) {
	for i, s := range wrongStores() {
		notAwake(t, impl.Node{S: s, Cs: 1 + i%5})
	}
	z := shelfOf()
	for phase := range 8 {
		n := z.clerkAt(1, 4, tab(phase, rowsOf("a", "b"), mark(2, 7, 0))).node()
		for _, cs := range append(noOldTags(), 0, 6, -1) {
			n.Cs = cs
			if impl.NodeOk(n) {
				t.Errorf("NodeOk of %s is true", toldNode(n))
			}
			notAwake(t, n)
		}
	}
	notAwake(t, impl.Node{})
	notAwake(t, impl.Node{Cs: 1})
}

func TestNodesThatAreDown(t *testing.T) {
	for i, c := range shelfOf().clerksThatDo() {
		n := c.node()
		n.S.D = down(n.S.D)
		if i%3 == 1 {
			n.S.D = fused(n.S.D, i%7)
		}
		if i%2 == 1 {
			n.S.D = caching(n.S.D, manyWrs(1+i%40, 62)...)
		}
		if !impl.NodeOk(n) {
			t.Errorf("NodeOk of %s is false", toldNode(n))
		}
		notAwake(t, n)
	}
}

// Where the power goes ahead of the end, the node is Down, and knows what it knew.
func TestThePowerGoesInTheMidstOfWhatIsAsked(t *testing.T) {
	z := shelfOf()
	c := z.clerkAt(impl.CsLat, 8, tab(impl.PhIdle, holding(0, onlyOld, "a", "b").Rows, mark(2, 7, 0)), asked(3)...)
	for fuse := range 4 {
		enough := fuse >= 2
		n := c.fused(fuse).node()
		check := func(name string, got impl.Node, good bool) {
			t.Helper()
			if good != enough || got.S.D.Down == enough || alike(got.S.T, n.S.T) == enough || !impl.NodeOk(got) {
				t.Errorf("%s with a Fuse of %d is %s, %v", name, fuse, toldNode(got), good)
			}
		}
		got, code := impl.NodeLoad(n, "c", []byte("x"))
		check("NodeLoad", got, code == impl.CoGood)
		if !enough && code != impl.CoFull {
			t.Errorf("NodeLoad: %d", code)
		}
		for want, l := range map[int][]request{impl.CoGood: {put(2, 8, "a", "x"), put(1, 1, "c", "x"), del(2, 8, "a")}, impl.CoForm: {put(2, 8, "K", ""), del(2, 8, "K")}, impl.CoNone: {del(2, 8, "c")}, impl.CoUnfit: {put(2, 8, "a", "€")}} {
			for _, q := range l {
				got, code, now := q.of(n)
				check(fmt.Sprint(q), got, now)
				if !enough && code != impl.CoFull || enough && code != want {
					t.Errorf("%v with a Fuse of %d: %d", q, fuse, code)
				}
			}
		}
		// What was asked before is answered without any operation.
		for _, q := range []request{put(2, 7, "a", "x"), del(2, 7, "a")} {
			notDone(t, n, q, impl.CoGood)
		}
		notDone(t, n, put(2, 6, "a", "x"), impl.CoForm)
		phased, ok := impl.NodePhase(n, impl.PhDual)
		check("NodePhase", phased, ok)
		if still, ok := impl.NodePhase(n, impl.PhIdle); !ok || !sameNode(still, n) {
			t.Errorf("NodePhase of the same is %s, %v", toldNode(still), ok)
		}
	}
	// Two operations for each of both rows: one of them may be turned.
	filling := z.clerkAt(impl.CsLat, 8, holding(impl.PhFill, onlyOld, "a", "b", "c"))
	for fuse := range 6 {
		n := filling.fused(fuse).node()
		got, at, last, ok := impl.NodeStep(n, "")
		want := stride{"", 0, false}
		if fuse >= 4 {
			want = stride{"b", 0, true}
		}
		if (stride{at, last, ok}) != want || got.S.D.Down == ok {
			t.Errorf("NodeStep with a Fuse of %d: %q, %d, %v", fuse, at, last, ok)
		}
		for i, r := range got.S.T.Rows {
			if (r.Has == both) != (i < 2 && fuse >= 2*i+2) {
				t.Errorf("NodeStep with a Fuse of %d: the row %d is %v", fuse, i, r)
			}
		}
	}
}

// In the last generation there is no more room once its area is full: nothing is
// done, and the power stays.
func TestWhereThereIsNoRoomAnyMore(t *testing.T) {
	z := shelfOf()
	for phase := range 8 {
		x := tab(phase, holding(phase, both, "a", "b").Rows, mark(3, 1, 0))
		n := z.clerkAt(impl.CsLat, 60000, x, asked(26)...).node()
		if n.S.Place != 30 {
			t.Fatalf("the place is %d", n.S.Place)
		}
		for _, q := range []request{put(1, 1, "a", "x"), put(1, 1, "K", "x"), put(3, 200, "c", "x"), del(1, 1, "a"), del(1, 1, "c")} {
			notDone(t, n, q, impl.CoFull)
		}
		notDone(t, n, put(3, 125, "a", "x"), impl.CoGood)
		if got, code := impl.NodeLoad(n, "a", nil); code != map[bool]int{true: impl.CoFull, false: impl.CoPhase}[phase == 0] || !sameNode(got, n) {
			t.Errorf("NodeLoad is %s, %d", toldNode(got), code)
		}
		for p := range 8 {
			if got, ok := impl.NodePhase(n, p); ok != (p == phase) || !sameNode(got, n) {
				t.Errorf("NodePhase %d is %s, %v", p, toldNode(got), ok)
			}
		}
		got, at, last, ok := impl.NodeStep(n, "")
		stays := phase == impl.PhFill || phase == impl.PhCheck
		if ok != stays || !sameNode(got, n) || at != map[bool]string{true: "b"}[stays] || last != map[bool]int{true: 1}[stays] {
			t.Errorf("NodeStep in the phase %d is %s, %q, %d, %v", phase, toldNode(got), at, last, ok)
		}
		checkText(t, n, "a", "a", impl.CoGood)
	}
}

// P15: when the power is back, what was asked is asked again, and done once.
func TestWhateverIsKeptWhatIsAskedAgainIsDoneOnce(t *testing.T) {
	z := shelfOf()
	x := tab(impl.PhDual, holding(impl.PhDual, both, "a", "b").Rows, mark(2, 7, 0))
	for _, c := range []clerk{z.clerkAt(impl.CsLat, 8, x, asked(3)...), z.clerkAt(impl.CsLat, 8, x, asked(26)...), z.clerkAt(impl.CsLat, 9, x, asked(26)...)} {
		for _, q := range []request{put(2, 8, "a", "new"), put(1, 1, "c", "€"), del(2, 8, "b"), del(9, 65535, "c"), put(1, 1, "K", "x")} {
			_, code, _ := z.served(c, q)
			met := map[bool]int{}
			for fuse := range 12 {
				n, had, now := q.of(c.fused(fuse).node())
				for _, keep := range keeps(len(n.S.D.Cache)) {
					s, ok := impl.Open(impl.FallDev(n.S.D, keep))
					if !ok {
						t.Fatalf("%v with a Fuse of %d, kept %b: it is not opened", q, fuse, keep)
					}
					back := impl.Node{S: s, Cs: n.Cs}
					again, said, anew := q.of(back)
					if said != code || now && (anew || had != code) {
						t.Errorf("%v with a Fuse of %d, kept %b: %d, %v", q, fuse, keep, said, anew)
					}
					if !anew && !alike(again.S.T, back.S.T) {
						t.Errorf("%v with a Fuse of %d, kept %b: it is done again", q, fuse, keep)
					}
					met[anew]++
					want, _, _ := z.served(c, q)
					if !alike(again.S.T, want.v.x) {
						t.Errorf("%v with a Fuse of %d, kept %b: it knows %v, not %v", q, fuse, keep, again.S.T, want.v.x)
					}
				}
			}
			if met[true] < 2 || met[false] < 2 {
				t.Errorf("%v is done again %d times, and not %d times", q, met[true], met[false])
			}
		}
	}
}

// An owner is who has all texts of a node by heart, those of bytes that have none
// as these bytes.
type owner struct {
	n     impl.Node
	texts map[string]string
	raw   map[string]string
	seq   int
}

// load, put and del ask the node for that, and know it from then on.
func (o *owner) load(t *testing.T, z shelf, key string, b string) {
	t.Helper()
	n, code := impl.NodeLoad(o.n, key, []byte(b))
	if code != impl.CoGood {
		t.Errorf("NodeLoad of %q: %d", key, code)
	}
	o.n = n
	if s, said := z.text(cell(n.Cs, b)); said {
		o.texts[key] = s
	} else {
		o.raw[key] = b
	}
}

func (o *owner) put(t *testing.T, key string, s string, want int) {
	t.Helper()
	o.seq++
	o.n = checkDone(t, o.n, put(4, o.seq, key, s), want)
	if want == impl.CoGood {
		o.texts[key] = s
		delete(o.raw, key)
	}
}

func (o *owner) del(t *testing.T, key string) {
	t.Helper()
	o.seq++
	o.n = checkDone(t, o.n, del(4, o.seq, key), impl.CoGood)
	delete(o.texts, key)
	delete(o.raw, key)
}

// check fails when a text of the node has changed.
func (o *owner) check(t *testing.T) {
	t.Helper()
	if len(o.n.S.T.Rows) != len(o.texts)+len(o.raw) {
		t.Errorf("there are %d rows, of %v and %v", len(o.n.S.T.Rows), o.texts, o.raw)
	}
	for key, s := range o.texts {
		checkText(t, o.n, key, s, impl.CoGood)
	}
	for key, b := range o.raw {
		checkText(t, o.n, key, "", impl.CoAside)
		if r := o.n.S.T.Rows[impl.RowAt(o.n.S.T, key)]; string(r.Old.B) != b || r.Has != onlyOld {
			t.Errorf("the row is %v, of the bytes %x", r, b)
		}
	}
}

// phase takes the node to a phase.
func (o *owner) phase(t *testing.T, p int) {
	t.Helper()
	n, ok := impl.NodePhase(o.n, p)
	if !ok || n.S.T.Phase != p {
		t.Errorf("NodePhase %d: %v", p, ok)
	}
	o.n = n
	o.check(t)
}

// walk steps through all rows; between any two steps it calls what comes between.
func (o *owner) walk(t *testing.T, between func(step int)) {
	t.Helper()
	from, last := "", 0
	for step := 0; last == 0; step++ {
		if step > 20 {
			t.Fatal("the steps do not end")
		}
		ahead := from
		var ok bool
		o.n, from, last, ok = impl.NodeStep(o.n, from)
		if !ok || from < ahead {
			t.Fatalf("NodeStep from %q: %q, %d, %v", ahead, from, last, ok)
		}
		o.check(t)
		if last == 0 {
			between(step)
			o.check(t)
		}
	}
	for _, r := range o.n.S.T.Rows {
		if !asPhaseHas(o.n.S.T.Phase, r) {
			t.Errorf("behind the phase %d the row is %v", o.n.S.T.Phase, r)
		}
	}
}

// asPhaseHas says whether a row is as it is to be behind a phase.
func asPhaseHas(phase int, r impl.Row) bool {
	switch phase {
	case impl.PhFill, impl.PhCheck:
		return r.Aside || r.Has&onlyNew != 0
	case impl.PhCut, impl.PhDone:
		return r.Aside || r.Has == onlyNew
	case impl.PhBack, impl.PhOver:
		return r.Aside || r.Has == onlyOld
	}
	return true
}

// ownerOf answers who loaded rows of an old set: some whose text fits, one that
// has none where there are such, and one that is too long in utf8.
func ownerOf(t *testing.T, z shelf, cs int) *owner {
	o := &owner{impl.NodeNew(cs), map[string]string{}, map[string]string{}, 0}
	long := map[int]string{impl.CsLat: strings.Repeat("\xe9", 11), impl.CsNine: strings.Repeat("\xa4", 7), impl.CsKoi: strings.Repeat("\xc1", 11), impl.CsWin: strings.Repeat("\x80", 20), impl.CsEuc: strings.Repeat("\xa4\xa2", 10)}
	some := map[int]string{impl.CsLat: "\xe9", impl.CsNine: "\xa4", impl.CsKoi: "\xc1", impl.CsWin: "\x93", impl.CsEuc: "\xa4\xa2"}
	o.load(t, z, "a", some[cs])
	o.load(t, z, "long", long[cs])
	o.load(t, z, "b", "")
	o.load(t, z, "raw", "\x81"+some[cs])
	o.load(t, z, "x", "plain")
	o.check(t)
	return o
}

// passing is what comes between the steps: texts that fit, texts that fit no old
// set, a row less, a row more, one that is there put again.
func (o *owner) passing(t *testing.T, phase int) func(step int) {
	return func(step int) {
		switch (step + phase) % 3 {
		case 0:
			o.put(t, "a", "fresh", impl.CoGood)
			o.put(t, "odd", "\U0001f600", impl.CoGood)
		case 1:
			o.put(t, "0", "ahead", impl.CoGood)
			if o.texts["odd"] != "" {
				o.del(t, "odd")
			}
		case 2:
			o.put(t, "zz", "", impl.CoGood)
			o.put(t, "x", "\U0001f600", impl.CoGood)
			o.del(t, "x")
			o.put(t, "x", "plain", impl.CoGood)
		}
	}
}

func TestANodeGoneThroughPhaseByPhase(t *testing.T) {
	z := shelfOf()
	for cs := 1; cs <= 5; cs++ {
		for _, busy := range []bool{false, true} {
			o := ownerOf(t, z, cs)
			o.put(t, "x", "\U0001f600", impl.CoUnfit)
			for p := impl.PhDual; p <= impl.PhDone; p++ {
				o.phase(t, p)
				if !phaseBooks()[p].walks {
					continue
				}
				between := func(step int) {}
				if busy {
					between = o.passing(t, p)
				}
				o.walk(t, between)
			}
			for key := range o.texts {
				if r := o.n.S.T.Rows[impl.RowAt(o.n.S.T, key)]; key != "long" && r.Has != onlyNew {
					t.Errorf("in PhDone the row is %v", r)
				}
			}
			if r := o.n.S.T.Rows[impl.RowAt(o.n.S.T, "long")]; r.Has != onlyOld || !r.Aside {
				t.Errorf("in PhDone the row that is too long in utf8 is %v", r)
			}
		}
	}
}

func TestANodeTurnedBackFromEachPhase(t *testing.T) {
	z := shelfOf()
	for cs := 1; cs <= 5; cs++ {
		for until := impl.PhIdle; until <= impl.PhCheck; until++ {
			for _, busy := range []bool{false, true} {
				o := ownerOf(t, z, cs)
				for p := impl.PhDual; p <= until; p++ {
					o.phase(t, p)
					if phaseBooks()[p].walks {
						o.walk(t, o.passing(t, p))
					}
				}
				odd := until > impl.PhIdle
				if odd {
					o.put(t, "odd", "\U0001f600", impl.CoGood)
				}
				o.phase(t, impl.PhBack)
				between := func(step int) {}
				if busy {
					between = o.passing(t, impl.PhBack)
				}
				o.walk(t, between)
				o.phase(t, impl.PhOver)
				o.put(t, "x", "\U0001f600", impl.CoUnfit)
				o.check(t)
				for _, r := range o.n.S.T.Rows {
					if r.Has != onlyOld && !(r.Key == "odd" && r.Aside && r.Has == onlyNew) {
						t.Errorf("in PhOver the row is %v", r)
					}
				}
				if again, ok := impl.NodePhase(o.n, impl.PhIdle); ok || !sameNode(again, o.n) {
					t.Error("from PhOver there is a way to PhIdle")
				}
			}
		}
	}
}

// A wander is a clerk to whom this and that is done, and what each who was
// answered last, as it remembers it.
type wander struct {
	walk
	z    shelf
	c    clerk
	last map[int]request
	code map[int]int
	met  map[string]int
}

func (w *wander) request() request {
	q := request{w.next(3) == 0, 1 + w.next(9), 0, append(eightKeys(), "b", "c", "K")[w.next(11)], []string{"", "x", "é", "€", "ж", "あ", "\xff", "plain text"}[w.next(8)]}
	q.seq = w.last[q.who].seq + 1 + w.next(3)
	if w.next(40) == 0 {
		q.who = 10 * w.next(2)
	}
	return q
}

// ask asks something new, or, of somebody who has asked, the same again or
// something late.
func (w *wander) ask(t *testing.T) {
	t.Helper()
	q := w.request()
	old := w.last[q.who]
	if old.seq > 0 && w.next(3) == 0 {
		q.seq = old.seq
		// Asked before: whatever the books say, nothing is done.
		notDone(t, w.c.node(), q, w.code[q.who])
		w.met["again"]++
		if q.seq--; q.seq > 0 {
			notDone(t, w.c.node(), q, impl.CoForm)
		}
		return
	}
	c, code, now := checkServed(t, w.z, w.c, q)
	w.met[fmt.Sprintf("asked %d %v", code, now)]++
	w.c = c
	if now {
		w.last[q.who], w.code[q.who] = q, code
	}
}

func (w *wander) move(t *testing.T) {
	t.Helper()
	switch w.next(12) {
	case 0:
		c, is := checkPhased(t, w.z, w.c, w.next(10)-1)
		w.met[fmt.Sprint("phased ", is)]++
		w.c = c
	case 1, 2, 3:
		c, is := checkStepped(t, w.z, w.c, append(eightKeys(), "", "", "a1", "\xff")[w.next(12)])
		w.met[fmt.Sprint("stepped ", is.ok)]++
		w.c = c
	case 4:
		c, code := checkLoaded(t, w.z, w.c, append(eightKeys(), "b", "K")[w.next(10)], cellBytes()[w.next(len(cellBytes()))])
		w.met[fmt.Sprint("loaded ", code)]++
		w.c = c
	case 5:
		_, code := checkGot(t, w.z, w.c, append(eightKeys(), "b", "K")[w.next(10)])
		w.met[fmt.Sprint("got ", code)]++
	default:
		w.ask(t)
	}
}

// rise lets a clerk that is Down rise again; who asked remembers what it had.
func (w *wander) rise(t *testing.T) {
	t.Helper()
	v, is := w.z.opened(w.c.v.d.fall(w.next(1 << len(w.c.v.d.wrote))))
	if !is {
		t.Fatal("it is not opened")
	}
	w.met["fallen"]++
	w.c.v = v
	for _, m := range v.x.Marks {
		// What was under way may be there, and may not.
		if old := w.last[m.Who]; m.Seq != old.seq {
			w.last[m.Who], w.code[m.Who] = request{who: m.Who, seq: m.Seq}, m.Code
		}
	}
}

func TestWhateverIsDoneANodeIsAsTheBooksHaveIt(t *testing.T) {
	t.Parallel()
	z := shelfOf()
	for seed := range 10 {
		w := &wander{walk(seed + 70), z, z.clerkAt(1+seed%5, 1, impl.Tab{}), map[int]request{}, map[int]int{}, map[string]int{}}
		for range 500 {
			if w.next(12) == 0 {
				w.c = w.c.fused(w.next(14))
			}
			w.move(t)
			if w.c.v.d.down {
				w.rise(t)
			}
		}
		for _, want := range []string{"asked 0 true", "asked 1 true", "asked 2 true", "asked 5 false", "again", "fallen", "got 0", "got 2"} {
			if w.met[want] < 3 {
				t.Errorf("walk %d: %s %d times; all are %v", seed, want, w.met[want], w.met)
			}
		}
	}
}

// An empty list and nil are the same value.
func TestEmptyListsOfNodes(t *testing.T) {
	z := shelfOf()
	for _, phase := range allPhases() {
		for _, rows := range [][]impl.Row{nil, {}, rowsOf("a")[:0]} {
			for _, marks := range [][]impl.Mark{nil, {}, nineMarks()[:0]} {
				n := impl.NodeNew(impl.CsKoi)
				n.S.T = tab(phase, rows, marks...)
				n.S.D.Cache = []impl.Wr{}
				n.S.D.Secs[61] = []byte{}
				if !impl.NodeOk(n) {
					t.Errorf("NodeOk of %#v is false", n)
				}
				c := clerkOf(n)
				got, code, now := impl.NodePut(n, 1, 1, "a", "x")
				if want, good, is := z.served(c, put(1, 1, "a", "x")); code != good || now != is || !sameNode(got, want.node()) {
					t.Errorf("NodePut is %s, %d, %v", toldNode(got), code, now)
				}
				got, at, last, ok := impl.NodeStep(n, "")
				if want, is := z.stepped(c, ""); (stride{at, last, ok}) != is || !sameNode(got, want.node()) {
					t.Errorf("NodeStep is %s, %q, %d, %v", toldNode(got), at, last, ok)
				}
			}
		}
	}
	for _, b := range [][]byte{nil, {}, []byte("abc")[:0]} {
		n, code := impl.NodeLoad(impl.NodeNew(impl.CsKoi), "a", b)
		if code != impl.CoGood || !sameRow(n.S.T.Rows[0], keyed("a", oldRow(impl.CsKoi, ""))) {
			t.Errorf("NodeLoad of nothing is %s, %d", toldNode(n), code)
		}
	}
}

// nodeCalls are the calls that are handed a node of an old set; what they load
// are the bytes of the record's row.
func nodeCalls(cs int) []storeCall {
	of := func(name string, call func(n impl.Node, r impl.Rec) impl.Node) storeCall {
		return storeCall{name, func(s impl.Store, r impl.Rec) impl.Store { return call(impl.Node{S: s, Cs: cs}, r).S }}
	}
	ask := func(q request) storeCall {
		return of(fmt.Sprint(q), func(n impl.Node, r impl.Rec) impl.Node { got, _, _ := q.of(n); return got })
	}
	l := []storeCall{
		of("NodeOk", func(n impl.Node, r impl.Rec) impl.Node { impl.NodeOk(n); return impl.Node{} }),
		of("NodeNew", func(n impl.Node, r impl.Rec) impl.Node { return impl.NodeNew(cs) }),
		of("NodeGet", func(n impl.Node, r impl.Rec) impl.Node {
			impl.NodeGet(n, "a")
			impl.NodeGet(n, "b")
			return impl.Node{}
		}),
		of("two calls", func(n impl.Node, r impl.Rec) impl.Node {
			got, _, _ := impl.NodePut(n, 1, 2, "a", "x")
			got, _ = impl.NodeLoad(got, "b", r.R.Old.B)
			return got
		}),
		ask(put(1, 65535, "a", "é")), ask(put(2, 7, "a", "é")), ask(put(2, 8, "c", "€")), ask(put(1, 5, "K", "x")), ask(put(1, 1, "a", "x")), ask(put(0, 1, "a", "x")),
		ask(del(1, 65535, "a")), ask(del(2, 7, "b")), ask(del(2, 8, "b")), ask(del(1, 5, "q")), ask(del(10, 5, "a")),
	}
	for _, key := range []string{"a", "c", "K"} {
		l = append(l, of("NodeLoad of "+key, func(n impl.Node, r impl.Rec) impl.Node { got, _ := impl.NodeLoad(n, key, r.R.Old.B); return got }))
	}
	for p := range 9 {
		l = append(l, of(fmt.Sprint("NodePhase ", p), func(n impl.Node, r impl.Rec) impl.Node { got, _ := impl.NodePhase(n, p); return got }))
	}
	for _, from := range []string{"", "a", "zzzzzz"} {
		l = append(l, of("NodeStep from "+from, func(n impl.Node, r impl.Rec) impl.Node { got, _, _, _ := impl.NodeStep(n, from); return got }))
	}
	return l
}

// storesOfEachPhase are stores to which something may be done in each phase,
// some at whose operations the power goes, and some that are not right.
func storesOfEachPhase() []impl.Store {
	z := shelfOf()
	var l []impl.Store
	for _, phase := range allPhases() {
		for _, has := range []int{onlyOld, onlyNew, both} {
			x := tab(phase, holding(phase, has, "a", "b").Rows, mark(2, 7, 3))
			l = append(l, z.vaultAt(8, x).store(), z.vaultAt(8, x).fused(phase%3).store(), z.vaultAt(8, x, asked(26)...).store(), z.vaultAt(8, x, asked(26)...).fused(phase).store(), z.vaultAt(60000, x, asked(26)...).store())
		}
	}
	return append(l, wrongStores()[:10]...)
}

func TestNodesStayAsTheyAre(t *testing.T) {
	t.Parallel()
	for _, s := range storesOfEachPhase() {
		for cs := range 2 {
			for _, c := range nodeCalls(cs) {
				for _, b := range []string{"", "\xe9", strings.Repeat("z", 20), strings.Repeat("z", 21)} {
					checkStoreRoom(t, c, s, rowRec(keyed("b", oldRow(cs, b))))
				}
			}
		}
	}
}

func TestNodesOfOneMemory(t *testing.T) {
	for _, phase := range allPhases() {
		for _, text := range []string{"", "a", headText(1, 0)} {
			for _, fuse := range []int{-1, 0, 2} {
				for _, c := range nodeCalls(impl.CsLat) {
					checkOneMemory(t, c, phase, text, fuse, false)
					checkOneMemory(t, c, phase, text, fuse, true)
				}
			}
		}
	}
}

func TestNodesAreNewEachTime(t *testing.T) {
	for _, s := range storesOfEachPhase() {
		for _, c := range nodeCalls(impl.CsLat) {
			checkStoreIsNew(t, c, s, rowRec(keyed("b", oldRow(impl.CsLat, "\xe9"))))
		}
	}
}

func TestNumbersFarFromWhatANodeHas(t *testing.T) {
	n := shelfOf().clerkAt(impl.CsLat, 4, holding(impl.PhFill, onlyOld, "a", "b")).node()
	for _, far := range append(farNumbers(), math.MinInt+2, math.MaxInt-2) {
		for _, q := range []request{put(far, 1, "a", "x"), put(1, far, "a", "x"), del(far, 1, "a"), del(1, far, "a"), put(far, far, "K", "\xff"), del(far, far, "")} {
			notDone(t, n, q, impl.CoForm)
		}
		if got, ok := impl.NodePhase(n, far); ok || !sameNode(got, n) {
			t.Errorf("NodePhase %d is %s, %v", far, toldNode(got), ok)
		}
		checkNode(t, "NodeNew", impl.NodeNew(far), impl.Node{})
		notAwake(t, impl.Node{S: n.S, Cs: far})
	}
}
