package tests

import (
	"bytes"
	"fmt"
	"math"
	"slices"
	"strings"
	"testing"

	"loop.example/g00475/impl"
)

// the limits of a device, written out apart from the program
const (
	secsMost  = 64
	secMost   = 120
	cacheMost = 40
	fuseMost  = 1000
	keepMost  = 1073741823
)

// farNumbers are numbers far from what a device has.
func farNumbers() []int {
	return []int{-2, -64, -1 << 32, 1 << 32, 1<<32 + 1, math.MinInt, math.MinInt + 1, math.MaxInt - 1, math.MaxInt}
}

func wr(n int, b string) impl.Wr {
	return impl.Wr{N: n, B: []byte(b)}
}

// dev answers a device of these sectors, whose power stays.
func dev(secs ...string) impl.Dev {
	d := impl.Dev{Fuse: -1}
	for _, s := range secs {
		d.Secs = append(d.Secs, []byte(s))
	}
	return d
}

// caching, fused and down answer d with another of its parts.
func caching(d impl.Dev, l ...impl.Wr) impl.Dev {
	d.Cache = l
	return d
}

func fused(d impl.Dev, fuse int) impl.Dev {
	d.Fuse = fuse
	return d
}

func down(d impl.Dev) impl.Dev {
	d.Down = true
	return d
}

// manyWrs are n Wrs, to each of that many sectors in turn, none of them alike.
func manyWrs(n int, secs int) []impl.Wr {
	var l []impl.Wr
	for i := range n {
		l = append(l, wr(i%secs, fmt.Sprint("w", i)))
	}
	return l
}

func copiedDev(d impl.Dev) impl.Dev {
	out := impl.Dev{Fuse: d.Fuse, Down: d.Down}
	for _, b := range d.Secs {
		out.Secs = append(out.Secs, []byte(string(b)))
	}
	for _, w := range d.Cache {
		out.Cache = append(out.Cache, wr(w.N, string(w.B)))
	}
	return out
}

func sameWr(a impl.Wr, b impl.Wr) bool {
	return a.N == b.N && bytes.Equal(a.B, b.B)
}

func sameDev(a impl.Dev, b impl.Dev) bool {
	return slices.EqualFunc(a.Secs, b.Secs, bytes.Equal) && slices.EqualFunc(a.Cache, b.Cache, sameWr) && a.Fuse == b.Fuse && a.Down == b.Down
}

// A ledger is a device as the chapter tells of it, with all that is written to
// it in a list, and each of these texts gone through each time.
type ledger struct {
	secs  []string
	wrote []impl.Wr
	fuse  int
	down  bool
}

func ledgerOf(d impl.Dev) ledger {
	l := ledger{wrote: slices.Clone(d.Cache), fuse: d.Fuse, down: d.Down}
	for _, b := range d.Secs {
		l.secs = append(l.secs, string(b))
	}
	return l
}

func (l ledger) dev() impl.Dev {
	return copiedDev(impl.Dev{Secs: dev(l.secs...).Secs, Cache: l.wrote, Fuse: l.fuse, Down: l.down})
}

// ok says whether all is within its limits.
func (l ledger) ok() bool {
	good := len(l.secs) >= 1 && len(l.secs) <= secsMost && len(l.wrote) <= cacheMost && l.fuse >= -1 && l.fuse <= fuseMost
	for _, s := range l.secs {
		good = good && len(s) <= secMost
	}
	for _, w := range l.wrote {
		good = good && w.N >= 0 && w.N < len(l.secs) && len(w.B) <= secMost
	}
	return good
}

// settled answers the sectors with those of the Wrs that are told in them.
func (l ledger) settled(told func(place int) bool) []string {
	secs := slices.Clone(l.secs)
	for i, w := range l.wrote {
		if told(i) {
			secs[w.N] = string(w.B)
		}
	}
	return secs
}

func everyPlace(int) bool {
	return true
}

func (l ledger) read(n int) string {
	if !l.ok() || n < 0 || n >= len(l.secs) {
		return ""
	}
	return l.settled(everyPlace)[n]
}

// burnt answers the ledger behind an operation, and whether it is done.
func (l ledger) burnt() (ledger, bool) {
	switch {
	case l.fuse == 0:
		l.fuse, l.down = -1, true
	case l.fuse > 0:
		l.fuse--
		return l, true
	default:
		return l, true
	}
	return l, false
}

func (l ledger) write(n int, b string) ledger {
	if !l.ok() || l.down || n < 0 || n >= len(l.secs) || len(b) > secMost || len(l.wrote) == cacheMost {
		return l
	}
	out, done := l.burnt()
	if done {
		out.wrote = append(slices.Clone(l.wrote), wr(n, b))
	}
	return out
}

func (l ledger) flush() ledger {
	if !l.ok() || l.down {
		return l
	}
	out, done := l.burnt()
	if done {
		out.secs, out.wrote = l.settled(everyPlace), nil
	}
	return out
}

func (l ledger) fall(keep int) ledger {
	if !l.ok() {
		return l
	}
	secs := l.settled(func(place int) bool {
		return keep >= 0 && keep <= keepMost && place < 30 && keep/(1<<place)%2 == 1
	})
	return ledger{secs: secs, fuse: -1}
}

// checkDev fails when a device is another than that, or not right.
func checkDev(t *testing.T, name string, got impl.Dev, want impl.Dev) {
	t.Helper()
	if !sameDev(got, want) {
		t.Errorf("%s is %v, not %v", name, got, want)
	}
	if !impl.DevOk(got) {
		t.Errorf("%s is %v, which is not right", name, got)
	}
}

// checkReads fails when a sector does not read as told, or one reads that there
// is not.
func checkReads(t *testing.T, d impl.Dev, want ...string) {
	t.Helper()
	for n, s := range want {
		if got := impl.ReadSec(d, n); string(got) != s {
			t.Errorf("ReadSec(%v, %d) is %q, not %q", d, n, got, s)
		}
	}
	for _, n := range append(farNumbers(), -1, len(want), len(want)+1) {
		if got := impl.ReadSec(d, n); len(got) != 0 {
			t.Errorf("ReadSec(%v, %d) is %q", d, n, got)
		}
	}
}

// checkRefused fails when a call answers anything but d.
func checkRefused(t *testing.T, name string, got impl.Dev, d impl.Dev) {
	t.Helper()
	if !sameDev(got, d) {
		t.Errorf("%s of %v is %v", name, d, got)
	}
}

func TestTheLimitsOfADevice(t *testing.T) {
	if impl.MaxSecs != secsMost || impl.SecLen != secMost || impl.MaxCache != cacheMost {
		t.Errorf("%d sectors of %d bytes, and %d Wrs", impl.MaxSecs, impl.SecLen, impl.MaxCache)
	}
}

func TestNewDevices(t *testing.T) {
	for _, n := range []int{1, 2, 3, 32, 62, 63, 64} {
		d := impl.DevNew(n)
		checkDev(t, fmt.Sprintf("DevNew(%d)", n), d, dev(make([]string, n)...))
		checkReads(t, d, make([]string, n)...)
		last := impl.WriteSec(d, n-1, []byte("z"))
		if got := impl.ReadSec(last, n-1); string(got) != "z" {
			t.Errorf("the last one of %d sectors is %q", n, got)
		}
	}
	for _, n := range append(farNumbers(), 0, -1, 65, 66, 128, 1<<32+64) {
		if d := impl.DevNew(n); !sameDev(d, impl.Dev{}) || impl.DevOk(d) {
			t.Errorf("DevNew(%d) is %v", n, d)
		}
	}
}

// What was last written to each is read, flushed or not.
func TestWhatIsWrittenIsRead(t *testing.T) {
	d := impl.DevNew(4)
	for i, step := range []struct {
		n    int
		b    string
		want []string
	}{
		{1, "a", []string{"", "a", "", ""}},
		{2, "b", []string{"", "a", "b", ""}},
		{1, "c", []string{"", "c", "b", ""}},
		{1, "d", []string{"", "d", "b", ""}},
		{0, "\x00\xff", []string{"\x00\xff", "d", "b", ""}},
		{2, "", []string{"\x00\xff", "d", "", ""}},
		{1, "a", []string{"\x00\xff", "a", "", ""}},
		{3, strings.Repeat("z", 120), []string{"\x00\xff", "a", "", strings.Repeat("z", 120)}},
	} {
		d = impl.WriteSec(d, step.n, []byte(step.b))
		if len(d.Cache) != i+1 || !sameWr(d.Cache[i], wr(step.n, step.b)) {
			t.Errorf("behind %d writes the Cache is %v", i+1, d.Cache)
		}
		checkReads(t, d, step.want...)
		for n := range d.Secs {
			if len(d.Secs[n]) != 0 {
				t.Errorf("ahead of FlushDev the sector %d is %q", n, d.Secs[n])
			}
		}
		checkDev(t, "FlushDev", impl.FlushDev(d), dev(step.want...))
		checkReads(t, impl.FlushDev(d), step.want...)
	}
}

// What is flushed is written over by what comes behind, and nothing else is.
func TestWhatIsFlushedStaysUntilItIsWrittenAgain(t *testing.T) {
	d := impl.FlushDev(impl.WriteSec(impl.WriteSec(impl.DevNew(3), 0, []byte("a")), 1, []byte("b")))
	checkDev(t, "FlushDev", d, dev("a", "b", ""))
	checkDev(t, "FlushDev of nothing", impl.FlushDev(d), dev("a", "b", ""))
	e := impl.WriteSec(d, 1, nil)
	checkDev(t, "WriteSec", e, caching(dev("a", "b", ""), wr(1, "")))
	checkReads(t, e, "a", "", "")
	checkDev(t, "FlushDev", impl.FlushDev(e), dev("a", "", ""))
	e = impl.WriteSec(impl.WriteSec(e, 1, []byte("c")), 2, []byte("d"))
	checkReads(t, e, "a", "c", "d")
	checkDev(t, "FlushDev", impl.FlushDev(e), dev("a", "c", "d"))
	checkDev(t, "FlushDev", impl.FlushDev(caching(dev("x", "y"), wr(1, "a"), wr(0, "b"), wr(1, "c"), wr(0, "d"), wr(1, "e"))), dev("d", "e"))
}

// Each sector has what it had, or one of what was written to it since: the last
// one of those that were kept.
func TestWhatIsLeftWhenThePowerGoes(t *testing.T) {
	d := caching(dev("p", "q", "r", "s"), wr(1, "a"), wr(2, "b"), wr(1, "c"), wr(0, "d"), wr(1, ""), wr(2, "f"))
	may := [][]string{{"p", "d"}, {"q", "a", "c", ""}, {"r", "b", "f"}, {"s"}}
	for keep := range 1 << 6 {
		f := impl.FallDev(d, keep)
		for n, l := range may {
			if !slices.Contains(l, string(f.Secs[n])) {
				t.Errorf("FallDev with %b: the sector %d is %q", keep, n, f.Secs[n])
			}
		}
		want := ledgerOf(d).fall(keep).dev()
		for _, one := range []impl.Dev{d, down(d), fused(d, 0), fused(d, 1), fused(d, 1000), down(fused(d, 7))} {
			checkDev(t, fmt.Sprintf("FallDev with %b", keep), impl.FallDev(one, keep), want)
			// Bits past the Wrs are of none of them.
			for _, bits := range []int{1 << 6, 1 << 7, 1 << 29, keepMost - 63} {
				checkDev(t, fmt.Sprintf("FallDev with %b", keep|bits), impl.FallDev(one, keep|bits), want)
			}
		}
		checkReads(t, f, string(want.Secs[0]), string(want.Secs[1]), string(want.Secs[2]), string(want.Secs[3]))
	}
	for keep, want := range map[int]impl.Dev{
		0: dev("p", "q", "r", "s"), 1: dev("p", "a", "r", "s"), 2: dev("p", "q", "b", "s"), 5: dev("p", "c", "r", "s"), 16: dev("p", "", "r", "s"), 21: dev("p", "", "r", "s"), 40: dev("d", "q", "f", "s"), 63: dev("d", "", "f", "s"), 64: dev("p", "q", "r", "s"), keepMost: dev("d", "", "f", "s"),
	} {
		checkDev(t, fmt.Sprintf("FallDev with %d", keep), impl.FallDev(d, keep), want)
	}
}

func TestKeepsThatAreAsNothing(t *testing.T) {
	d := caching(dev("p", "q"), wr(0, "a"), wr(1, "b"), wr(0, "c"))
	for _, keep := range append(farNumbers(), 0, -1, -7, keepMost+1, keepMost+2, keepMost+8, 1<<31|7, 1<<32|7, 1<<62|7, math.MinInt|7) {
		checkDev(t, fmt.Sprintf("FallDev with %d", keep), impl.FallDev(down(d), keep), dev("p", "q"))
	}
	checkDev(t, "FallDev", impl.FallDev(d, keepMost), dev("c", "b"))
	checkDev(t, "FallDev", impl.FallDev(d, keepMost-4), dev("a", "b"))
}

// What is behind the first 30 has no bit.
func TestWhatIsBehindTheFirstThirtyIsGone(t *testing.T) {
	for _, size := range []int{1, 29, 30, 31, 32, 33, 39, 40} {
		d := caching(impl.DevNew(40), manyWrs(size, 40)...)
		for _, keep := range []int{keepMost, 1 << 29, 1 << 28, keepMost &^ 1, keepMost >> 1} {
			want := impl.DevNew(40)
			for i := range min(size, 30) {
				if keep/(1<<i)%2 == 1 {
					want.Secs[i] = []byte(fmt.Sprint("w", i))
				}
			}
			checkDev(t, fmt.Sprintf("FallDev of %d Wrs with %b", size, keep), impl.FallDev(d, keep), want)
		}
		want := impl.DevNew(40)
		for i := range size {
			want.Secs[i] = []byte(fmt.Sprint("w", i))
		}
		checkDev(t, fmt.Sprintf("FlushDev of %d Wrs", size), impl.FlushDev(d), want)
	}
	// All are to one sector: the last one of the 30 is what is left.
	d := caching(dev("p"), manyWrs(40, 1)...)
	checkDev(t, "FallDev", impl.FallDev(d, keepMost), dev("w29"))
	checkDev(t, "FallDev", impl.FallDev(d, keepMost>>1), dev("w28"))
	checkDev(t, "FallDev", impl.FallDev(d, keepMost+1), dev("p"))
	checkDev(t, "FlushDev", impl.FlushDev(d), dev("w39"))
}

// At a Fuse of n there are n operations, writes and flushes alike, and the next
// one is that at which the power goes.
func TestTheOperationAtWhichThePowerGoes(t *testing.T) {
	begun := caching(dev("p", "q"), wr(0, "a"))
	for _, fuse := range []int{0, 1, 2, 3, 20} {
		for flushes := range 8 {
			d := fused(begun, fuse)
			for i := range fuse {
				want := ledgerOf(d)
				if flushes>>(i%3)&1 == 1 {
					d, want.secs, want.wrote = impl.FlushDev(d), want.settled(everyPlace), nil
				} else {
					d, want.wrote = impl.WriteSec(d, 1, []byte{byte(i)}), append(want.wrote, wr(1, string([]byte{byte(i)})))
				}
				want.fuse = fuse - i - 1
				checkDev(t, fmt.Sprintf("operation %d of %d", i, fuse), d, want.dev())
			}
			gone := down(fused(d, -1))
			checkDev(t, "the last WriteSec", impl.WriteSec(d, 1, []byte("z")), gone)
			checkDev(t, "the last FlushDev", impl.FlushDev(d), gone)
		}
	}
}

func TestEachFuse(t *testing.T) {
	d := caching(dev("p", "q"), wr(0, "a"))
	for fuse, want := range map[int]int{-1: -1, 1: 0, 2: 1, 3: 2, 999: 998, 1000: 999} {
		checkDev(t, fmt.Sprintf("WriteSec with a Fuse of %d", fuse), impl.WriteSec(fused(d, fuse), 1, []byte("b")), fused(caching(dev("p", "q"), wr(0, "a"), wr(1, "b")), want))
		checkDev(t, fmt.Sprintf("FlushDev with a Fuse of %d", fuse), impl.FlushDev(fused(d, fuse)), fused(dev("a", "q"), want))
		checkDev(t, fmt.Sprintf("FlushDev of nothing with a Fuse of %d", fuse), impl.FlushDev(fused(dev("p"), fuse)), fused(dev("p"), want))
	}
	checkDev(t, "WriteSec with a Fuse of 0", impl.WriteSec(fused(d, 0), 1, []byte("b")), down(d))
	checkDev(t, "FlushDev with a Fuse of 0", impl.FlushDev(fused(d, 0)), down(d))
	checkDev(t, "FlushDev of nothing with a Fuse of 0", impl.FlushDev(fused(dev("p"), 0)), down(dev("p")))
	// Reading is no operation.
	checkReads(t, fused(d, 0), "a", "q")
	for range 2000 {
		if d = impl.FlushDev(d); d.Fuse != -1 || d.Down {
			t.Fatalf("the power goes: %v", d)
		}
	}
	for i := range 1000 {
		if d = impl.FlushDev(fused(d, 1000-i)); d.Fuse != 999-i || d.Down {
			t.Fatalf("operation %d: %v", i, d)
		}
	}
	checkDev(t, "operation 1000", impl.FlushDev(d), down(dev("a", "q")))
}

// A device that is Down is read as it is, and does nothing until FallDev.
func TestADeviceThatIsDown(t *testing.T) {
	for _, fuse := range []int{-1, 0, 1, 2, 1000} {
		d := down(fused(caching(dev("p", "q"), wr(0, "a"), wr(1, "b")), fuse))
		if !impl.DevOk(d) {
			t.Errorf("DevOk(%v) is false", d)
		}
		checkReads(t, d, "a", "b")
		for _, n := range []int{0, 1, 2, -1} {
			for _, b := range []string{"", "z", strings.Repeat("z", 121)} {
				checkRefused(t, "WriteSec", impl.WriteSec(d, n, []byte(b)), d)
			}
		}
		checkRefused(t, "FlushDev", impl.FlushDev(d), d)
		checkRefused(t, "FlushDev", impl.FlushDev(impl.WriteSec(impl.FlushDev(d), 0, []byte("z"))), d)
		up := impl.FallDev(d, 2)
		checkDev(t, "FallDev", up, dev("p", "b"))
		checkDev(t, "WriteSec", impl.WriteSec(up, 0, []byte("z")), caching(dev("p", "b"), wr(0, "z")))
		checkDev(t, "FlushDev", impl.FlushDev(impl.WriteSec(up, 0, []byte("z"))), dev("z", "b"))
	}
}

// What is refused is no operation, the one at which the power would go neither.
func TestWhatIsRefusedCountsAsNone(t *testing.T) {
	for _, secs := range []int{1, 2, 64} {
		for _, fuse := range []int{-1, 0, 1, 2, 1000} {
			d := fused(caching(impl.DevNew(secs), wr(0, "a")), fuse)
			for _, b := range []string{"", "z", strings.Repeat("z", 120)} {
				for _, n := range append(farNumbers(), -1, secs, secs+1, 65) {
					checkRefused(t, fmt.Sprintf("WriteSec to %d", n), impl.WriteSec(d, n, []byte(b)), d)
				}
			}
			for _, size := range []int{121, 122, 240, 256, 376, 1 << 16} {
				for _, n := range []int{0, secs - 1, secs, -1} {
					checkRefused(t, fmt.Sprintf("WriteSec of %d bytes", size), impl.WriteSec(d, n, make([]byte, size)), d)
				}
			}
			full := caching(d, manyWrs(40, secs)...)
			for n := range secs {
				checkRefused(t, "WriteSec behind a full Cache", impl.WriteSec(full, n, []byte("z")), full)
			}
		}
	}
}

func TestHowManyBytesAreWritten(t *testing.T) {
	for _, size := range []int{0, 1, 119, 120} {
		b := strings.Repeat("x", size)
		for _, n := range []int{0, 2} {
			d := impl.WriteSec(dev("p", "q", "r"), n, []byte(b))
			checkDev(t, fmt.Sprintf("WriteSec of %d bytes", size), d, caching(dev("p", "q", "r"), wr(n, b)))
			if got := impl.ReadSec(d, n); string(got) != b {
				t.Errorf("of %d bytes %q is read", size, got)
			}
			for _, after := range []impl.Dev{impl.FlushDev(d), impl.FallDev(d, 1)} {
				if string(after.Secs[n]) != b || string(after.Secs[1]) != "q" {
					t.Errorf("of %d bytes there is %q", size, after.Secs)
				}
			}
		}
	}
}

func TestHowManyWrsThereAre(t *testing.T) {
	for _, size := range []int{0, 38, 39} {
		d := caching(dev("p", "q"), manyWrs(size, 2)...)
		checkDev(t, fmt.Sprintf("WriteSec behind %d Wrs", size), impl.WriteSec(d, 1, []byte("z")), caching(dev("p", "q"), append(manyWrs(size, 2), wr(1, "z"))...))
	}
	d := impl.DevNew(64)
	want := make([]string, 64)
	for i := range 40 {
		d = impl.WriteSec(d, i, []byte{byte(i)})
		want[i] = string([]byte{byte(i)})
	}
	if len(d.Cache) != 40 {
		t.Errorf("of 40 writes %d are in the Cache", len(d.Cache))
	}
	checkReads(t, d, want...)
	checkRefused(t, "WriteSec", impl.WriteSec(d, 63, []byte("z")), d)
	checkDev(t, "FlushDev", impl.FlushDev(d), dev(want...))
	checkReads(t, impl.WriteSec(impl.FlushDev(d), 63, []byte("z")), append(want[:63:63], "z")...)
}

// rightDevs are devices that are right, in each way.
func rightDevs() []impl.Dev {
	full := strings.Repeat("f", 120)
	l := []impl.Dev{
		dev(""), dev("a"), dev(full), dev(make([]string, 64)...), dev(slices.Repeat([]string{full}, 64)...), dev("a", "", full),
		caching(dev("a"), wr(0, "")), caching(dev("a"), wr(0, full)), caching(dev("a", "b"), wr(0, "c"), wr(1, full), wr(0, "d")), caching(dev(make([]string, 64)...), wr(63, "z"), wr(0, "y"), wr(63, "x")),
		caching(dev("a"), manyWrs(39, 1)...), caching(dev("a"), manyWrs(40, 1)...), caching(dev("a", "b", "c"), manyWrs(40, 3)...), caching(dev(make([]string, 64)...), manyWrs(40, 64)...),
	}
	for _, d := range slices.Clone(l) {
		for _, fuse := range []int{0, 1, 2, 999, 1000} {
			l = append(l, fused(d, fuse), down(fused(d, fuse)))
		}
		l = append(l, down(d))
	}
	return l
}

// wrongDevs are devices that are not right, each by one of its parts.
func wrongDevs() []impl.Dev {
	long := strings.Repeat("l", 121)
	l := []impl.Dev{
		{}, {Fuse: -1}, {Fuse: -1, Secs: [][]byte{}}, {Cache: []impl.Wr{wr(0, "a")}},
		dev(make([]string, 65)...), dev(make([]string, 128)...), dev(make([]string, 257)...), caching(dev(make([]string, 65)...), wr(64, "a")),
		dev(long), dev(long, "a"), dev("a", long, "b"), dev("a", "b", long), dev(strings.Repeat("a", 256)), dev(append(make([]string, 63), long)...),
		caching(dev("a"), manyWrs(41, 1)...), caching(dev("a", "b"), manyWrs(42, 2)...), caching(dev("a", "b"), manyWrs(257, 2)...),
		caching(dev("a", "b"), wr(0, long)), caching(dev("a", "b"), wr(0, long), wr(0, "a")), caching(dev("a", "b"), wr(0, "a"), wr(1, long)), caching(dev("a"), wr(0, strings.Repeat("a", 256))), caching(dev("a"), append(manyWrs(39, 1), wr(0, long))...),
	}
	for _, n := range append(farNumbers(), -1, 2, 3, 64) {
		l = append(l, caching(dev("a", "b"), wr(n, "")), caching(dev("a", "b"), wr(n, "c"), wr(0, "d")), caching(dev("a", "b"), wr(1, "c"), wr(n, "d")), caching(dev("a", "b"), append(manyWrs(39, 2), wr(n, "z"))...))
	}
	l = append(l, caching(dev("a"), wr(1, "b")), caching(dev(make([]string, 64)...), wr(64, "z")), caching(dev(make([]string, 64)...), wr(-1, "z")))
	for _, fuse := range append(farNumbers(), 1001, 1002, 65535, 1<<32+1000) {
		l = append(l, fused(dev("a", "b"), fuse), fused(caching(dev("a", "b"), wr(0, "c")), fuse))
	}
	for _, d := range slices.Clone(l) {
		l = append(l, down(d))
	}
	return l
}

func TestDevicesThatAreRight(t *testing.T) {
	for _, d := range rightDevs() {
		if !impl.DevOk(d) {
			t.Errorf("DevOk(%v) is false", d)
		}
		l := ledgerOf(d)
		for n := -1; n <= len(d.Secs); n++ {
			if got := impl.ReadSec(d, n); string(got) != l.read(n) {
				t.Errorf("ReadSec(%v, %d) is %q, not %q", d, n, got, l.read(n))
			}
			for _, b := range []string{"", "z", strings.Repeat("z", 120), strings.Repeat("z", 121)} {
				checkDev(t, "WriteSec", impl.WriteSec(d, n, []byte(b)), l.write(n, b).dev())
			}
		}
		checkDev(t, "FlushDev", impl.FlushDev(d), l.flush().dev())
		for _, keep := range []int{0, 1, 2, 5, 1 << 29, keepMost, keepMost + 1, -1, math.MinInt, math.MaxInt} {
			checkDev(t, "FallDev", impl.FallDev(d, keep), l.fall(keep).dev())
		}
	}
}

func TestDevicesThatAreNotRight(t *testing.T) {
	for _, d := range wrongDevs() {
		if impl.DevOk(d) {
			t.Errorf("DevOk(%v) is true", d)
		}
		for _, n := range append(farNumbers(), -1, 0, 1, 2, 63, 64, len(d.Secs), len(d.Secs)-1) {
			if b := impl.ReadSec(d, n); len(b) != 0 {
				t.Errorf("ReadSec(%v, %d) is %q", d, n, b)
			}
			for _, b := range []string{"", "z", strings.Repeat("z", 120), strings.Repeat("z", 121)} {
				checkRefused(t, "WriteSec", impl.WriteSec(d, n, []byte(b)), d)
			}
		}
		checkRefused(t, "FlushDev", impl.FlushDev(d), d)
		for _, keep := range append(farNumbers(), 0, 1, keepMost, -1) {
			checkRefused(t, "FallDev", impl.FallDev(d, keep), d)
		}
	}
}

// A deed is something that is done to a device, and to a ledger.
type deed struct {
	name string
	dev  func(d impl.Dev) impl.Dev
	own  func(l ledger) ledger
}

func deeds() []deed {
	var l []deed
	for _, w := range []impl.Wr{wr(0, "a"), wr(1, "b"), wr(0, "c"), wr(2, "z"), wr(1, "")} {
		l = append(l, deed{fmt.Sprintf("write %d %s", w.N, w.B), func(d impl.Dev) impl.Dev { return impl.WriteSec(d, w.N, w.B) }, func(l ledger) ledger { return l.write(w.N, string(w.B)) }})
	}
	for _, keep := range []int{0, 1, 2, 5, keepMost + 1} {
		l = append(l, deed{fmt.Sprint("fall ", keep), func(d impl.Dev) impl.Dev { return impl.FallDev(d, keep) }, func(l ledger) ledger { return l.fall(keep) }})
	}
	l = append(l, deed{"flush", impl.FlushDev, ledger.flush})
	return append(l, deed{"fuse 1", func(d impl.Dev) impl.Dev { return fused(d, 1) }, func(l ledger) ledger { l.fuse = 1; return l }})
}

// goOn does each deed, one behind the other in each order, and fails when a
// device is not as its ledger.
func goOn(t *testing.T, way string, d impl.Dev, l ledger, depth int) {
	t.Helper()
	if want := l.dev(); !sameDev(d, want) || impl.DevOk(d) != l.ok() {
		t.Fatalf("%s: %v, not %v", way, d, want)
	}
	for n := range len(d.Secs) + 1 {
		if got := impl.ReadSec(d, n); string(got) != l.read(n) {
			t.Fatalf("%s: the sector %d is read as %q, not %q", way, n, got, l.read(n))
		}
	}
	if depth == 0 {
		return
	}
	for _, x := range deeds() {
		goOn(t, way+", "+x.name, x.dev(d), x.own(l), depth-1)
	}
}

func TestWhateverIsDoneADeviceIsAsItsLedger(t *testing.T) {
	for _, fuse := range []int{-1, 0, 2} {
		d := fused(dev("p", "q"), fuse)
		goOn(t, fmt.Sprint("fuse ", fuse), d, ledgerOf(d), 4)
	}
}

// Whenever the power goes, and whatever is kept then, each sector has what it had
// when all was flushed last, or what was written to it since.
func TestEachSectorHasWhatItHadOrWhatWasWritten(t *testing.T) {
	steps := []impl.Wr{wr(0, "a"), wr(1, "b"), wr(-1, ""), wr(0, "c"), wr(2, "d"), wr(0, ""), wr(-1, ""), wr(1, "e"), wr(1, "f"), wr(-1, ""), wr(2, "g")}
	for fuse := range len(steps) + 1 {
		d := fused(dev("p", "q", "r"), fuse)
		may := [][]string{{"p"}, {"q"}, {"r"}}
		done := 0
		for _, w := range steps {
			if w.N < 0 {
				d = impl.FlushDev(d)
			} else {
				d = impl.WriteSec(d, w.N, w.B)
			}
			if d.Down {
				break
			}
			done++
			for n := range may {
				if w.N < 0 {
					may[n] = may[n][len(may[n])-1:]
				} else if w.N == n {
					may[n] = append(may[n], string(w.B))
				}
			}
		}
		if done != min(fuse, len(steps)) {
			t.Errorf("with a Fuse of %d %d operations are done", fuse, done)
		}
		for keep := range 1 << 6 {
			f := impl.FallDev(d, keep)
			for n, l := range may {
				if !slices.Contains(l, string(f.Secs[n])) || len(f.Secs) != 3 {
					t.Errorf("with a Fuse of %d, and %b kept, the sector %d is %q, not of %q", fuse, keep, n, f.Secs[n], l)
				}
			}
		}
	}
}

// An empty list and nil are the same value, and what lies behind a length is not
// read.
func TestEmptyListsOfADevice(t *testing.T) {
	for _, b := range [][]byte{nil, {}, []byte("abc")[:0]} {
		for _, l := range [][]impl.Wr{nil, {}, manyWrs(3, 3)[:0]} {
			d := impl.Dev{Secs: [][]byte{b, b}, Cache: l, Fuse: -1}
			checkDev(t, "what is given", d, dev("", ""))
			checkReads(t, d, "", "")
			checkDev(t, "WriteSec", impl.WriteSec(d, 1, b), caching(dev("", ""), wr(1, "")))
			checkDev(t, "FlushDev", impl.FlushDev(impl.WriteSec(d, 1, b)), dev("", ""))
			checkDev(t, "FallDev", impl.FallDev(d, keepMost), dev("", ""))
		}
		if impl.DevOk(impl.Dev{Secs: [][]byte{b, b}[:0], Fuse: -1}) {
			t.Error("a device without sectors is right")
		}
	}
	long := bytes.Repeat([]byte("a"), 300)
	secs := [][]byte{long[:120], long[:3], long}
	cache := []impl.Wr{{N: 1, B: long[:120]}, {N: 9, B: long}}
	d := impl.Dev{Secs: secs[:2], Cache: cache[:1], Fuse: -1}
	checkReads(t, d, strings.Repeat("a", 120), strings.Repeat("a", 120))
	checkDev(t, "FallDev", impl.FallDev(d, 2), dev(strings.Repeat("a", 120), "aaa"))
	for _, one := range []impl.Dev{{Secs: secs, Fuse: -1}, {Secs: secs[:2], Cache: cache, Fuse: -1}} {
		if impl.DevOk(one) {
			t.Errorf("DevOk(%v) is true", one)
		}
	}
}

// A room is all memory of a device: its lists with what lies behind them.
type room struct {
	secs  [][]byte
	cache []impl.Wr
	texts [][]byte
}

// roomyDev answers a device as d, each list of which has spare room behind it,
// and that room and they together.
func roomyDev(d impl.Dev) (impl.Dev, *room) {
	z := &room{}
	text := func(b []byte) []byte {
		arg, whole := roomy(string(b))
		z.texts = append(z.texts, whole)
		return arg
	}
	for _, b := range d.Secs {
		z.secs = append(z.secs, text(b))
	}
	for _, w := range d.Cache {
		z.cache = append(z.cache, impl.Wr{N: w.N, B: text(w.B)})
	}
	for range 3 {
		z.secs = append(z.secs, text([]byte("behind")))
		z.cache = append(z.cache, impl.Wr{N: 1, B: text([]byte("behind"))})
	}
	return impl.Dev{Secs: z.secs[:len(d.Secs)], Cache: z.cache[:len(d.Cache)], Fuse: d.Fuse, Down: d.Down}, z
}

// said answers a copy of all that is in a room.
func (z *room) said() *room {
	d := copiedDev(impl.Dev{Secs: z.secs, Cache: z.cache})
	out := &room{secs: d.Secs, cache: d.Cache}
	for _, b := range z.texts {
		out.texts = append(out.texts, bytes.Clone(b))
	}
	return out
}

func (z *room) same(other *room) bool {
	return sameDev(impl.Dev{Secs: z.secs, Cache: z.cache}, impl.Dev{Secs: other.secs, Cache: other.cache}) && slices.EqualFunc(z.texts, other.texts, bytes.Equal)
}

// spoil writes over all that is in a room.
func (z *room) spoil() {
	for _, b := range z.texts {
		spoil(b)
	}
	spoilLists(impl.Dev{Secs: z.secs, Cache: z.cache})
}

// spoilLists puts other lists of bytes into a device, behind its lists' lengths
// too.
func spoilLists(d impl.Dev) {
	secs, cache := d.Secs[:cap(d.Secs)], d.Cache[:cap(d.Cache)]
	for i := range secs {
		secs[i] = []byte("other")
	}
	for i := range cache {
		cache[i] = wr(77, "other")
	}
}

// textsOf answers all lists of bytes of a device.
func textsOf(d impl.Dev) [][]byte {
	l := slices.Clone(d.Secs)
	for _, w := range d.Cache {
		l = append(l, w.B)
	}
	return l
}

// checkApart fails when two lists of bytes of a device share memory.
func checkApart(t *testing.T, name string, d impl.Dev) {
	t.Helper()
	checkTextsApart(t, name, textsOf(d))
}

// checkNothingBehind fails when a device hands out more behind its lists than
// what is as nothing.
func checkNothingBehind(t *testing.T, name string, d impl.Dev) {
	t.Helper()
	for _, b := range d.Secs[len(d.Secs):cap(d.Secs)] {
		if len(b) != 0 {
			t.Errorf("%s: %q is behind its sectors", name, b)
		}
	}
	for _, w := range d.Cache[len(d.Cache):cap(d.Cache)] {
		if w.N != 0 || len(w.B) != 0 {
			t.Errorf("%s: %v is behind its Cache", name, w)
		}
	}
	for _, b := range textsOf(d) {
		if bytes.Contains(b[len(b):cap(b)], []byte{spareByte}) {
			t.Errorf("%s: what lies behind is handed out", name)
		}
	}
}

// checkDevRoom fails when a call writes into a device, the bytes beside it or the
// spare room behind any of these, or when its answer shares memory with them, or
// two lists of it with each other.
func checkDevRoom(t *testing.T, name string, d impl.Dev, s string, call func(d impl.Dev, b []byte) impl.Dev) {
	t.Helper()
	arg, z := roomyDev(d)
	b, whole := roomy(s)
	z.texts = append(z.texts, whole)
	before := z.said()
	got := call(arg, b)
	if !z.same(before) {
		t.Errorf("%s of %v: the argument is written", name, d)
	}
	said := copiedDev(got)
	z.spoil()
	if !sameDev(got, said) {
		t.Errorf("%s of %v: the answer goes with the argument: %v, not %v", name, d, got, said)
	}
	spoilt := z.said()
	checkNothingBehind(t, name, got)
	checkApart(t, name, got)
	spoilLists(got)
	if !z.same(spoilt) {
		t.Errorf("%s of %v: the argument goes with the answer", name, d)
	}
}

// A devCall is a call that makes something of a device and bytes; where that is
// bytes it is a device of that sector.
type devCall struct {
	name string
	call func(d impl.Dev, b []byte) impl.Dev
}

func devCalls() []devCall {
	l := []devCall{
		{"DevOk", func(d impl.Dev, b []byte) impl.Dev { impl.DevOk(d); return impl.Dev{} }},
		{"FlushDev", func(d impl.Dev, b []byte) impl.Dev { return impl.FlushDev(d) }},
		{"Flush behind WriteSec", func(d impl.Dev, b []byte) impl.Dev { return impl.FlushDev(impl.WriteSec(d, 0, b)) }},
		{"two WriteSec", func(d impl.Dev, b []byte) impl.Dev { return impl.WriteSec(impl.WriteSec(d, 0, b), 0, b) }},
	}
	for _, n := range []int{0, 1, 63, -1, 64, math.MinInt, math.MaxInt} {
		l = append(l, devCall{fmt.Sprint("WriteSec to ", n), func(d impl.Dev, b []byte) impl.Dev { return impl.WriteSec(d, n, b) }})
		l = append(l, devCall{fmt.Sprint("ReadSec of ", n), func(d impl.Dev, b []byte) impl.Dev { return impl.Dev{Secs: [][]byte{impl.ReadSec(d, n)}} }})
	}
	for _, keep := range []int{0, 1, 2, 5, keepMost, keepMost + 1, -1} {
		l = append(l, devCall{fmt.Sprint("FallDev with ", keep), func(d impl.Dev, b []byte) impl.Dev { return impl.FallDev(d, keep) }})
	}
	return l
}

func TestDevicesStayAsTheyAre(t *testing.T) {
	t.Parallel()
	for _, d := range append(rightDevs(), wrongDevs()...) {
		for _, c := range devCalls() {
			for _, b := range []string{"", "b", strings.Repeat("b", 120), strings.Repeat("b", 121)} {
				checkDevRoom(t, c.name, d, b, c.call)
			}
		}
	}
}

// All lists of a device may be of the same memory; those of what is made of it
// are not.
func TestListsOfOneMemory(t *testing.T) {
	for _, s := range []string{"a", "abc", strings.Repeat("z", 120), strings.Repeat("z", 121)} {
		for _, fuse := range []int{-1, 0, 1, 1001} {
			for _, c := range devCalls() {
				one, whole := roomy(s)
				before := bytes.Clone(whole)
				d := impl.Dev{Secs: [][]byte{one, one, one}, Cache: []impl.Wr{{N: 1, B: one}, {N: 0, B: one}, {N: 1, B: one}, {N: 2, B: one}}, Fuse: fuse}
				for _, from := range []impl.Dev{d, down(d)} {
					checkApart(t, c.name, c.call(from, one))
					if !bytes.Equal(whole, before) {
						t.Errorf("%s of lists of one memory: it is written", c.name)
					}
				}
			}
		}
	}
}

func TestDevicesAreNewEachTime(t *testing.T) {
	one, two := impl.DevNew(3), impl.DevNew(3)
	spoilLists(one)
	if !sameDev(two, dev("", "", "")) || !sameDev(impl.DevNew(3), dev("", "", "")) {
		t.Errorf("DevNew goes with what it answered ahead: %v", two)
	}
	for _, d := range append(rightDevs(), wrongDevs()...) {
		for _, c := range devCalls() {
			one, two := c.call(d, []byte("b")), c.call(d, []byte("b"))
			said := copiedDev(two)
			checkApart(t, c.name, one)
			spoilLists(one)
			if three := c.call(d, []byte("b")); !sameDev(two, said) || !sameDev(three, said) {
				t.Errorf("%s of %v: %v, %v, not %v", c.name, d, two, three, said)
			}
		}
	}
}
