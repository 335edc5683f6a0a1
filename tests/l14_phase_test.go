package tests

import (
	"math"
	"slices"
	"strings"
	"testing"

	"loop.example/g00475/impl"
)

// phaseBook is what the chapter tells of one phase, written out apart from the
// program: its line of follows and of reached has an x for each phase that may
// follow it at once, or that it reaches.
type phaseBook struct {
	number  int
	name    string
	follows string
	reached string
	final   bool
	walks   bool
}

func phaseBooks() []phaseBook {
	//                   idfccdbo    idfccdbo
	return []phaseBook{
		{0, "idle", ".x....x.", "xxxxxxxx", false, false},
		{1, "dual", "..x...x.", ".xxxxxxx", false, false},
		{2, "fill", "...x..x.", "..xxxxxx", false, true},
		{3, "check", "....x.x.", "...xxxxx", false, true},
		{4, "cut", ".....x..", "....xx..", false, true},
		{5, "done", "........", ".....x..", true, false},
		{6, "back", ".......x", "......xx", false, true},
		{7, "over", "........", ".......x", true, false},
	}
}

// checkPhases fails when the program says of two numbers other than these.
func checkPhases(t *testing.T, a int, b int, next bool, reached bool) {
	t.Helper()
	if got := impl.NextOk(a, b); got != next {
		t.Errorf("NextOk of %d and %d: %v", a, b, got)
	}
	if got := impl.Reaches(a, b); got != reached {
		t.Errorf("Reaches of %d and %d: %v", a, b, got)
	}
}

func TestPhasesByTheirNumbers(t *testing.T) {
	for i, p := range allPhases() {
		if p != i {
			t.Errorf("the phase %d is %d", i, p)
		}
	}
	if len(allPhases()) != len(phaseBooks()) {
		t.Error("there are not as many phases as in the books")
	}
}

func TestWhatMayFollowByTheBooks(t *testing.T) {
	for _, a := range phaseBooks() {
		for _, b := range phaseBooks() {
			checkPhases(t, a.number, b.number, a.follows[b.number] == 'x', a.reached[b.number] == 'x')
		}
	}
}

func TestFinalAndWalksByTheBooks(t *testing.T) {
	for _, p := range phaseBooks() {
		if got := impl.Final(p.number); got != p.final {
			t.Errorf("Final of %s: %v", p.name, got)
		}
		if got := impl.Walks(p.number); got != p.walks {
			t.Errorf("Walks of %s: %v", p.name, got)
		}
	}
}

func TestPhasesByTheirNames(t *testing.T) {
	for _, p := range phaseBooks() {
		if got := impl.PhaseName(p.number); got != p.name {
			t.Errorf("PhaseName of %d: %q", p.number, got)
		}
		if got := impl.PhaseOf(p.name); got != p.number {
			t.Errorf("PhaseOf of %q: %d", p.name, got)
		}
		if got := impl.PhaseOf(impl.PhaseName(p.number)); got != p.number {
			t.Errorf("PhaseOf of the name of %d: %d", p.number, got)
		}
		if !impl.NameOk(impl.PhaseName(p.number)) {
			t.Errorf("the name of %d is no name", p.number)
		}
	}
}

// numbersAround are all numbers near the phases, and some far away.
func numbersAround() []int {
	l := noPhases()
	for n := -20; n <= 40; n++ {
		l = append(l, n)
	}
	return append(l, 1<<16, 1<<16+1, -1<<32, 1<<63-8, math.MaxInt-7, math.MinInt+7)
}

func isPhase(n int) bool {
	return slices.Contains(allPhases(), n)
}

// P14: no phase that another one leads to leads back to it.
func TestOfWhatMayFollowNothingLeadsBack(t *testing.T) {
	for _, a := range numbersAround() {
		for _, b := range numbersAround() {
			if a != b && impl.Reaches(a, b) && impl.Reaches(b, a) {
				t.Errorf("from %d to %d and back", a, b)
			}
			if impl.NextOk(a, b) && impl.Reaches(b, a) {
				t.Errorf("%d follows %d and leads back", b, a)
			}
		}
		if impl.NextOk(a, a) {
			t.Errorf("%d follows itself", a)
		}
	}
}

// waysFrom answers all that is met on the way from a phase, step by step by
// NextOk alone, and the longest way; it gives up behind more steps than there
// are phases, as then something led back.
func waysFrom(t *testing.T, a int, steps int, met map[int]int) int {
	t.Helper()
	if steps > len(allPhases()) {
		t.Fatalf("the ways by %d never end", a)
	}
	longest := 0
	met[a]++
	for _, b := range numbersAround() {
		if impl.NextOk(a, b) {
			longest = max(longest, 1+waysFrom(t, b, steps+1, met))
		}
	}
	return longest
}

func TestEachWayEndsInAFinalPhase(t *testing.T) {
	// how many steps the longest way from each phase has
	longest := []int{5, 4, 3, 2, 1, 0, 1, 0}
	for _, a := range allPhases() {
		met := map[int]int{}
		if got := waysFrom(t, a, 0, met); got != longest[a] {
			t.Errorf("the longest way from %d has %d steps", a, got)
		}
		ends := 0
		for b := range met {
			if !isPhase(b) {
				t.Errorf("from %d to %d, which is no phase", a, b)
			}
			if impl.Final(b) {
				ends++
			}
		}
		if ends == 0 {
			t.Errorf("from %d no way leads to an end", a)
		}
		for _, b := range numbersAround() {
			if got := impl.Reaches(a, b); got != (met[b] > 0) {
				t.Errorf("Reaches of %d and %d: %v, met %d times", a, b, got, met[b])
			}
		}
	}
}

func TestFinalIsWhatNothingFollows(t *testing.T) {
	for _, a := range allPhases() {
		follow := 0
		for _, b := range numbersAround() {
			if impl.NextOk(a, b) {
				follow++
			}
		}
		if impl.Final(a) != (follow == 0) {
			t.Errorf("Final of %d: %v, and %d follow it", a, impl.Final(a), follow)
		}
		if impl.Final(a) && impl.Walks(a) {
			t.Errorf("in %d rows are gone through, and it is an end", a)
		}
	}
}

// What may be turned back: all up to PhCheck, and nothing from PhCut on, when
// rows have lost their Old.
func TestWhatMayBeTurnedBack(t *testing.T) {
	for _, p := range allPhases() {
		early := p == impl.PhIdle || p == impl.PhDual || p == impl.PhFill || p == impl.PhCheck
		if got := impl.NextOk(p, impl.PhBack); got != early {
			t.Errorf("NextOk of %d and PhBack: %v", p, got)
		}
		if got := impl.Reaches(p, impl.PhBack); got != (early || p == impl.PhBack) {
			t.Errorf("Reaches of %d and PhBack: %v", p, got)
		}
		if got := impl.Reaches(p, impl.PhOver); got != (early || p == impl.PhBack || p == impl.PhOver) {
			t.Errorf("Reaches of %d and PhOver: %v", p, got)
		}
		if got := impl.Reaches(p, impl.PhCut); got != (early || p == impl.PhCut) {
			t.Errorf("Reaches of %d and PhCut: %v", p, got)
		}
		if impl.Reaches(p, impl.PhDone) && impl.Reaches(p, impl.PhOver) != early {
			t.Errorf("from %d to both ends, or not", p)
		}
	}
}

func TestReachesGoesOn(t *testing.T) {
	for _, a := range numbersAround() {
		for _, b := range numbersAround() {
			if !impl.Reaches(a, b) {
				continue
			}
			for _, c := range numbersAround() {
				if impl.Reaches(b, c) && !impl.Reaches(a, c) {
					t.Errorf("%d reaches %d, this one %d, and the first not", a, b, c)
				}
			}
		}
	}
}

func TestNumbersThatAreNoPhases(t *testing.T) {
	for _, n := range numbersAround() {
		if isPhase(n) {
			continue
		}
		if impl.Final(n) || impl.Walks(n) || impl.PhaseName(n) != "" {
			t.Errorf("%d is taken as a phase: %v, %v, %q", n, impl.Final(n), impl.Walks(n), impl.PhaseName(n))
		}
		for _, m := range numbersAround() {
			checkPhases(t, n, m, false, n == m)
			checkPhases(t, m, n, false, n == m)
		}
	}
}

// wrongPhaseNames are texts that are near the name of a phase, and others.
func wrongPhaseNames() []string {
	l := []string{"", " ", "x", "Idle", "IDLE", "idle ", " idle", "over2", "PhIdle", "0", "7", "8", "-1", "phase",
		"none", "idle\x00", "\x00idle", "idle\n", "idledual", "idle dual", "\xff", "over\xff", "\xc3\x28", "\xed\xa0\x80",
		"о\x76er", "ıdle", "ｉｄｌｅ", "cu\xcc\x88t", "utf8", "latin1", strings.Repeat("idle", 1<<14), strings.Repeat("\x00", 1<<16)}
	for _, p := range phaseBooks() {
		l = append(l, strings.ToUpper(p.name), strings.ToUpper(p.name[:1])+p.name[1:], p.name+" ", " "+p.name, p.name+p.name, p.name+"\x00", p.name+"s")
		for i := range len(p.name) {
			l = append(l, p.name[:i], p.name[i+1:], p.name[:i]+p.name[i+1:], p.name[:i]+"\xff"+p.name[i+1:], p.name[:i]+p.name[i:i+1]+p.name[i:])
			for bit := range 8 {
				turned := []byte(p.name)
				turned[i] ^= 1 << bit
				l = append(l, string(turned))
			}
		}
	}
	return l
}

func TestNamesOfNoPhase(t *testing.T) {
	for _, s := range wrongPhaseNames() {
		if got := impl.PhaseOf(s); got != -1 {
			t.Errorf("PhaseOf of %.40q: %d", s, got)
		}
	}
}

// What was asked before, wrong or right, is not seen in what is answered then.
func TestPhasesKeepNothing(t *testing.T) {
	for _, n := range noPhases() {
		impl.NextOk(n, n)
		impl.Reaches(n, 0)
		impl.PhaseName(n)
		impl.PhaseOf("none")
		for _, p := range slices.Backward(phaseBooks()) {
			if impl.PhaseName(p.number) != p.name || impl.PhaseOf(p.name) != p.number || impl.Final(p.number) != p.final || impl.Walks(p.number) != p.walks {
				t.Errorf("the phase %s is another one behind %d", p.name, n)
			}
			for _, b := range allPhases() {
				checkPhases(t, p.number, b, p.follows[b] == 'x', p.reached[b] == 'x')
			}
		}
	}
}
