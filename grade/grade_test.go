package grade

import (
	"math"
	"math/big"
	"slices"
	"testing"
)

// levels and quanta are the chapter's, written out once more.
var (
	levels = []int{0, 1, 2, 3, 4, 5, 6, 7}
	quanta = []uint64{1, 1, 2, 2, 3, 4, 6, 8}
)

const (
	worst = 7
	none  = 8
	whole = 27
)

// strangers are integers that are no levels.
var strangers = []int{math.MinInt, math.MinInt + 1, -1 << 32, -9, -8, -7, -2, -1, 8, 9, 10, 15, 16, 63, 64, 255, 256, 1 << 32, 1<<32 + 3, math.MaxInt - 1, math.MaxInt}

// places are the levels and the strangers, with the integers between.
func places() []int {
	l := slices.Clone(strangers)
	for i := -300; i <= 300; i++ {
		l = append(l, i)
	}
	slices.Sort(l)
	return slices.Compact(l)
}

// clamped is the definition by its words.
func clamped(l int) int {
	if l < 0 {
		return 0
	}
	if l > worst {
		return worst
	}
	return l
}

// P5.1: Is.
func TestIs(t *testing.T) {
	for _, l := range places() {
		if want := slices.Contains(levels, l); Is(l) != want {
			t.Errorf("Is(%d) = %t", l, !want)
		}
	}
	for _, l := range levels {
		if !Is(l) {
			t.Errorf("%d is a level", l)
		}
	}
	for _, l := range strangers {
		if Is(l) {
			t.Errorf("%d is no level", l)
		}
	}
}

// P5.1: Hold.
func TestHold(t *testing.T) {
	for _, l := range places() {
		if x := Hold(l); x != clamped(l) {
			t.Errorf("Hold(%d) = %d, want %d", l, x, clamped(l))
		}
	}
	for _, c := range [][2]int{{math.MinInt, 0}, {-1, 0}, {0, 0}, {1, 1}, {6, 6}, {7, 7}, {8, 7}, {9, 7}, {math.MaxInt, 7}} {
		if x := Hold(c[0]); x != c[1] {
			t.Errorf("Hold(%d) = %d, want %d", c[0], x, c[1])
		}
	}
}

// counted is what an integer counts as for Better, by the words of the promise.
func counted(l int) int {
	if l < 0 {
		return 0
	}
	if l > worst {
		return none
	}
	return l
}

// P5.1: Better.
func TestBetter(t *testing.T) {
	for _, a := range places() {
		for _, b := range places() {
			if want := counted(a) < counted(b); Better(a, b) != want {
				t.Fatalf("Better(%d, %d) = %t", a, b, !want)
			}
		}
	}
}

// P5.1: negative integers count as 0, those greater than 7 as none, which every level is better than.
func TestBetterAtTheBounds(t *testing.T) {
	for _, c := range []struct {
		a, b int
		want bool
	}{
		{0, 0, false}, {0, 1, true}, {1, 0, false}, {6, 7, true}, {7, 6, false}, {7, 7, false},
		{-1, 0, false}, {0, -1, false}, {-2, -1, false}, {-1, 1, true}, {1, -1, false}, {math.MinInt, 0, false}, {math.MinInt, 1, true}, {math.MinInt, math.MaxInt, true},
		{7, 8, true}, {8, 7, false}, {8, 8, false}, {8, 9, false}, {9, 8, false}, {7, 9, true}, {9, 7, false},
		{7, math.MaxInt, true}, {8, math.MaxInt, false}, {math.MaxInt, 7, false}, {math.MaxInt, 8, false}, {math.MaxInt, math.MinInt, false}, {-1, 8, true},
	} {
		if Better(c.a, c.b) != c.want {
			t.Errorf("Better(%d, %d) = %t", c.a, c.b, !c.want)
		}
	}
}

// best is Best by its words.
func best(l []int) int {
	var those []int
	for _, x := range l {
		if slices.Contains(levels, x) {
			those = append(those, x)
		}
	}
	if len(those) == 0 {
		return none
	}
	return slices.Min(those)
}

// lists calls f with every list of at most that many of these integers; it may not be kept.
func lists(of []int, most int, f func([]int)) {
	var l []int
	var longer func()
	longer = func() {
		f(l)
		if len(l) == most {
			return
		}
		for _, x := range of {
			l = append(l, x)
			longer()
			l = l[:len(l)-1]
		}
	}
	longer()
}

// P5.1: Best, of all short lists.
func TestBest(t *testing.T) {
	lists([]int{math.MinInt, -1, 0, 1, 2, 3, 4, 5, 6, 7, 8, 9, math.MaxInt}, 4, func(l []int) {
		if x := Best(l...); x != best(l) {
			t.Fatalf("Best(%d) = %d, want %d", l, x, best(l))
		}
	})
	for _, a := range places() {
		for _, b := range places() {
			if x, want := Best(a, b), best([]int{a, b}); x != want {
				t.Fatalf("Best(%d, %d) = %d, want %d", a, b, x, want)
			}
		}
	}
}

// P5.1: no argument, none that is a level, one that is, and the best one at each place of a long list.
func TestBestAtTheBounds(t *testing.T) {
	if x := Best(); x != none {
		t.Errorf("Best() = %d", x)
	}
	if x := Best([]int{}...); x != none {
		t.Errorf("Best of an empty list = %d", x)
	}
	if x := Best(strangers...); x != none {
		t.Errorf("Best(%d) = %d", strangers, x)
	}
	for _, l := range levels {
		for i := range len(strangers) + 1 {
			if x := Best(slices.Insert(slices.Clone(strangers), i, l)...); x != l {
				t.Errorf("Best of %d among strangers, at %d = %d", l, i, x)
			}
		}
		for i := range 1000 {
			long := slices.Repeat([]int{worst}, 1000)
			long[i] = l
			if x := Best(long...); x != l {
				t.Fatalf("Best of %d among many, at %d = %d", l, i, x)
			}
		}
	}
}

func TestBestLeavesItsArguments(t *testing.T) {
	l := []int{9, 5, -1, 2, 8, 2}
	Best(l...)
	if !slices.Equal(l, []int{9, 5, -1, 2, 8, 2}) {
		t.Error(l)
	}
}

// P5.2: Quantum, twice, since the first call may not change the second one's answer.
func TestQuantum(t *testing.T) {
	for range 2 {
		for _, l := range places() {
			if x, want := Quantum(l), quanta[clamped(l)]; x != want {
				t.Errorf("Quantum(%d) = %d, want %d", l, x, want)
			}
		}
	}
	for _, c := range []struct {
		l    int
		want uint64
	}{
		{math.MinInt, 1}, {-1, 1}, {0, 1}, {1, 1}, {2, 2}, {3, 2}, {4, 3}, {5, 4}, {6, 6}, {7, 8}, {8, 8}, {math.MaxInt, 8},
	} {
		if x := Quantum(c.l); x != c.want {
			t.Errorf("Quantum(%d) = %d, want %d", c.l, x, c.want)
		}
	}
}

// P5.2: Longest is the greatest of the quanta.
func TestLongest(t *testing.T) {
	if Longest != 8 || uint64(Longest) != slices.Max(quanta) {
		t.Error(Longest)
	}
	for _, l := range places() {
		if Quantum(l) > Longest {
			t.Errorf("Quantum(%d) = %d", l, Quantum(l))
		}
	}
}

// P5.2: Down.
func TestDown(t *testing.T) {
	for _, l := range places() {
		if x, want := Down(l), clamped(clamped(l)+1); x != want {
			t.Errorf("Down(%d) = %d, want %d", l, x, want)
		}
	}
	for _, c := range [][2]int{{math.MinInt, 1}, {-2, 1}, {-1, 1}, {0, 1}, {1, 2}, {5, 6}, {6, 7}, {7, 7}, {8, 7}, {math.MaxInt - 1, 7}, {math.MaxInt, 7}} {
		if x := Down(c[0]); x != c[1] {
			t.Errorf("Down(%d) = %d, want %d", c[0], x, c[1])
		}
	}
}

// P5.2: All.
func TestAll(t *testing.T) {
	for range 2 {
		if x := All(); x != whole {
			t.Fatal(x)
		}
	}
	var sum uint64
	for _, l := range levels {
		sum += Quantum(l)
	}
	if sum != All() {
		t.Errorf("the quanta are %d together, All() = %d", sum, All())
	}
}

// holdRun holds one call of Run against what it should return.
func holdRun(t *testing.T, l int, ticks uint64, level int, rest uint64) {
	t.Helper()
	if x, y := Run(l, ticks); x != level || y != rest {
		t.Fatalf("Run(%d, %d) = %d, %d, want %d, %d", l, ticks, x, y, level, rest)
	}
}

// P5.3: Run, against a thread that runs tick by tick.
func TestRun(t *testing.T) {
	for _, l := range places() {
		level, rest := clamped(l), uint64(0)
		for ticks := range uint64(300) {
			holdRun(t, l, ticks, level, rest)
			rest++
			if rest == quanta[level] {
				level, rest = clamped(level+1), 0
			}
		}
	}
}

// P5.3: numbers of ticks just before and at the end of each quantum, and quanta that begin anew at level 7.
func TestRunAtTheBounds(t *testing.T) {
	for _, c := range []struct {
		l     int
		ticks uint64
		level int
		rest  uint64
	}{
		{0, 0, 0, 0}, {0, 1, 1, 0}, {0, 2, 2, 0}, {0, 3, 2, 1}, {0, 4, 3, 0}, {0, 5, 3, 1}, {0, 6, 4, 0}, {0, 8, 4, 2}, {0, 9, 5, 0}, {0, 12, 5, 3}, {0, 13, 6, 0}, {0, 18, 6, 5}, {0, 19, 7, 0}, {0, 26, 7, 7}, {0, 27, 7, 0}, {0, 28, 7, 1},
		{-1, 0, 0, 0}, {math.MinInt, 0, 0, 0}, {math.MinInt, 1, 1, 0}, {4, 0, 4, 0}, {4, 2, 4, 2}, {4, 3, 5, 0}, {6, 5, 6, 5}, {6, 6, 7, 0}, {6, 14, 7, 0},
		{7, 0, 7, 0}, {7, 7, 7, 7}, {7, 8, 7, 0}, {7, 9, 7, 1}, {7, 16, 7, 0}, {8, 0, 7, 0}, {8, 8, 7, 0}, {8, 9, 7, 1}, {math.MaxInt, 15, 7, 7},
	} {
		holdRun(t, c.l, c.ticks, c.level, c.rest)
	}
}

// manyTicks are great numbers of ticks, up to the greatest one.
func manyTicks() []uint64 {
	var l []uint64
	for i := range uint64(40) {
		l = append(l, math.MaxUint64-i, math.MaxInt64-20+i, math.MaxUint32-20+i, 1<<31-20+i)
	}
	x := uint64(1)
	for range 60 {
		x = x*6364136223846793005 + 1442695040888963407
		l = append(l, x|1<<32)
	}
	return l
}

// P5.3: great numbers of ticks, against unbounded integers: what is beyond the way to level 7 is divided into quanta there.
func TestRunForLong(t *testing.T) {
	for _, l := range places() {
		way := new(big.Int)
		for _, q := range quanta[clamped(l):worst] {
			way.Add(way, new(big.Int).SetUint64(q))
		}
		for _, ticks := range manyTicks() {
			there := new(big.Int).SetUint64(ticks)
			there.Sub(there, way)
			rest := there.Mod(there, new(big.Int).SetUint64(quanta[worst]))
			holdRun(t, l, ticks, worst, rest.Uint64())
		}
	}
	holdRun(t, 7, math.MaxUint64, 7, 7)
	holdRun(t, 0, math.MaxUint64, 7, 4)
	holdRun(t, math.MinInt, math.MaxUint64, 7, 4)
	holdRun(t, math.MaxInt, math.MaxUint64-7, 7, 0)
}

// P5.3: rest is less than the quantum of the level.
func TestRestIsLessThanTheQuantum(t *testing.T) {
	for _, l := range places() {
		for ticks := range uint64(200) {
			if level, rest := Run(l, ticks); !Is(level) || rest >= Quantum(level) {
				t.Fatalf("Run(%d, %d) = %d, %d", l, ticks, level, rest)
			}
		}
		for _, ticks := range manyTicks() {
			if level, rest := Run(l, ticks); !Is(level) || rest >= Quantum(level) {
				t.Fatalf("Run(%d, %d) = %d, %d", l, ticks, level, rest)
			}
		}
	}
}

// P5.4: more ticks never result in a better level.
func TestMoreTicksAreNeverBetter(t *testing.T) {
	many := manyTicks()
	for ticks := range uint64(200) {
		many = append(many, ticks)
	}
	slices.Sort(many)
	for _, l := range places() {
		last, _ := Run(l, 0)
		if Better(last, Hold(l)) {
			t.Fatalf("Run(%d, 0) results in %d", l, last)
		}
		for _, ticks := range many {
			level, _ := Run(l, ticks)
			if Better(level, last) {
				t.Fatalf("Run(%d, %d) results in %d, but fewer ticks in %d", l, ticks, level, last)
			}
			last = level
		}
	}
}

// P5.4: a thread that ran for 27 ticks, or longer, is at level 7.
func TestAllQuantaLeadToTheWorst(t *testing.T) {
	for _, l := range places() {
		if level, _ := Run(l, whole); level != worst {
			t.Errorf("Run(%d, %d) results in %d", l, whole, level)
		}
		if level, _ := Run(l, All()); level != worst {
			t.Errorf("Run(%d, All()) results in %d", l, level)
		}
		for _, ticks := range manyTicks() {
			if level, _ := Run(l, ticks); level != worst {
				t.Fatalf("Run(%d, %d) results in %d", l, ticks, level)
			}
		}
	}
}

// The chapter's examples.
func TestExamples(t *testing.T) {
	if x := Best(5, 9, 2); x != 2 {
		t.Error(x)
	}
	holdRun(t, 0, 3, 2, 1)
	holdRun(t, 7, 17, 7, 1)
}
