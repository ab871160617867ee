package sets

import (
	"fmt"
	"math"
	"slices"
	"testing"
)

// strangers are integers that are members of no set.
var strangers = []int{math.MinInt, -1 << 32, -65, -64, -63, -1, 64, 65, 127, 128, 256, 1 << 32, math.MaxInt}

// places are the integers 0 to 63 and, around them, strangers.
func places() []int {
	l := slices.Clone(strangers)
	for i := -130; i <= 130; i++ {
		l = append(l, i)
	}
	return l
}

// samples are sets of all kinds: none, one or two members, runs, everything but one, and scattered ones.
func samples() []uint64 {
	l := []uint64{0, math.MaxUint64, 0xaaaaaaaaaaaaaaaa, 0x5555555555555555, 0xffffffff, 0xffffffff00000000}
	for i := range 64 {
		one := uint64(1) << i
		l = append(l, one, ^one, one|1, one|1<<63, one-1, ^(one - 1))
	}
	x := uint64(1)
	for range 200 {
		x = x*6364136223846793005 + 1442695040888963407
		l = append(l, x, x&(x>>7))
	}
	return l
}

// members lists the members of a set by the definition alone: bit i is 1.
func members(s uint64) []int {
	var l []int
	for i := 0; i < 64; i++ {
		if s/(uint64(1)<<i)%2 == 1 {
			l = append(l, i)
		}
	}
	return l
}

// P1.1: Of.
func TestOf(t *testing.T) {
	for _, c := range []struct {
		list []int
		want uint64
	}{
		{nil, 0},
		{[]int{}, 0},
		{[]int{0}, 1},
		{[]int{63}, 1 << 63},
		{[]int{63, 0}, 1<<63 | 1},
		{[]int{5, 1}, 34},
		{[]int{5, 1, 5, 5}, 34},
		{[]int{-1, 3, 64}, 8},
		{strangers, 0},
	} {
		if s := Of(c.list...); s != c.want {
			t.Errorf("Of(%v) = %x, want %x", c.list, s, c.want)
		}
	}
}

func TestOfLeavesItsArguments(t *testing.T) {
	l := []int{9, -1, 3, 64, 3}
	Of(l...)
	if !slices.Equal(l, []int{9, -1, 3, 64, 3}) {
		t.Error(l)
	}
}

// P1.1: All.
func TestAll(t *testing.T) {
	for _, n := range places() {
		s := All(n)
		for _, i := range places() {
			if want := 0 <= i && i < n && i < 64; Has(s, i) != want {
				t.Errorf("Has(All(%d), %d) = %t", n, i, !want)
			}
		}
	}
	for _, c := range []struct {
		n    int
		want uint64
	}{
		{math.MinInt, 0}, {-1, 0}, {0, 0}, {1, 1}, {8, 255}, {63, 1<<63 - 1}, {64, math.MaxUint64}, {65, math.MaxUint64}, {math.MaxInt, math.MaxUint64},
	} {
		if s := All(c.n); s != c.want {
			t.Errorf("All(%d) = %x, want %x", c.n, s, c.want)
		}
	}
}

// P1.1: Has, With, Without.
func TestMembership(t *testing.T) {
	for _, s := range samples() {
		l := members(s)
		for _, i := range places() {
			if want := slices.Contains(l, i); Has(s, i) != want {
				t.Fatalf("Has(%x, %d) = %t", s, i, !want)
			}
		}
	}
}

func TestWithAndWithout(t *testing.T) {
	for _, s := range samples() {
		for i := range 64 {
			one := uint64(1) << i
			if x := With(s, i); x != s|one {
				t.Fatalf("With(%x, %d) = %x", s, i, x)
			}
			if x := Without(s, i); x != (s|one)-one {
				t.Fatalf("Without(%x, %d) = %x", s, i, x)
			}
		}
	}
}

func TestStrangersHaveNoEffect(t *testing.T) {
	for _, s := range samples() {
		for _, i := range strangers {
			if Has(s, i) || With(s, i) != s || Without(s, i) != s {
				t.Fatalf("%d matters to %x", i, s)
			}
		}
	}
}

// P1.2: Count, Least.
func TestCountAndLeast(t *testing.T) {
	for _, s := range samples() {
		l := members(s)
		if n := Count(s); n != len(l) {
			t.Fatalf("Count(%x) = %d, want %d", s, n, len(l))
		}
		want := -1
		if len(l) > 0 {
			want = l[0]
		}
		if i := Least(s); i != want {
			t.Fatalf("Least(%x) = %d, want %d", s, i, want)
		}
	}
}

// P1.2: the bounds that the chapter names.
func TestCountAndLeastAtTheBounds(t *testing.T) {
	for _, c := range []struct {
		s            uint64
		count, least int
	}{
		{0, 0, -1}, {1, 1, 0}, {1 << 63, 1, 63}, {1<<63 | 1, 2, 0}, {math.MaxUint64, 64, 0},
	} {
		if n := Count(c.s); n != c.count {
			t.Errorf("Count(%x) = %d", c.s, n)
		}
		if i := Least(c.s); i != c.least {
			t.Errorf("Least(%x) = %d", c.s, i)
		}
	}
}

// next is Next by its words, over the list of members.
func next(l []int, i int) int {
	if len(l) == 0 {
		return -1
	}
	for _, m := range l {
		if m >= i {
			return m
		}
	}
	return l[0]
}

// P1.2: Next.
func TestNext(t *testing.T) {
	for _, s := range samples() {
		l := members(s)
		for _, i := range places() {
			if m := Next(s, i); m != next(l, i) {
				t.Fatalf("Next(%x, %d) = %d, want %d", s, i, m, next(l, i))
			}
		}
	}
}

// P1.2: wrapping around, the members 0 and 63, and the empty set.
func TestNextAtTheBounds(t *testing.T) {
	for _, c := range []struct {
		s       uint64
		i, want int
	}{
		{0, -1, -1}, {0, 0, -1}, {0, 63, -1}, {0, 64, -1},
		{1, 0, 0}, {1, 1, 0}, {1, 63, 0}, {1, 64, 0}, {1, -1, 0}, {1, math.MinInt, 0}, {1, math.MaxInt, 0},
		{1 << 63, 0, 63}, {1 << 63, 63, 63}, {1 << 63, 64, 63}, {1 << 63, math.MinInt, 63}, {1 << 63, math.MaxInt, 63},
		{1<<63 | 1, 1, 63}, {1<<63 | 1, 63, 63}, {1<<63 | 1, 64, 0},
	} {
		if m := Next(c.s, c.i); m != c.want {
			t.Errorf("Next(%x, %d) = %d, want %d", c.s, c.i, m, c.want)
		}
	}
}

// P1.3: Each.
func TestEach(t *testing.T) {
	for _, s := range samples() {
		if l := slices.Collect(Each(s)); !slices.Equal(l, members(s)) {
			t.Fatalf("Each(%x) yields %v", s, l)
		}
	}
}

// P1.3: nothing is yielded after a stop, wherever it is, and the iterator starts anew when it is ranged over again.
func TestEachStopped(t *testing.T) {
	for _, s := range samples() {
		l, each := members(s), Each(s)
		for stop := 1; stop <= len(l); stop++ {
			var got []int
			each(func(i int) bool {
				got = append(got, i)
				return len(got) < stop
			})
			if !slices.Equal(got, l[:stop]) {
				t.Fatalf("Each(%x) stopped after %d yields %v", s, stop, got)
			}
		}
		if all := slices.Collect(each); !slices.Equal(all, l) {
			t.Fatalf("Each(%x) yields %v after it was stopped", s, all)
		}
	}
}

func TestEachBroken(t *testing.T) {
	var got []int
	for i := range Each(Of(0, 7, 63)) {
		if i == 63 {
			break
		}
		got = append(got, i)
	}
	if !slices.Equal(got, []int{0, 7}) {
		t.Error(got)
	}
	for i := range Each(0) {
		t.Error("the empty set has the member", i)
	}
}

// P1.3: two iterators of one set, and two runs of one iterator, do not disturb each other.
func TestEachNested(t *testing.T) {
	var got [][2]int
	each := Each(Of(0, 63))
	for i := range each {
		for j := range each {
			got = append(got, [2]int{i, j})
		}
	}
	if !slices.Equal(got, [][2]int{{0, 0}, {0, 63}, {63, 0}, {63, 63}}) {
		t.Error(got)
	}
}

// P1.3: Text.
func TestText(t *testing.T) {
	for _, c := range []struct {
		s    uint64
		want string
	}{
		{0, "-"}, {1, "0"}, {1 << 63, "63"}, {1<<63 | 1, "0,63"}, {34, "1,5"}, {1<<9 | 1<<10 | 1<<11, "9,10,11"},
	} {
		if x := Text(c.s); x != c.want {
			t.Errorf("Text(%x) = %q, want %q", c.s, x, c.want)
		}
	}
	for _, s := range samples() {
		want := ""
		for n, i := range members(s) {
			if n > 0 {
				want += ","
			}
			want += fmt.Sprint(i)
		}
		if s == 0 {
			want = "-"
		}
		if x := Text(s); x != want {
			t.Fatalf("Text(%x) = %q, want %q", s, x, want)
		}
	}
}

// P1.4: from each member, Next of the integer after it goes through all members once, and back.
func TestCycle(t *testing.T) {
	for _, s := range samples() {
		for _, first := range members(s) {
			seen := []int{first}
			for i := Next(s, first+1); i != first && len(seen) <= 64; i = Next(s, i+1) {
				seen = append(seen, i)
			}
			slices.Sort(seen)
			if !slices.Equal(seen, members(s)) {
				t.Fatalf("the cycle of %x from %d visits %v", s, first, seen)
			}
		}
	}
}

// P1.5: a set is Of its members, in any order.
func TestRoundTrip(t *testing.T) {
	for _, s := range samples() {
		l := slices.Collect(Each(s))
		if x := Of(l...); x != s {
			t.Fatalf("Of the members of %x = %x", s, x)
		}
		slices.Reverse(l)
		if x := Of(l...); x != s {
			t.Fatalf("Of the members of %x, reversed = %x", s, x)
		}
	}
}

// The chapter's example.
func TestExample(t *testing.T) {
	s := Of(5, 1, 64)
	if s != 34 {
		t.Error(s)
	}
	if x := Text(s); x != "1,5" {
		t.Error(x)
	}
	if i := Next(s, 2); i != 5 {
		t.Error(i)
	}
	if i := Next(s, 6); i != 1 {
		t.Error(i)
	}
}
