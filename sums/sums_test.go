package sums

import (
	"math"
	"math/big"
	"slices"
	"testing"
)

// samples are numbers of all sizes: the small ones, those around each power of two, the ends, divisors of the maximum, and scattered ones.
func samples() []uint64 {
	l := []uint64{0, Greatest, 6, 7, 9, 10, 100, 641, Greatest / 3, Greatest/3 + 1, Greatest / 5, Greatest / 641, Greatest - 2, math.MaxInt64 - 1}
	for i := range 64 {
		one := uint64(1) << i
		l = append(l, one-1, one, one+1, -one)
	}
	x := uint64(1)
	for i := range 60 {
		x = x*6364136223846793005 + 1442695040888963407
		l = append(l, x>>i)
	}
	slices.Sort(l)
	return slices.Compact(l)
}

// lists are lists of terms of several lengths, with sums below, at and beyond the maximum.
func lists() [][]uint64 {
	const half = 1 << 63
	l := [][]uint64{
		nil, {}, {0}, {5}, {Greatest}, {0, 0, 0}, {1, 2, 3, 4},
		{Greatest - 6, 1, 2, 3}, {Greatest - 6, 1, 2, 4}, {Greatest - 5, 1, 2, 3},
		{Greatest, 0}, {Greatest, 1}, {Greatest, Greatest}, {Greatest, Greatest, 2}, {half, half}, {half, half - 1}, {half, half, half, half}, {half, half, 5}, {1, Greatest - 1, 7},
		slices.Repeat([]uint64{1 << 62}, 8), slices.Repeat([]uint64{1}, 1000), slices.Repeat([]uint64{Greatest}, 1000), slices.Repeat([]uint64{1 << 58}, 64),
	}
	s := samples()
	for i := 0; i+5 <= len(s); i += 3 {
		l = append(l, s[i:i+5], []uint64{s[i], s[len(s)-1-i], s[(i*7+3)%len(s)]})
	}
	return l
}

func exact(x uint64) *big.Int {
	return new(big.Int).SetUint64(x)
}

// saturated is the definition by its words, of an exact result.
func saturated(x *big.Int) uint64 {
	if x.Sign() < 0 {
		return 0
	}
	if x.Cmp(exact(Greatest)) > 0 {
		return Greatest
	}
	return x.Uint64()
}

func exactSum(l []uint64) *big.Int {
	sum := new(big.Int)
	for _, x := range l {
		sum.Add(sum, exact(x))
	}
	return sum
}

// exactUp is a divided by b, rounded up, for a b greater than 0.
func exactUp(a, b uint64) *big.Int {
	quotient, rest := new(big.Int).QuoRem(exact(a), exact(b), new(big.Int))
	if rest.Sign() > 0 {
		quotient.Add(quotient, big.NewInt(1))
	}
	return quotient
}

// eachPair calls f with every two samples, in both orders.
func eachPair(f func(a, b uint64)) {
	l := samples()
	for _, a := range l {
		for _, b := range l {
			f(a, b)
		}
	}
}

func TestGreatest(t *testing.T) {
	if uint64(Greatest) != math.MaxUint64 {
		t.Error(uint64(Greatest))
	}
}

// P2.1: Add, Sub and Mul, against exact numbers.
func TestAddSubMul(t *testing.T) {
	eachPair(func(a, b uint64) {
		x := exact(a)
		y := exact(b)
		if got, want := Add(a, b), saturated(new(big.Int).Add(x, y)); got != want {
			t.Fatalf("Add(%d, %d) = %d, want %d", a, b, got, want)
		}
		if got, want := Sub(a, b), saturated(new(big.Int).Sub(x, y)); got != want {
			t.Fatalf("Sub(%d, %d) = %d, want %d", a, b, got, want)
		}
		if got, want := Mul(a, b), saturated(new(big.Int).Mul(x, y)); got != want {
			t.Fatalf("Mul(%d, %d) = %d, want %d", a, b, got, want)
		}
	})
}

// P2.1: Add at the maximum.
func TestAddAtTheBounds(t *testing.T) {
	for _, c := range [][3]uint64{
		{0, 0, 0}, {2, 3, 5}, {Greatest, 0, Greatest}, {Greatest - 1, 0, Greatest - 1},
		{Greatest - 2, 1, Greatest - 1}, {Greatest - 1, 1, Greatest}, {Greatest - 1, 2, Greatest}, {Greatest, 1, Greatest}, {Greatest, 5, Greatest}, {Greatest, Greatest, Greatest},
		{1 << 63, 1<<63 - 1, Greatest}, {1 << 63, 1 << 63, Greatest}, {1<<63 - 1, 1<<63 - 1, Greatest - 1},
	} {
		if x := Add(c[0], c[1]); x != c[2] {
			t.Errorf("Add(%d, %d) = %d, want %d", c[0], c[1], x, c[2])
		}
		if x := Add(c[1], c[0]); x != c[2] {
			t.Errorf("Add(%d, %d) = %d, want %d", c[1], c[0], x, c[2])
		}
	}
}

// P2.1: Sub at 0, and with negative differences.
func TestSubAtTheBounds(t *testing.T) {
	for _, c := range [][3]uint64{
		{0, 0, 0}, {5, 3, 2}, {3, 3, 0}, {4, 3, 1}, {3, 4, 0}, {3, 5, 0}, {0, 1, 0}, {0, Greatest, 0}, {Greatest - 1, Greatest, 0},
		{Greatest, Greatest, 0}, {Greatest, Greatest - 1, 1}, {Greatest, 0, Greatest}, {Greatest, 1, Greatest - 1}, {1 << 63, 1, 1<<63 - 1}, {1, 1 << 63, 0},
	} {
		if x := Sub(c[0], c[1]); x != c[2] {
			t.Errorf("Sub(%d, %d) = %d, want %d", c[0], c[1], x, c[2])
		}
	}
}

// P2.1: Mul at the maximum, which 3 times a third of it is exactly.
func TestMulAtTheBounds(t *testing.T) {
	for _, c := range [][3]uint64{
		{0, 0, 0}, {0, Greatest, 0}, {1, Greatest, Greatest}, {2, 3, 6}, {3, Greatest / 3, Greatest}, {3, Greatest/3 + 1, Greatest}, {3, Greatest/3 - 1, Greatest - 3},
		{1 << 32, 1 << 32, Greatest}, {1 << 32, 1<<32 - 1, 1<<64 - 1<<32}, {1<<32 - 1, 1<<32 + 1, Greatest}, {1<<32 + 1, 1<<32 + 1, Greatest},
		{2, 1 << 63, Greatest}, {2, 1<<63 - 1, Greatest - 1}, {4, 1 << 62, Greatest}, {1 << 63, 1 << 63, Greatest}, {2, Greatest, Greatest}, {Greatest, Greatest, Greatest},
	} {
		if x := Mul(c[0], c[1]); x != c[2] {
			t.Errorf("Mul(%d, %d) = %d, want %d", c[0], c[1], x, c[2])
		}
		if x := Mul(c[1], c[0]); x != c[2] {
			t.Errorf("Mul(%d, %d) = %d, want %d", c[1], c[0], x, c[2])
		}
	}
}

// P2.1: Sum, against exact numbers.
func TestSum(t *testing.T) {
	for _, l := range lists() {
		if x, want := Sum(l...), saturated(exactSum(l)); x != want {
			t.Fatalf("Sum(%d) = %d, want %d", l, x, want)
		}
	}
}

// P2.1: no argument, one, and sums that wrap round once or more.
func TestSumAtTheBounds(t *testing.T) {
	if x := Sum(); x != 0 {
		t.Errorf("Sum() = %d", x)
	}
	if x := Sum([]uint64{}...); x != 0 {
		t.Errorf("Sum of an empty list = %d", x)
	}
	for _, x := range samples() {
		if y := Sum(x); y != x {
			t.Errorf("Sum(%d) = %d", x, y)
		}
	}
	if x := Sum(1, 2, 3, 4); x != 10 {
		t.Error(x)
	}
	if x := Sum(Greatest-3, 1, 2); x != Greatest {
		t.Error(x)
	}
	if x := Sum(Greatest-3, 1, 1); x != Greatest-1 {
		t.Error(x)
	}
	if x := Sum(Greatest, 1); x != Greatest {
		t.Error(x)
	}
	if x := Sum(Greatest, Greatest, 2); x != Greatest {
		t.Error(x)
	}
	if x := Sum(1<<63, 1<<63, 1<<63, 1<<63, 9); x != Greatest {
		t.Error(x)
	}
}

func TestSumLeavesItsArguments(t *testing.T) {
	l := []uint64{9, Greatest, 3, 0}
	Sum(l...)
	if !slices.Equal(l, []uint64{9, Greatest, 3, 0}) {
		t.Error(l)
	}
}

// P2.2: Up and Multiple, against exact numbers.
func TestUpAndMultiple(t *testing.T) {
	eachPair(func(a, b uint64) {
		up, multiple := uint64(Greatest), false
		if b > 0 {
			up = saturated(exactUp(a, b))
			multiple = new(big.Int).Rem(exact(a), exact(b)).Sign() == 0
		}
		if x := Up(a, b); x != up {
			t.Fatalf("Up(%d, %d) = %d, want %d", a, b, x, up)
		}
		if Multiple(a, b) != multiple {
			t.Fatalf("Multiple(%d, %d) = %t", a, b, !multiple)
		}
	})
}

// P2.2: Up rounds up, of a divisor 0 is the maximum, and does not overflow.
func TestUpAtTheBounds(t *testing.T) {
	for _, c := range [][3]uint64{
		{0, 0, Greatest}, {1, 0, Greatest}, {Greatest, 0, Greatest},
		{0, 1, 0}, {0, 3, 0}, {0, Greatest, 0}, {1, 3, 1}, {2, 3, 1}, {3, 3, 1}, {4, 3, 2}, {6, 3, 2}, {7, 3, 3}, {9, 3, 3},
		{Greatest, 1, Greatest}, {Greatest, 2, 1 << 63}, {Greatest - 1, 2, 1<<63 - 1}, {Greatest, 3, Greatest / 3}, {Greatest - 1, 3, Greatest / 3}, {Greatest - 3, 3, Greatest/3 - 1},
		{Greatest, Greatest, 1}, {Greatest, Greatest - 1, 2}, {Greatest - 1, Greatest, 1}, {1, Greatest, 1}, {1 << 63, 1 << 63, 1}, {1<<63 + 1, 1 << 63, 2},
	} {
		if x := Up(c[0], c[1]); x != c[2] {
			t.Errorf("Up(%d, %d) = %d, want %d", c[0], c[1], x, c[2])
		}
	}
}

// P2.2: 0 is a multiple of every number but 0, and nothing is one of 0.
func TestMultipleAtTheBounds(t *testing.T) {
	for _, c := range []struct {
		a, b uint64
		want bool
	}{
		{0, 0, false}, {1, 0, false}, {6, 0, false}, {Greatest, 0, false},
		{0, 1, true}, {0, 7, true}, {0, Greatest, true},
		{6, 3, true}, {7, 3, false}, {8, 3, false}, {3, 6, false}, {3, 3, true}, {1, 1, true}, {1, 2, false},
		{Greatest, 1, true}, {Greatest, 2, false}, {Greatest, 3, true}, {Greatest, Greatest, true}, {Greatest - 1, Greatest, false}, {Greatest, Greatest - 1, false}, {1 << 63, 2, true},
	} {
		if Multiple(c.a, c.b) != c.want {
			t.Errorf("Multiple(%d, %d) = %t", c.a, c.b, !c.want)
		}
	}
}

// clamped is the promise by its words, on exact numbers.
func clamped(x, lo, hi *big.Int) *big.Int {
	if x.Cmp(lo) < 0 {
		return lo
	}
	if x.Cmp(hi) > 0 {
		return hi
	}
	return x
}

// holdClamp holds Clamp against its promise for all x and all ranges of those numbers, the empty ones too.
func holdClamp[T Whole](t *testing.T, value func(T) *big.Int, l []T) {
	t.Helper()
	for _, x := range l {
		for _, lo := range l {
			for _, hi := range l {
				got, want := Clamp(x, lo, hi), clamped(value(x), value(lo), value(hi))
				if value(got).Cmp(want) != 0 {
					t.Fatalf("Clamp(%d, %d, %d) = %d, want %d", x, lo, hi, got, want)
				}
			}
		}
	}
}

// count, place and span are types of another name, on which Clamp works as well.
type (
	count uint64
	place int
	span  int64
)

// P2.3: Clamp on all its types, with negative numbers, the ends of ranges and empty ranges.
func TestClamp(t *testing.T) {
	signed := func(x int64) *big.Int { return big.NewInt(x) }
	holdClamp(t, func(x int) *big.Int { return signed(int64(x)) }, []int{math.MinInt, math.MinInt + 1, -8, -7, -1, 0, 1, 6, 7, 8, math.MaxInt - 1, math.MaxInt})
	holdClamp(t, signed, []int64{math.MinInt64, math.MinInt64 + 1, -1 << 32, -7, -1, 0, 1, 7, 1 << 32, math.MaxInt64 - 1, math.MaxInt64})
	holdClamp(t, exact, []uint64{0, 1, 2, 7, 8, 1 << 32, 1<<63 - 1, 1 << 63, 1<<63 + 1, Greatest - 1, Greatest})
	holdClamp(t, func(x count) *big.Int { return exact(uint64(x)) }, []count{0, 1, 7, 1 << 63, Greatest})
	holdClamp(t, func(x place) *big.Int { return signed(int64(x)) }, []place{math.MinInt, -1, 0, 1, 7, math.MaxInt})
	holdClamp(t, func(x span) *big.Int { return signed(int64(x)) }, []span{math.MinInt64, -1, 0, 1, 7, math.MaxInt64})
}

// P2.3: the ends of a range, and the order in which an empty one is asked.
func TestClampAtTheBounds(t *testing.T) {
	for _, c := range [][4]int{
		{-1, 0, 7, 0}, {0, 0, 7, 0}, {1, 0, 7, 1}, {6, 0, 7, 6}, {7, 0, 7, 7}, {8, 0, 7, 7},
		{math.MinInt, 0, 7, 0}, {math.MaxInt, 0, 7, 7}, {-9, -5, -2, -5}, {-5, -5, -2, -5}, {-3, -5, -2, -3}, {-2, -5, -2, -2}, {-1, -5, -2, -2},
		{4, 5, 5, 5}, {5, 5, 5, 5}, {6, 5, 5, 5},
		{1, 5, 3, 5}, {3, 5, 3, 5}, {4, 5, 3, 5}, {5, 5, 3, 3}, {6, 5, 3, 3}, {0, 0, -1, -1}, {-1, 0, -1, 0},
	} {
		if x := Clamp(c[0], c[1], c[2]); x != c[3] {
			t.Errorf("Clamp(%d, %d, %d) = %d, want %d", c[0], c[1], c[2], x, c[3])
		}
	}
	if x := Clamp[uint64](Greatest, 0, 1<<63); x != 1<<63 {
		t.Error(x)
	}
	if x := Clamp[uint64](1<<63, Greatest, Greatest); x != Greatest {
		t.Error(x)
	}
}

// eachOrder calls f with the list in every order; it may not be kept.
func eachOrder(l []uint64, f func([]uint64)) {
	var order func(k int)
	order = func(k int) {
		if k == len(l) {
			f(l)
			return
		}
		for i := k; i < len(l); i++ {
			l[k], l[i] = l[i], l[k]
			order(k + 1)
			l[k], l[i] = l[i], l[k]
		}
	}
	order(0)
}

// P2.4: a sum does not depend on the order of its terms, nor on how they are grouped.
func TestOrder(t *testing.T) {
	for _, l := range lists() {
		want := Sum(l...)
		for i := range l {
			if x := Add(Sum(l[:i]...), Sum(l[i:]...)); x != want {
				t.Fatalf("the sum of %d, in two parts at %d = %d, want %d", l, i, x, want)
			}
		}
		if len(l) > 5 {
			continue
		}
		eachOrder(slices.Clone(l), func(other []uint64) {
			if x := Sum(other...); x != want {
				t.Fatalf("Sum(%d) = %d, but Sum(%d) = %d", other, x, l, want)
			}
		})
	}
	eachPair(func(a, b uint64) {
		if Add(a, b) != Add(b, a) || Add(a, b) != Sum(a, b) {
			t.Fatalf("the sum of %d and %d depends on their order", a, b)
		}
	})
}

// P2.4: a term that is added, at any place, never makes a sum smaller, nor does one that is made greater.
func TestMoreIsNeverLess(t *testing.T) {
	terms := []uint64{0, 1, 2, 7, 1 << 32, 1 << 63, Greatest - 1, Greatest}
	for _, l := range lists() {
		if len(l) > 5 {
			continue
		}
		sum := Sum(l...)
		for i := range len(l) + 1 {
			for _, x := range terms {
				more := slices.Insert(slices.Clone(l), i, x)
				if y := Sum(more...); y < sum {
					t.Fatalf("Sum(%d) = %d, but Sum(%d) = %d", more, y, l, sum)
				}
				if i == len(l) {
					continue
				}
				greater := slices.Clone(l)
				greater[i] = Add(greater[i], x)
				if y := Sum(greater...); y < sum {
					t.Fatalf("Sum(%d) = %d, but Sum(%d) = %d", greater, y, l, sum)
				}
			}
		}
	}
}

// holdExact reports a result below the maximum that is not the exact one.
func holdExact(t *testing.T, got uint64, want *big.Int, what string, args ...uint64) {
	t.Helper()
	if got < Greatest && exact(got).Cmp(want) != 0 {
		t.Fatalf("%s(%d) = %d, exactly %d", what, args, got, want)
	}
}

// P2.5: a result less than the maximum is exact. (A difference is, unless it is negative and so 0 by P2.1.)
func TestExactness(t *testing.T) {
	eachPair(func(a, b uint64) {
		x := exact(a)
		y := exact(b)
		holdExact(t, Add(a, b), new(big.Int).Add(x, y), "Add", a, b)
		holdExact(t, Mul(a, b), new(big.Int).Mul(x, y), "Mul", a, b)
		holdExact(t, Sum(a, b), new(big.Int).Add(x, y), "Sum", a, b)
		if a >= b {
			holdExact(t, Sub(a, b), new(big.Int).Sub(x, y), "Sub", a, b)
		}
		if b > 0 {
			holdExact(t, Up(a, b), exactUp(a, b), "Up", a, b)
		}
	})
	for _, l := range lists() {
		holdExact(t, Sum(l...), exactSum(l), "Sum", l...)
	}
}

// P2.5: the greatest exact results, one below the maximum, are not taken for it.
func TestExactBelowTheMaximum(t *testing.T) {
	const want = Greatest - 1
	for what, x := range map[string]uint64{
		"Add": Add(1<<63, 1<<63-2),
		"Sub": Sub(Greatest, 1),
		"Mul": Mul(2, 1<<63-1),
		"Sum": Sum(1<<62, 1<<62, 1<<62, 1<<62-2),
		"Up":  Up(Greatest-1, 1),
	} {
		if x != want {
			t.Errorf("%s: %d", what, x)
		}
	}
}

// The chapter's example.
func TestExample(t *testing.T) {
	if x := Add(1<<64-1, 5); x != 1<<64-1 {
		t.Error(x)
	}
	if x := Sub(3, 5); x != 0 {
		t.Error(x)
	}
	if x := Up(7, 3); x != 3 {
		t.Error(x)
	}
}
