package duty

import (
	"bytes"
	"fmt"
	"math"
	"math/big"
	"regexp"
	"slices"
	"strings"
	"testing"

	"bosun/api"
	"bosun/deed"
	"bosun/prog"
	"bosun/wire"
)

// yields is a program of n instructions.
func yields(n int) []api.Deed {
	return slices.Repeat([]api.Deed{{Op: api.Yield}}, n)
}

// full returns a valid duty in which everything occurs, in memory of its own.
func full() api.Duty {
	return api.Duty{
		Cpus: 3, Threads: 5, Locks: 2, Cap: 16, Boost: 9, Keep: 0.25, Ratio: math.Copysign(0, -1),
		Progs: [][]api.Deed{
			{{Op: api.Lock, A: 1}, {Op: api.Work, N: 300}, {Op: api.Unlock, A: 1}},
			nil,
			{{Op: api.Spawn, A: 63, B: 7, R: 7, Mask: math.MaxUint64, Loose: true}, {Op: api.Exit, N: 1}},
		},
		Starts: []api.Start{{Prog: 0, Grade: 0, Mask: 1}, {Prog: 2, Grade: 7, Mask: 1<<63 | 4}, {Prog: 1, Grade: 3, Mask: 6}},
	}
}

// fullText is the text of full, and fullBytes its encoding, both written out.
const fullText = "duty 3 5 2 16 9 3fd0000000000000 8000000000000000\nprog\nlock 1\nwork 300\nunlock 1\nprog\nprog\nspawn 63 7 7 ffffffffffffffff loose\nexit 1\nstart 0 0 0000000000000001\nstart 2 7 8000000000000004\nstart 1 3 0000000000000006\n"

const fullBytes = "\x01\x03\x01\x05\x01\x02\x01\x10\x01\x09\x08\x3f\xd0\x00\x00\x00\x00\x00\x00\x08\x80\x00\x00\x00\x00\x00\x00\x00" +
	"\x01\x03" + "\x01\x03\x09\x01\x01\x02\x01\x2c\x0b\x01" + "\x00" + "\x01\x02\x02\x3f\x07\x07\x08\xff\xff\xff\xff\xff\xff\xff\xff\x01\x03\x01\x01" +
	"\x01\x03" + "\x00\x00\x01\x01" + "\x01\x02\x01\x07\x08\x80\x00\x00\x00\x00\x00\x00\x04" + "\x01\x01\x01\x03\x01\x06"

// great returns a duty with as much of everything as there may be.
func great() api.Duty {
	d := api.Duty{Cpus: 64, Threads: 64, Locks: 64, Cap: 256, Boost: 65536, Keep: math.Float64frombits(math.MaxUint64), Ratio: math.Inf(-1)}
	for range 64 {
		d.Progs = append(d.Progs, slices.Repeat([]api.Deed{{Op: api.Spawn, A: 63, B: 7, R: 7, Mask: math.MaxUint64, Loose: true}}, 256))
		d.Starts = append(d.Starts, api.Start{Prog: 63, Grade: 7, Mask: math.MaxUint64})
	}
	return d
}

// change is one that is made to a full duty, and the error that Check then has.
type change struct {
	name string
	e    api.Errno
	make func(d *api.Duty)
}

// changes are such of all kinds; each leaves alone what it need not change.
func changes() []change {
	l := []change{{"nothing", api.OK, func(d *api.Duty) {}}}
	number := func(name string, set func(d *api.Duty, x int), good []int, bad ...int) {
		for _, x := range good {
			l = append(l, change{fmt.Sprint(name, " ", x), api.OK, func(d *api.Duty) { set(d, x) }})
		}
		for _, x := range append(bad, math.MinInt, math.MinInt+1, -1<<32+2, -2, -1, 1<<16, 1<<32, 1<<32+2, 1<<62, math.MaxInt) {
			l = append(l, change{fmt.Sprint(name, " ", x), api.ErrRange, func(d *api.Duty) { set(d, x) }})
		}
	}
	number("Cpus", func(d *api.Duty, x int) { d.Cpus = x }, []int{3, 4, 63, 64}, 0, 65, 66, 128, 257, 258, 259)
	number("Threads", func(d *api.Duty, x int) { d.Threads = x }, []int{1, 2, 15, 16}, 0, 17, 32, 64, 65, 256, 257)
	number("Locks", func(d *api.Duty, x int) { d.Locks = x }, []int{0, 1, 2, 63, 64}, 65, 66, 128, 256, 257)
	number("Cap", func(d *api.Duty, x int) { d.Cap = x }, []int{8, 16, 32, 64, 128, 256}, 0, 1, 2, 3, 4, 5, 6, 7, 9, 15, 17, 24, 48, 63, 65, 127, 129, 192, 255, 257, 512, 1024)
	for _, x := range []uint64{0, 1, 2, 65535, 65536, 65537, 1 << 32, 1<<32 + 1, 1<<63 + 1, math.MaxUint64} {
		e := api.OK
		if x == 0 || x > 65536 {
			e = api.ErrRange
		}
		l = append(l, change{fmt.Sprint("Boost ", x), e, func(d *api.Duty) { d.Boost = x }})
	}
	for _, x := range []float64{0, 1, -1, math.NaN(), math.Inf(1), math.Inf(-1), math.MaxFloat64, math.SmallestNonzeroFloat64} {
		l = append(l, change{fmt.Sprint("Keep ", x), api.OK, func(d *api.Duty) { d.Keep = x }}, change{fmt.Sprint("Ratio ", x), api.OK, func(d *api.Duty) { d.Ratio = x }})
	}
	return append(l, listChanges()...)
}

// listChanges are those of the programs and the starts.
func listChanges() []change {
	var l []change
	add := func(name string, e api.Errno, make func(d *api.Duty)) { l = append(l, change{name, e, make}) }
	for _, n := range []int{1, 61, 62, 63, 200} {
		e := api.OK
		if n > 61 {
			e = api.ErrLong
		}
		add(fmt.Sprint(n, " more programs"), e, func(d *api.Duty) { d.Progs = append(d.Progs, make([][]api.Deed, n)...) })
		add(fmt.Sprint(n, " more starts"), e, func(d *api.Duty) { d.Starts = append(d.Starts, slices.Repeat(d.Starts[:1], n)...) })
	}
	for i := range 3 {
		add(fmt.Sprint("256 instructions in program ", i), api.OK, func(d *api.Duty) { d.Progs[i] = yields(256) })
		add(fmt.Sprint("257 instructions in program ", i), api.ErrLong, func(d *api.Duty) { d.Progs[i] = yields(257) })
		add(fmt.Sprint("an invalid instruction in program ", i), api.ErrArg, func(d *api.Duty) { d.Progs[i] = append(yields(200), api.Deed{Op: 12}) })
		add(fmt.Sprint("a zero instruction in program ", i), api.ErrArg, func(d *api.Duty) { d.Progs[i] = []api.Deed{{}} })
		for _, x := range []int{math.MinInt, -1, 3, 64, 1 << 32, math.MaxInt} {
			add(fmt.Sprint("Prog ", x, " in start ", i), api.ErrArg, func(d *api.Duty) { d.Starts[i].Prog = x })
		}
		for _, x := range []int{math.MinInt, -1, 8, 9, 256, 1 << 32, math.MaxInt} {
			add(fmt.Sprint("Grade ", x, " in start ", i), api.ErrArg, func(d *api.Duty) { d.Starts[i].Grade = x })
		}
		for _, x := range []uint64{0, 8, 1 << 63, math.MaxUint64 - 7} {
			add(fmt.Sprint("Mask ", x, " in start ", i), api.ErrMask, func(d *api.Duty) { d.Starts[i].Mask = x })
		}
		add(fmt.Sprint("other values in start ", i), api.OK, func(d *api.Duty) { d.Starts[i] = api.Start{Prog: 2, Grade: 7, Mask: math.MaxUint64} })
	}
	add("no programs", api.ErrArg, func(d *api.Duty) { d.Progs = nil })
	add("no starts", api.OK, func(d *api.Duty) { d.Starts = nil })
	add("no programs and no starts", api.OK, func(d *api.Duty) { d.Progs, d.Starts = nil, []api.Start{} })
	return l
}

// eachDuty calls f with duties of all kinds, valid and not: full ones with each change and with each two, made one after the other.
func eachDuty(f func(name string, d api.Duty)) {
	l := changes()
	for _, a := range l {
		for _, b := range l {
			d := full()
			a.make(&d)
			// A second change may be of what the first one took away.
			if func() (ok bool) {
				defer func() { ok = recover() == nil }()
				b.make(&d)
				return
			}() {
				f(a.name+", "+b.name, d)
			}
		}
	}
	f("zero", api.Duty{})
	f("great", great())
}

// numbersByWords reports whether the numbers of a duty are those that the chapter allows.
func numbersByWords(d api.Duty) bool {
	return d.Cpus >= 1 && d.Cpus <= 64 && d.Threads >= 1 && d.Threads <= 64 && d.Locks >= 0 && d.Locks <= 64 &&
		slices.Contains([]int{2, 4, 8, 16, 32, 64, 128, 256}, d.Cap) && d.Cap >= d.Threads && d.Boost >= 1 && d.Boost <= 65536
}

// checkByWords is what P9.1 says of a duty.
func checkByWords(d api.Duty) api.Errno {
	if !numbersByWords(d) {
		return api.ErrRange
	}
	if len(d.Progs) > 64 || len(d.Starts) > 64 {
		return api.ErrLong
	}
	for _, p := range d.Progs {
		if e := prog.Check(p); e != api.OK {
			return e
		}
	}
	for _, s := range d.Starts {
		if s.Prog < 0 || s.Prog >= len(d.Progs) || s.Grade < 0 || s.Grade > 7 {
			return api.ErrArg
		}
		processors := 0
		for cpu := range d.Cpus {
			processors += int(s.Mask >> cpu & 1)
		}
		if processors == 0 {
			return api.ErrMask
		}
	}
	return api.OK
}

// same reports whether two duties have the same contents, number by number; an empty list counts as nil.
func same(a, b api.Duty) bool {
	numbers := func(d api.Duty) [9]uint64 {
		return [9]uint64{uint64(d.Cpus), uint64(d.Threads), uint64(d.Locks), uint64(d.Cap), d.Boost, math.Float64bits(d.Keep), math.Float64bits(d.Ratio), uint64(len(d.Progs)), uint64(len(d.Starts))}
	}
	if numbers(a) != numbers(b) {
		return false
	}
	for i, p := range a.Progs {
		if len(p) != len(b.Progs[i]) {
			return false
		}
		for j, x := range p {
			if x != b.Progs[i][j] {
				return false
			}
		}
	}
	for i, x := range a.Starts {
		if x != b.Starts[i] {
			return false
		}
	}
	return true
}

// copyOf is a duty with the same contents in memory of its own.
func copyOf(d api.Duty) api.Duty {
	l := slices.Clone(d.Progs)
	for i := range l {
		l[i] = slices.Clone(l[i])
	}
	d.Progs, d.Starts = l, slices.Clone(d.Starts)
	return d
}

// P9.1: Check, of a valid duty with one change.
func TestCheckOfChanges(t *testing.T) {
	for _, c := range changes() {
		d := full()
		c.make(&d)
		if e := Check(d); e != c.e {
			t.Errorf("Check with %s = %d, want %d", c.name, e, c.e)
		}
	}
}

// P9.1: Check, of duties of all kinds, also with two errors at once.
func TestCheck(t *testing.T) {
	seen := map[api.Errno]int{}
	eachDuty(func(name string, d api.Duty) {
		e := Check(d)
		if want := checkByWords(d); e != want {
			t.Fatalf("Check with %s = %d, want %d", name, e, want)
		}
		seen[e]++
	})
	for _, e := range []api.Errno{api.OK, api.ErrRange, api.ErrLong, api.ErrArg, api.ErrMask} {
		if seen[e] < 100 {
			t.Errorf("only %d duties with error %d", seen[e], e)
		}
	}
}

// P9.1: all numbers of processors, threads, locks and places near their bounds, each with each other one that it has to do with.
func TestCheckOfNumbers(t *testing.T) {
	for threads := -2; threads <= 130; threads++ {
		for places := -3; places <= 600; places++ {
			d := api.Duty{Cpus: 1, Threads: threads, Cap: places, Boost: 1}
			if e, want := Check(d), checkByWords(d); e != want {
				t.Fatalf("Check of %d threads, %d places = %d, want %d", threads, places, e, want)
			}
		}
	}
	for cpus := -70; cpus <= 140; cpus++ {
		for locks := -70; locks <= 140; locks++ {
			d := api.Duty{Cpus: cpus, Threads: 64, Locks: locks, Cap: 64, Boost: 65536}
			if e, want := Check(d), checkByWords(d); e != want {
				t.Fatalf("Check of %d processors, %d locks = %d, want %d", cpus, locks, e, want)
			}
		}
	}
}

// P9.1: a mask that has one of the processors 0 to Cpus - 1, and one that has any other one.
func TestCheckOfMasks(t *testing.T) {
	for cpus := 1; cpus <= 64; cpus++ {
		for cpu := range 64 {
			d := Plain(cpus, 1)
			d.Progs = [][]api.Deed{nil}
			d.Starts = []api.Start{{Mask: 1 << cpu}}
			want := api.OK
			if cpu >= cpus {
				want = api.ErrMask
			}
			if e := Check(d); e != want {
				t.Errorf("Check of %d processors with a mask of %d = %d", cpus, cpu, e)
			}
			d.Starts[0].Mask = math.MaxUint64 << cpu
			if e := Check(d); e != want {
				t.Errorf("Check of %d processors with a mask from %d = %d", cpus, cpu, e)
			}
		}
	}
}

// P9.1: which error comes first, written out.
func TestCheckOrder(t *testing.T) {
	type list = []api.Start
	at := func(prog, grade int, mask uint64) api.Start { return api.Start{Prog: prog, Grade: grade, Mask: mask} }
	one, bad, long := [][]api.Deed{nil}, []api.Deed{{Op: api.Yield, N: 1}}, yields(257)
	for _, c := range []struct {
		cpus   int
		progs  [][]api.Deed
		starts list
		want   api.Errno
	}{
		{2, nil, nil, api.OK}, {2, one, nil, api.OK}, {2, one, list{at(0, 7, 2)}, api.OK},
		{0, make([][]api.Deed, 65), nil, api.ErrRange}, {65, one, make(list, 65), api.ErrRange}, {0, [][]api.Deed{bad}, nil, api.ErrRange}, {0, one, list{at(1, 0, 1)}, api.ErrRange}, {0, one, list{at(0, 0, 0)}, api.ErrRange},
		{2, slices.Repeat([][]api.Deed{bad}, 65), nil, api.ErrLong}, {2, [][]api.Deed{bad}, make(list, 65), api.ErrLong}, {2, nil, slices.Repeat(list{at(-1, 0, 1)}, 65), api.ErrLong}, {2, one, slices.Repeat(list{at(0, 0, 0)}, 65), api.ErrLong},
		{2, [][]api.Deed{bad}, nil, api.ErrArg}, {2, [][]api.Deed{long}, nil, api.ErrLong}, {2, [][]api.Deed{bad, long}, nil, api.ErrArg}, {2, [][]api.Deed{long, bad}, nil, api.ErrLong}, {2, [][]api.Deed{nil, bad}, list{at(0, 0, 0)}, api.ErrArg}, {2, [][]api.Deed{nil, long}, list{at(0, 8, 0)}, api.ErrLong},
		{2, one, list{at(0, 8, 0)}, api.ErrArg}, {2, one, list{at(1, 0, 0)}, api.ErrArg}, {2, one, list{at(0, 0, 0), at(1, 0, 1)}, api.ErrMask}, {2, one, list{at(1, 0, 1), at(0, 0, 0)}, api.ErrArg}, {2, one, list{at(0, 0, 1), at(0, 0, 4), at(0, -1, 1)}, api.ErrMask}, {2, one, list{at(0, 0, 1), at(0, -1, 1), at(0, 0, 4)}, api.ErrArg},
		{2, nil, list{at(0, 0, 1)}, api.ErrArg}, {1, one, list{at(0, 0, 2)}, api.ErrMask}, {2, slices.Repeat(one, 64), slices.Repeat(list{at(63, 7, 1)}, 64), api.OK},
	} {
		d := Plain(1, 1)
		d.Cpus, d.Progs, d.Starts = c.cpus, c.progs, c.starts
		if e := Check(d); e != c.want {
			t.Errorf("Check of %.200s = %d, want %d", fmt.Sprint(d), e, c.want)
		}
	}
}

// P9.2: Same, of full duties with one change each, valid and not.
func TestSame(t *testing.T) {
	l := changes()
	for _, a := range l {
		x := full()
		a.make(&x)
		if !Same(x, copyOf(x)) {
			t.Errorf("%s is not the same as itself", a.name)
		}
		for _, b := range l {
			y := full()
			b.make(&y)
			if is, want := Same(x, y), same(x, y); is != want {
				t.Errorf("Same of %s and %s = %t", a.name, b.name, is)
			}
		}
	}
}

// P9.2: two duties that differ in one thing are not the same, whatever it is.
func TestSameOfDifferences(t *testing.T) {
	for name, differ := range map[string]func(d *api.Duty){
		"Cpus": func(d *api.Duty) { d.Cpus += 1 << 40 }, "Threads": func(d *api.Duty) { d.Threads++ }, "Locks": func(d *api.Duty) { d.Locks-- }, "Cap": func(d *api.Duty) { d.Cap = -d.Cap }, "Boost": func(d *api.Duty) { d.Boost += 1 << 63 },
		"Op": func(d *api.Duty) { d.Progs[0][0].Op++ }, "A": func(d *api.Duty) { d.Progs[0][1].A++ }, "B": func(d *api.Duty) { d.Progs[0][2].B-- }, "R": func(d *api.Duty) { d.Progs[2][1].R++ }, "N": func(d *api.Duty) { d.Progs[2][1].N++ }, "Mask": func(d *api.Duty) { d.Progs[2][0].Mask-- }, "Loose": func(d *api.Duty) { d.Progs[2][0].Loose = false },
		"an instruction more": func(d *api.Duty) { d.Progs[1] = yields(1) }, "an instruction less": func(d *api.Duty) { d.Progs[0] = d.Progs[0][:2] }, "the order of instructions": func(d *api.Duty) { slices.Reverse(d.Progs[0]) },
		"a program more": func(d *api.Duty) { d.Progs = append(d.Progs, nil) }, "a program less": func(d *api.Duty) { d.Progs = d.Progs[:2] }, "the order of programs": func(d *api.Duty) { slices.Reverse(d.Progs) },
		"Prog": func(d *api.Duty) { d.Starts[0].Prog++ }, "Grade": func(d *api.Duty) { d.Starts[1].Grade-- }, "the mask of a start": func(d *api.Duty) { d.Starts[2].Mask ^= 1 << 62 },
		"a start more": func(d *api.Duty) { d.Starts = append(d.Starts, api.Start{}) }, "a start less": func(d *api.Duty) { d.Starts = d.Starts[:2] }, "the order of starts": func(d *api.Duty) { slices.Reverse(d.Starts) },
		"the sign of Ratio": func(d *api.Duty) { d.Ratio = 0 }, "nothing left": func(d *api.Duty) { *d = api.Duty{} },
	} {
		d := full()
		differ(&d)
		if Same(d, full()) || Same(full(), d) {
			t.Errorf("different in %s, and the same", name)
		}
	}
	for i := range 64 {
		for _, from := range []float64{0, 1, math.NaN(), math.Inf(1)} {
			other := math.Float64frombits(math.Float64bits(from) ^ 1<<i)
			a := api.Duty{Keep: from, Ratio: from}
			if !Same(a, a) || Same(a, api.Duty{Keep: other, Ratio: from}) || Same(a, api.Duty{Keep: from, Ratio: other}) {
				t.Errorf("Same of floats that differ in bit %d of %x", i, math.Float64bits(from))
			}
		}
	}
	if Same(api.Duty{Keep: 1, Ratio: 2}, api.Duty{Keep: 2, Ratio: 1}) {
		t.Error("Keep and Ratio exchanged are the same")
	}
}

// P9.2: a nil list is the same as an empty one.
func TestSameOfEmptyLists(t *testing.T) {
	a := api.Duty{Progs: [][]api.Deed{nil, {}}}
	b := api.Duty{Progs: [][]api.Deed{{}, nil}, Starts: []api.Start{}}
	if !Same(a, b) || !Same(b, a) || !Same(api.Duty{}, api.Duty{Progs: [][]api.Deed{}, Starts: []api.Start{}}) {
		t.Error("empty lists are not the same as nil")
	}
	if Same(a, api.Duty{Progs: [][]api.Deed{nil}}) || Same(a, api.Duty{}) {
		t.Error("a list of empty programs is the same as a shorter one")
	}
}

// P9.2: Plain, of numbers within the range, beyond it, and at the ends of int.
func TestPlain(t *testing.T) {
	l := []int{math.MinInt, math.MinInt + 1, -1 << 32, 1<<32 + 3, 1 << 62, math.MaxInt - 1, math.MaxInt}
	for x := -70; x <= 200; x++ {
		l = append(l, x)
	}
	limited := func(x int) int {
		switch {
		case x < 1:
			return 1
		case x > 64:
			return 64
		}
		return x
	}
	for _, cpus := range l {
		for _, threads := range l {
			want := api.Duty{Cpus: limited(cpus), Threads: limited(threads), Locks: 4, Boost: 8, Keep: 0.5, Ratio: 2}
			for _, places := range []int{64, 32, 16, 8, 4, 2} {
				if places >= want.Threads {
					want.Cap = places
				}
			}
			if d := Plain(cpus, threads); !same(d, want) || Check(d) != api.OK {
				t.Fatalf("Plain(%d, %d) = %v, want %v", cpus, threads, d, want)
			}
		}
	}
	for threads, places := range map[int]int{-1: 2, 0: 2, 1: 2, 2: 2, 3: 4, 4: 4, 5: 8, 8: 8, 9: 16, 16: 16, 17: 32, 32: 32, 33: 64, 64: 64, 65: 64, 129: 64} {
		if d := Plain(1, threads); d.Cap != places {
			t.Errorf("Plain(1, %d) has Cap %d", threads, d.Cap)
		}
	}
}

// textByWords is the text of a valid duty.
func textByWords(d api.Duty) string {
	s := fmt.Sprintf("duty %d %d %d %d %d %016x %016x\n", d.Cpus, d.Threads, d.Locks, d.Cap, d.Boost, math.Float64bits(d.Keep), math.Float64bits(d.Ratio))
	for _, p := range d.Progs {
		s += "prog\n" + prog.Text(p)
	}
	for _, x := range d.Starts {
		s += fmt.Sprintf("start %d %d %016x\n", x.Prog, x.Grade, x.Mask)
	}
	return s
}

// P9.3: Text, of duties of all kinds; that of one that is not valid is empty.
func TestText(t *testing.T) {
	eachDuty(func(name string, d api.Duty) {
		want := ""
		if checkByWords(d) == api.OK {
			want = textByWords(d)
		}
		if s := Text(d); s != want {
			t.Fatalf("Text with %s = %.200q, want %.200q", name, s, want)
		}
	})
	if s := Text(full()); s != fullText {
		t.Errorf("Text = %q", s)
	}
	if s := Text(great()); len(s) > api.MaxText {
		t.Errorf("the greatest text has %d bytes", len(s))
	}
}

// P9.3: the bits of the floats, of such that have the same value and of such that have none.
func TestTextOfFloats(t *testing.T) {
	for x, word := range map[uint64]string{0: "0000000000000000", 1 << 63: "8000000000000000", 1: "0000000000000001", math.MaxUint64: "ffffffffffffffff", 0x7ff0000000000001: "7ff0000000000001", 0x7ff8000000000000: "7ff8000000000000", 0xfff8000000000abc: "fff8000000000abc", 0x3ff0000000000000: "3ff0000000000000"} {
		d := Plain(1, 1)
		d.Keep = math.Float64frombits(x)
		if s, want := Text(d), "duty 1 1 4 2 8 "+word+" 4000000000000000\n"; s != want {
			t.Errorf("Text = %q, want %q", s, want)
		}
		d.Ratio, d.Keep = d.Keep, 1
		s, want := Text(d), "duty 1 1 4 2 8 3ff0000000000000 "+word+"\n"
		if s != want {
			t.Errorf("Text = %q, want %q", s, want)
		}
		if p, n, e := Parse(s); !same(p, d) || n != 1 || e != api.OK {
			t.Errorf("Parse(%q) = %v, %d, %d", s, p, n, e)
		}
	}
}

// The forms of a text's lines, between blanks.
var (
	dutyForm  = regexp.MustCompile(`\A *duty((?: +(?:0|[1-9][0-9]*)){5})((?: +[0-9a-f]{16}){2}) *\z`)
	startForm = regexp.MustCompile(`\A *start((?: +(?:0|[1-9][0-9]*)){2})( +[0-9a-f]{16}) *\z`)
	progForm  = regexp.MustCompile(`\A *prog *\z`)
)

// wordsOf are the words of a line.
func wordsOf(line string) []string {
	return strings.FieldsFunc(line, func(r rune) bool { return r == ' ' })
}

// numbersOfForm are the numbers of a line, and whether it has that form and none of them is too great.
func numbersOfForm(form *regexp.Regexp, line string) ([]uint64, bool) {
	m := form.FindStringSubmatch(line)
	if m == nil {
		return nil, false
	}
	var l []uint64
	for i, base := range []int{10, 16} {
		for _, word := range wordsOf(m[i+1]) {
			x, ok := new(big.Int).SetString(word, base)
			if !ok || !x.IsUint64() {
				return nil, false
			}
			l = append(l, x.Uint64())
		}
	}
	return l, true
}

// intOf is a number as an int, or an integer that no duty has if it is too great for one.
func intOf(x uint64) int {
	if x > math.MaxInt {
		return -1
	}
	return int(x)
}

// lineByWords adds a line to a duty as P9.3 says, or is its error.
func lineByWords(d *api.Duty, first bool, line string) api.Errno {
	words := wordsOf(line)
	isDeed := len(words) > 0 && slices.Contains([]string{"work", "spawn", "exit", "join", "yield", "sleep", "mask", "grade", "lock", "timed", "unlock"}, words[0])
	switch {
	case len(words) == 0:
		return api.ErrWord
	case first && words[0] != "duty":
		return api.ErrWord
	case !first && words[0] != "prog" && words[0] != "start" && !isDeed:
		return api.ErrWord
	case isDeed && len(d.Progs) == 0:
		return api.ErrWord
	case (words[0] == "prog" || isDeed) && len(d.Starts) > 0:
		return api.ErrWord
	case isDeed:
		x, e := deed.Parse(line)
		if e == api.OK {
			i := len(d.Progs) - 1
			d.Progs[i] = append(d.Progs[i], x)
		}
		return e
	case words[0] == "prog":
		if !progForm.MatchString(line) {
			return api.ErrForm
		}
		d.Progs = append(d.Progs, nil)
		return api.OK
	case words[0] == "start":
		l, ok := numbersOfForm(startForm, line)
		if !ok {
			return api.ErrForm
		}
		d.Starts = append(d.Starts, api.Start{Prog: intOf(l[0]), Grade: intOf(l[1]), Mask: l[2]})
		return api.OK
	}
	l, ok := numbersOfForm(dutyForm, line)
	if !ok {
		return api.ErrForm
	}
	*d = api.Duty{Cpus: intOf(l[0]), Threads: intOf(l[1]), Locks: intOf(l[2]), Cap: intOf(l[3]), Boost: l[4], Keep: math.Float64frombits(l[5]), Ratio: math.Float64frombits(l[6])}
	return api.OK
}

// parseByWords is what P9.3 says of a text.
func parseByWords(s string) (api.Duty, int, api.Errno) {
	if len(s) > 1<<20 {
		return api.Duty{}, 0, api.ErrLong
	}
	lines := strings.Split(s, "\n")
	if lines[len(lines)-1] == "" {
		lines = lines[:len(lines)-1]
	}
	if len(lines) == 0 {
		return api.Duty{}, 0, api.ErrShort
	}
	var d api.Duty
	for i, line := range lines {
		if e := lineByWords(&d, i == 0, line); e != api.OK {
			return api.Duty{}, i, e
		}
	}
	if e := checkByWords(d); e != api.OK {
		return api.Duty{}, len(lines), e
	}
	return d, len(lines), api.OK
}

// holdParse holds one call of Parse against the chapter's words.
func holdParse(t *testing.T, s string) {
	t.Helper()
	want, wantN, wantErr := parseByWords(s)
	if d, n, e := Parse(s); !same(d, want) || n != wantN || e != wantErr {
		t.Fatalf("Parse(%.300q) = %.200s, %d, %d, want %.200s, %d, %d", s, fmt.Sprint(d), n, e, fmt.Sprint(want), wantN, wantErr)
	}
}

// head is the first line of a text.
const head = "duty 2 3 4 4 8 3fe0000000000000 4000000000000000\n"

// P9.3: Parse, of all short texts made of these lines, with the last line feed and without it.
func TestParse(t *testing.T) {
	pieces := []string{head, "prog\n", "yield\n", "start 0 0 0000000000000001\n", "work 0\n", "prog 1\n", "start 1 7 0000000000000001\n", "start 0 0\n", " \n", "\n", "oh\n", "duty 0 3 4 4 8 3fe0000000000000 4000000000000000\n", "lock 5 5\n"}
	texts := []string{""}
	for range 5 {
		var next []string
		for _, s := range texts {
			holdParse(t, s)
			holdParse(t, head+s)
			holdParse(t, strings.TrimSuffix(head+s, "\n"))
			for _, piece := range pieces {
				next = append(next, s+piece)
			}
		}
		texts = next
	}
}

// P9.3: Parse, of the texts of duties of all kinds; those with one change also without the last line feed, with one more, and with more blanks.
func TestParseOfTexts(t *testing.T) {
	// The text of an invalid duty is written likewise, but a negative number has no form.
	eachDuty(func(name string, d api.Duty) { holdParse(t, textByWords(d)) })
	for _, c := range changes() {
		d := full()
		c.make(&d)
		s := textByWords(d)
		holdParse(t, strings.TrimSuffix(s, "\n"))
		holdParse(t, s+"\n")
		holdParse(t, strings.ReplaceAll(" "+s, " ", "   "))
	}
}

// P9.3: Parse, of a text of which one word is left out, replaced, doubled, or has one before it.
func TestParseOfReplacedWords(t *testing.T) {
	others := []string{"0", "1", "2", "7", "8", "00", "01", "+1", "-1", "1.", "0x1", "1e1", "a", "16", "63", "64", "65", "65536", "65537", "2147483647", "2147483648", "4294967297", "4294967299", "9223372036854775807", "9223372036854775808", "9223372036854775809", "18446744073709551615", "18446744073709551616", "18446744073709551617", "99999999999999999999999",
		"000000000000000", "0000000000000000", "00000000000000001", "000000000000000A", "000000000000000g", "ffffffffffffffff", "7ff0000000000001", "duty", "Duty", "prog", "progs", "start", "star", "work", "yield", "timed", "?", "\t", "1\t", "\r", "\xff", "\n", "1\n", "prog\nyield", "start 0 0 0000000000000001\nprog", "start 0 0 0000000000000001\nwork 0"}
	lines := strings.SplitAfter(fullText, "\n")
	for i, line := range lines[:len(lines)-1] {
		words := strings.Split(strings.TrimSuffix(line, "\n"), " ")
		before, after := strings.Join(lines[:i], ""), "\n"+strings.Join(lines[i+1:], "")
		hold := func(words []string) { holdParse(t, before+strings.Join(words, " ")+after) }
		for j := range words {
			hold(slices.Delete(slices.Clone(words), j, j+1))
			hold(slices.Insert(slices.Clone(words), j, words[j]))
			for _, other := range others {
				hold(slices.Replace(slices.Clone(words), j, j+1, other))
				hold(slices.Insert(slices.Clone(words), j, other))
				hold(append(slices.Clone(words), other))
			}
		}
	}
}

// P9.3: the results, written out.
func TestParseInFull(t *testing.T) {
	plain, one := Plain(2, 3), "start 0 0 0000000000000001\n"
	y := strings.Repeat("yield\n", 256)
	for _, c := range []struct {
		s string
		n int
		e api.Errno
	}{
		{"", 0, api.ErrShort}, {"\n", 0, api.ErrWord}, {" ", 0, api.ErrWord}, {"\n" + head, 0, api.ErrWord}, {head + "\n", 1, api.ErrWord}, {head + "  \n", 1, api.ErrWord}, {head + "prog\n\n", 2, api.ErrWord}, {head + "prog\nyield\n \nwork 0\n", 3, api.ErrWord},
		{"prog\n", 0, api.ErrWord}, {one, 0, api.ErrWord}, {"yield\n", 0, api.ErrWord}, {"dut\n", 0, api.ErrWord}, {"Duty\n", 0, api.ErrWord}, {"?", 0, api.ErrWord}, {head + head, 1, api.ErrWord}, {head + "prog\n" + head, 2, api.ErrWord}, {head + "duty", 1, api.ErrWord}, {head + "oh", 1, api.ErrWord}, {head + "prog\n?\n", 2, api.ErrWord}, {head + "\tprog", 1, api.ErrWord}, {head + "prog\r\n", 1, api.ErrWord},
		{head + "yield\n", 1, api.ErrWord}, {head + "work 0\n", 1, api.ErrWord}, {head + "work\nprog", 1, api.ErrWord}, {head + "prog\n" + one + "prog", 3, api.ErrWord}, {head + "prog\n" + one + "prog 1", 3, api.ErrWord}, {head + "prog\n" + one + "yield\n", 3, api.ErrWord}, {head + "prog\n" + one + "yield 1", 3, api.ErrWord}, {head + one + "yield", 2, api.ErrWord}, {head + one + "prog", 2, api.ErrWord},
		{"duty", 0, api.ErrForm}, {"duty 1 1 0 2 1 0000000000000000", 0, api.ErrForm}, {"duty 1 1 0 2 1 0000000000000000 0000000000000000 0", 0, api.ErrForm}, {"duty 1 1 0 2 1 0000000000000000 000000000000000A", 0, api.ErrForm}, {"duty 1 1 0 2 1 0 0", 0, api.ErrForm}, {"duty 01 1 0 2 1 0000000000000000 0000000000000000", 0, api.ErrForm}, {"duty 18446744073709551616 1 0 2 1 0000000000000000 0000000000000000", 0, api.ErrForm}, {"duty 1 1 0 2 18446744073709551616 0000000000000000 0000000000000000", 0, api.ErrForm}, {"duty -1 1 0 2 1 0000000000000000 0000000000000000", 0, api.ErrForm},
		{head + "prog 1", 1, api.ErrForm}, {head + "prog prog", 1, api.ErrForm}, {head + "start", 1, api.ErrForm}, {head + "start 0 0", 1, api.ErrForm}, {head + "start 0 0 1", 1, api.ErrForm}, {head + "start 0 0 0000000000000001 0", 1, api.ErrForm}, {head + "start 0 00 0000000000000001", 1, api.ErrForm}, {head + "start 18446744073709551616 0 0000000000000001", 1, api.ErrForm}, {head + "start 0 0000000000000000 0000000000000001", 1, api.ErrForm},
		{head + "prog\nyield 1", 2, api.ErrForm}, {head + "prog\nyield\nwork 0", 3, api.ErrRange}, {head + "prog\nwork 0\noh\n", 2, api.ErrRange}, {head + "prog\nlock 64\n" + one, 2, api.ErrRange}, {head + "prog\nlock -1\n" + one, 2, api.ErrForm},
		{"duty 0 1 0 2 1 0000000000000000 0000000000000000", 1, api.ErrRange}, {"duty 4294967297 1 0 2 1 0000000000000000 0000000000000000", 1, api.ErrRange}, {"duty 18446744073709551615 1 0 2 1 0000000000000000 0000000000000000", 1, api.ErrRange}, {"duty 1 18446744073709551615 0 2 1 0000000000000000 0000000000000000", 1, api.ErrRange}, {"duty 1 1 18446744073709551615 2 1 0000000000000000 0000000000000000", 1, api.ErrRange}, {"duty 1 1 0 9223372036854775808 1 0000000000000000 0000000000000000", 1, api.ErrRange}, {"duty 1 1 0 2 18446744073709551615 0000000000000000 0000000000000000", 1, api.ErrRange}, {"duty 1 3 0 2 1 0000000000000000 0000000000000000", 1, api.ErrRange}, {"duty 1 1 0 3 1 0000000000000000 0000000000000000", 1, api.ErrRange},
		{head + one, 2, api.ErrArg}, {head + "prog\nstart 1 0 0000000000000001", 3, api.ErrArg}, {head + "prog\nstart 18446744073709551615 0 0000000000000001", 3, api.ErrArg}, {head + "prog\nstart 4294967296 0 0000000000000001", 3, api.ErrArg}, {head + "prog\nstart 0 8 0000000000000001", 3, api.ErrArg}, {head + "prog\nstart 0 18446744073709551608 0000000000000001", 3, api.ErrArg}, {head + "prog\nstart 0 0 0000000000000004", 3, api.ErrMask}, {head + "prog\nstart 0 0 0000000000000000\n" + one, 4, api.ErrMask},
		{head + "prog\n" + y, 258, api.OK}, {head + "prog\n" + y + "prog\n" + y, 515, api.OK}, {head + "prog\n" + y + "yield", 259, api.ErrLong}, {head + "prog\n" + y + y, 514, api.ErrLong}, {head + "prog\n" + y + "yield\nyield 1", 259, api.ErrForm}, {head + strings.Repeat("prog\n", 64), 65, api.OK}, {head + strings.Repeat("prog\n", 65), 66, api.ErrLong}, {head + strings.Repeat("prog\n", 65) + "prog 1", 66, api.ErrForm}, {head + "prog\n" + strings.Repeat(one, 64), 66, api.OK}, {head + "prog\n" + strings.Repeat(one, 65), 67, api.ErrLong}, {head + "prog\n" + strings.Repeat(one, 65) + "\n", 67, api.ErrWord}, {head + strings.Repeat(one, 65), 66, api.ErrLong},
		{head, 1, api.OK}, {strings.TrimSuffix(head, "\n"), 1, api.OK}, {"   duty  2 3  4 4 8   3fe0000000000000 4000000000000000  ", 1, api.OK}, {head + "  prog  \n" + "  start   0 0 0000000000000001 ", 3, api.OK}, {fullText, 12, api.OK}, {strings.TrimSuffix(fullText, "\n"), 12, api.OK}, {fullText + "\n", 12, api.ErrWord},
	} {
		d, n, e := Parse(c.s)
		if n != c.n || e != c.e {
			t.Errorf("Parse(%.200q) = %d, %d, want %d, %d", c.s, n, e, c.n, c.e)
		}
		if (e == api.OK) == same(d, api.Duty{}) {
			t.Errorf("Parse(%.200q) = %.200s with error %d", c.s, fmt.Sprint(d), e)
		}
	}
	if d, _, _ := Parse(head); !same(d, plain) {
		t.Errorf("Parse = %v", d)
	}
	if d, _, _ := Parse(fullText); !same(d, full()) {
		t.Errorf("Parse = %v", d)
	}
}

// P9.3: a text of MaxText bytes is read, and a longer one has ErrLong before any other error.
func TestParseOfLongTexts(t *testing.T) {
	pad := func(s string, n int) string { return strings.Repeat(" ", n-len(s)) + s }
	if d, n, e := Parse(pad(fullText, 1<<20)); !same(d, full()) || n != 12 || e != api.OK {
		t.Errorf("Parse of MaxText bytes = %v, %d, %d", d, n, e)
	}
	for _, s := range []string{fullText, "", "\n", "oh\n", head + "prog\nwork 0\n", "duty\n"} {
		for _, n := range []int{1<<20 + 1, 1<<20 + 2, 1<<21 + 1} {
			if d, n, e := Parse(pad(s, n)); !same(d, api.Duty{}) || n != 0 || e != api.ErrLong {
				t.Errorf("Parse of %q and blanks = %v, %d, %d", s, d, n, e)
			}
		}
		holdParse(t, pad(s, 1<<20))
	}
	for s, want := range map[string]api.Errno{"\n": api.ErrWord, " ": api.ErrWord, "prog\n": api.ErrWord, "duty ": api.ErrForm} {
		if _, n, e := Parse(strings.Repeat(s, 1<<20/len(s))); n != 0 || e != want {
			t.Errorf("Parse of many %q = %d, %d", s, n, e)
		}
	}
	many := (1<<20 - len(head)) / 5
	if _, n, e := Parse(head + strings.Repeat("prog\n", many)); n != many+1 || e != api.ErrLong {
		t.Errorf("Parse of %d programs = %d, %d", many, n, e)
	}
}

// numberBytes is the encoding of a number.
func numberBytes(x uint64) []byte {
	digits := new(big.Int).SetUint64(x).Bytes()
	return append([]byte{byte(len(digits))}, digits...)
}

// join is the encoding of numbers one after the other.
func join(l ...uint64) []byte {
	var b []byte
	for _, x := range l {
		b = append(b, numberBytes(x)...)
	}
	return b
}

// headBytes are the first bytes of a duty's encoding.
func headBytes(d api.Duty) []byte {
	return join(uint64(d.Cpus), uint64(d.Threads), uint64(d.Locks), uint64(d.Cap), d.Boost, math.Float64bits(d.Keep), math.Float64bits(d.Ratio))
}

// bytesByWords is the encoding of a duty; instructions that are not valid are left out.
func bytesByWords(d api.Duty) []byte {
	b := append(headBytes(d), numberBytes(uint64(len(d.Progs)))...)
	for _, p := range d.Progs {
		b = append(b, numberBytes(uint64(len(p)))...)
		for _, x := range p {
			w := wire.New(100)
			deed.Put(w, x)
			l, _ := w.Done()
			b = append(b, l...)
		}
	}
	b = append(b, numberBytes(uint64(len(d.Starts)))...)
	for _, s := range d.Starts {
		b = append(b, join(uint64(s.Prog), uint64(s.Grade), s.Mask)...)
	}
	return b
}

// P9.4: Encode, of duties of all kinds.
func TestEncode(t *testing.T) {
	eachDuty(func(name string, d api.Duty) {
		var want []byte
		wantErr := checkByWords(d)
		if wantErr == api.OK {
			want = bytesByWords(d)
		}
		if b, e := Encode(d); !bytes.Equal(b, want) || e != wantErr {
			t.Fatalf("Encode with %s = %.100x, %d, want %.100x, %d", name, b, e, want, wantErr)
		}
	})
	if b, e := Encode(full()); string(b) != fullBytes || e != api.OK {
		t.Errorf("Encode = %x, %d", b, e)
	}
	if d, e := Decode([]byte(fullBytes)); !same(d, full()) || e != api.OK {
		t.Errorf("Decode = %v, %d", d, e)
	}
}

// bytesLeft are bytes that are read as the chapter says, with the first error.
type bytesLeft struct {
	b []byte
	e api.Errno
}

// number is the next number, by the words of chapter 4.
func (l *bytesLeft) number() uint64 {
	b := l.b
	switch {
	case l.e != api.OK:
		return 0
	case len(b) == 0:
		l.e = api.ErrShort
	case b[0] > 8:
		l.e = api.ErrForm
	case len(b) < 1+int(b[0]):
		l.e = api.ErrShort
	case b[0] > 0 && b[1] == 0:
		l.e = api.ErrForm
	}
	if l.e != api.OK {
		return 0
	}
	l.b = b[1+b[0]:]
	return new(big.Int).SetBytes(b[1 : 1+b[0]]).Uint64()
}

// count is the next number, of which there may be at most 64.
func (l *bytesLeft) count() uint64 {
	n := l.number()
	if l.e == api.OK && n > 64 {
		l.e = api.ErrLong
	}
	if l.e != api.OK {
		return 0
	}
	return n
}

// program is the next program.
func (l *bytesLeft) program() []api.Deed {
	if l.e != api.OK {
		return nil
	}
	r := wire.Read(l.b)
	p, e := prog.Get(r)
	l.b, l.e = l.b[len(l.b)-r.Left():], e
	return p
}

// decodeByWords is what P9.4 says of bytes.
func decodeByWords(b []byte) (api.Duty, api.Errno) {
	l := &bytesLeft{b: b}
	var h [7]uint64
	for i := range h {
		h[i] = l.number()
	}
	small := []uint64{h[0], h[1], h[2], h[3]}
	d := api.Duty{Cpus: intOf(h[0]), Threads: intOf(h[1]), Locks: intOf(h[2]), Cap: intOf(h[3]), Boost: h[4], Keep: math.Float64frombits(h[5]), Ratio: math.Float64frombits(h[6])}
	for range l.count() {
		d.Progs = append(d.Progs, l.program())
	}
	for range l.count() {
		s := [3]uint64{l.number(), l.number(), l.number()}
		small = append(small, s[0], s[1])
		d.Starts = append(d.Starts, api.Start{Prog: intOf(s[0]), Grade: intOf(s[1]), Mask: s[2]})
	}
	switch {
	case l.e != api.OK:
		return api.Duty{}, l.e
	case len(l.b) > 0:
		return api.Duty{}, api.ErrForm
	case slices.Max(small) > 1<<31-1:
		return api.Duty{}, api.ErrRange
	}
	if e := checkByWords(d); e != api.OK {
		return api.Duty{}, e
	}
	return d, api.OK
}

// holdDecode holds one call of Decode against the chapter's words.
func holdDecode(t *testing.T, b []byte) {
	t.Helper()
	want, wantErr := decodeByWords(b)
	if d, e := Decode(b); !same(d, want) || e != wantErr {
		t.Fatalf("Decode of %.100x = %.200s, %d, want %.200s, %d", b, fmt.Sprint(d), e, fmt.Sprint(want), wantErr)
	}
}

// P9.4: Decode, of an encoding cut short, with bytes behind it, and with each of its bytes replaced, left out or doubled.
func TestDecode(t *testing.T) {
	small := Plain(2, 3)
	for _, b := range [][]byte{[]byte(fullBytes), bytesByWords(small), headBytes(small)} {
		for i := range b {
			holdDecode(t, b[:i])
			holdDecode(t, slices.Delete(slices.Clone(b), i, i+1))
			holdDecode(t, slices.Insert(slices.Clone(b), i, b[i]))
			for x := range 256 {
				other := slices.Clone(b)
				other[i] = byte(x)
				holdDecode(t, other)
				holdDecode(t, append(other, 0))
				holdDecode(t, slices.Insert(slices.Clone(b), i, byte(x)))
			}
		}
		holdDecode(t, b)
		holdDecode(t, append(slices.Clone(b), b...))
	}
	holdDecode(t, nil)
}

// P9.4: Decode, of the encodings of duties of all kinds, also of such that are not valid.
func TestDecodeOfDuties(t *testing.T) {
	eachDuty(func(name string, d api.Duty) {
		b := bytesByWords(d)
		holdDecode(t, b)
		holdDecode(t, append(b, 0))
	})
}

// P9.4: Decode, of all short inputs of those bytes that matter behind the numbers.
func TestDecodeOfShortLists(t *testing.T) {
	all := [][]byte{nil}
	for range 7 {
		var next [][]byte
		for _, b := range all {
			holdDecode(t, append(headBytes(Plain(2, 3)), b...))
			for _, x := range []byte{0, 1, 2, 5, 9, 64} {
				next = append(next, append(slices.Clone(b), x))
			}
		}
		all = next
	}
}

// P9.4: the counts of programs, instructions and starts, with as many of them behind it, with less, and with none.
func TestDecodeOfCounts(t *testing.T) {
	h := headBytes(Plain(2, 3))
	counts := []uint64{0, 1, 2, 63, 64, 65, 66, 255, 256, 257, 258, 1 << 16, 1 << 32, 1<<32 + 1, 1 << 63, math.MaxUint64}
	for _, n := range counts {
		for _, k := range []int{0, 1, 63, 64, 65, 256, 257} {
			progs := append(append(slices.Clone(h), numberBytes(n)...), make([]byte, k)...)
			holdDecode(t, progs)
			holdDecode(t, append(progs, 0))
			deeds := append(append(append(slices.Clone(h), 1, 1), numberBytes(n)...), bytes.Repeat([]byte{5}, k)...)
			holdDecode(t, deeds)
			holdDecode(t, append(deeds, 0))
			starts := append(append(append(slices.Clone(h), 1, 1, 0), numberBytes(n)...), bytes.Repeat([]byte{0, 0, 1, 1}, k)...)
			holdDecode(t, starts)
			holdDecode(t, starts[:len(starts)-1])
		}
	}
}

// P9.4: numbers of each size at each place.
func TestDecodeOfNumbers(t *testing.T) {
	base := []uint64{2, 3, 4, 4, 8, 0, 0, 1, 0, 2, 0, 0, 1, 0, 7, 2}
	for i := range base {
		for _, x := range []uint64{0, 1, 2, 3, 4, 7, 8, 16, 63, 64, 65, 128, 255, 256, 257, 65535, 65536, 65537, 1<<31 - 2, 1<<31 - 1, 1 << 31, 1<<31 + 1, 1<<32 - 1, 1 << 32, 1<<32 + 1, 1<<32 + 2, 1<<32 + 4, 1<<63 - 1, 1 << 63, 1<<63 + 2, math.MaxUint64 - 1, math.MaxUint64} {
			l := slices.Clone(base)
			l[i] = x
			holdDecode(t, join(l...))
			holdDecode(t, append(join(l...), 0))
			for j := range i {
				for _, y := range []uint64{0, 9, 65, 1<<31 - 1, 1 << 31, math.MaxUint64} {
					l[j] = y
					holdDecode(t, join(l...))
				}
				l[j] = base[j]
			}
		}
	}
}

// P9.4: the errors, and which of two comes first, written out.
func TestDecodeErrors(t *testing.T) {
	h := string(join(2, 3, 4, 4, 8, 0, 0))
	wrong := string(join(0, 3, 4, 4, 8, 0, 0))
	beyond := string(join(2, 3, 4, 1<<31, 8, 0, 0))
	one := h + "\x01\x01\x00"
	for _, c := range []struct {
		s    string
		want api.Errno
	}{
		{"", api.ErrShort}, {"\x01", api.ErrShort}, {"\x09", api.ErrForm}, {"\x01\x00", api.ErrForm}, {"\x02\x00\x01", api.ErrForm}, {h, api.ErrShort}, {wrong, api.ErrShort}, {beyond, api.ErrShort}, {h + "\x00", api.ErrShort}, {h + "\x09", api.ErrForm}, {h + "\x00\x09", api.ErrForm}, {h + "\x01\x01\x00\x01\x01\x00\x00", api.ErrShort},
		{h + "\x01\x41", api.ErrLong}, {h + "\x00\x01\x41", api.ErrLong}, {h + "\x08\x80\x00\x00\x00\x00\x00\x00\x00", api.ErrLong}, {h + "\x01\x40", api.ErrShort}, {one + "\x01\x40", api.ErrShort}, {wrong + "\x01\x41", api.ErrLong}, {wrong + "\x00\x01\x41", api.ErrLong}, {beyond + "\x01\x41\x09", api.ErrLong},
		{h + "\x01\x01\x02\x01\x01", api.ErrLong}, {h + "\x01\x01\x02\x01\x01\x09", api.ErrLong}, {h + "\x01\x01\x01\x01\x0c", api.ErrForm}, {h + "\x01\x01\x01\x01\x09\x40", api.ErrRange}, {h + "\x01\x01\x01\x01\x09\x40\x01\x41", api.ErrRange}, {h + "\x01\x02\x01\x01\x09\x40\x01\x01\x0c", api.ErrRange}, {h + "\x01\x01\x01\x01", api.ErrShort}, {h + "\x01\x01\x01\x01\x0c\x01\x41", api.ErrForm},
		{h + "\x00\x00\x00", api.ErrForm}, {h + "\x00\x00\x09", api.ErrForm}, {wrong + "\x00\x00\x00", api.ErrForm}, {beyond + "\x00\x00\x00", api.ErrForm}, {one + "\x01\x01\x00\x00\x01\x01\x00", api.ErrForm}, {one + "\x01\x01\x00\x01\x08\x00\x00", api.ErrForm},
		{wrong + "\x00\x00", api.ErrRange}, {beyond + "\x00\x00", api.ErrRange}, {one + "\x01\x01\x04\x80\x00\x00\x00\x00\x00", api.ErrRange}, {one + "\x01\x01\x04\x7f\xff\xff\xff\x00\x00", api.ErrArg}, {one + "\x01\x01\x00\x04\x80\x00\x00\x00\x01\x01", api.ErrRange}, {one + "\x01\x01\x00\x04\x7f\xff\xff\xff\x01\x01", api.ErrArg}, {one + "\x01\x01\x00\x05\x01\x00\x00\x00\x00\x01\x01", api.ErrRange},
		{one + "\x01\x02\x00\x00\x00\x04\x80\x00\x00\x00\x00\x01\x01", api.ErrRange}, {one + "\x01\x02\x00\x00\x00\x01\x01\x00\x01\x01", api.ErrMask}, {one + "\x01\x01\x00\x00\x00", api.ErrMask}, {one + "\x01\x01\x00\x00\x01\x04", api.ErrMask}, {one + "\x01\x01\x00\x01\x08\x01\x01", api.ErrArg}, {h + "\x00\x01\x01\x00\x00\x01\x01", api.ErrArg},
		{h + "\x00\x00", api.OK}, {one + "\x00", api.OK}, {one + "\x01\x01\x00\x01\x07\x01\x02", api.OK}, {fullBytes, api.OK},
	} {
		d, e := Decode([]byte(c.s))
		if e != c.want || (e == api.OK) == same(d, api.Duty{}) {
			t.Errorf("Decode of %x = %v, %d, want %d", c.s, d, e, c.want)
		}
	}
}

// P9.5: a valid duty is parsed from its text and read from its encoding, and has the same ones again.
func TestRoundTrips(t *testing.T) {
	valid := 0
	eachDuty(func(name string, d api.Duty) {
		if Check(d) != api.OK {
			return
		}
		valid++
		s := Text(d)
		x, n, e := Parse(s)
		if !same(x, d) || !Same(x, d) || n != strings.Count(s, "\n") || e != api.OK {
			t.Fatalf("with %s: Parse of the text = %.200s, %d, %d", name, fmt.Sprint(x), n, e)
		}
		b, _ := Encode(d)
		y, e := Decode(b)
		if !same(y, d) || !Same(y, d) || e != api.OK {
			t.Fatalf("with %s: Decode of the encoding = %.200s, %d", name, fmt.Sprint(y), e)
		}
		again, _ := Encode(y)
		if Text(x) != s || !bytes.Equal(again, b) {
			t.Fatalf("with %s: another text, or other bytes, the second time", name)
		}
	})
	if valid < 1000 {
		t.Errorf("only %d valid duties", valid)
	}
}

// P9.5: the bits of floats survive text and bytes, whatever they are.
func TestRoundTripsOfFloats(t *testing.T) {
	for i := range 64 {
		for _, x := range []uint64{0, math.MaxUint64, 0x7ff0000000000000, 0xfff8000000000000, 0x3ff0000000000000} {
			d := Plain(i+1, 64-i)
			d.Keep, d.Ratio = math.Float64frombits(x^1<<i), math.Float64frombits(x)
			if p, _, e := Parse(Text(d)); !same(p, d) || e != api.OK {
				t.Errorf("Parse of the text of %v = %v, %d", d, p, e)
			}
			b, _ := Encode(d)
			if p, e := Decode(b); !same(p, d) || e != api.OK {
				t.Errorf("Decode of the encoding of %v = %v, %d", d, p, e)
			}
		}
	}
}

// General rule 3: arguments are neither changed nor kept, and results are new.
func TestArgumentsAndResults(t *testing.T) {
	d := full()
	Check(d)
	Same(d, full())
	s := Text(d)
	b, _ := Encode(d)
	if !same(d, full()) {
		t.Fatal("a duty was changed")
	}
	x, _ := Decode(b)
	if string(b) != fullBytes {
		t.Fatal("bytes were changed")
	}
	clear(b)
	if !same(x, full()) {
		t.Error("a decoded duty shares memory with its bytes")
	}
	if again, _ := Encode(d); string(again) != fullBytes {
		t.Error("an encoding shares memory with another one")
	}
	spoil := func(d api.Duty) {
		for i, p := range d.Progs {
			clear(p)
			d.Progs[i] = append(p, api.Deed{Op: 99})
			if len(p) < cap(p) {
				clear(p[:cap(p)])
			}
		}
		clear(d.Starts)
	}
	spoil(x)
	if y, _ := Decode([]byte(fullBytes)); !same(y, full()) {
		t.Error("a decoded duty shares memory with another one")
	}
	x, _, _ = Parse(s)
	spoil(x)
	if y, _, _ := Parse(s); !same(y, full()) {
		t.Error("a parsed duty shares memory with another one")
	}
}

// P9.4, P9.3: the programs of one duty share no memory with each other.
func TestProgramsAreApart(t *testing.T) {
	b, _ := Encode(full())
	decoded, _ := Decode(b)
	parsed, _, _ := Parse(fullText)
	for _, d := range []api.Duty{decoded, parsed} {
		for i := range d.Progs {
			x := copyOf(d)
			d.Progs[i] = append(d.Progs[i], api.Deed{Op: 99})
			d.Progs[i] = d.Progs[i][:len(d.Progs[i])-1]
			if !same(d, x) {
				t.Errorf("what is appended to program %d is in another one", i)
			}
		}
	}
}

// The chapter's example.
func TestExample(t *testing.T) {
	d := Plain(2, 3)
	if s := Text(d); d.Cap != 4 || s != "duty 2 3 4 4 8 3fe0000000000000 4000000000000000\n" {
		t.Errorf("Cap %d, text %q", d.Cap, s)
	}
}
