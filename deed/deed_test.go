package deed

import (
	"bytes"
	"fmt"
	"math"
	"math/big"
	"regexp"
	"slices"
	"strconv"
	"strings"
	"testing"

	"bosun/api"
	"bosun/wire"
)

// operation is what the chapter says of one: its name and its operands in order. An operand is A, B, R, N, Mask or Loose; work's N is bounded.
type operation struct {
	name     string
	operands []string
}

// operations are those of the chapter, by their numbers.
var operations = map[int]operation{
	1:  {"work", []string{"steps"}},
	2:  {"spawn", []string{"A", "B", "R", "Mask", "Loose"}},
	3:  {"exit", []string{"N"}},
	4:  {"join", []string{"R"}},
	5:  {"yield", nil},
	6:  {"sleep", []string{"N"}},
	7:  {"mask", []string{"R", "Mask"}},
	8:  {"grade", []string{"R", "B"}},
	9:  {"lock", []string{"A"}},
	10: {"timed", []string{"A", "N"}},
	11: {"unlock", []string{"A"}},
}

// opCount is the number of operations.
const opCount = 11

// strangeOps are integers that are no operations, some of which would be ones if only their last bits counted.
var strangeOps = []int{math.MinInt, math.MinInt + 1, -1<<32 + 1, -256, -255, -11, -2, -1, 0, 12, 13, 15, 16, 17, 64, 127, 128, 255, 256, 257, 266, 65537, 1 << 32, 1<<32 + 1, math.MaxInt - 1, math.MaxInt}

// opsAndOthers are all operations and the strange ones.
func opsAndOthers() []int {
	l := slices.Clone(strangeOps)
	for op := 1; op <= opCount; op++ {
		l = append(l, op)
	}
	return l
}

// goodByWords is what the chapter says of a valid instruction.
func goodByWords(d api.Deed) bool {
	o, ok := operations[d.Op]
	if !ok {
		return false
	}
	has := func(name string) bool { return slices.Contains(o.operands, name) }
	switch {
	case has("A") && (d.A < 0 || d.A > 63), !has("A") && d.A != 0:
		return false
	case has("B") && (d.B < 0 || d.B > 7), !has("B") && d.B != 0:
		return false
	case has("R") && (d.R < 0 || d.R > 7), !has("R") && d.R != 0:
		return false
	case has("steps") && (d.N < 1 || d.N > 65536), !has("steps") && !has("N") && d.N != 0:
		return false
	case !has("Mask") && d.Mask != 0, !has("Loose") && d.Loose:
		return false
	}
	return true
}

// lineByWords is the line of a valid instruction.
func lineByWords(d api.Deed) string {
	o := operations[d.Op]
	s := o.name
	for _, name := range o.operands {
		switch name {
		case "A":
			s += fmt.Sprintf(" %d", d.A)
		case "B":
			s += fmt.Sprintf(" %d", d.B)
		case "R":
			s += fmt.Sprintf(" %d", d.R)
		case "N", "steps":
			s += fmt.Sprintf(" %d", d.N)
		case "Mask":
			s += fmt.Sprintf(" %016x", d.Mask)
		case "Loose":
			if d.Loose {
				s += " loose"
			}
		}
	}
	return s
}

// numberBytes is the encoding of a number.
func numberBytes(x uint64) []byte {
	digits := new(big.Int).SetUint64(x).Bytes()
	return append([]byte{byte(len(digits))}, digits...)
}

// bytesByWords is the encoding of a valid instruction.
func bytesByWords(d api.Deed) []byte {
	b := []byte{byte(d.Op)}
	for _, name := range operations[d.Op].operands {
		switch name {
		case "A":
			b = append(b, byte(d.A))
		case "B":
			b = append(b, byte(d.B))
		case "R":
			b = append(b, byte(d.R))
		case "N", "steps":
			b = append(b, numberBytes(d.N)...)
		case "Mask":
			b = append(b, numberBytes(d.Mask)...)
		case "Loose":
			if d.Loose {
				b = append(b, 1)
			} else {
				b = append(b, 0)
			}
		}
	}
	return b
}

// eachOf calls f with all instructions whose fields are of these values.
func eachOf(ops, ints []int, numbers, masks []uint64, f func(d api.Deed)) {
	for _, op := range ops {
		for _, a := range ints {
			for _, b := range ints {
				for _, r := range ints {
					for _, n := range numbers {
						for _, mask := range masks {
							f(api.Deed{Op: op, A: a, B: b, R: r, N: n, Mask: mask})
							f(api.Deed{Op: op, A: a, B: b, R: r, N: n, Mask: mask, Loose: true})
						}
					}
				}
			}
		}
	}
}

// eachDeed calls f with instructions of all kinds, valid and not: every field at its bounds, beside them, and where only its last bits would be in range.
func eachDeed(f func(d api.Deed)) {
	var ops []int
	for op := range opCount + 2 {
		ops = append(ops, op)
	}
	eachOf(ops, []int{-1, 0, 7, 8, 63, 64}, []uint64{0, 1, 65536, 65537}, []uint64{0, math.MaxUint64}, f)
	eachOf(ops, []int{math.MinInt, math.MinInt + 7, -1 << 32, -256, -64, -8, 0, 3, 65, 256, 1<<32 + 3, math.MaxInt}, []uint64{0, 5}, []uint64{0}, f)
	numbers := []uint64{2, 255, 256, 65535, 65538, 1<<31 - 1, 1 << 32, 1<<32 + 1, math.MaxInt64, 1 << 63, 1<<63 + 1, math.MaxUint64 - 1, math.MaxUint64}
	eachOf(ops, []int{0, 2}, numbers, append(numbers, 0), f)
	eachOf(strangeOps, []int{0, 1}, []uint64{0, 1}, []uint64{0, 1}, f)
}

// goodDeeds are valid instructions with all operations, with each operand at its bounds.
func goodDeeds() []api.Deed {
	l := []api.Deed{{Op: 5}}
	for _, n := range numbersToWrite() {
		l = append(l, api.Deed{Op: 3, N: n}, api.Deed{Op: 6, N: n}, api.Deed{Op: 10, N: n}, api.Deed{Op: 10, A: 63, N: n}, api.Deed{Op: 7, R: 3, Mask: n}, api.Deed{Op: 2, A: 1, B: 2, R: 3, Mask: n}, api.Deed{Op: 2, Mask: n, Loose: true})
		if 1 <= n && n <= 65536 {
			l = append(l, api.Deed{Op: 1, N: n})
		}
	}
	for a := range 64 {
		l = append(l, api.Deed{Op: 9, A: a}, api.Deed{Op: 10, A: a, N: uint64(a) * 3}, api.Deed{Op: 11, A: a})
		l = append(l, api.Deed{Op: 2, A: a}, api.Deed{Op: 2, A: a, B: 7, R: 7, Mask: math.MaxUint64, Loose: true})
	}
	for r := range 8 {
		l = append(l, api.Deed{Op: 4, R: r}, api.Deed{Op: 7, R: r}, api.Deed{Op: 7, R: r, Mask: math.MaxUint64})
		for b := range 8 {
			l = append(l, api.Deed{Op: 8, R: r, B: b}, api.Deed{Op: 2, A: 9, B: b, R: r, Mask: 1}, api.Deed{Op: 2, A: 9, B: b, R: r, Mask: 2, Loose: true})
		}
	}
	return l
}

// numbersToWrite are numbers of all lengths, in bytes and in digits.
func numbersToWrite() []uint64 {
	l := []uint64{0, 1, 2, 9, 10, 300, 65535, 65536, 65537, math.MaxUint64 - 1, math.MaxUint64, 0x0123456789abcdef}
	for i := range 64 {
		l = append(l, 1<<i, 1<<i-1)
	}
	return l
}

// P7.1: Name.
func TestName(t *testing.T) {
	for op, o := range operations {
		if s := Name(op); s != o.name {
			t.Errorf("Name(%d) = %q, want %q", op, s, o.name)
		}
	}
	for _, op := range strangeOps {
		if s := Name(op); s != "?" {
			t.Errorf("Name(%d) = %q", op, s)
		}
	}
}

// P7.1: the operations have the numbers that package api gives them.
func TestNamesOfTheConstants(t *testing.T) {
	for _, c := range []struct {
		op   int
		want string
	}{
		{api.Work, "work"}, {api.Spawn, "spawn"}, {api.Exit, "exit"}, {api.Join, "join"}, {api.Yield, "yield"}, {api.Sleep, "sleep"},
		{api.SetMask, "mask"}, {api.SetGrade, "grade"}, {api.Lock, "lock"}, {api.TimedLock, "timed"}, {api.Unlock, "unlock"}, {api.Ops, "unlock"}, {api.Ops + 1, "?"},
	} {
		if s := Name(c.op); s != c.want {
			t.Errorf("Name(%d) = %q, want %q", c.op, s, c.want)
		}
	}
}

// P7.1: Good and Calls, of instructions of all kinds.
func TestGoodAndCalls(t *testing.T) {
	good := map[int]int{}
	eachDeed(func(d api.Deed) {
		want := goodByWords(d)
		if Good(d) != want {
			t.Fatalf("Good(%+v) = %t", d, !want)
		}
		if calls := want && d.Op != 1; Calls(d) != calls {
			t.Fatalf("Calls(%+v) = %t", d, !calls)
		}
		if want {
			good[d.Op]++
		}
	})
	if len(good) != opCount {
		t.Errorf("only these operations have valid instructions: %v", good)
	}
	for _, d := range goodDeeds() {
		if !goodByWords(d) || !Good(d) || Calls(d) != (d.Op != 1) {
			t.Fatalf("%+v: Good %t, Calls %t", d, Good(d), Calls(d))
		}
	}
}

// P7.1: the bounds that the chapter names.
func TestGoodAtTheBounds(t *testing.T) {
	for _, c := range []struct {
		d    api.Deed
		want bool
	}{
		{api.Deed{}, false}, {api.Deed{Op: -1}, false}, {api.Deed{Op: 12}, false},
		{api.Deed{Op: 1}, false}, {api.Deed{Op: 1, N: 1}, true}, {api.Deed{Op: 1, N: 65536}, true}, {api.Deed{Op: 1, N: 65537}, false}, {api.Deed{Op: 1, N: math.MaxUint64}, false}, {api.Deed{Op: 1, N: 1 << 32}, false},
		{api.Deed{Op: 2}, true}, {api.Deed{Op: 2, A: 63, B: 7, R: 7, Mask: math.MaxUint64, Loose: true}, true}, {api.Deed{Op: 2, A: 64}, false}, {api.Deed{Op: 2, B: 8}, false}, {api.Deed{Op: 2, R: 8}, false}, {api.Deed{Op: 2, N: 1}, false},
		{api.Deed{Op: 2, A: -1}, false}, {api.Deed{Op: 2, B: -1}, false}, {api.Deed{Op: 2, R: -1}, false}, {api.Deed{Op: 2, A: math.MinInt}, false}, {api.Deed{Op: 2, B: math.MinInt}, false}, {api.Deed{Op: 2, R: math.MaxInt}, false},
		{api.Deed{Op: 3}, true}, {api.Deed{Op: 3, N: math.MaxUint64}, true}, {api.Deed{Op: 3, A: 1}, false}, {api.Deed{Op: 3, Loose: true}, false},
		{api.Deed{Op: 4, R: 7}, true}, {api.Deed{Op: 4, R: 8}, false}, {api.Deed{Op: 4, R: 1, Mask: 1}, false},
		{api.Deed{Op: 5}, true}, {api.Deed{Op: 5, A: 1}, false}, {api.Deed{Op: 5, B: 1}, false}, {api.Deed{Op: 5, R: 1}, false}, {api.Deed{Op: 5, N: 1}, false}, {api.Deed{Op: 5, Mask: 1}, false}, {api.Deed{Op: 5, Loose: true}, false},
		{api.Deed{Op: 6}, true}, {api.Deed{Op: 6, N: math.MaxUint64}, true}, {api.Deed{Op: 6, R: 1}, false},
		{api.Deed{Op: 7}, true}, {api.Deed{Op: 7, R: 7, Mask: math.MaxUint64}, true}, {api.Deed{Op: 7, R: 8}, false}, {api.Deed{Op: 7, B: 1}, false}, {api.Deed{Op: 7, Loose: true}, false},
		{api.Deed{Op: 8}, true}, {api.Deed{Op: 8, R: 7, B: 7}, true}, {api.Deed{Op: 8, B: 8}, false}, {api.Deed{Op: 8, R: 8}, false}, {api.Deed{Op: 8, A: 1}, false},
		{api.Deed{Op: 9}, true}, {api.Deed{Op: 9, A: 63}, true}, {api.Deed{Op: 9, A: 64}, false}, {api.Deed{Op: 9, A: -1}, false}, {api.Deed{Op: 9, N: 1}, false},
		{api.Deed{Op: 10}, true}, {api.Deed{Op: 10, A: 63, N: math.MaxUint64}, true}, {api.Deed{Op: 10, A: 64}, false}, {api.Deed{Op: 10, B: 1}, false},
		{api.Deed{Op: 11, A: 63}, true}, {api.Deed{Op: 11, A: 64}, false}, {api.Deed{Op: 11, R: 1}, false},
	} {
		if Good(c.d) != c.want {
			t.Errorf("Good(%+v) = %t", c.d, !c.want)
		}
		if calls := c.want && c.d.Op != 1; Calls(c.d) != calls {
			t.Errorf("Calls(%+v) = %t", c.d, !calls)
		}
	}
}

// P7.1: Waits.
func TestWaits(t *testing.T) {
	waiting := []string{"join", "sleep", "lock", "timed"}
	for _, op := range opsAndOthers() {
		if want := slices.Contains(waiting, operations[op].name); Waits(op) != want {
			t.Errorf("Waits(%d) = %t", op, !want)
		}
	}
}

// P7.2: Line, of instructions of all kinds.
func TestLine(t *testing.T) {
	hold := func(d api.Deed) {
		want := "?"
		if goodByWords(d) {
			want = lineByWords(d)
		}
		if s := Line(d); s != want {
			t.Fatalf("Line(%+v) = %q, want %q", d, s, want)
		}
	}
	for _, d := range goodDeeds() {
		hold(d)
	}
	eachDeed(hold)
}

// P7.2: a line of each operation, written out, which is parsed back.
func TestLines(t *testing.T) {
	for _, c := range []struct {
		d    api.Deed
		line string
	}{
		{api.Deed{Op: 1, N: 1}, "work 1"}, {api.Deed{Op: 1, N: 65536}, "work 65536"},
		{api.Deed{Op: 2}, "spawn 0 0 0 0000000000000000"}, {api.Deed{Op: 2, A: 63, B: 6, R: 7, Mask: 0xab}, "spawn 63 6 7 00000000000000ab"}, {api.Deed{Op: 2, A: 1, B: 2, R: 3, Mask: math.MaxUint64, Loose: true}, "spawn 1 2 3 ffffffffffffffff loose"},
		{api.Deed{Op: 3}, "exit 0"}, {api.Deed{Op: 3, N: math.MaxUint64}, "exit 18446744073709551615"}, {api.Deed{Op: 4, R: 5}, "join 5"}, {api.Deed{Op: 5}, "yield"}, {api.Deed{Op: 6, N: 20}, "sleep 20"},
		{api.Deed{Op: 7, R: 4, Mask: 1}, "mask 4 0000000000000001"}, {api.Deed{Op: 8, R: 4, B: 6}, "grade 4 6"}, {api.Deed{Op: 9, A: 63}, "lock 63"}, {api.Deed{Op: 10, A: 3, N: 20}, "timed 3 20"}, {api.Deed{Op: 11, A: 10}, "unlock 10"},
	} {
		if s := Line(c.d); s != c.line {
			t.Errorf("Line(%+v) = %q, want %q", c.d, s, c.line)
		}
		if d, e := Parse(c.line); d != c.d || e != api.OK {
			t.Errorf("Parse(%q) = %+v, %d, want %+v", c.line, d, e, c.d)
		}
	}
}

var (
	decimalForm = regexp.MustCompile(`\A(0|[1-9][0-9]*)\z`)
	hexForm     = regexp.MustCompile(`\A[0-9a-f]{16}\z`)
)

// valueByWords is the value of a word that stands for an operand, and whether it has the form that the operand requires.
func valueByWords(operand, word string) (uint64, bool) {
	switch {
	case operand == "Loose":
		return 1, word == "loose"
	case operand == "Mask":
		x, err := strconv.ParseUint(word, 16, 64)
		return x, err == nil && hexForm.MatchString(word)
	}
	x, err := strconv.ParseUint(word, 10, 64)
	return x, err == nil && decimalForm.MatchString(word)
}

// parseByWords is what P7.2 says of a list of words.
func parseByWords(words []string) (api.Deed, api.Errno) {
	op := 0
	for i, o := range operations {
		if len(words) > 0 && words[0] == o.name {
			op = i
		}
	}
	if op == 0 {
		return api.Deed{}, api.ErrWord
	}
	operands := operations[op].operands
	if op == 2 && len(words) == 5 {
		operands = operands[:4]
	}
	if len(words) != 1+len(operands) {
		return api.Deed{}, api.ErrForm
	}
	all := map[string]uint64{}
	for i, name := range operands {
		x, ok := valueByWords(name, words[1+i])
		if !ok {
			return api.Deed{}, api.ErrForm
		}
		all[name] = x
	}
	for _, name := range []string{"A", "B", "R"} {
		if all[name] > 1000 {
			return api.Deed{}, api.ErrRange
		}
	}
	d := api.Deed{Op: op, A: int(all["A"]), B: int(all["B"]), R: int(all["R"]), N: all["N"] + all["steps"], Mask: all["Mask"], Loose: all["Loose"] == 1}
	if !goodByWords(d) {
		return api.Deed{}, api.ErrRange
	}
	return d, api.OK
}

// holdParse holds one call of Parse against the chapter's words for these words.
func holdParse(t *testing.T, s string, words []string) {
	t.Helper()
	want, wantErr := parseByWords(words)
	if d, e := Parse(s); d != want || e != wantErr {
		t.Fatalf("Parse(%q) = %+v, %d, want %+v, %d", s, d, e, want, wantErr)
	}
}

// someWords are words that stand for operands: numbers at the bounds of each, hex strings, `loose`, and words that are nearly one of these.
var someWords = []string{
	"0", "1", "7", "8", "63", "64", "65536", "65537", "18446744073709551615", "18446744073709551616", "0000000000000000", "00000000000000ff", "8000000000000000", "1000000000000000", "loose", "x",
}

// moreWords stand in one place only of a line that is otherwise good.
var moreWords = []string{
	"-1", "+1", "-0", "00", "01", "007", "1_0", "1.0", "0x1", "1e1", "9", "10", "255", "256", "257", "263", "512", "4294967296", "4294967297", "4294967303", "9223372036854775807", "9223372036854775808", "9223372036854775809", "18446744073709551614", "18446744073709551617", "99999999999999999999999",
	"ffffffffffffffff", "FFFFFFFFFFFFFFFF", "000000000000000", "00000000000000000", "0x00000000000000", "000000000000000g", "fffffffffffffff", "Loose", "loos", "loosee", "LOOSE", "tight", "true", "?", "work", "yield", "\t", "1\t", "\n", "1\n", "\x00", "\xff", "\uff11", "1\u00a0",
}

// P7.2: Parse, of each name with all lists of up to three words behind it, and of spawn with longer ones.
func TestParse(t *testing.T) {
	var grow func(words []string, most int)
	grow = func(words []string, most int) {
		holdParse(t, strings.Join(words, " "), words)
		if most == 0 {
			return
		}
		for _, w := range someWords {
			grow(append(words[:len(words):len(words)], w), most-1)
		}
	}
	for _, o := range operations {
		grow([]string{o.name}, 3)
	}
	for _, start := range []string{"spawn 0 0", "spawn 63 7", "spawn 64 0", "spawn 0 8", "spawn x 0", "spawn 0 18446744073709551616", "grade 0", "timed 3", "work 1"} {
		grow(strings.Split(start, " "), 4)
	}
}

// P7.2: every line with one of its words replaced, left out, or with one more word.
func TestParseOfNearlyLines(t *testing.T) {
	all := append(slices.Clone(someWords), moreWords...)
	for _, line := range []string{"work 5", "spawn 1 2 3 00000000000000ff", "spawn 1 2 3 00000000000000ff loose", "exit 5", "join 5", "yield", "sleep 5", "mask 5 00000000000000ff", "grade 5 6", "lock 5", "timed 5 6", "unlock 5"} {
		words := strings.Split(line, " ")
		for i := range len(words) + 1 {
			for _, w := range all {
				longer := slices.Insert(slices.Clone(words), i, w)
				holdParse(t, strings.Join(longer, " "), longer)
				if i < len(words) {
					other := slices.Clone(words)
					other[i] = w
					holdParse(t, strings.Join(other, " "), other)
				}
			}
			if i < len(words) {
				shorter := slices.Delete(slices.Clone(words), i, i+1)
				holdParse(t, strings.Join(shorter, " "), shorter)
			}
		}
	}
}

// P7.2: the errors, and which of two comes first.
func TestParseErrors(t *testing.T) {
	for _, c := range []struct {
		s    string
		want api.Errno
	}{
		{"", api.ErrWord}, {" ", api.ErrWord}, {"    ", api.ErrWord}, {"?", api.ErrWord}, {"5", api.ErrWord}, {"Work 1", api.ErrWord}, {"WORK 1", api.ErrWord}, {"work1", api.ErrWord}, {"wor 1", api.ErrWord}, {"works 1", api.ErrWord}, {"loose", api.ErrWord}, {"\tyield", api.ErrWord}, {"yield\n", api.ErrWord}, {"work\t1", api.ErrWord}, {"timedlock 1 2", api.ErrWord}, {"x x x x x x x x", api.ErrWord}, {"1 work", api.ErrWord}, {"\xff", api.ErrWord},
		{"yield 1", api.ErrForm}, {"yield loose", api.ErrForm}, {"work", api.ErrForm}, {"work 1 1", api.ErrForm}, {"work 0 0", api.ErrForm}, {"work 1 loose", api.ErrForm}, {"exit", api.ErrForm}, {"join", api.ErrForm}, {"join 0 0", api.ErrForm}, {"mask 0", api.ErrForm}, {"mask 0 0000000000000000 loose", api.ErrForm}, {"grade 0", api.ErrForm}, {"grade 0 0 0", api.ErrForm}, {"timed 0", api.ErrForm}, {"timed 0 0 0", api.ErrForm}, {"unlock", api.ErrForm},
		{"spawn", api.ErrForm}, {"spawn 0 0 0", api.ErrForm}, {"spawn 0 0 0 loose", api.ErrForm}, {"spawn 0 0 0 0000000000000000 tight", api.ErrForm}, {"spawn 0 0 0 0000000000000000 0", api.ErrForm}, {"spawn 0 0 0 0000000000000000 1", api.ErrForm}, {"spawn 0 0 0 0000000000000000 loose loose", api.ErrForm}, {"spawn 0 0 0 loose 0000000000000000", api.ErrForm}, {"spawn 0 0 0 0", api.ErrForm}, {"spawn 0 0 0 00000000000000AB", api.ErrForm},
		{"work 00", api.ErrForm}, {"work -1", api.ErrForm}, {"work 18446744073709551616", api.ErrForm}, {"exit 18446744073709551616", api.ErrForm}, {"lock 18446744073709551616", api.ErrForm}, {"lock 0000000000000001", api.ErrForm}, {"mask 0 1", api.ErrForm},
		{"work 0", api.ErrRange}, {"work 65537", api.ErrRange}, {"work 18446744073709551615", api.ErrRange}, {"lock 64", api.ErrRange}, {"lock 18446744073709551615", api.ErrRange}, {"lock 4294967296", api.ErrRange}, {"lock 9223372036854775808", api.ErrRange}, {"unlock 64", api.ErrRange}, {"timed 64 0", api.ErrRange}, {"join 8", api.ErrRange}, {"join 18446744073709551615", api.ErrRange}, {"grade 8 0", api.ErrRange}, {"grade 0 8", api.ErrRange}, {"grade 0 18446744073709551615", api.ErrRange}, {"grade 0 9223372036854775808", api.ErrRange}, {"mask 8 0000000000000000", api.ErrRange},
		{"spawn 64 0 0 0000000000000000", api.ErrRange}, {"spawn 0 8 0 0000000000000000", api.ErrRange}, {"spawn 0 0 8 0000000000000000 loose", api.ErrRange},
		{"timed 64 x", api.ErrForm}, {"timed x 64", api.ErrForm}, {"grade 8 x", api.ErrForm}, {"mask 8 0", api.ErrForm}, {"spawn 64 8 8 0", api.ErrForm}, {"spawn 64 8 8 0000000000000000 tight", api.ErrForm}, {"spawn 64 8", api.ErrForm}, {"timed 64 18446744073709551616", api.ErrForm},
	} {
		if d, e := Parse(c.s); d != (api.Deed{}) || e != c.want {
			t.Errorf("Parse(%q) = %+v, %d, want %d", c.s, d, e, c.want)
		}
	}
}

// P7.2: the words count, not the number of blanks between, ahead of and behind them.
func TestParseCountsNoBlanks(t *testing.T) {
	for _, d := range goodDeeds() {
		words := strings.Split(lineByWords(d), " ")
		for _, s := range []string{strings.Join(words, "  "), "   " + strings.Join(words, " "), strings.Join(words, "     ") + " ", " " + strings.Join(words, "   ") + "    "} {
			if x, e := Parse(s); x != d || e != api.OK {
				t.Fatalf("Parse(%q) = %+v, %d, want %+v", s, x, e, d)
			}
		}
	}
	if d, e := Parse(strings.Repeat(" ", 100000) + "yield" + strings.Repeat(" ", 100000)); d != (api.Deed{Op: 5}) || e != api.OK {
		t.Error(d, e)
	}
}

// P7.2: texts of very many words, and of very long ones.
func TestParseOfLongTexts(t *testing.T) {
	for s, want := range map[string]api.Errno{
		strings.Repeat("yield ", 100000): api.ErrForm, "spawn" + strings.Repeat(" 0", 100000): api.ErrForm, strings.Repeat("x", 100000): api.ErrWord, "work " + strings.Repeat("9", 100000): api.ErrForm, "mask 0 " + strings.Repeat("f", 100000): api.ErrForm,
	} {
		if d, e := Parse(s); d != (api.Deed{}) || e != want {
			t.Errorf("Parse(%.20q) = %+v, %d, want %d", s, d, e, want)
		}
	}
}

// P7.3: Put, of instructions of all kinds, behind a byte that is there already.
func TestPut(t *testing.T) {
	hold := func(d api.Deed) {
		want := []byte{77}
		if goodByWords(d) {
			want = append(want, bytesByWords(d)...)
		}
		w := wire.New(100)
		w.Byte(77)
		Put(w, d)
		if b, e := w.Done(); !bytes.Equal(b, want) || e != api.OK {
			t.Fatalf("Put(%+v) writes % x, %d, want % x", d, b, e, want)
		}
	}
	for _, d := range goodDeeds() {
		hold(d)
	}
	eachDeed(hold)
}

// P7.3: an encoding of each operation, written out, which is read back.
func TestEncodings(t *testing.T) {
	for _, c := range []struct {
		d api.Deed
		b []byte
	}{
		{api.Deed{Op: 1, N: 1}, []byte{1, 1, 1}}, {api.Deed{Op: 1, N: 65536}, []byte{1, 3, 1, 0, 0}},
		{api.Deed{Op: 2}, []byte{2, 0, 0, 0, 0, 0}}, {api.Deed{Op: 2, A: 63, B: 6, R: 7, Mask: 300}, []byte{2, 63, 6, 7, 2, 1, 44, 0}}, {api.Deed{Op: 2, A: 1, B: 2, R: 3, Mask: 4, Loose: true}, []byte{2, 1, 2, 3, 1, 4, 1}},
		{api.Deed{Op: 3}, []byte{3, 0}}, {api.Deed{Op: 3, N: math.MaxUint64}, []byte{3, 8, 255, 255, 255, 255, 255, 255, 255, 255}}, {api.Deed{Op: 4, R: 5}, []byte{4, 5}}, {api.Deed{Op: 5}, []byte{5}}, {api.Deed{Op: 6, N: 20}, []byte{6, 1, 20}},
		{api.Deed{Op: 7, R: 4, Mask: 1}, []byte{7, 4, 1, 1}}, {api.Deed{Op: 8, R: 4, B: 6}, []byte{8, 4, 6}}, {api.Deed{Op: 9, A: 63}, []byte{9, 63}}, {api.Deed{Op: 10, A: 3, N: 20}, []byte{10, 3, 1, 20}}, {api.Deed{Op: 11, A: 10}, []byte{11, 10}},
	} {
		w := wire.New(len(c.b))
		Put(w, c.d)
		if b, e := w.Done(); !bytes.Equal(b, c.b) || e != api.OK {
			t.Errorf("Put(%+v) writes % x, %d, want % x", c.d, b, e, c.b)
		}
		r := wire.Read(c.b)
		if d, e := Get(r); d != c.d || e != api.OK || r.Done() != api.OK {
			t.Errorf("Get of % x = %+v, %d, want %+v", c.b, d, e, c.d)
		}
	}
}

// P7.3: a writer without enough room has its own error; one that has failed, and a nil one, take nothing.
func TestPutWithoutRoom(t *testing.T) {
	for _, d := range goodDeeds() {
		for most := range len(bytesByWords(d)) {
			w := wire.New(most)
			Put(w, d)
			if b, e := w.Done(); len(b) != 0 || e != api.ErrLong {
				t.Fatalf("Put(%+v) in %d bytes writes % x, %d", d, most, b, e)
			}
		}
		Put(nil, d)
	}
	w := wire.New(0)
	Put(w, api.Deed{Op: 1})
	if b, e := w.Done(); len(b) != 0 || e != api.OK {
		t.Error(b, e)
	}
	Put(nil, api.Deed{})
}

// cursor reads bytes by the chapters' words: it keeps the first error.
type cursor struct {
	rest []byte
	e    api.Errno
}

func (c *cursor) take(n int) []byte {
	if c.e != api.OK || n > len(c.rest) {
		c.fail(api.ErrShort)
		return make([]byte, n)
	}
	b := c.rest[:n]
	c.rest = c.rest[n:]
	return b
}

func (c *cursor) fail(e api.Errno) {
	if c.e == api.OK {
		c.e, c.rest = e, nil
	}
}

func (c *cursor) number() uint64 {
	n := int(c.take(1)[0])
	if n > 8 {
		c.fail(api.ErrForm)
		return 0
	}
	b := c.take(n)
	if n > 0 && b[0] == 0 {
		c.fail(api.ErrForm)
	}
	return new(big.Int).SetBytes(b).Uint64()
}

func (c *cursor) truth() bool {
	b := c.take(1)[0]
	if b > 1 {
		c.fail(api.ErrForm)
	}
	return b == 1
}

// getByWords is what P7.3 says of reading an instruction from b: the instruction, its error, the error of the reader, and the number of bytes that are left then.
func getByWords(b []byte) (api.Deed, api.Errno, api.Errno, int) {
	c := &cursor{rest: b}
	d := api.Deed{Op: int(c.take(1)[0])}
	if c.e != api.OK {
		return api.Deed{}, c.e, c.e, 0
	}
	if d.Op < 1 || d.Op > 11 {
		return api.Deed{}, api.ErrForm, api.OK, len(c.rest)
	}
	for _, name := range operations[d.Op].operands {
		switch name {
		case "A":
			d.A = int(c.take(1)[0])
		case "B":
			d.B = int(c.take(1)[0])
		case "R":
			d.R = int(c.take(1)[0])
		case "N", "steps":
			d.N = c.number()
		case "Mask":
			d.Mask = c.number()
		case "Loose":
			d.Loose = c.truth()
		}
	}
	switch {
	case c.e != api.OK:
		return api.Deed{}, c.e, c.e, 0
	case !goodByWords(d):
		return api.Deed{}, api.ErrRange, api.OK, len(c.rest)
	}
	return d, api.OK, api.OK, len(c.rest)
}

// holdGet holds one call of Get against the chapter's words, with what it leaves in the reader.
func holdGet(t *testing.T, b []byte) {
	t.Helper()
	want, wantErr, own, left := getByWords(b)
	r := wire.Read(b)
	if d, e := Get(r); d != want || e != wantErr {
		t.Fatalf("Get of %.40x = %+v, %d, want %+v, %d", b, d, e, want, wantErr)
	}
	if r.Err() != own || r.Left() != left {
		t.Fatalf("after Get of %.40x: error %d, %d left, want %d, %d", b, r.Err(), r.Left(), own, left)
	}
}

// P7.3: Get, of all short inputs of those bytes that matter, and of each first byte.
func TestGet(t *testing.T) {
	short := [][]byte{nil}
	for op := range 14 {
		short = append(short, []byte{byte(op)})
	}
	for range 6 {
		for _, b := range short {
			holdGet(t, b)
		}
		var next [][]byte
		for _, b := range short {
			for _, x := range []byte{0, 1, 3, 8, 64} {
				if len(b) > 0 {
					next = append(next, append(slices.Clone(b), x))
				}
			}
		}
		short = next
	}
	for op := range 256 {
		for _, rest := range [][]byte{nil, {0}, {1}, {7, 7}, bytes.Repeat([]byte{1}, 40), make([]byte, 40), bytes.Repeat([]byte{255}, 40)} {
			holdGet(t, append([]byte{byte(op)}, rest...))
		}
	}
}

// P7.3: every encoding, whole, cut short, with bytes behind it, and with one of its bytes replaced.
func TestGetOfNearlyEncodings(t *testing.T) {
	for _, d := range goodDeeds() {
		b := bytesByWords(d)
		for i := range b {
			holdGet(t, b[:i])
			for _, x := range []byte{0, 1, 2, 7, 8, 9, 11, 12, 63, 64, 127, 128, 254, 255} {
				other := slices.Clone(b)
				other[i] = x
				holdGet(t, other)
				holdGet(t, append(other, 1, 1, 1))
			}
		}
		holdGet(t, b)
		holdGet(t, append(slices.Clone(b), 0))
		holdGet(t, append(slices.Clone(b), b...))
	}
}

// P7.3: the errors, and which of two comes first.
func TestGetErrors(t *testing.T) {
	for _, c := range []struct {
		b    []byte
		want api.Errno
	}{
		{nil, api.ErrShort}, {[]byte{0}, api.ErrForm}, {[]byte{12}, api.ErrForm}, {[]byte{255}, api.ErrForm}, {[]byte{0, 9, 9, 9, 9}, api.ErrForm}, {[]byte{1}, api.ErrShort}, {[]byte{2}, api.ErrShort}, {[]byte{4}, api.ErrShort}, {[]byte{9}, api.ErrShort},
		{[]byte{1, 0}, api.ErrRange}, {[]byte{1, 3, 1, 0, 1}, api.ErrRange}, {[]byte{1, 8, 255, 255, 255, 255, 255, 255, 255, 255}, api.ErrRange}, {[]byte{1, 5, 1, 0, 0, 0, 1}, api.ErrRange}, {[]byte{1, 9}, api.ErrForm}, {[]byte{1, 1, 0}, api.ErrForm}, {[]byte{1, 2, 1}, api.ErrShort}, {[]byte{1, 2, 0}, api.ErrShort},
		{[]byte{9, 64}, api.ErrRange}, {[]byte{9, 255}, api.ErrRange}, {[]byte{11, 64}, api.ErrRange}, {[]byte{4, 8}, api.ErrRange}, {[]byte{8, 8, 0}, api.ErrRange}, {[]byte{8, 0, 8}, api.ErrRange}, {[]byte{7, 8, 0}, api.ErrRange}, {[]byte{10, 64, 0}, api.ErrRange},
		{[]byte{8, 255}, api.ErrShort}, {[]byte{10, 64}, api.ErrShort}, {[]byte{10, 64, 9}, api.ErrForm}, {[]byte{7, 8, 1, 0}, api.ErrForm}, {[]byte{2, 64, 8, 8, 0}, api.ErrShort}, {[]byte{2, 64, 8, 8, 9}, api.ErrForm},
		{[]byte{2, 64, 8, 8, 0, 0}, api.ErrRange}, {[]byte{2, 64, 0, 0, 0, 1}, api.ErrRange}, {[]byte{2, 0, 8, 0, 0, 1}, api.ErrRange}, {[]byte{2, 0, 0, 8, 0, 0}, api.ErrRange}, {[]byte{2, 0, 0, 0, 0, 2}, api.ErrForm}, {[]byte{2, 64, 8, 8, 0, 2}, api.ErrForm}, {[]byte{2, 0, 0, 0, 0, 255}, api.ErrForm}, {[]byte{2, 0, 0, 0, 0}, api.ErrShort},
	} {
		if d, e := Get(wire.Read(c.b)); d != (api.Deed{}) || e != c.want {
			t.Errorf("Get of % x = %+v, %d, want %d", c.b, d, e, c.want)
		}
	}
}

// P7.3: a reader that has failed already keeps its first error, whatever bytes would follow.
func TestGetAfterAnError(t *testing.T) {
	for _, d := range goodDeeds() {
		b := append([]byte{2}, bytesByWords(d)...)
		r := wire.Read(b)
		r.Truth()
		if x, e := Get(r); x != (api.Deed{}) || e != api.ErrForm || r.Left() != 0 {
			t.Fatalf("Get of %+v after ErrForm = %+v, %d", d, x, e)
		}
		r = wire.Read(append([]byte{1, 200}, bytesByWords(d)...))
		r.Upto(100)
		if x, e := Get(r); x != (api.Deed{}) || e != api.ErrRange {
			t.Fatalf("Get of %+v after ErrRange = %+v, %d", d, x, e)
		}
		r = wire.Read(nil)
		r.Byte()
		if x, e := Get(r); x != (api.Deed{}) || e != api.ErrShort {
			t.Fatalf("Get of %+v after ErrShort = %+v, %d", d, x, e)
		}
	}
}

// P7.3: a nil reader.
func TestGetOfANilReader(t *testing.T) {
	if d, e := Get(nil); d != (api.Deed{}) || e != api.ErrState {
		t.Errorf("Get(nil) = %+v, %d", d, e)
	}
}

// P7.3: what an invalid instruction leaves is read on.
func TestGetOfOneAfterAnother(t *testing.T) {
	r := wire.Read([]byte{9, 64, 12, 5, 1, 0, 8, 3, 4})
	for _, c := range []struct {
		d api.Deed
		e api.Errno
	}{{api.Deed{}, api.ErrRange}, {api.Deed{}, api.ErrForm}, {api.Deed{Op: 5}, api.OK}, {api.Deed{}, api.ErrRange}, {api.Deed{Op: 8, R: 3, B: 4}, api.OK}, {api.Deed{}, api.ErrShort}, {api.Deed{}, api.ErrShort}} {
		if d, e := Get(r); d != c.d || e != c.e {
			t.Errorf("Get = %+v, %d, want %+v, %d", d, e, c.d, c.e)
		}
	}
}

// P7.4: a valid instruction is parsed from its line, and read from its encoding.
func TestRoundTrips(t *testing.T) {
	hold := func(d api.Deed) {
		if !Good(d) {
			return
		}
		if x, e := Parse(Line(d)); x != d || e != api.OK {
			t.Fatalf("Parse(%q) = %+v, %d, want %+v", Line(d), x, e, d)
		}
		w := wire.New(100)
		Put(w, d)
		b, _ := w.Done()
		r := wire.Read(b)
		if x, e := Get(r); x != d || e != api.OK || r.Done() != api.OK {
			t.Fatalf("Get of % x = %+v, %d, want %+v", b, x, e, d)
		}
	}
	for _, d := range goodDeeds() {
		hold(d)
	}
	eachDeed(hold)
}

// P7.4: many instructions, written one after the other, are read back in order.
func TestRoundTripOfMany(t *testing.T) {
	w := wire.New(1 << 20)
	for _, d := range goodDeeds() {
		Put(w, d)
	}
	b, e := w.Done()
	if e != api.OK {
		t.Fatal(e)
	}
	r := wire.Read(b)
	for _, d := range goodDeeds() {
		if x, e := Get(r); x != d || e != api.OK {
			t.Fatalf("Get = %+v, %d, want %+v", x, e, d)
		}
	}
	if e := r.Done(); e != api.OK {
		t.Error(e)
	}
}

// P7.4: no two valid instructions share a line or an encoding.
func TestLinesAndEncodingsDiffer(t *testing.T) {
	lines, encodings := map[string]api.Deed{}, map[string]api.Deed{}
	for _, d := range goodDeeds() {
		w := wire.New(100)
		Put(w, d)
		b, _ := w.Done()
		if other, ok := lines[Line(d)]; ok && other != d {
			t.Fatalf("%+v and %+v have the line %q", d, other, Line(d))
		}
		if other, ok := encodings[string(b)]; ok && other != d {
			t.Fatalf("%+v and %+v are encoded as % x", d, other, b)
		}
		lines[Line(d)], encodings[string(b)] = d, d
	}
}

// The chapter's example.
func TestExample(t *testing.T) {
	if s := Line(api.Deed{Op: 10, A: 3, N: 20}); s != "timed 3 20" {
		t.Error(s)
	}
	if d, e := Parse("yield 1"); d != (api.Deed{}) || e != api.ErrForm {
		t.Error(d, e)
	}
	if d, e := Parse("work 0"); d != (api.Deed{}) || e != api.ErrRange {
		t.Error(d, e)
	}
}
