package prog

import (
	"bytes"
	"fmt"
	"math"
	"math/big"
	"regexp"
	"slices"
	"strings"
	"testing"

	"bosun/api"
	"bosun/deed"
	"bosun/wire"
)

// letters are instructions that matter to a program, each with a letter, so that a program can be written as a word; x and z are not valid.
var letters = map[byte]api.Deed{
	'w': {Op: api.Work, N: 1},
	'W': {Op: api.Work, N: 65536},
	'l': {Op: api.Lock, A: 3},
	'L': {Op: api.Lock, A: 63},
	't': {Op: api.TimedLock, A: 3, N: 7},
	'T': {Op: api.TimedLock, A: 63},
	'u': {Op: api.Unlock, A: 3},
	'U': {Op: api.Unlock, A: 63},
	'e': {Op: api.Exit, N: 5},
	'y': {Op: api.Yield},
	's': {Op: api.Spawn, A: 9, B: 2, R: 4, Mask: 300, Loose: true},
	'j': {Op: api.Join, R: 7},
	'n': {Op: api.Sleep, N: math.MaxUint64},
	'm': {Op: api.SetMask, R: 1, Mask: 1 << 63},
	'g': {Op: api.SetGrade, R: 6, B: 7},
	'x': {Op: api.Yield, N: 1},
	'z': {Op: api.Lock, A: 64},
}

// program returns the program that the word writes.
func program(word string) []api.Deed {
	var p []api.Deed
	for i := range len(word) {
		d, ok := letters[word[i]]
		if !ok {
			panic(word)
		}
		p = append(p, d)
	}
	return p
}

// eachWord calls f with all words of at most n of these letters.
func eachWord(from string, n int, f func(word string)) {
	words := []string{""}
	for range n + 1 {
		var longer []string
		for _, word := range words {
			f(word)
			for _, letter := range from {
				longer = append(longer, word+string(letter))
			}
		}
		words = longer
	}
}

// validWord reports whether the word's program is valid.
func validWord(word string) bool {
	return len(word) <= 256 && !strings.ContainsAny(word, "xz")
}

// A simple program consists of holds, each of a lock that is then unlocked, and of instructions that have nothing to do with locks.
var (
	simpleForm = regexp.MustCompile(`\A(?:[wWeysjnmg]|[lt][wW]*u|[LT][wW]*U)*\z`)
	holdForm   = regexp.MustCompile(`[ltLT][wW]*[uU]`)
)

// workIn is the sum of N of the works in a word.
func workIn(word string) uint64 {
	return uint64(strings.Count(word, "w")) + 65536*uint64(strings.Count(word, "W"))
}

// simpleByWords is what the chapter says of the holds of a word's program.
func simpleByWords(word string) (uint64, bool) {
	if !validWord(word) || !simpleForm.MatchString(word) {
		return 0, false
	}
	var most uint64
	for _, hold := range holdForm.FindAllString(word, -1) {
		most = max(most, workIn(hold)+1)
	}
	return most, true
}

// stepsByWords is the number of steps of a word's program.
func stepsByWords(word string) uint64 {
	if !validWord(word) {
		return 0
	}
	others := len(word) - strings.Count(word, "w") - strings.Count(word, "W")
	steps := workIn(word) + uint64(others)
	if !strings.HasSuffix(word, "e") {
		steps++
	}
	return steps
}

// locksByWords is the set of the locks that a word's program takes.
func locksByWords(word string) uint64 {
	if !validWord(word) {
		return 0
	}
	var s uint64
	if strings.ContainsAny(word, "lt") {
		s += 1 << 3
	}
	if strings.ContainsAny(word, "LT") {
		s += 1 << 63
	}
	return s
}

// longWords are words of programs at the greatest length, below and above it.
func longWords() []string {
	var l []string
	for _, n := range []int{100, 254, 255, 256, 257, 258, 300, 512, 1000} {
		l = append(l, strings.Repeat("y", n), strings.Repeat("W", n), strings.Repeat("w", n-1)+"e", strings.Repeat("e", n-1)+"w", strings.Repeat("s", n))
		l = append(l, "l"+strings.Repeat("W", n-2)+"u", "L"+strings.Repeat("W", n-2)+"u", strings.Repeat("y", n-2)+"TU", strings.Repeat("w", n-1)+"l", "u"+strings.Repeat("w", n-1))
		l = append(l, "x"+strings.Repeat("y", n-1), strings.Repeat("y", n-1)+"x", strings.Repeat("x", n), "lu"+strings.Repeat("y", n-3)+"z")
	}
	return append(l, strings.Repeat("lu", 128), strings.Repeat("lu", 129), strings.Repeat("lwuTWWU", 36), strings.Repeat("lwuTWWU", 37))
}

// eachProgram calls f with short words, all of them of their letters, and with long ones.
func eachProgram(f func(word string)) {
	eachWord("wWlLtuUeyx", 4, f)
	eachWord("wlTuUy", 6, f)
	eachWord("wWlLtTuUeysjnmgxz", 3, f)
	for _, word := range longWords() {
		f(word)
	}
}

// P8.1: Check, of programs of all kinds.
func TestCheck(t *testing.T) {
	eachProgram(func(word string) {
		want := api.OK
		switch {
		case len(word) > 256:
			want = api.ErrLong
		case !validWord(word):
			want = api.ErrArg
		}
		if e := Check(program(word)); e != want {
			t.Fatalf("Check of %.40q = %d, want %d", word, e, want)
		}
	})
	if Check(nil) != api.OK || Check([]api.Deed{}) != api.OK {
		t.Error("an empty program is valid")
	}
}

// P8.1: one invalid instruction at any place makes the program invalid, of whatever kind it is.
func TestCheckOfOneInvalidInstruction(t *testing.T) {
	for _, bad := range []api.Deed{{}, {Op: -1}, {Op: 12}, {Op: math.MinInt}, {Op: math.MaxInt}, {Op: api.Work}, {Op: api.Work, N: 65537}, {Op: api.Lock, A: -1}, {Op: api.Lock, A: 64}, {Op: api.Unlock, A: math.MaxInt}, {Op: api.Join, R: 8}, {Op: api.Exit, A: 1}, {Op: api.Yield, Loose: true}} {
		for i := range 256 {
			p := program(strings.Repeat("y", 256))
			p[i] = bad
			if e := Check(p); e != api.ErrArg {
				t.Fatalf("Check with %+v at %d = %d", bad, i, e)
			}
			if n, ok := Simple(p); Steps(p) != 0 || Locks(p) != 0 || n != 0 || ok {
				t.Fatalf("with %+v at %d: %d steps, locks %x, simple %d, %t", bad, i, Steps(p), Locks(p), n, ok)
			}
		}
		if e := Check(append(program(strings.Repeat("y", 256)), bad)); e != api.ErrLong {
			t.Errorf("Check with %+v behind 256 = %d", bad, e)
		}
	}
}

// P8.1: Steps, of programs of all kinds.
func TestSteps(t *testing.T) {
	eachProgram(func(word string) {
		if n, want := Steps(program(word)), stepsByWords(word); n != want {
			t.Fatalf("Steps of %.40q = %d, want %d", word, n, want)
		}
	})
}

// P8.1: numbers of steps, written out.
func TestStepsInFull(t *testing.T) {
	for _, c := range []struct {
		p    []api.Deed
		want uint64
	}{
		{nil, 1}, {[]api.Deed{}, 1}, {[]api.Deed{{Op: api.Exit}}, 1}, {[]api.Deed{{Op: api.Exit, N: 9}, {Op: api.Exit, N: 9}}, 2}, {[]api.Deed{{Op: api.Yield}}, 2},
		{[]api.Deed{{Op: api.Work, N: 5}}, 6}, {[]api.Deed{{Op: api.Work, N: 5}, {Op: api.Exit, N: 100}}, 6}, {[]api.Deed{{Op: api.Exit, N: 100}, {Op: api.Work, N: 5}}, 7}, {[]api.Deed{{Op: api.Sleep, N: 100}}, 2}, {[]api.Deed{{Op: api.TimedLock, A: 50, N: 100}}, 2},
		{[]api.Deed{{Op: api.Work, N: 65536}, {Op: api.Work, N: 65536}}, 131073}, {slices.Repeat([]api.Deed{{Op: api.Work, N: 65536}}, 256), 1<<24 + 1}, {slices.Repeat([]api.Deed{{Op: api.Work, N: 65536}}, 257), 0},
		{[]api.Deed{{}}, 0}, {[]api.Deed{{Op: api.Work}}, 0}, {[]api.Deed{{Op: api.Work, N: 65537}}, 0}, {[]api.Deed{{Op: api.Work, N: 3}, {Op: api.Exit, B: 1}}, 0}, {[]api.Deed{{Op: api.Work, N: math.MaxUint64}, {Op: api.Work, N: math.MaxUint64}}, 0},
	} {
		if n := Steps(c.p); n != c.want {
			t.Errorf("Steps(%.200s) = %d, want %d", fmt.Sprint(c.p), n, c.want)
		}
	}
}

// P8.2: Simple, of programs of all kinds.
func TestSimple(t *testing.T) {
	simple := 0
	eachProgram(func(word string) {
		want, wantOk := simpleByWords(word)
		if n, ok := Simple(program(word)); n != want || ok != wantOk {
			t.Fatalf("Simple of %.40q = %d, %t, want %d, %t", word, n, ok, want, wantOk)
		}
		if wantOk {
			simple++
		}
	})
	if simple < 1000 {
		t.Errorf("only %d simple programs", simple)
	}
}

// P8.2: programs that are simple and such that are not, written out.
func TestSimpleInFull(t *testing.T) {
	for _, c := range []struct {
		word string
		want uint64
		ok   bool
	}{
		{"", 0, true}, {"y", 0, true}, {"e", 0, true}, {"wWesjnmgy", 0, true}, {"lu", 1, true}, {"tu", 1, true}, {"LU", 1, true}, {"TU", 1, true}, {"lwu", 2, true}, {"lwwwu", 4, true}, {"lWu", 65537, true}, {"tWwWu", 131074, true},
		{"lwulwwu", 3, true}, {"lwwulwu", 3, true}, {"lwwuTwU", 3, true}, {"lwuTwwUlu", 3, true}, {"lulu", 1, true}, {"WluW", 1, true}, {"elue", 1, true}, {"lue", 1, true}, {"yelWuye", 65537, true},
		{"l", 0, false}, {"t", 0, false}, {"lw", 0, false}, {"luL", 0, false}, {"u", 0, false}, {"wu", 0, false}, {"ul", 0, false}, {"luu", 0, false}, {"lwuwu", 0, false}, {"luyu", 0, false}, {"lueu", 0, false},
		{"lU", 0, false}, {"Lu", 0, false}, {"tU", 0, false}, {"lwU", 0, false}, {"lUu", 0, false}, {"llu", 0, false}, {"lluu", 0, false}, {"lLUu", 0, false}, {"lLuU", 0, false}, {"ltu", 0, false}, {"lTU", 0, false},
		{"lyu", 0, false}, {"leu", 0, false}, {"lwyu", 0, false}, {"lywu", 0, false}, {"lsu", 0, false}, {"lju", 0, false}, {"lnu", 0, false}, {"lmu", 0, false}, {"lgu", 0, false}, {"le", 0, false},
		{"lux", 0, false}, {"xlu", 0, false}, {"lxu", 0, false}, {"x", 0, false}, {"z", 0, false}, {"zu", 0, false},
		{"l" + strings.Repeat("W", 254) + "u", 254*65536 + 1, true}, {"l" + strings.Repeat("W", 255) + "u", 0, false}, {"l" + strings.Repeat("W", 255), 0, false}, {strings.Repeat("lu", 128), 1, true}, {strings.Repeat("lu", 128) + "y", 0, false},
	} {
		if n, ok := Simple(program(c.word)); n != c.want || ok != c.ok {
			t.Errorf("Simple of %.40q = %d, %t, want %d, %t", c.word, n, ok, c.want, c.ok)
		}
	}
}

// P8.2: of all pairs of locks, only an unlock of the same one ends a hold; and both waits name their lock.
func TestEachPairOfLocks(t *testing.T) {
	for a := range 64 {
		for b := range 64 {
			for _, first := range []api.Deed{{Op: api.Lock, A: a}, {Op: api.TimedLock, A: a, N: uint64(b)}} {
				p := []api.Deed{first, {Op: api.Work, N: uint64(a + 1)}, {Op: api.Unlock, A: b}}
				want, wantOk := uint64(a+2), true
				if a != b {
					want, wantOk = 0, false
				}
				if n, ok := Simple(p); n != want || ok != wantOk {
					t.Fatalf("Simple of locks %d, %d = %d, %t", a, b, n, ok)
				}
				if s := Locks(append(p, api.Deed{Op: api.Lock, A: b})); s != uint64(1)<<a|uint64(1)<<b {
					t.Fatalf("Locks of %d, %d = %x", a, b, s)
				}
				if s := Locks(p); s != uint64(1)<<a {
					t.Fatalf("Locks of a lock of %d and an unlock of %d = %x", a, b, s)
				}
			}
		}
	}
}

// P8.2: Locks, of programs of all kinds.
func TestLocks(t *testing.T) {
	eachProgram(func(word string) {
		if s, want := Locks(program(word)), locksByWords(word); s != want {
			t.Fatalf("Locks of %.40q = %x, want %x", word, s, want)
		}
	})
	var all, unlocks []api.Deed
	for a := range 64 {
		all = append(all, api.Deed{Op: []int{api.Lock, api.TimedLock}[a%2], A: a})
		unlocks = append(unlocks, api.Deed{Op: api.Unlock, A: a}, api.Deed{Op: api.Spawn, A: a})
	}
	if s := Locks(all); s != math.MaxUint64 {
		t.Errorf("Locks of all = %x", s)
	}
	if s := Locks(unlocks); s != 0 {
		t.Errorf("Locks without a lock = %x", s)
	}
	if Locks(nil) != 0 || Locks(append(all, api.Deed{Op: api.Lock, A: 64})) != 0 {
		t.Error("locks of an empty program, or of one that is not valid")
	}
}

// textByWords is the text of a program.
func textByWords(p []api.Deed) string {
	s := ""
	for _, d := range p {
		s += deed.Line(d) + "\n"
	}
	return s
}

// P8.3: Text, of programs of all kinds, valid and not.
func TestText(t *testing.T) {
	eachProgram(func(word string) {
		p := program(word)
		if s, want := Text(p), textByWords(p); s != want {
			t.Fatalf("Text of %.40q = %.80q, want %.80q", word, s, want)
		}
	})
	for _, c := range []struct {
		p    []api.Deed
		want string
	}{
		{nil, ""}, {[]api.Deed{}, ""}, {program("y"), "yield\n"}, {program("lwu"), "lock 3\nwork 1\nunlock 3\n"}, {program("sx"), "spawn 9 2 4 000000000000012c loose\n?\n"},
		{[]api.Deed{{}}, "?\n"}, {[]api.Deed{{Op: math.MinInt}, {Op: api.Work, N: 65537}, {Op: api.Exit}}, "?\n?\nexit 0\n"}, {program(strings.Repeat("y", 300)), strings.Repeat("yield\n", 300)}, {program(strings.Repeat("x", 300)), strings.Repeat("?\n", 300)},
	} {
		if s := Text(c.p); s != c.want {
			t.Errorf("Text = %.80q, want %.80q", s, c.want)
		}
	}
}

// linesByWords are the lines of a text, each of which is followed by a line feed, but perhaps for the last one.
func linesByWords(s string) []string {
	l := strings.Split(s, "\n")
	if l[len(l)-1] == "" {
		l = l[:len(l)-1]
	}
	return l
}

// parseByWords is what P8.3 says of a text.
func parseByWords(s string) ([]api.Deed, int, api.Errno) {
	l := linesByWords(s)
	if len(l) > 256 {
		return nil, 0, api.ErrLong
	}
	var p []api.Deed
	for i, line := range l {
		d, e := deed.Parse(line)
		if e != api.OK {
			return nil, i, e
		}
		p = append(p, d)
	}
	return p, len(l), api.OK
}

// holdParse holds one call of Parse against the chapter's words.
func holdParse(t *testing.T, s string) {
	t.Helper()
	want, wantN, wantErr := parseByWords(s)
	if p, n, e := Parse(s); !slices.Equal(p, want) || n != wantN || e != wantErr {
		t.Fatalf("Parse(%.60q) = %.200s, %d, %d, want %.200s, %d, %d", s, fmt.Sprint(p), n, e, fmt.Sprint(want), wantN, wantErr)
	}
}

// P8.3: Parse, of all short texts made of these pieces.
func TestParse(t *testing.T) {
	pieces := []string{"\n", "yield", " ", "work 2", "lock 64", "oh", "\r"}
	texts := []string{""}
	for range 7 {
		var next []string
		for _, s := range texts {
			holdParse(t, s)
			for _, piece := range pieces {
				next = append(next, s+piece)
			}
		}
		texts = next
	}
}

// P8.3: Parse, of the texts of programs of all kinds, whole, without the last line feed, and with one more.
func TestParseOfTexts(t *testing.T) {
	eachProgram(func(word string) {
		s := textByWords(program(word))
		holdParse(t, s)
		holdParse(t, strings.TrimSuffix(s, "\n"))
		holdParse(t, s+"\n")
	})
}

// P8.3: the results, written out.
func TestParseInFull(t *testing.T) {
	y := strings.Repeat("yield\n", 256)
	for _, c := range []struct {
		s    string
		want []api.Deed
		n    int
		e    api.Errno
	}{
		{"", nil, 0, api.OK}, {"yield", program("y"), 1, api.OK}, {"yield\n", program("y"), 1, api.OK}, {"yield\nyield", program("yy"), 2, api.OK}, {"lock 3\nwork 1\nunlock 3\n", program("lwu"), 3, api.OK}, {"  exit   5  \n   join 7", program("ej"), 2, api.OK},
		{"\n", nil, 0, api.ErrWord}, {" ", nil, 0, api.ErrWord}, {" \n", nil, 0, api.ErrWord}, {"\n\n", nil, 0, api.ErrWord}, {"yield\n\n", nil, 1, api.ErrWord}, {"\nyield", nil, 0, api.ErrWord}, {"yield\n\nyield\n", nil, 1, api.ErrWord}, {"yield\n ", nil, 1, api.ErrWord},
		{"yield\r\n", nil, 0, api.ErrWord}, {"yield\ryield", nil, 0, api.ErrWord}, {"yield\n\x00", nil, 1, api.ErrWord}, {"?\n", nil, 0, api.ErrWord}, {"yield;yield", nil, 0, api.ErrWord}, {"yield yield", nil, 0, api.ErrForm},
		{"yield\nyield 1\n", nil, 1, api.ErrForm}, {"yield\nyield\nwork 0", nil, 2, api.ErrRange}, {"work 0\nyield 1\noh", nil, 0, api.ErrRange}, {"yield 1\nwork 0\noh", nil, 0, api.ErrForm}, {"oh\nyield 1\nwork 0", nil, 0, api.ErrWord}, {"yield\nlock 64\n\n", nil, 1, api.ErrRange},
		{y, program(strings.Repeat("y", 256)), 256, api.OK}, {strings.TrimSuffix(y, "\n"), program(strings.Repeat("y", 256)), 256, api.OK}, {y + "\n", nil, 0, api.ErrLong}, {y + "y", nil, 0, api.ErrLong}, {y + "yield", nil, 0, api.ErrLong}, {y + "yield\n", nil, 0, api.ErrLong}, {y + " ", nil, 0, api.ErrLong}, {y + y, nil, 0, api.ErrLong}, {"oh\n" + y, nil, 0, api.ErrLong},
		{strings.TrimSuffix(y, "yield\n") + "oh", nil, 255, api.ErrWord}, {strings.TrimSuffix(y, "yield\n") + "\n", nil, 255, api.ErrWord}, {strings.TrimSuffix(y, "yield\n") + "work 0\n", nil, 255, api.ErrRange},
		{strings.Repeat("\n", 256), nil, 0, api.ErrWord}, {strings.Repeat("\n", 257), nil, 0, api.ErrLong}, {strings.Repeat("\n", 1<<24), nil, 0, api.ErrLong}, {strings.Repeat("x", 1<<20), nil, 0, api.ErrWord}, {strings.Repeat("yield ", 1<<16), nil, 0, api.ErrForm}, {strings.Repeat(" ", 1<<20) + "yield\n" + strings.Repeat(" ", 1<<20) + "yield", program("yy"), 2, api.OK},
	} {
		if p, n, e := Parse(c.s); !slices.Equal(p, c.want) || n != c.n || e != c.e {
			t.Errorf("Parse(%.60q) = %d instructions, %d, %d, want %d, %d, %d", c.s, len(p), n, e, len(c.want), c.n, c.e)
		}
	}
}

// P8.3: an error at each line, in texts of all lengths, is told of that line.
func TestParseTellsTheLine(t *testing.T) {
	for n := 1; n <= 256; n += 17 {
		for i := range n {
			l := slices.Repeat([]string{"work 7"}, n)
			l[i] = "join 8"
			if i+2 < n {
				l[i+2] = "oh"
			}
			for _, end := range []string{"", "\n"} {
				if p, k, e := Parse(strings.Join(l, "\n") + end); len(p) != 0 || k != i || e != api.ErrRange {
					t.Fatalf("Parse with an error at %d of %d = %v, %d, %d", i, n, p, k, e)
				}
			}
		}
	}
}

// numberBytes is the encoding of a number.
func numberBytes(x uint64) []byte {
	digits := new(big.Int).SetUint64(x).Bytes()
	return append([]byte{byte(len(digits))}, digits...)
}

// deedBytes is the encoding of an instruction.
func deedBytes(d api.Deed) []byte {
	w := wire.New(100)
	deed.Put(w, d)
	b, _ := w.Done()
	return b
}

// bytesByWords is the encoding of a valid program.
func bytesByWords(p []api.Deed) []byte {
	b := numberBytes(uint64(len(p)))
	for _, d := range p {
		b = append(b, deedBytes(d)...)
	}
	return b
}

// P8.4: Encode and Put, of programs of all kinds; Put behind a byte that is there already.
func TestEncodeAndPut(t *testing.T) {
	eachProgram(func(word string) {
		p := program(word)
		var want []byte
		e := Check(p)
		if e == api.OK {
			want = bytesByWords(p)
		}
		if b, x := Encode(p); !bytes.Equal(b, want) || x != e {
			t.Fatalf("Encode of %.40q = %.40x, %d, want %.40x, %d", word, b, x, want, e)
		}
		w := wire.New(1 << 20)
		w.Byte(77)
		Put(w, p)
		w.Byte(78)
		if b, x := w.Done(); !bytes.Equal(b, append(append([]byte{77}, want...), 78)) || x != api.OK {
			t.Fatalf("Put of %.40q writes %.40x, %d, want %.40x", word, b, x, want)
		}
	})
}

// P8.4: encodings, written out, which are read back.
func TestEncodings(t *testing.T) {
	for _, c := range []struct {
		p []api.Deed
		b []byte
	}{
		{nil, []byte{0}}, {program("y"), []byte{1, 1, 5}}, {program("yy"), []byte{1, 2, 5, 5}}, {program("lwu"), []byte{1, 3, 9, 3, 1, 1, 1, 11, 3}}, {program("W"), []byte{1, 1, 1, 3, 1, 0, 0}}, {program("tT"), []byte{1, 2, 10, 3, 1, 7, 10, 63, 0}},
		{program("s"), []byte{1, 1, 2, 9, 2, 4, 2, 1, 44, 1}}, {program("ejg"), []byte{1, 3, 3, 1, 5, 4, 7, 8, 6, 7}}, {program("m"), []byte{1, 1, 7, 1, 8, 128, 0, 0, 0, 0, 0, 0, 0}},
		{program(strings.Repeat("y", 255)), append([]byte{1, 255}, bytes.Repeat([]byte{5}, 255)...)}, {program(strings.Repeat("y", 256)), append([]byte{2, 1, 0}, bytes.Repeat([]byte{5}, 256)...)},
	} {
		if b, e := Encode(c.p); !bytes.Equal(b, c.b) || e != api.OK {
			t.Errorf("Encode = %.40x, %d, want %.40x", b, e, c.b)
		}
		if p, e := Decode(c.b); !slices.Equal(p, c.p) || e != api.OK {
			t.Errorf("Decode of %.40x = %d instructions, %d", c.b, len(p), e)
		}
	}
}

// P8.4: the errors of Encode are those of Check, with no bytes; the longest encoding there is has room.
func TestEncodeErrors(t *testing.T) {
	for word, want := range map[string]api.Errno{"x": api.ErrArg, "yz": api.ErrArg, strings.Repeat("y", 257): api.ErrLong, strings.Repeat("x", 257): api.ErrLong, strings.Repeat("y", 255) + "x": api.ErrArg} {
		if b, e := Encode(program(word)); len(b) != 0 || e != want {
			t.Errorf("Encode of %.40q = %.40x, %d, want %d", word, b, e, want)
		}
	}
	p := slices.Repeat([]api.Deed{{Op: api.Spawn, A: 63, B: 7, R: 7, Mask: math.MaxUint64, Loose: true}}, 256)
	if b, e := Encode(p); len(b) != 3+256*14 || e != api.OK {
		t.Errorf("Encode of the longest = %d bytes, %d", len(b), e)
	}
}

// P8.4: a writer without enough room has its own error; one that has failed, and a nil one, take nothing.
func TestPutWithoutRoom(t *testing.T) {
	for _, word := range []string{"", "y", "lwu", "sTeW", "nmgj", strings.Repeat("y", 256)} {
		p := program(word)
		for most := range len(bytesByWords(p)) {
			w := wire.New(most)
			Put(w, p)
			if b, e := w.Done(); len(b) != 0 || e != api.ErrLong {
				t.Fatalf("Put of %.40q in %d bytes writes %.40x, %d", word, most, b, e)
			}
		}
		w := wire.New(len(bytesByWords(p)))
		Put(w, p)
		if b, e := w.Done(); !bytes.Equal(b, bytesByWords(p)) || e != api.OK {
			t.Fatalf("Put of %.40q in as many bytes as it needs writes %.40x, %d", word, b, e)
		}
		Put(nil, p)
	}
	w := wire.New(0)
	Put(w, program("yx"))
	if b, e := w.Done(); len(b) != 0 || e != api.OK {
		t.Error(b, e)
	}
	Put(nil, program("x"))
}

// countByWords is what chapter 4 says of reading a number from b: it, its error, and what is left.
func countByWords(b []byte) (uint64, api.Errno, []byte) {
	if len(b) == 0 {
		return 0, api.ErrShort, nil
	}
	n := int(b[0])
	switch {
	case n > 8:
		return 0, api.ErrForm, nil
	case len(b) < 1+n:
		return 0, api.ErrShort, nil
	case n > 0 && b[1] == 0:
		return 0, api.ErrForm, nil
	}
	return new(big.Int).SetBytes(b[1 : 1+n]).Uint64(), api.OK, b[1+n:]
}

// getByWords is what P8.4 says of reading a program from b: it, its error, and what is left if there is no error or the program is too long.
func getByWords(b []byte) ([]api.Deed, api.Errno, []byte) {
	n, e, rest := countByWords(b)
	if e != api.OK {
		return nil, e, nil
	}
	if n > 256 {
		return nil, api.ErrLong, rest
	}
	var p []api.Deed
	for range n {
		r := wire.Read(rest)
		d, e := deed.Get(r)
		if e != api.OK {
			return nil, e, nil
		}
		p = append(p, d)
		rest = rest[len(rest)-r.Left():]
	}
	return p, api.OK, rest
}

// holdGet holds one call of Get and one of Decode against the chapter's words, with what Get leaves in the reader.
func holdGet(t *testing.T, b []byte) {
	t.Helper()
	want, wantErr, rest := getByWords(b)
	r := wire.Read(b)
	if p, e := Get(r); !slices.Equal(p, want) || e != wantErr {
		t.Fatalf("Get of %.40x = %.200s, %d, want %.200s, %d", b, fmt.Sprint(p), e, fmt.Sprint(want), wantErr)
	}
	if (wantErr == api.OK || wantErr == api.ErrLong) && (r.Err() != api.OK || r.Left() != len(rest)) {
		t.Fatalf("after Get of %.40x: error %d, %d left, want %d", b, r.Err(), r.Left(), len(rest))
	}
	if wantErr == api.OK && len(rest) > 0 {
		want, wantErr = nil, api.ErrForm
	}
	if p, e := Decode(b); !slices.Equal(p, want) || e != wantErr {
		t.Fatalf("Decode of %.40x = %.200s, %d, want %.200s, %d", b, fmt.Sprint(p), e, fmt.Sprint(want), wantErr)
	}
}

// P8.4: Get and Decode, of all short inputs of those bytes that matter.
func TestGetAndDecode(t *testing.T) {
	all := [][]byte{nil}
	for range 7 {
		var next [][]byte
		for _, b := range all {
			holdGet(t, b)
			for _, x := range []byte{0, 1, 2, 5, 9, 64} {
				next = append(next, append(slices.Clone(b), x))
			}
		}
		all = next
	}
	for x := range 256 {
		for _, rest := range [][]byte{nil, {0}, {1}, {1, 5}, bytes.Repeat([]byte{5}, 40), make([]byte, 40), bytes.Repeat([]byte{255}, 40)} {
			holdGet(t, append([]byte{byte(x)}, rest...))
			holdGet(t, append([]byte{1, byte(x)}, rest...))
			holdGet(t, append([]byte{1, 2, 5, byte(x)}, rest...))
		}
	}
}

// P8.4: every encoding, whole, cut short, with bytes behind it, and with one of its bytes replaced.
func TestGetOfNearlyEncodings(t *testing.T) {
	for _, word := range []string{"", "y", "e", "lwu", "LWU", "sTeW", "nmgj", "wWlLtTuUeysjnmg", strings.Repeat("ws", 20)} {
		b := bytesByWords(program(word))
		for i := range b {
			holdGet(t, b[:i])
			for _, x := range []byte{0, 1, 2, 5, 7, 8, 9, 11, 12, 63, 64, 128, 255} {
				other := slices.Clone(b)
				other[i] = x
				holdGet(t, other)
				holdGet(t, append(other, 5, 5, 5))
			}
		}
		holdGet(t, b)
		holdGet(t, append(slices.Clone(b), 0))
		holdGet(t, append(slices.Clone(b), b...))
	}
	for _, n := range []uint64{0, 1, 254, 255, 256, 257, 258, 511, 512, 65535, 65536, 1<<16 + 1, 1 << 32, 1<<32 + 1, 1 << 63, math.MaxUint64} {
		for _, yields := range []int{0, 1, 254, 255, 256, 257, 512} {
			holdGet(t, append(numberBytes(n), bytes.Repeat([]byte{5}, yields)...))
			holdGet(t, append(numberBytes(n), bytes.Repeat([]byte{0}, yields)...))
		}
	}
}

// P8.4: the errors, and which of two comes first.
func TestGetErrors(t *testing.T) {
	for _, c := range []struct {
		b      []byte
		get    api.Errno
		decode api.Errno
	}{
		{nil, api.ErrShort, api.ErrShort}, {[]byte{1}, api.ErrShort, api.ErrShort}, {[]byte{2, 0}, api.ErrShort, api.ErrShort}, {[]byte{9}, api.ErrForm, api.ErrForm}, {[]byte{1, 0}, api.ErrForm, api.ErrForm}, {[]byte{2, 0, 5, 5}, api.ErrForm, api.ErrForm}, {[]byte{255, 1, 5}, api.ErrForm, api.ErrForm},
		{[]byte{2, 1, 1}, api.ErrLong, api.ErrLong}, {[]byte{2, 1, 1, 0}, api.ErrLong, api.ErrLong}, {[]byte{8, 255, 255, 255, 255, 255, 255, 255, 255}, api.ErrLong, api.ErrLong}, {[]byte{8, 1, 0, 0, 0, 0, 0, 0, 0}, api.ErrLong, api.ErrLong}, {[]byte{5, 1, 0, 0, 0, 1, 5}, api.ErrLong, api.ErrLong}, {append([]byte{2, 1, 1}, bytes.Repeat([]byte{5}, 257)...), api.ErrLong, api.ErrLong},
		{[]byte{1, 1}, api.ErrShort, api.ErrShort}, {[]byte{1, 2, 5}, api.ErrShort, api.ErrShort}, {[]byte{2, 1, 0}, api.ErrShort, api.ErrShort}, {[]byte{1, 1, 9}, api.ErrShort, api.ErrShort}, {[]byte{1, 1, 0}, api.ErrForm, api.ErrForm}, {[]byte{1, 1, 12}, api.ErrForm, api.ErrForm}, {[]byte{1, 1, 9, 64}, api.ErrRange, api.ErrRange}, {[]byte{1, 1, 1, 0}, api.ErrRange, api.ErrRange}, {[]byte{1, 1, 1, 1, 0}, api.ErrForm, api.ErrForm},
		{[]byte{1, 2, 9, 64, 12}, api.ErrRange, api.ErrRange}, {[]byte{1, 2, 12, 9, 64}, api.ErrForm, api.ErrForm}, {[]byte{1, 2, 9, 64}, api.ErrRange, api.ErrRange}, {[]byte{1, 1, 9, 64, 5}, api.ErrRange, api.ErrRange}, {[]byte{1, 1, 12, 5}, api.ErrForm, api.ErrForm},
		{[]byte{0, 0}, api.OK, api.ErrForm}, {[]byte{0, 5}, api.OK, api.ErrForm}, {[]byte{1, 1, 5, 5}, api.OK, api.ErrForm}, {[]byte{1, 1, 5, 0}, api.OK, api.ErrForm}, {[]byte{0}, api.OK, api.OK}, {[]byte{1, 1, 5}, api.OK, api.OK},
	} {
		if p, e := Get(wire.Read(c.b)); e != c.get || e != api.OK && len(p) != 0 {
			t.Errorf("Get of %.40x = %v, %d, want %d", c.b, p, e, c.get)
		}
		if p, e := Decode(c.b); e != c.decode || e != api.OK && len(p) != 0 {
			t.Errorf("Decode of %.40x = %v, %d, want %d", c.b, p, e, c.decode)
		}
	}
}

// P8.4: a reader that has failed already keeps its first error, whatever bytes would follow; so does a nil one.
func TestGetAfterAnError(t *testing.T) {
	for _, word := range []string{"", "y", "lwu", "sTeW", strings.Repeat("y", 256)} {
		b := bytesByWords(program(word))
		r := wire.Read(append([]byte{2}, b...))
		r.Truth()
		if p, e := Get(r); len(p) != 0 || e != api.ErrForm {
			t.Errorf("Get of %.40q after ErrForm = %v, %d", word, p, e)
		}
		r = wire.Read(append([]byte{1, 200}, b...))
		r.Upto(100)
		if p, e := Get(r); len(p) != 0 || e != api.ErrRange {
			t.Errorf("Get of %.40q after ErrRange = %v, %d", word, p, e)
		}
		r = wire.Read(b)
		for r.Err() == api.OK {
			r.Byte()
		}
		if p, e := Get(r); len(p) != 0 || e != api.ErrShort {
			t.Errorf("Get of %.40q after ErrShort = %v, %d", word, p, e)
		}
	}
	if p, e := Get(nil); len(p) != 0 || e != api.ErrState {
		t.Errorf("Get(nil) = %v, %d", p, e)
	}
}

// P8.4: programs that were put one after the other, between other elements, are got in that order.
func TestGetOfOneAfterAnother(t *testing.T) {
	words := []string{"lwu", "", "y", strings.Repeat("s", 256), "", "wWlLtTuUeysjnmg"}
	w := wire.New(1 << 20)
	for i, word := range words {
		Put(w, program(word))
		Put(w, program(word+"x"))
		w.Num(uint64(i))
	}
	b, e := w.Done()
	if e != api.OK {
		t.Fatal(e)
	}
	r := wire.Read(b)
	for i, word := range words {
		if p, e := Get(r); !slices.Equal(p, program(word)) || e != api.OK {
			t.Fatalf("Get of %.40q = %d instructions, %d", word, len(p), e)
		}
		if x := r.Num(); x != uint64(i) {
			t.Fatalf("%d behind %.40q", x, word)
		}
	}
	if e := r.Done(); e != api.OK {
		t.Error(e)
	}
}

// P8.5: a valid program is parsed from its text and read from its encoding; a decoded one has the same encoding again.
func TestRoundTrips(t *testing.T) {
	eachProgram(func(word string) {
		p := program(word)
		if Check(p) != api.OK {
			return
		}
		if x, n, e := Parse(Text(p)); !slices.Equal(x, p) || n != len(p) || e != api.OK {
			t.Fatalf("Parse of the text of %.40q = %d instructions, %d, %d", word, len(x), n, e)
		}
		b, _ := Encode(p)
		x, e := Decode(b)
		if !slices.Equal(x, p) || e != api.OK {
			t.Fatalf("Decode of the encoding of %.40q = %d instructions, %d", word, len(x), e)
		}
		if again, e := Encode(x); !bytes.Equal(again, b) || e != api.OK {
			t.Fatalf("%.40q is encoded as %.40x, and then as %.40x, %d", word, b, again, e)
		}
	})
}

// P8.5: whatever bytes are decoded, the program has them as its encoding, and whatever text is parsed, the program is valid.
func TestRoundTripsOfWhatIsRead(t *testing.T) {
	decoded := 0
	var all [][]byte
	for _, word := range []string{"", "y", "w", "lu", "yyy", "sTe", "mg"} {
		b := bytesByWords(program(word))
		all = append(all, b)
		for i := range b {
			for x := range 256 {
				other := slices.Clone(b)
				other[i] = byte(x)
				all = append(all, other)
			}
		}
	}
	for _, b := range all {
		p, e := Decode(b)
		if e != api.OK {
			continue
		}
		decoded++
		if again, e := Encode(p); !bytes.Equal(again, b) || e != api.OK {
			t.Fatalf("%.40x is decoded, and then encoded as %.40x, %d", b, again, e)
		}
		if x, _, e := Parse(Text(p)); !slices.Equal(x, p) || e != api.OK || Check(x) != api.OK {
			t.Fatalf("the program of %.40x is not parsed from its text", b)
		}
	}
	if decoded < 500 {
		t.Errorf("only %d inputs are decoded", decoded)
	}
}

// General rule 3: arguments are neither changed nor kept, and results are new.
func TestArgumentsAndResults(t *testing.T) {
	p := program("lwuTWUes")
	same := slices.Clone(p)
	Check(p)
	Steps(p)
	Simple(p)
	Locks(p)
	Text(p)
	b, _ := Encode(p)
	Put(wire.New(100), p)
	if !slices.Equal(p, same) {
		t.Fatal("a program was changed")
	}
	own := slices.Clone(b)
	x, _ := Decode(b)
	if !bytes.Equal(b, own) {
		t.Fatal("bytes were changed")
	}
	clear(b)
	if !slices.Equal(x, same) {
		t.Error("a decoded program shares memory with its bytes")
	}
	clear(x)
	if y, _ := Decode(own); !slices.Equal(y, same) {
		t.Error("a decoded program shares memory with another one")
	}
	if again, _ := Encode(p); !bytes.Equal(again, own) {
		t.Error("an encoding shares memory with another one")
	}
	s := Text(p)
	x, _, _ = Parse(s)
	clear(x)
	if y, _, _ := Parse(s); !slices.Equal(y, same) {
		t.Error("a parsed program shares memory with another one")
	}
}

// The chapter's example.
func TestExample(t *testing.T) {
	p := []api.Deed{{Op: api.Lock}, {Op: api.Work, N: 3}, {Op: api.Unlock}}
	if n := Steps(p); n != 6 {
		t.Errorf("%d steps", n)
	}
	if n, ok := Simple(p); n != 4 || !ok {
		t.Errorf("simple: %d, %t", n, ok)
	}
	if s := Locks(p); s != 1 {
		t.Errorf("locks %x", s)
	}
}
