package plan

import (
	"bytes"
	"fmt"
	"math"
	"math/big"
	"math/rand"
	"regexp"
	"slices"
	"strings"
	"testing"

	"bosun/api"
)

// The chapter's greatest number of entries, written out once more.
const mostEntries = 1048576

// strangeCpus are integers that are no processors, some of which would be ones if only their last bits counted.
var strangeCpus = []int{math.MinInt, math.MinInt + 3, -1 << 32, -1<<32 + 3, -256, -253, -128, -64, -63, -2, -1, 64, 65, 67, 127, 128, 131, 192, 255, 256, 259, 1 << 16, 1 << 32, 1<<32 + 3, math.MaxInt - 1, math.MaxInt}

// counts are numbers of processors, most of which there may not be.
func counts() []int {
	l := slices.Clone(strangeCpus)
	for cpus := range 65 {
		l = append(l, cpus)
	}
	return l
}

// draws are numbers of all sizes: each bit and each byte alone, the ends, and one whose bytes all differ.
func draws() []uint64 {
	l := []uint64{0, 1, 255, 0x0123456789abcdef, math.MaxInt64, math.MaxUint64 - 1, math.MaxUint64}
	for i := range 64 {
		l = append(l, 1<<i, 1<<i|1)
	}
	for i := range 8 {
		l = append(l, 0xff<<(8*i), ^uint64(0xff<<(8*i)))
	}
	return l
}

// goodEntries are entries with each processor from 0 to 63, with and without a tick, and with each of the draws.
func goodEntries() []api.Entry {
	var l []api.Entry
	for cpu := range 64 {
		for _, tick := range []bool{false, true} {
			for _, draw := range draws() {
				l = append(l, api.Entry{Cpu: cpu, Tick: tick, Draw: draw})
			}
		}
	}
	return l
}

// someScript is a script of n entries for so many processors, and for one more, scattered by the seed.
func someScript(seed int64, n, cpus int) []api.Entry {
	r := rand.New(rand.NewSource(seed))
	l := make([]api.Entry, n)
	for i := range l {
		l[i] = api.Entry{Cpu: r.Intn(cpus + 1), Tick: r.Intn(3) == 0}
		if r.Intn(2) == 0 {
			l[i].Draw = r.Uint64() >> r.Intn(64)
		}
	}
	return l
}

// goodByWords is what the chapter says of a valid entry.
func goodByWords(e api.Entry, cpus int) bool {
	for cpu := 0; cpu < 64 && cpu < cpus; cpu++ {
		if e.Cpu == cpu {
			return true
		}
	}
	return false
}

// P10.1: Good, for each processor and each number of them.
func TestGood(t *testing.T) {
	for _, cpus := range counts() {
		for _, cpu := range counts() {
			for _, e := range []api.Entry{{Cpu: cpu}, {Cpu: cpu, Tick: true}, {Cpu: cpu, Draw: 1}, {Cpu: cpu, Tick: true, Draw: math.MaxUint64}} {
				if ok, want := Good(e, cpus), goodByWords(e, cpus); ok != want {
					t.Errorf("Good(%v, %d) = %t", e, cpus, ok)
				}
			}
		}
	}
}

// P10.1: Good at the bounds, as numbers; more than 64 processors count as 64.
func TestGoodAtTheBounds(t *testing.T) {
	for _, c := range []struct {
		cpu, cpus int
		want      bool
	}{
		{0, 0, false}, {0, -1, false}, {-1, -1, false}, {-1, 0, false}, {-1, 1, false}, {0, 1, true}, {1, 1, false}, {1, 2, true}, {2, 2, false},
		{62, 63, true}, {63, 63, false}, {63, 64, true}, {64, 64, false}, {63, 65, true}, {64, 65, false}, {63, math.MaxInt, true}, {64, math.MaxInt, false}, {0, math.MinInt, false}, {math.MinInt, 64, false},
	} {
		if ok := Good(api.Entry{Cpu: c.cpu}, c.cpus); ok != c.want {
			t.Errorf("Good of processor %d of %d = %t", c.cpu, c.cpus, ok)
		}
	}
}

// P10.1: Clean returns the valid entries in order, each as often as it occurs.
func TestClean(t *testing.T) {
	for _, cpus := range counts() {
		for seed := range int64(5) {
			l := someScript(seed, int(seed)*20, max(1, min(cpus, 64)))
			for _, cpu := range strangeCpus {
				l = slices.Insert(l, len(l)/2, api.Entry{Cpu: cpu, Tick: true, Draw: 7})
			}
			var want []api.Entry
			for _, e := range l {
				if goodByWords(e, cpus) {
					want = append(want, e)
				}
			}
			if got := Clean(l, cpus); !slices.Equal(got, want) {
				t.Fatalf("Clean(%v, %d) = %v", l, cpus, got)
			}
		}
	}
	l := []api.Entry{{Cpu: 1, Draw: 5}, {Cpu: 2}, {Cpu: 0, Tick: true}, {Cpu: -1}, {Cpu: 1, Draw: 5}, {Cpu: 64}}
	if got := Clean(l, 2); !slices.Equal(got, []api.Entry{{Cpu: 1, Draw: 5}, {Cpu: 0, Tick: true}, {Cpu: 1, Draw: 5}}) {
		t.Error(got)
	}
	for _, none := range [][]api.Entry{Clean(nil, 64), Clean([]api.Entry{}, 64), Clean(l, 0), Clean(l[1:2], 2)} {
		if len(none) != 0 {
			t.Error(none)
		}
	}
}

// P10.1: what Clean returns is new memory, even if all entries are valid, and its argument stays as it was.
func TestCleanIsNew(t *testing.T) {
	for _, l := range [][]api.Entry{{{Cpu: 0}, {Cpu: 1}, {Cpu: 2}}, {{Cpu: 9}, {Cpu: 1}, {Cpu: 2}}, {{Cpu: 0}, {Cpu: 9}, {Cpu: 2}}, {{Cpu: 0}, {Cpu: 1}, {Cpu: 9}}} {
		was := slices.Clone(l)
		got := Clean(l, 3)
		kept := slices.Clone(got)
		for i := range got[:cap(got)] {
			got[:cap(got)][i].Draw = 77
		}
		if !slices.Equal(l, was) {
			t.Errorf("Clean changed %v to %v", was, l)
		}
		got = Clean(l, 3)
		for i := range l {
			l[i].Draw = 78
		}
		if !slices.Equal(got, kept) {
			t.Errorf("Clean shares memory with its argument: %v", got)
		}
	}
}

// encodingByWords is what the chapter says of the encoding of an entry.
func encodingByWords(e api.Entry) []byte {
	first := e.Cpu
	if e.Tick {
		first += 64
	}
	if e.Draw == 0 {
		return []byte{byte(first)}
	}
	return append([]byte{byte(first + 128)}, new(big.Int).SetUint64(e.Draw).FillBytes(make([]byte, 8))...)
}

// allByWords is the concatenation of the encodings of all entries.
func allByWords(l []api.Entry) []byte {
	var b []byte
	for _, e := range l {
		b = append(b, encodingByWords(e)...)
	}
	return b
}

// decodingByWords is what P10.2 says of any bytes.
func decodingByWords(b []byte) []api.Entry {
	var l []api.Entry
	for at := 0; at < len(b) && len(l) < mostEntries; at++ {
		first := int(b[at])
		e := api.Entry{Cpu: first % 64, Tick: first/64%2 == 1}
		if first/128 == 1 {
			if at+8 >= len(b) {
				break
			}
			e.Draw = new(big.Int).SetBytes(b[at+1 : at+9]).Uint64()
			at += 8
		}
		l = append(l, e)
	}
	return l
}

// P10.2: Encode, of single entries of all kinds and of all of them, and Decode of what it returns.
func TestEncode(t *testing.T) {
	all := goodEntries()
	for _, e := range all {
		b, err := Encode([]api.Entry{e})
		if !bytes.Equal(b, encodingByWords(e)) || err != api.OK {
			t.Fatalf("Encode of %v = % x, %d", e, b, err)
		}
		if l := Decode(b); !slices.Equal(l, []api.Entry{e}) {
			t.Fatalf("Decode(% x) = %v, want %v", b, l, e)
		}
	}
	b, err := Encode(all)
	if !bytes.Equal(b, allByWords(all)) || err != api.OK {
		t.Error("Encode of all is not the concatenation of all encodings:", err)
	}
	if !slices.Equal(Decode(b), all) {
		t.Error("Decode does not invert Encode of all")
	}
	for seed := range int64(200) {
		l := someScript(seed, int(seed), 1+int(seed)%63)
		b, err := Encode(l)
		if !bytes.Equal(b, allByWords(l)) || err != api.OK || !slices.Equal(Decode(b), l) {
			t.Fatalf("Encode(%v) = % x, %d", l, b, err)
		}
	}
}

// P10.2: encodings, written out.
func TestEncodings(t *testing.T) {
	for _, c := range []struct {
		l []api.Entry
		b string
	}{
		{nil, ""},
		{[]api.Entry{}, ""},
		{[]api.Entry{{}}, "\x00"},
		{[]api.Entry{{Cpu: 63}}, "\x3f"},
		{[]api.Entry{{Tick: true}}, "\x40"},
		{[]api.Entry{{Cpu: 63, Tick: true}}, "\x7f"},
		{[]api.Entry{{Draw: 1}}, "\x80\x00\x00\x00\x00\x00\x00\x00\x01"},
		{[]api.Entry{{Cpu: 3, Tick: true, Draw: 255}}, "\xc3\x00\x00\x00\x00\x00\x00\x00\xff"},
		{[]api.Entry{{Cpu: 63, Tick: true, Draw: math.MaxUint64}, {Cpu: 2}, {Cpu: 1, Draw: 0x0123456789abcdef}, {Cpu: 2, Tick: true}}, "\xff\xff\xff\xff\xff\xff\xff\xff\xff\x02\x81\x01\x23\x45\x67\x89\xab\xcd\xef\x42"},
	} {
		if b, err := Encode(c.l); string(b) != c.b || err != api.OK {
			t.Errorf("Encode(%v) = % x, %d", c.l, b, err)
		}
		if l := Decode([]byte(c.b)); !slices.Equal(l, c.l) {
			t.Errorf("Decode(% x) = %v, want %v", c.b, l, c.l)
		}
	}
}

// P10.2: Encode with a processor that is none, at any place.
func TestEncodeOfStrangeCpus(t *testing.T) {
	for _, cpu := range strangeCpus {
		for at := range 4 {
			l := slices.Insert(someScript(1, 3, 9), at, api.Entry{Cpu: cpu})
			if b, err := Encode(l); len(b) != 0 || err != api.ErrArg {
				t.Errorf("Encode(%v) = % x, %d", l, b, err)
			}
		}
	}
}

// P10.2: Encode and Decode at the greatest number of entries; too many of them are told ahead of what they are.
func TestGreatScripts(t *testing.T) {
	l := make([]api.Entry, mostEntries+1)
	for i := range l {
		l[i] = api.Entry{Cpu: i % 64, Tick: i%3 == 0, Draw: uint64(i % 2 * i)}
	}
	most := l[:mostEntries]
	b, err := Encode(most)
	if err != api.OK || !bytes.Equal(b, allByWords(most)) {
		t.Fatal("Encode of as many entries as there may be:", err)
	}
	for _, behind := range []string{"", "\x05", "\x85", "\x85\x00\x00\x00\x00\x00\x00\x00\x01", "\x01\x02\x03", strings.Repeat("\xff", 100)} {
		if !slices.Equal(Decode(append(bytes.Clone(b), behind...)), most) {
			t.Errorf("Decode of as many entries as there may be, and of % x behind them", behind)
		}
	}
	if got := Decode(b[:len(b)-1]); !slices.Equal(got, most[:mostEntries-1]) {
		t.Errorf("Decode returns %d entries, but the last one is truncated", len(got))
	}
	if got := Decode(make([]byte, 3*mostEntries)); len(got) != mostEntries {
		t.Errorf("Decode returns %d entries", len(got))
	}
	if b, err := Encode(l); len(b) != 0 || err != api.ErrLong {
		t.Errorf("Encode of one too many = %d bytes, %d", len(b), err)
	}
	l[0].Cpu = 64
	if b, err := Encode(l); len(b) != 0 || err != api.ErrLong {
		t.Errorf("Encode of one too many that are not valid = %d bytes, %d", len(b), err)
	}
	if b, err := Encode(most); len(b) != 0 || err != api.ErrArg {
		t.Errorf("Encode with a wrong entry at the beginning = %d bytes, %d", len(b), err)
	}
}

// P10.2: Decode, of all strings of two bytes, of each beginning of encodings, and of scattered bytes.
func TestDecode(t *testing.T) {
	hold := func(b []byte) {
		t.Helper()
		if l := Decode(b); !slices.Equal(l, decodingByWords(b)) {
			t.Fatalf("Decode(% x) = %v", b, l)
		}
	}
	for i := range 256 {
		for j := range 256 {
			hold([]byte{byte(i), byte(j)})
			hold(append([]byte{byte(j), byte(i)}, "\x01\x02\x83\x04\xc5\x06\x07"...))
		}
		hold([]byte{byte(i)})
	}
	b := allByWords(someScript(3, 60, 63))
	for n := range len(b) {
		hold(b[:n])
		hold(b[n:])
	}
	r := rand.New(rand.NewSource(10))
	for n := range 2000 {
		b := make([]byte, n%40)
		r.Read(b)
		hold(b)
	}
}

// P10.2: a Draw that is truncated, and one that is encoded as 0.
func TestDecodeOfDraws(t *testing.T) {
	whole := "\x01\xc3\x00\x00\x00\x00\x00\x00\x00\xff"
	for n := 1; n < len(whole); n++ {
		if l := Decode([]byte(whole[:n])); !slices.Equal(l, []api.Entry{{Cpu: 1}}) {
			t.Errorf("Decode of %d of the bytes = %v", n, l)
		}
	}
	if l := Decode([]byte(whole)); !slices.Equal(l, []api.Entry{{Cpu: 1}, {Cpu: 3, Tick: true, Draw: 255}}) {
		t.Error(l)
	}
	if l := Decode([]byte("\xc3\x00\x00\x00\x00\x00\x00\x00\x00\x02")); !slices.Equal(l, []api.Entry{{Cpu: 3, Tick: true}, {Cpu: 2}}) {
		t.Error(l)
	}
	if l := Decode(nil); len(l) != 0 {
		t.Error(l)
	}
}

// P10.2: the arguments stay as they were, and the results are new memory.
func TestBytesAreNew(t *testing.T) {
	l := someScript(4, 50, 30)
	was := slices.Clone(l)
	b, _ := Encode(l)
	kept := bytes.Clone(b)
	got := Decode(b)
	if !slices.Equal(l, was) || !bytes.Equal(b, kept) {
		t.Error("an argument was changed")
	}
	clear(b)
	if !slices.Equal(got, was) {
		t.Error("Decode shares memory with its argument")
	}
	if again, _ := Encode(l); !bytes.Equal(again, kept) {
		t.Error("Encode hands out the same memory twice")
	}
}

// lineByWords is what the chapter says of the line of an entry.
func lineByWords(e api.Entry) string {
	s := fmt.Sprintf("step %d", e.Cpu)
	if e.Tick {
		s += " tick"
	}
	if e.Draw != 0 {
		s += fmt.Sprintf(" %016x", e.Draw)
	}
	return s
}

// P10.3: Line, and Parse of what it returns.
func TestLine(t *testing.T) {
	for _, e := range goodEntries() {
		s := Line(e)
		if s != lineByWords(e) {
			t.Fatalf("Line(%v) = %q", e, s)
		}
		if x, err := Parse(s); x != e || err != api.OK {
			t.Fatalf("Parse(%q) = %v, %d", s, x, err)
		}
	}
	for _, cpu := range strangeCpus {
		for _, e := range []api.Entry{{Cpu: cpu}, {Cpu: cpu, Tick: true}, {Cpu: cpu, Draw: 9}} {
			if s := Line(e); s != "?" {
				t.Errorf("Line(%v) = %q", e, s)
			}
		}
	}
}

// P10.3: lines, written out.
func TestLines(t *testing.T) {
	for s, want := range map[string]api.Entry{
		"step 0":                        {},
		"step 9":                        {Cpu: 9},
		"step 63":                       {Cpu: 63},
		"step 0 tick":                   {Tick: true},
		"step 10 0000000000000001":      {Cpu: 10, Draw: 1},
		"step 3 tick 00000000000000ff":  {Cpu: 3, Tick: true, Draw: 255},
		"step 63 tick ffffffffffffffff": {Cpu: 63, Tick: true, Draw: math.MaxUint64},
		"step 1 0123456789abcdef":       {Cpu: 1, Draw: 0x0123456789abcdef},
		"step 20 tick 8000000000000000": {Cpu: 20, Tick: true, Draw: 1 << 63},
		"step 7 00000000ffffffff":       {Cpu: 7, Draw: 1<<32 - 1},
	} {
		if line := Line(want); line != s {
			t.Errorf("Line(%v) = %q, want %q", want, line, s)
		}
		if e, err := Parse(s); e != want || err != api.OK {
			t.Errorf("Parse(%q) = %v, %d, want %v", s, e, err, want)
		}
	}
}

// holdParse holds what Parse returns.
func holdParse(t *testing.T, s string, want api.Entry, wantErr api.Errno) {
	t.Helper()
	if e, err := Parse(s); e != want || err != wantErr {
		t.Fatalf("Parse(%q) = %v, %d, want %v, %d", s, e, err, want, wantErr)
	}
}

// P10.3: the errors of Parse, in their order, and lines with other numbers of blanks.
func TestParse(t *testing.T) {
	for s, want := range map[string]api.Errno{
		"": api.ErrWord, " ": api.ErrWord, "     ": api.ErrWord, "3": api.ErrWord, "tick": api.ErrWord, "Step 3": api.ErrWord, "steps 3": api.ErrWord, "ste 3": api.ErrWord, "step\t3": api.ErrWord, "step3": api.ErrWord, "\nstep 3": api.ErrWord, "3 step": api.ErrWord, "walk 64 64": api.ErrWord,
		"step": api.ErrForm, " step ": api.ErrForm, "step tick": api.ErrForm, "step tick 3": api.ErrForm, "step 00000000000000ff": api.ErrForm, "step -1": api.ErrForm, "step +1": api.ErrForm, "step 03": api.ErrForm, "step 00": api.ErrForm, "step 0x3": api.ErrForm, "step 3\n": api.ErrForm, "step 3.": api.ErrForm,
		"step 3 3": api.ErrForm, "step 3 Tick": api.ErrForm, "step 3 ticks": api.ErrForm, "step 3 tick tick": api.ErrForm, "step 3 00000000000000ff tick": api.ErrForm, "step 3 00000000000000FF": api.ErrForm, "step 3 0000000000000ff": api.ErrForm, "step 3 000000000000000ff": api.ErrForm,
		"step 3 tick ff": api.ErrForm, "step 3 tick 00000000000000fg": api.ErrForm, "step 3 00000000000000ff 00000000000000ff": api.ErrForm, "step 3 tick 00000000000000ff tick": api.ErrForm, "step 3 tick 00000000000000ff 3": api.ErrForm, "step 3 step": api.ErrForm, "step step 3": api.ErrForm, "step 3 tick\n": api.ErrForm,
		"step 64": api.ErrRange, "step 65": api.ErrRange, "step 100": api.ErrRange, "step 64 tick": api.ErrRange, "step 64 0000000000000000": api.ErrRange, "step 64 tick 00000000000000ff": api.ErrRange, "step 256": api.ErrRange, "step 4294967296": api.ErrRange, "step 9223372036854775808": api.ErrRange, "step 18446744073709551615": api.ErrRange,
		"step 18446744073709551616": api.ErrForm, "step 18446744073709551619 tick": api.ErrForm, "step 99999999999999999999999": api.ErrForm, "step 064": api.ErrForm, "step 64 64": api.ErrForm, "step 64 tock": api.ErrForm, "step 64 tick 00000000000000ff 1": api.ErrForm, "step 18446744073709551615 x": api.ErrForm,
	} {
		holdParse(t, s, api.Entry{}, want)
	}
	for s, want := range map[string]api.Entry{
		"   step 3": {Cpu: 3}, "step 3   ": {Cpu: 3}, "step     3": {Cpu: 3}, "  step   3  tick   00000000000000ff  ": {Cpu: 3, Tick: true, Draw: 255},
		"step 3 0000000000000000": {Cpu: 3}, "step 3 tick 0000000000000000": {Cpu: 3, Tick: true}, "step 0 tick ": {Tick: true},
	} {
		holdParse(t, s, want, api.OK)
	}
}

// lineForm is the form of a line, of words with one blank between each two.
var lineForm = regexp.MustCompile(`\Astep (0|[1-9][0-9]*)( tick)?(?: ([0-9a-f]{16}))?\z`)

// parseByWords is what P10.3 says of a string.
func parseByWords(s string) (api.Entry, api.Errno) {
	words := slices.DeleteFunc(strings.Split(s, " "), func(w string) bool { return w == "" })
	if len(words) == 0 || words[0] != "step" {
		return api.Entry{}, api.ErrWord
	}
	parts := lineForm.FindStringSubmatch(strings.Join(words, " "))
	if parts == nil {
		return api.Entry{}, api.ErrForm
	}
	cpu, _ := new(big.Int).SetString(parts[1], 10)
	if cpu.BitLen() > 64 {
		return api.Entry{}, api.ErrForm
	}
	if cpu.Cmp(big.NewInt(63)) > 0 {
		return api.Entry{}, api.ErrRange
	}
	draw := new(big.Int)
	if parts[3] != "" {
		draw.SetString(parts[3], 16)
	}
	return api.Entry{Cpu: int(cpu.Int64()), Tick: parts[2] != "", Draw: draw.Uint64()}, api.OK
}

// P10.3: Parse, of all strings of up to five words that matter, with one blank and with more.
func TestParseOfWords(t *testing.T) {
	vocabulary := []string{"step", "tick", "Step", "0", "3", "63", "64", "03", "18446744073709551615", "18446744073709551616", "00000000000000ff", "0000000000000000", "ffffffffffffffff", "00000000000000FF", "x"}
	var grow func(words []string)
	grow = func(words []string) {
		for i, blank := range []string{" ", "   "} {
			s := strings.Repeat(" ", 2*i) + strings.Join(words, blank) + strings.Repeat(" ", i)
			want, wantErr := parseByWords(s)
			holdParse(t, s, want, wantErr)
		}
		if len(words) == 0 || len(words) < 5 && words[0] == "step" {
			for _, w := range vocabulary {
				grow(append(slices.Clone(words), w))
			}
		}
	}
	grow(nil)
}

// P10.3: Parse, of lines in which a byte is replaced, left out, doubled or added.
func TestParseOfChangedLines(t *testing.T) {
	for _, line := range []string{"step 0", "step 63", "step 6 tick", "step 31 89abcdef01234567", "step 3 tick 00000000000000ff", "  step  5   tick  "} {
		for at := range len(line) + 1 {
			for i := range 256 {
				c := string([]byte{byte(i)})
				l := []string{line[:at] + c + line[at:]}
				if at < len(line) {
					l = append(l, line[:at]+c+line[at+1:], line[:at]+line[at+1:], line[:at]+line[at:at+1]+line[at:])
				}
				for _, s := range l {
					want, wantErr := parseByWords(s)
					holdParse(t, s, want, wantErr)
				}
			}
		}
	}
	long := "step " + strings.Repeat("9", 1<<16)
	holdParse(t, long, api.Entry{}, api.ErrForm)
	holdParse(t, strings.Repeat(" ", 1<<20)+"step"+strings.Repeat(" ", 1<<20)+"8", api.Entry{Cpu: 8}, api.OK)
	holdParse(t, strings.Repeat("step ", 1<<16), api.Entry{}, api.ErrForm)
}

// roundByWords is what P10.4 says of the script.
func roundByWords(cpus, steps, every int) []api.Entry {
	cpus = max(1, min(64, cpus))
	own := make([]int, cpus)
	var l []api.Entry
	for i := 0; i < steps && i < mostEntries; i++ {
		cpu := i % cpus
		own[cpu]++
		e := api.Entry{Cpu: cpu, Draw: uint64(i + 1)}
		if every > 0 {
			e.Tick = own[cpu]%every == 0
		}
		l = append(l, e)
	}
	return l
}

// P10.4: Round, with all small arguments and many others.
func TestRound(t *testing.T) {
	steps := []int{math.MinInt, -100, -1, 0, 1, 2, 3, 5, 8, 63, 64, 65, 127, 128, 129, 300}
	everies := []int{math.MinInt, -1 << 32, -3, -2, -1, 0, 1, 2, 3, 4, 5, 7, 64, 100, 299, 300, 301, 1 << 32, 1<<32 + 1, math.MaxInt}
	for _, cpus := range counts() {
		for _, n := range steps {
			for _, every := range everies {
				if l := Round(cpus, n, every); !slices.Equal(l, roundByWords(cpus, n, every)) {
					t.Fatalf("Round(%d, %d, %d) = %v", cpus, n, every, l)
				}
			}
		}
	}
}

// P10.4: scripts, written out.
func TestRounds(t *testing.T) {
	for _, c := range []struct {
		cpus, steps, every int
		want               string
	}{
		{2, 5, 2, "0 1,1 2,0 3 tick,1 4 tick,0 5"}, {3, 4, 1, "0 1 tick,1 2 tick,2 3 tick,0 4 tick"}, {0, 3, 3, "0 1,0 2,0 3 tick"}, {-7, 2, 0, "0 1,0 2"}, {2, 3, -1, "0 1,1 2,0 3"}, {2, 0, 1, ""}, {2, -5, 1, ""}, {1, 6, 4, "0 1,0 2,0 3,0 4 tick,0 5,0 6"},
	} {
		var l []string
		for _, e := range Round(c.cpus, c.steps, c.every) {
			s := fmt.Sprint(e.Cpu, " ", e.Draw)
			if e.Tick {
				s += " tick"
			}
			l = append(l, s)
		}
		if s := strings.Join(l, ","); s != c.want {
			t.Errorf("Round(%d, %d, %d) is %s, want %s", c.cpus, c.steps, c.every, s, c.want)
		}
	}
	if l := Round(99, 130, 2); l[63].Cpu != 63 || l[64].Cpu != 0 || l[63].Tick || !l[64].Tick || l[128].Tick {
		t.Error("Round of more than 64 processors is not that of 64")
	}
}

// P10.4: as many entries as there may be.
func TestGreatRounds(t *testing.T) {
	for _, steps := range []int{mostEntries - 1, mostEntries, mostEntries + 1, 1 << 32, math.MaxInt} {
		l := Round(7, steps, 3)
		if want := min(steps, mostEntries); len(l) != want || l[want-1].Draw != uint64(want) {
			t.Errorf("Round of %d steps has %d entries", steps, len(l))
		}
		if !slices.Equal(l, roundByWords(7, steps, 3)) {
			t.Errorf("Round of %d steps has other entries", steps)
		}
	}
	if l := Round(1, math.MaxInt, mostEntries); !l[mostEntries-1].Tick || slices.ContainsFunc(l[:mostEntries-1], func(e api.Entry) bool { return e.Tick }) {
		t.Error("Round does not have its only tick at the end")
	}
}

// windowsHave reports whether every window of size w of l has every processor.
func windowsHave(l []api.Entry, cpus, w int) bool {
	for from := 0; from+w <= len(l); from++ {
		for cpu := range cpus {
			if !slices.ContainsFunc(l[from:from+w], func(e api.Entry) bool { return e.Cpu == cpu }) {
				return false
			}
		}
	}
	return true
}

// ticksAmong reports whether among any p consecutive own entries of a processor one has a tick.
func ticksAmong(l []api.Entry, cpus, p int) bool {
	for cpu := range cpus {
		var own []api.Entry
		for _, e := range l {
			if e.Cpu == cpu {
				own = append(own, e)
			}
		}
		for from := 0; from+p <= len(own); from++ {
			if !slices.ContainsFunc(own[from:from+p], func(e api.Entry) bool { return e.Tick }) {
				return false
			}
		}
	}
	return true
}

// validOf returns the entries of l that are valid.
func validOf(l []api.Entry, cpus int) []api.Entry {
	return slices.DeleteFunc(slices.Clone(l), func(e api.Entry) bool { return !goodByWords(e, cpus) })
}

// gapByWords is what P10.5 says of Gap.
func gapByWords(l []api.Entry, cpus int) int {
	if cpus < 1 || cpus > 64 {
		return 0
	}
	l = validOf(l, cpus)
	for w := 1; w <= len(l); w++ {
		if windowsHave(l, cpus, w) {
			return w
		}
	}
	return len(l) + 1
}

// beatByWords is what P10.5 says of Beat.
func beatByWords(l []api.Entry, cpus int) int {
	if cpus < 1 || cpus > 64 {
		return 0
	}
	l = validOf(l, cpus)
	for p := 1; ; p++ {
		if ticksAmong(l, cpus, p) {
			return p
		}
	}
}

// holdMeasures holds what Gap and Beat return, and that larger windows are no worse (P10.6).
func holdMeasures(t *testing.T, l []api.Entry, cpus int) {
	t.Helper()
	gap, beat := Gap(l, cpus), Beat(l, cpus)
	if want := gapByWords(l, cpus); gap != want {
		t.Fatalf("Gap(%v, %d) = %d, want %d", l, cpus, gap, want)
	}
	if want := beatByWords(l, cpus); beat != want {
		t.Fatalf("Beat(%v, %d) = %d, want %d", l, cpus, beat, want)
	}
	if gap == 0 && beat == 0 {
		return
	}
	valid := validOf(l, cpus)
	for w := 1; w <= len(valid)+1; w++ {
		if w <= len(valid) && windowsHave(valid, cpus, w) != (w >= gap) {
			t.Fatalf("Gap(%v, %d) = %d, but windows of size %d", l, cpus, gap, w)
		}
		if ticksAmong(valid, cpus, w) != (w >= beat) {
			t.Fatalf("Beat(%v, %d) = %d, but %d own entries", l, cpus, beat, w)
		}
	}
}

// P10.5 and P10.6: Gap and Beat, of all scripts of up to five entries with four processors that are or are none.
func TestGapAndBeat(t *testing.T) {
	var grow func(l []api.Entry)
	grow = func(l []api.Entry) {
		for cpus := 1; cpus <= 3; cpus++ {
			holdMeasures(t, l, cpus)
		}
		if len(l) == 5 {
			return
		}
		for cpu := -1; cpu < 3; cpu++ {
			grow(append(slices.Clone(l), api.Entry{Cpu: cpu}))
			grow(append(slices.Clone(l), api.Entry{Cpu: cpu, Tick: true, Draw: 5}))
		}
	}
	grow(nil)
}

// P10.5 and P10.6: Gap and Beat, of longer scripts with entries that are not valid among the others.
func TestGapAndBeatOfLongScripts(t *testing.T) {
	for seed := range int64(400) {
		cpus := 1 + int(seed)%5
		holdMeasures(t, someScript(seed, int(seed)%60, cpus), cpus)
		holdMeasures(t, someScript(seed, int(seed)%60, cpus), cpus+1)
	}
	for _, cpus := range []int{62, 63, 64} {
		l := slices.Concat(Round(cpus, 200, 2), []api.Entry{{Cpu: -1, Tick: true}, {Cpu: cpus, Tick: true}, {Cpu: math.MaxInt}}, Round(cpus, 130, 0))
		holdMeasures(t, l, cpus)
		holdMeasures(t, l[100:], cpus)
		holdMeasures(t, l[:70], cpus)
	}
}

// P10.5: Gap and Beat return 0 if there may not be so many processors, whatever the script is.
func TestMeasuresOfStrangeCounts(t *testing.T) {
	for _, cpus := range append([]int{0}, strangeCpus...) {
		if cpus == 64 { // no processor, but a number of them
			continue
		}
		for _, l := range [][]api.Entry{nil, {{}}, Round(cpus, 200, 3), someScript(1, 50, 64)} {
			if gap, beat := Gap(l, cpus), Beat(l, cpus); gap != 0 || beat != 0 {
				t.Errorf("with %d processors Gap is %d, and Beat %d", cpus, gap, beat)
			}
		}
	}
}

// P10.5: Gap and Beat at the bounds, as numbers.
func TestMeasuresAtTheBounds(t *testing.T) {
	zero, one, two := api.Entry{Cpu: 0}, api.Entry{Cpu: 1}, api.Entry{Cpu: 2}
	tick := api.Entry{Cpu: 0, Tick: true}
	for _, c := range []struct {
		l               []api.Entry
		cpus, gap, beat int
	}{
		{nil, 1, 1, 1}, {nil, 64, 1, 1}, {[]api.Entry{one, two}, 1, 1, 1}, // no valid entry
		{[]api.Entry{zero}, 1, 1, 2}, {[]api.Entry{tick}, 1, 1, 1}, {[]api.Entry{zero}, 2, 2, 2}, {[]api.Entry{zero, zero, zero}, 2, 4, 4},
		{[]api.Entry{zero, one, two}, 3, 3, 2}, {[]api.Entry{zero, one, two}, 2, 2, 2}, {[]api.Entry{zero, one, two}, 4, 4, 2},
		{[]api.Entry{zero, zero, one}, 2, 3, 3}, {[]api.Entry{one, zero, zero}, 2, 3, 3}, {[]api.Entry{one, zero, zero, one}, 2, 3, 3}, {[]api.Entry{zero, two, two, one, two, zero}, 2, 2, 3},
		{[]api.Entry{tick, zero, zero, tick}, 1, 1, 3}, {[]api.Entry{zero, tick, zero, zero}, 1, 1, 3}, {[]api.Entry{zero, zero, tick, zero}, 1, 1, 3}, {[]api.Entry{zero, one, tick, one, one}, 2, 3, 4},
		{[]api.Entry{tick, {Cpu: 1, Tick: true}, tick}, 2, 2, 1}, {[]api.Entry{zero, {Cpu: 1, Tick: true}, zero}, 2, 2, 3},
	} {
		if gap, beat := Gap(c.l, c.cpus), Beat(c.l, c.cpus); gap != c.gap || beat != c.beat {
			t.Errorf("of %v with %d processors Gap is %d, and Beat %d, want %d and %d", c.l, c.cpus, gap, beat, c.gap, c.beat)
		}
	}
}

// P10.5: Gap and Beat of as many entries as there may be, in time, and of more.
func TestMeasuresOfGreatScripts(t *testing.T) {
	for _, n := range []int{mostEntries, 3 * mostEntries} {
		l := make([]api.Entry, n)
		if gap, beat := Gap(l, 64), Beat(l, 64); gap != n+1 || beat != n+1 {
			t.Errorf("of %d entries Gap is %d, and Beat %d", n, gap, beat)
		}
		if gap := Gap(l, 1); gap != 1 {
			t.Errorf("of %d entries of the only processor Gap is %d", n, gap)
		}
	}
}

// P10.5: Gap and Beat leave their argument as it was.
func TestMeasuresChangeNothing(t *testing.T) {
	l := someScript(6, 80, 3)
	was := slices.Clone(l)
	Gap(l, 2)
	Beat(l, 2)
	if !slices.Equal(l, was) {
		t.Error("the script was changed")
	}
}

// P10.6: Gap and Beat of Round.
func TestMeasuresOfRound(t *testing.T) {
	for _, cpus := range []int{1, 2, 3, 5, 63, 64} {
		for _, steps := range []int{0, 1, 2, 3, 4, 5, 10, 62, 63, 64, 65, 127, 128, 200} {
			for every := 1; every <= 6; every++ {
				l := Round(cpus, steps, every)
				wantGap, wantBeat := cpus, every
				if steps < cpus {
					wantGap = steps + 1
				}
				if most := (steps + cpus - 1) / cpus; most < every {
					wantBeat = most + 1
				}
				if gap, beat := Gap(l, cpus), Beat(l, cpus); gap != wantGap || beat != wantBeat {
					t.Errorf("of Round(%d, %d, %d) Gap is %d, and Beat %d", cpus, steps, every, gap, beat)
				}
			}
		}
	}
}
