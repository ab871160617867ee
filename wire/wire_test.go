package wire

import (
	"bytes"
	"math"
	"math/big"
	"slices"
	"testing"

	"bosun/api"
)

// numbers are numbers of all sizes: small ones, those around each power of 2, the ends, and scattered ones.
func numbers() []uint64 {
	l := []uint64{300, math.MaxUint64, math.MaxUint64 - 1, math.MaxInt64, 0x0100000000000000, 0x0102030405060708, 0xff00ff00ff00ff00}
	for i := range 260 {
		l = append(l, uint64(i))
	}
	for i := range 64 {
		one := uint64(1) << i
		l = append(l, one-1, one, one+1, -one)
	}
	x := uint64(1)
	for i := range 200 {
		x = x*6364136223846793005 + 1442695040888963407
		l = append(l, x, x>>(i%64))
	}
	return l
}

// byteStrings are byte strings of many lengths, around those at which the length takes a byte more.
func byteStrings() [][]byte {
	l := [][]byte{nil, {}, {0}, {1}, {255}, {0, 0, 0}, {8, 1, 2}, []byte("word")}
	for _, n := range []int{7, 8, 9, 63, 64, 254, 255, 256, 257, 1000, 65535, 65536, 65537} {
		b := make([]byte, n)
		for i := range b {
			b[i] = byte(i*7 + n)
		}
		l = append(l, b)
	}
	return l
}

// numberByWords is the encoding of a number as the chapter defines it.
func numberByWords(x uint64) []byte {
	digits := new(big.Int).SetUint64(x).Bytes()
	return append([]byte{byte(len(digits))}, digits...)
}

// The kinds of elements.
const (
	aByte = iota
	aNumber
	aTruth
	aString
)

// element is something that is written or read; n is the byte, the number, or 0 or 1 for a boolean.
type element struct {
	kind int
	n    uint64
	b    []byte
}

func (e element) write(w *Writer) {
	switch e.kind {
	case aByte:
		w.Byte(byte(e.n))
	case aNumber:
		w.Num(e.n)
	case aTruth:
		w.Truth(e.n == 1)
	case aString:
		w.Bytes(e.b)
	}
}

// encoding is that of the element, by the chapter's words.
func (e element) encoding() []byte {
	switch e.kind {
	case aNumber:
		return numberByWords(e.n)
	case aString:
		return append(numberByWords(uint64(len(e.b))), e.b...)
	}
	return []byte{byte(e.n)}
}

// lists are lists of elements of all kinds.
func lists() [][]element {
	l := [][]element{
		nil,
		{{kind: aByte}},
		{{kind: aByte, n: 255}, {kind: aByte, n: 9}},
		{{kind: aTruth, n: 1}, {kind: aTruth}},
		{{kind: aNumber}, {kind: aNumber, n: 300}, {kind: aNumber, n: math.MaxUint64}},
		{{kind: aString}, {kind: aString, b: []byte{}}, {kind: aString, b: []byte{0}}},
		{{kind: aString, b: []byte("abc")}, {kind: aNumber, n: 1 << 56}, {kind: aTruth, n: 1}, {kind: aByte, n: 8}, {kind: aNumber}},
	}
	numbers, strings := numbers(), byteStrings()
	x := uint64(7)
	for i := range 300 {
		var list []element
		for range i % 12 {
			x = x*6364136223846793005 + 1442695040888963407
			draw := x >> 33
			e := element{kind: int(draw % 4)}
			switch e.kind {
			case aByte:
				e.n = draw / 4 % 256
			case aNumber:
				e.n = numbers[draw/4%uint64(len(numbers))]
			case aTruth:
				e.n = draw / 4 % 2
			case aString:
				e.b = strings[draw/4%16]
			}
			list = append(list, e)
		}
		l = append(l, list)
	}
	return l
}

func write(most int, l []element) ([]byte, api.Errno) {
	w := New(most)
	for _, e := range l {
		e.write(w)
	}
	return w.Done()
}

func all(l []element) []byte {
	var b []byte
	for _, e := range l {
		b = append(b, e.encoding()...)
	}
	return b
}

// P4.1: each method appends the encoding of its argument.
func TestNum(t *testing.T) {
	for _, x := range numbers() {
		w := New(9)
		w.Num(x)
		if b, e := w.Done(); !bytes.Equal(b, numberByWords(x)) || e != api.OK {
			t.Errorf("Num(%d) writes % x, %d", x, b, e)
		}
	}
}

func TestNumAtTheBounds(t *testing.T) {
	for _, c := range []struct {
		x    uint64
		want []byte
	}{
		{0, []byte{0}}, {1, []byte{1, 1}}, {255, []byte{1, 255}}, {256, []byte{2, 1, 0}}, {300, []byte{2, 1, 0x2c}}, {65535, []byte{2, 255, 255}}, {65536, []byte{3, 1, 0, 0}},
		{1<<56 - 1, []byte{7, 255, 255, 255, 255, 255, 255, 255}}, {1 << 56, []byte{8, 1, 0, 0, 0, 0, 0, 0, 0}}, {0x0102030405060708, []byte{8, 1, 2, 3, 4, 5, 6, 7, 8}}, {math.MaxUint64, []byte{8, 255, 255, 255, 255, 255, 255, 255, 255}},
	} {
		w := New(len(c.want))
		w.Num(c.x)
		if b, e := w.Done(); !bytes.Equal(b, c.want) || e != api.OK {
			t.Errorf("Num(%d) writes % x, %d, want % x", c.x, b, e, c.want)
		}
	}
}

func TestByteAndTruth(t *testing.T) {
	for i := range 256 {
		w := New(1)
		w.Byte(byte(i))
		if b, e := w.Done(); !bytes.Equal(b, []byte{byte(i)}) || e != api.OK {
			t.Errorf("Byte(%d) writes % x, %d", i, b, e)
		}
	}
	w := New(3)
	w.Truth(true)
	w.Truth(false)
	w.Truth(true)
	if b, e := w.Done(); !bytes.Equal(b, []byte{1, 0, 1}) || e != api.OK {
		t.Errorf("Truth writes % x, %d", b, e)
	}
}

func TestBytes(t *testing.T) {
	for _, s := range byteStrings() {
		want := append(numberByWords(uint64(len(s))), s...)
		kept := slices.Clone(s)
		w := New(len(want))
		w.Bytes(s)
		if b, e := w.Done(); !bytes.Equal(b, want) || e != api.OK {
			t.Errorf("Bytes of %d bytes writes %d bytes, %d", len(s), len(b), e)
		}
		if !bytes.Equal(s, kept) {
			t.Errorf("Bytes changes its argument of %d bytes", len(s))
		}
	}
	w := New(10)
	w.Bytes([]byte{7, 8})
	w.Bytes(nil)
	if b, e := w.Done(); !bytes.Equal(b, []byte{1, 2, 7, 8, 0}) || e != api.OK {
		t.Errorf("Bytes writes % x, %d", b, e)
	}
}

// P4.1: what is written stands in the order in which it was written.
func TestWriteInOrder(t *testing.T) {
	for _, l := range lists() {
		if b, e := write(math.MaxInt, l); !bytes.Equal(b, all(l)) || e != api.OK {
			t.Fatalf("%v writes % x, %d", l, b, e)
		}
	}
}

// P4.1: exactly those bytes that are allowed; a negative number of them counts as 0.
func TestWriteAtMost(t *testing.T) {
	for _, l := range lists() {
		want := all(l)
		mosts := []int{math.MinInt, -1, 0, 1, len(want) / 2, len(want) - 2, len(want) - 1, len(want), len(want) + 1, math.MaxInt}
		for _, most := range mosts {
			b, e := write(most, l)
			if len(want) > max(most, 0) {
				if b != nil || e != api.ErrLong {
					t.Fatalf("%v in %d bytes: % x, %d, want ErrLong", l, most, b, e)
				}
			} else if !bytes.Equal(b, want) || e != api.OK {
				t.Fatalf("%v in %d bytes: % x, %d", l, most, b, e)
			}
		}
	}
}

// P4.1: a writer for no bytes takes none, but is right until then.
func TestWriteNothing(t *testing.T) {
	for _, most := range []int{math.MinInt, -1, 0} {
		w := New(most)
		if b, e := w.Done(); len(b) != 0 || e != api.OK {
			t.Errorf("New(%d): % x, %d", most, b, e)
		}
		w.Byte(0)
		if b, e := w.Done(); b != nil || e != api.ErrLong {
			t.Errorf("New(%d) and a byte: % x, %d", most, b, e)
		}
	}
}

// P4.1: after an element that was too long, nothing is appended, though it would fit.
func TestNothingAfterTooMuch(t *testing.T) {
	for _, tooLong := range []element{{kind: aNumber, n: 300}, {kind: aNumber, n: math.MaxUint64}, {kind: aString, b: []byte{5, 6}}, {kind: aString, b: make([]byte, 70000)}} {
		w := New(3)
		w.Byte(9)
		tooLong.write(w)
		if b, e := w.Done(); b != nil || e != api.ErrLong {
			t.Fatalf("%v: % x, %d", tooLong, b, e)
		}
		for _, short := range []element{{kind: aByte, n: 1}, {kind: aNumber}, {kind: aTruth, n: 1}, {kind: aString}} {
			short.write(w)
			if b, e := w.Done(); b != nil || e != api.ErrLong {
				t.Fatalf("%v after %v: % x, %d", short, tooLong, b, e)
			}
		}
	}
}

// P4.1: Done answers in a new slice and ends nothing; what was handed in is not kept.
func TestWriterSharesNothing(t *testing.T) {
	w, s := New(20), []byte{1, 2, 3}
	w.Bytes(s)
	s[0], s[2] = 77, 78
	want := []byte{1, 3, 1, 2, 3}
	first, _ := w.Done()
	if !bytes.Equal(first, want) {
		t.Fatalf("the writer keeps its argument: % x", first)
	}
	for i := range first {
		first[i] = 99
	}
	_ = append(first, 98)
	second, _ := w.Done()
	if !bytes.Equal(second, want) {
		t.Fatalf("Done hands out the writer's own bytes: % x", second)
	}
	w.Byte(4)
	w.Num(5)
	third, e := w.Done()
	if !bytes.Equal(third, append(slices.Clone(want), 4, 1, 5)) || e != api.OK {
		t.Errorf("written on after Done: % x, %d", third, e)
	}
	if !bytes.Equal(second, want) || len(second) != len(want) {
		t.Errorf("an earlier answer changes: % x", second)
	}
}

func TestWritersAreApart(t *testing.T) {
	v, w := New(1), New(1)
	v.Num(300)
	w.Byte(6)
	if b, e := w.Done(); !bytes.Equal(b, []byte{6}) || e != api.OK {
		t.Errorf("% x, %d", b, e)
	}
}

func TestNilWriter(t *testing.T) {
	var w *Writer
	w.Byte(1)
	w.Num(300)
	w.Truth(true)
	w.Bytes([]byte{1})
	w.Bytes(nil)
	if b, e := w.Done(); b != nil || e != api.ErrState {
		t.Errorf("% x, %d", b, e)
	}
}

// call is a call of one of a reader's methods; limit is that of Upto, most that of Bytes.
type call struct {
	name  string
	limit uint64
	most  int
}

// calls are calls of all methods that read, with many limits.
func calls() []call {
	l := []call{{name: "byte"}, {name: "num"}, {name: "truth"}}
	for _, limit := range []uint64{0, 1, 2, 8, 9, 255, 256, 299, 300, 1<<56 - 1, 1 << 63, math.MaxUint64 - 1, math.MaxUint64} {
		l = append(l, call{name: "upto", limit: limit})
	}
	for _, most := range []int{math.MinInt, -256, -1, 0, 1, 2, 8, 9, 255, 256, math.MaxInt} {
		l = append(l, call{name: "bytes", most: most})
	}
	return l
}

// answer is what a call answers: a number (0 or 1 for a boolean), or bytes.
type answer struct {
	n uint64
	b []byte
}

func (c call) do(r *Reader) answer {
	switch c.name {
	case "byte":
		return answer{n: uint64(r.Byte())}
	case "num":
		return answer{n: r.Num()}
	case "upto":
		return answer{n: r.Upto(c.limit)}
	case "truth":
		if r.Truth() {
			return answer{n: 1}
		}
		return answer{}
	}
	return answer{b: r.Bytes(c.most)}
}

func (a answer) is(o answer) bool {
	return a.n == o.n && bytes.Equal(a.b, o.b)
}

// numberOf is what P4.2 says of reading a number from b: its value, the number of bytes it takes, and the error.
func numberOf(b []byte) (uint64, int, api.Errno) {
	if len(b) == 0 {
		return 0, 0, api.ErrShort
	}
	n := int(b[0])
	if n > 8 {
		return 0, 0, api.ErrForm
	}
	if len(b)-1 < n {
		return 0, 0, api.ErrShort
	}
	if n > 0 && b[1] == 0 {
		return 0, 0, api.ErrForm
	}
	return new(big.Int).SetBytes(b[1 : 1+n]).Uint64(), 1 + n, api.OK
}

// byWords is what P4.2 says of the call for the bytes b: the answer, the number of bytes it takes, and the error.
func (c call) byWords(b []byte) (answer, int, api.Errno) {
	if c.name == "byte" || c.name == "truth" {
		if len(b) == 0 {
			return answer{}, 0, api.ErrShort
		}
		if c.name == "truth" && b[0] != 0 && b[0] != 1 {
			return answer{}, 0, api.ErrForm
		}
		return answer{n: uint64(b[0])}, 1, api.OK
	}
	x, n, e := numberOf(b)
	if e != api.OK {
		return answer{}, 0, e
	}
	switch c.name {
	case "upto":
		if x > c.limit {
			return answer{}, 0, api.ErrRange
		}
	case "bytes":
		length := new(big.Int).SetUint64(x)
		if length.Cmp(big.NewInt(int64(c.most))) > 0 {
			return answer{}, 0, api.ErrRange
		}
		if length.Cmp(big.NewInt(int64(len(b)-n))) > 0 {
			return answer{}, 0, api.ErrShort
		}
		return answer{b: b[n : n+int(x)]}, n + int(x), api.OK
	}
	return answer{n: x}, n, api.OK
}

// inputs are all byte strings of up to four bytes of those that matter, and longer ones: numbers of each length with each first digit, cut short, and with bytes behind them.
func inputs() [][]byte {
	l := [][]byte{nil}
	short := [][]byte{nil}
	for range 4 {
		var next [][]byte
		for _, s := range short {
			for _, b := range []byte{0, 1, 2, 3, 8, 9, 255} {
				next = append(next, append(slices.Clone(s), b))
			}
		}
		l = append(l, next...)
		short = next
	}
	for i := range 256 {
		l = append(l, []byte{byte(i)}, []byte{byte(i), 1}, []byte{1, byte(i)}, []byte{2, byte(i), 1}, append([]byte{byte(i)}, make([]byte, 300)...), append([]byte{byte(i)}, bytes.Repeat([]byte{1}, 300)...))
	}
	for n := range 10 {
		for size := range 11 {
			for _, first := range []byte{0, 1, 127, 128, 255} {
				b := append([]byte{byte(n), first}, bytes.Repeat([]byte{255}, size)...)
				l = append(l, b, append(b[:len(b)-1:len(b)-1], 0))
			}
		}
	}
	for _, s := range byteStrings() {
		b := append(numberByWords(uint64(len(s))), s...)
		l = append(l, b, b[:len(b)-1], append(slices.Clone(b), 7))
	}
	for _, x := range numbers() {
		l = append(l, numberByWords(x))
	}
	return l
}

// P4.2, P4.3: each call, for each input, as the first one.
func TestRead(t *testing.T) {
	calls := calls()
	for _, b := range inputs() {
		for _, c := range calls {
			r := Read(b)
			if r.Left() != len(b) || r.Err() != api.OK {
				t.Fatalf("Read of %d bytes: %d left, %d", len(b), r.Left(), r.Err())
			}
			want, n, e := c.byWords(b)
			if a := c.do(r); !a.is(want) || r.Err() != e {
				t.Fatalf("%v of %.20x: %v, %d, want %v, %d", c, b, a, r.Err(), want, e)
			}
			left, done := len(b)-n, api.OK
			switch {
			case e != api.OK:
				left, done = 0, e
			case left > 0:
				done = api.ErrForm
			}
			if r.Left() != left || r.Done() != done {
				t.Fatalf("after %v of %.20x: %d left, %d, want %d, %d", c, b, r.Left(), r.Done(), left, done)
			}
		}
	}
}

// P4.2: the errors where two of them meet, and the bounds that the chapter names.
func TestReadAtTheBounds(t *testing.T) {
	number, truth := call{name: "num"}, call{name: "truth"}
	upto := func(limit uint64) call { return call{name: "upto", limit: limit} }
	byteString := func(most int) call { return call{name: "bytes", most: most} }
	huge := []byte{8, 255, 255, 255, 255, 255, 255, 255, 255, 1}
	greatestInt := []byte{8, 127, 255, 255, 255, 255, 255, 255, 255, 1}
	for _, c := range []struct {
		call call
		b    []byte
		want answer
		e    api.Errno
	}{
		{call{name: "byte"}, nil, answer{}, api.ErrShort}, {call{name: "byte"}, []byte{200}, answer{n: 200}, api.OK},
		{truth, nil, answer{}, api.ErrShort}, {truth, []byte{0}, answer{}, api.OK}, {truth, []byte{1}, answer{n: 1}, api.OK}, {truth, []byte{2}, answer{}, api.ErrForm}, {truth, []byte{255}, answer{}, api.ErrForm},
		{number, nil, answer{}, api.ErrShort}, {number, []byte{0}, answer{}, api.OK}, {number, []byte{1}, answer{}, api.ErrShort}, {number, []byte{1, 0}, answer{}, api.ErrForm}, {number, []byte{1, 1}, answer{n: 1}, api.OK},
		{number, []byte{2, 1, 0x2c}, answer{n: 300}, api.OK}, {number, []byte{2, 0, 0x2c}, answer{}, api.ErrForm}, {number, []byte{2, 0}, answer{}, api.ErrShort}, {number, []byte{2, 1}, answer{}, api.ErrShort},
		{number, []byte{9}, answer{}, api.ErrForm}, {number, []byte{255}, answer{}, api.ErrForm}, {number, []byte{9, 1, 1, 1, 1, 1, 1, 1, 1, 1}, answer{}, api.ErrForm}, {number, []byte{8}, answer{}, api.ErrShort}, {number, huge, answer{n: math.MaxUint64}, api.OK}, {number, huge[:8], answer{}, api.ErrShort},
		{number, []byte{8, 0, 255, 255, 255, 255, 255, 255, 255}, answer{}, api.ErrForm}, {number, []byte{8, 0, 255, 255, 255, 255, 255, 255}, answer{}, api.ErrShort},
		{upto(300), []byte{2, 1, 0x2c}, answer{n: 300}, api.OK}, {upto(299), []byte{2, 1, 0x2c}, answer{}, api.ErrRange}, {upto(0), []byte{0}, answer{}, api.OK}, {upto(0), []byte{1, 1}, answer{}, api.ErrRange}, {upto(math.MaxUint64), huge, answer{n: math.MaxUint64}, api.OK}, {upto(math.MaxUint64 - 1), huge, answer{}, api.ErrRange},
		{upto(0), []byte{2, 0, 5}, answer{}, api.ErrForm}, {upto(0), []byte{2, 5}, answer{}, api.ErrShort}, {upto(0), []byte{9}, answer{}, api.ErrForm}, {upto(0), nil, answer{}, api.ErrShort},
		{byteString(0), []byte{0}, answer{}, api.OK}, {byteString(2), []byte{1, 2, 7, 8}, answer{b: []byte{7, 8}}, api.OK}, {byteString(1), []byte{1, 2, 7, 8}, answer{}, api.ErrRange}, {byteString(2), []byte{1, 2, 7}, answer{}, api.ErrShort}, {byteString(1), []byte{1, 2, 7}, answer{}, api.ErrRange}, {byteString(1), []byte{1, 2}, answer{}, api.ErrRange}, {byteString(2), []byte{1, 2}, answer{}, api.ErrShort},
		{byteString(-1), []byte{0}, answer{}, api.ErrRange}, {byteString(-1), []byte{1, 1, 7}, answer{}, api.ErrRange}, {byteString(math.MinInt), []byte{0}, answer{}, api.ErrRange}, {byteString(-1), huge, answer{}, api.ErrRange}, {byteString(-1), nil, answer{}, api.ErrShort}, {byteString(-1), []byte{9}, answer{}, api.ErrForm}, {byteString(-1), []byte{1, 0}, answer{}, api.ErrForm}, {byteString(-1), []byte{1}, answer{}, api.ErrShort},
		{byteString(math.MaxInt), huge, answer{}, api.ErrRange}, {byteString(math.MaxInt), greatestInt, answer{}, api.ErrShort}, {byteString(math.MaxInt - 1), greatestInt, answer{}, api.ErrRange}, {byteString(5), []byte{2, 0, 1, 7}, answer{}, api.ErrForm},
	} {
		r := Read(c.b)
		if a := c.call.do(r); !a.is(c.want) || r.Err() != c.e {
			t.Errorf("%v of % x: %v, %d, want %v, %d", c.call, c.b, a, r.Err(), c.want, c.e)
		}
	}
}

// P4.2, P4.3: several calls, one after the other: each one goes on where the one before it ended, and after the first error there is nothing.
func TestReadInOrder(t *testing.T) {
	few := []call{{name: "byte"}, {name: "num"}, {name: "upto", limit: 2}, {name: "truth"}, {name: "bytes", most: -1}, {name: "bytes", most: 2}, {name: "bytes", most: 300}}
	for _, b := range inputs() {
		for i := range len(few) * len(few) * len(few) {
			readInOrder(t, b, []call{few[i%7], few[i/7%7], few[i/49]})
		}
	}
}

func readInOrder(t *testing.T, b []byte, l []call) {
	t.Helper()
	r, rest, first := Read(b), b, api.OK
	for _, c := range l {
		var want answer
		if first == api.OK {
			var n int
			want, n, first = c.byWords(rest)
			rest = rest[n:]
		}
		left, done := len(rest), first
		if first != api.OK {
			left = 0
		} else if left > 0 {
			done = api.ErrForm
		}
		if a := c.do(r); !a.is(want) || r.Err() != first || r.Left() != left || r.Done() != done {
			t.Fatalf("%v of %v of %.20x: %v, %d, %d left, %d, want %v, %d, %d left, %d", c, l, b, a, r.Err(), r.Left(), r.Done(), want, first, left, done)
		}
	}
}

// P4.2: whatever the first error is, it remains, and each result after it is zero.
func TestFirstErrorRemains(t *testing.T) {
	for _, c := range []struct {
		fails call
		b     []byte
		e     api.Errno
	}{
		{call{name: "num"}, []byte{8, 1, 1, 1, 1, 1}, api.ErrShort}, {call{name: "num"}, []byte{9, 1, 1, 1, 1, 1}, api.ErrForm}, {call{name: "num"}, []byte{1, 0, 1, 1, 1, 1, 1}, api.ErrForm}, {call{name: "truth"}, []byte{2, 1, 1, 1, 1}, api.ErrForm},
		{call{name: "upto"}, []byte{1, 1, 1, 1, 1, 1}, api.ErrRange}, {call{name: "bytes"}, []byte{1, 1, 1, 1, 1, 1}, api.ErrRange}, {call{name: "bytes", most: 300}, []byte{1, 200, 1, 1, 1, 1}, api.ErrShort}, {call{name: "byte"}, nil, api.ErrShort},
	} {
		r := Read(c.b)
		c.fails.do(r)
		for _, next := range calls() {
			if a := next.do(r); !a.is(answer{}) || r.Err() != c.e || r.Done() != c.e || r.Left() != 0 {
				t.Fatalf("%v after %v of % x: %v, %d, %d, %d left, want %d", next, c.fails, c.b, a, r.Err(), r.Done(), r.Left(), c.e)
			}
		}
	}
}

// P4.3: bytes that are left are told by Done, but are no error of the reader: they may still be read.
func TestDoneBeforeTheEnd(t *testing.T) {
	r := Read([]byte{5, 1, 7})
	for _, want := range []struct {
		left int
		done api.Errno
	}{{3, api.ErrForm}, {2, api.ErrForm}, {0, api.OK}} {
		if r.Left() != want.left || r.Done() != want.done || r.Done() != want.done || r.Err() != api.OK {
			t.Fatalf("%d left, %d, %d, want %v", r.Left(), r.Done(), r.Err(), want)
		}
		if want.left == 3 && r.Byte() != 5 || want.left == 2 && r.Num() != 7 {
			t.Fatal("another value is read after Done")
		}
	}
	if e := Read(nil).Done(); e != api.OK {
		t.Errorf("nothing is left of nothing, but Done returns %d", e)
	}
}

// P4.2: the bytes that were handed in are neither changed nor kept.
func TestReaderKeepsItsOwnBytes(t *testing.T) {
	b := []byte{1, 3, 10, 11, 12, 2, 1, 44, 1}
	given := slices.Clone(b)
	r := Read(b)
	for i := range b {
		b[i] = 99
	}
	if s := r.Bytes(3); !bytes.Equal(s, given[2:5]) {
		t.Errorf("Bytes returns % x", s)
	}
	if x := r.Num(); x != 300 {
		t.Errorf("Num returns %d", x)
	}
	if !r.Truth() || r.Done() != api.OK {
		t.Errorf("the boolean is lost, %d", r.Done())
	}
	for i := range b {
		if b[i] != 99 {
			t.Errorf("byte %d is changed", i)
		}
	}
}

// P4.2: a byte string is new memory: changing or extending it changes neither what was handed in nor what is read later.
func TestBytesAreNew(t *testing.T) {
	b := []byte{1, 2, 10, 11, 1, 2, 12, 13, 7}
	given := slices.Clone(b)
	r := Read(b)
	first := r.Bytes(2)
	first[0] = 99
	for i := range cap(first) + 4 {
		first = append(first, byte(90+i))
	}
	first = append(first[:2], 91, 92, 93, 94, 95)
	second := r.Bytes(2)
	_ = append(second, 96)
	if !bytes.Equal(second, []byte{12, 13}) || r.Byte() != 7 || r.Done() != api.OK {
		t.Errorf("% x, %d", second, r.Done())
	}
	if !bytes.Equal(b, given) || !bytes.Equal(first[:2], []byte{99, 11}) {
		t.Errorf("% x, % x", b, first)
	}
}

// P4.2: two readers of the same bytes know nothing of each other.
func TestReadersAreApart(t *testing.T) {
	b := []byte{9, 1}
	q, r := Read(b), Read(b)
	q.Num()
	if q.Err() != api.ErrForm || r.Err() != api.OK || r.Left() != 2 || r.Byte() != 9 || r.Byte() != 1 || r.Done() != api.OK {
		t.Errorf("%d, %d, %d left", q.Err(), r.Err(), r.Left())
	}
}

func TestNilReader(t *testing.T) {
	var r *Reader
	for _, c := range calls() {
		if a := c.do(r); !a.is(answer{}) {
			t.Errorf("%v: %v", c, a)
		}
	}
	if b := r.Bytes(5); b != nil {
		t.Errorf("% x", b)
	}
	if r.Left() != 0 || r.Err() != api.ErrState || r.Done() != api.ErrState {
		t.Errorf("%d left, %d, %d", r.Left(), r.Err(), r.Done())
	}
}

// P4.4: what was written is read back, and nothing is left.
func TestRoundTrip(t *testing.T) {
	l := lists()
	for _, x := range numbers() {
		l = append(l, []element{{kind: aNumber, n: x}})
	}
	for _, s := range byteStrings() {
		l = append(l, []element{{kind: aString, b: s}})
	}
	for _, list := range l {
		b, e := write(math.MaxInt, list)
		if e != api.OK {
			t.Fatalf("%v: %d", list, e)
		}
		r := Read(b)
		for _, x := range list {
			c := call{name: []string{"byte", "num", "truth", "bytes"}[x.kind], most: len(x.b)}
			if a := c.do(r); !a.is(answer{x.n, x.b}) {
				t.Fatalf("%v of %v is read as %v", x, list, a)
			}
		}
		if r.Err() != api.OK || r.Left() != 0 || r.Done() != api.OK {
			t.Fatalf("%v: %d, %d left, %d", list, r.Err(), r.Left(), r.Done())
		}
	}
}

// P4.4: a number, a byte string and a boolean that were read have the same encoding again: there is only one.
func TestOneEncoding(t *testing.T) {
	read := 0
	for _, b := range inputs() {
		for kind, c := range []call{aByte: {name: "byte"}, aNumber: {name: "num"}, aTruth: {name: "truth"}, aString: {name: "bytes", most: math.MaxInt}} {
			r := Read(b)
			a := c.do(r)
			if r.Err() != api.OK {
				continue
			}
			read++
			again, e := write(math.MaxInt, []element{{kind, a.n, a.b}})
			if taken := b[:len(b)-r.Left()]; !bytes.Equal(again, taken) || e != api.OK {
				t.Fatalf("%v reads %v from %.20x, which is written as %.20x, %d", c, a, taken, again, e)
			}
		}
	}
	if read < 5000 {
		t.Errorf("only %d elements were read", read)
	}
}

// The chapter's example.
func TestExample(t *testing.T) {
	w := New(4)
	w.Num(0)
	if b, e := w.Done(); !bytes.Equal(b, []byte{0}) || e != api.OK {
		t.Errorf("Num(0) writes % x, %d", b, e)
	}
	w.Num(300)
	if b, e := w.Done(); !bytes.Equal(b, []byte{0, 2, 1, 0x2c}) || e != api.OK {
		t.Errorf("Num(300) writes % x, %d", b, e)
	}
	r := Read([]byte{2, 0, 0x2c})
	if x := r.Num(); x != 0 || r.Err() != api.ErrForm {
		t.Errorf("%d, %d", x, r.Err())
	}
}
