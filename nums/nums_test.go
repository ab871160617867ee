package nums

import (
	"fmt"
	"math"
	"math/big"
	"regexp"
	"slices"
	"strings"
	"testing"

	"bosun/api"
)

// numbers are numbers of all sizes: small ones, those around each power of 2 and of 10, the ends, and scattered ones.
func numbers() []uint64 {
	l := []uint64{math.MaxUint64, math.MaxUint64 - 1, math.MaxInt64, 1<<63 + 1, 0xabcdef, 0x0123456789abcdef, 0xfedcba9876543210}
	for i := range 300 {
		l = append(l, uint64(i))
	}
	for i := range 64 {
		one := uint64(1) << i
		l = append(l, one-1, one, one+1, -one)
	}
	for one := uint64(1); ; one *= 10 {
		l = append(l, one-1, one, one+1, 9*one)
		if one > math.MaxUint64/10 {
			break
		}
	}
	x := uint64(1)
	for i := range 200 {
		x = x*6364136223846793005 + 1442695040888963407
		l = append(l, x, x>>(i%64))
	}
	return l
}

// strangers are bytes and runes that are no digits and no blanks, the neighbours of the digits among them.
var strangers = []string{
	"/", ":", "`", "g", "A", "F", "G", "x", "_", "-", "+", ".", ",", "e+", " ", "\t", "\n", "\x00", "\x7f", "\x80", "\xff", "\xe2", "\xed\xa0\x80", "\xc0\xb1", "\ufffd", "é", "\u0661", "\uff11", "\U0001d7d9", "\u0130",
}

// texts are strings that are decimal strings, and strings that are not, most of them nearly.
func texts() []string {
	l := []string{
		"", "0", "1", "9", "00", "01", "000", "007", "010", "10", "100", "0x10", "0b1", "0o7", "1_000", "1e3", "1.0", "-0", "-1", "+1", " 1", "1 ", "1 2",
		"18446744073709551615", "18446744073709551616", "18446744073709551617", "18446744073709551620", "18446744073709551999", "28446744073709551615", "018446744073709551615",
		"9999999999999999999", "99999999999999999999", "36893488147419103232", "184467440737095516150", "184467440737095516160", "100000000000000000000", "1000000000000000000000",
		"340282366920938463463374607431768211456", "340282366920938463463374607431768211457", strings.Repeat("9", 5000), "1" + strings.Repeat("0", 5000), strings.Repeat("0", 30), strings.Repeat("0", 30) + "1",
		"99999999999999999999999x", "x99999999999999999999999", "0" + strings.Repeat("9", 40), "9223372036854775807", "9223372036854775808", "2147483647", "2147483648", "4294967295", "4294967296",
	}
	for _, x := range numbers() {
		s := fmt.Sprint(x)
		l = append(l, s, "0"+s, s+"0", s+"5", s+s)
	}
	for _, c := range strangers {
		for _, s := range []string{"", "0", "7", "42", "18446744073709551615", "18446744073709551616"} {
			l = append(l, c+s, s+c, s+c+"1")
		}
	}
	for i := range 256 {
		b := string([]byte{byte(i)})
		l = append(l, b, "1"+b, b+"1", "1"+b+"1")
	}
	return l
}

var decimalForm = regexp.MustCompile(`\A(0|[1-9][0-9]*)\z`)

// readByWords is what P3.2 says of a decimal string that may be at most most.
func readByWords(s string, most *big.Int) (*big.Int, api.Errno) {
	if !decimalForm.MatchString(s) {
		return new(big.Int), api.ErrForm
	}
	x, _ := new(big.Int).SetString(s, 10)
	if x.Cmp(most) > 0 {
		return new(big.Int), api.ErrRange
	}
	return x, api.OK
}

func exact(x uint64) *big.Int {
	return new(big.Int).SetUint64(x)
}

// P3.1: Print.
func TestPrint(t *testing.T) {
	for _, x := range numbers() {
		if s, want := Print(x), exact(x).String(); s != want {
			t.Errorf("Print(%d) = %q", x, s)
		}
	}
	for x, want := range map[uint64]string{0: "0", 7: "7", 10: "10", 100: "100", 1 << 63: "9223372036854775808", math.MaxUint64: "18446744073709551615"} {
		if s := Print(x); s != want {
			t.Errorf("Print = %q, want %q", s, want)
		}
	}
}

// P3.1: Hex: sixteen digits, the most significant one first.
func TestHex(t *testing.T) {
	for _, x := range numbers() {
		if s, want := Hex(x), fmt.Sprintf("%016x", x); s != want {
			t.Errorf("Hex(%d) = %q, want %q", x, s, want)
		}
	}
	for x, want := range map[uint64]string{
		0: "0000000000000000", 1: "0000000000000001", 10: "000000000000000a", 1 << 60: "1000000000000000", 0x0123456789abcdef: "0123456789abcdef", math.MaxUint64: "ffffffffffffffff",
	} {
		if s := Hex(x); s != want {
			t.Errorf("Hex = %q, want %q", s, want)
		}
	}
}

// P3.2: Read, against the definition and unbounded integers.
func TestRead(t *testing.T) {
	for _, s := range texts() {
		want, wantErr := readByWords(s, exact(math.MaxUint64))
		if x, e := Read(s); e != wantErr || exact(x).Cmp(want) != 0 {
			t.Errorf("Read(%.60q) = %d, %d, want %d, %d", s, x, e, want, wantErr)
		}
	}
}

// P3.2: Read at the bounds of the form and of the range; the form is asked first.
func TestReadAtTheBounds(t *testing.T) {
	for _, c := range []struct {
		s    string
		x    uint64
		want api.Errno
	}{
		{"", 0, api.ErrForm}, {"0", 0, api.OK}, {"00", 0, api.ErrForm}, {"01", 0, api.ErrForm}, {"007", 0, api.ErrForm}, {"10", 10, api.OK}, {"-1", 0, api.ErrForm}, {"+1", 0, api.ErrForm}, {"1_0", 0, api.ErrForm},
		{"18446744073709551614", math.MaxUint64 - 1, api.OK}, {"18446744073709551615", math.MaxUint64, api.OK}, {"18446744073709551616", 0, api.ErrRange}, {"18446744073709551617", 0, api.ErrRange}, {"18446744073709551625", 0, api.ErrRange},
		{"99999999999999999999", 0, api.ErrRange}, {"184467440737095516150", 0, api.ErrRange}, {"36893488147419103233", 0, api.ErrRange},
		{"018446744073709551616", 0, api.ErrForm}, {"18446744073709551616a", 0, api.ErrForm}, {"18446744073709551616 ", 0, api.ErrForm}, {"a", 0, api.ErrForm}, {"ff", 0, api.ErrForm}, {"\uff11", 0, api.ErrForm}, {"\u0661", 0, api.ErrForm}, {"1\xff", 0, api.ErrForm},
	} {
		if x, e := Read(c.s); x != c.x || e != c.want {
			t.Errorf("Read(%q) = %d, %d, want %d, %d", c.s, x, e, c.x, c.want)
		}
	}
}

// P3.2: Int, against the definition, for greatest values of all sizes.
func TestInt(t *testing.T) {
	all := texts()
	for _, most := range []int{math.MinInt, -1 << 32, -256, -2, -1, 0, 1, 6, 7, 8, 41, 42, 43, 63, 64, 255, 256, 65536, math.MaxInt32, 1 << 32, math.MaxInt - 1, math.MaxInt} {
		for _, s := range all {
			want, wantErr := readByWords(s, big.NewInt(int64(most)))
			if x, e := Int(s, most); e != wantErr || big.NewInt(int64(x)).Cmp(want) != 0 {
				t.Errorf("Int(%.60q, %d) = %d, %d, want %d, %d", s, most, x, e, want, wantErr)
			}
		}
	}
}

// P3.2: Int at the greatest value, at the greatest int, and with a negative greatest value.
func TestIntAtTheBounds(t *testing.T) {
	for _, c := range []struct {
		s    string
		most int
		x    int
		want api.Errno
	}{
		{"0", 0, 0, api.OK}, {"1", 0, 0, api.ErrRange}, {"7", 7, 7, api.OK}, {"8", 7, 0, api.ErrRange}, {"6", 7, 6, api.OK}, {"0", -1, 0, api.ErrRange}, {"5", -5, 0, api.ErrRange}, {"0", math.MinInt, 0, api.ErrRange},
		{"18446744073709551615", -1, 0, api.ErrRange}, {"18446744073709551614", -1, 0, api.ErrRange}, {"9223372036854775808", math.MinInt, 0, api.ErrRange},
		{"9223372036854775807", math.MaxInt, math.MaxInt, api.OK}, {"9223372036854775808", math.MaxInt, 0, api.ErrRange}, {"18446744073709551615", math.MaxInt, 0, api.ErrRange}, {"18446744073709551616", math.MaxInt, 0, api.ErrRange},
		{"", 5, 0, api.ErrForm}, {"", -1, 0, api.ErrForm}, {"-1", -1, 0, api.ErrForm}, {"-1", 5, 0, api.ErrForm}, {"05", 5, 0, api.ErrForm}, {"05", 4, 0, api.ErrForm}, {"x", -1, 0, api.ErrForm}, {"9x", 5, 0, api.ErrForm},
	} {
		if x, e := Int(c.s, c.most); x != c.x || e != c.want {
			t.Errorf("Int(%q, %d) = %d, %d, want %d, %d", c.s, c.most, x, e, c.x, c.want)
		}
	}
}

var hexForm = regexp.MustCompile(`\A[0-9a-f]{16}\z`)

// hexTexts are hex strings, and strings that differ from one in their length or in a digit.
func hexTexts() []string {
	const base = "0123456789abcdef"
	l := []string{
		"", "0", "ff", "0000000000000000", "ffffffffffffffff", "FFFFFFFFFFFFFFFF", "000000000000000A", "000000000000000", "00000000000000000", "0x00000000000000", "0x0000000000000001", "-000000000000001", "+000000000000001", "0000_0000_0000_0",
		" 00000000000000f", "00000000000000f ", "ffffffffffffffff0", "0ffffffffffffffff", "fffffffffffffff", strings.Repeat("f", 32), strings.Repeat("0", 5000), base, "fedcba9876543210", "8000000000000000", "7fffffffffffffff",
		"0000000000000é", "000000000000000é", "00000000000000é", strings.Repeat("\uff11", 16), strings.Repeat("\u0661", 8), strings.Repeat("\xff", 16), strings.Repeat("é", 8),
	}
	for i := range base {
		for b := range 256 {
			l = append(l, base[:i]+string([]byte{byte(b)})+base[i+1:])
		}
		l = append(l, base[:i], base[:i]+base[i+1:], base[:i]+"0"+base[i:])
	}
	for _, x := range numbers() {
		l = append(l, fmt.Sprintf("%016x", x), fmt.Sprintf("%x", x), fmt.Sprintf("%016X", x), fmt.Sprintf("%017x", x))
	}
	return l
}

// P3.2: ReadHex, against the definition and unbounded integers.
func TestReadHex(t *testing.T) {
	for _, s := range hexTexts() {
		want, wantErr := new(big.Int), api.ErrForm
		if hexForm.MatchString(s) {
			want.SetString(s, 16)
			wantErr = api.OK
		}
		if x, e := ReadHex(s); e != wantErr || exact(x).Cmp(want) != 0 {
			t.Errorf("ReadHex(%.60q) = %d, %d, want %d, %d", s, x, e, want, wantErr)
		}
	}
}

// P3.2: ReadHex: the length, the case and each digit's place.
func TestReadHexAtTheBounds(t *testing.T) {
	for _, c := range []struct {
		s    string
		x    uint64
		want api.Errno
	}{
		{"0000000000000000", 0, api.OK}, {"ffffffffffffffff", math.MaxUint64, api.OK}, {"8000000000000000", 1 << 63, api.OK}, {"00000000000000ff", 255, api.OK}, {"0123456789abcdef", 0x0123456789abcdef, api.OK},
		{"", 0, api.ErrForm}, {"ff", 0, api.ErrForm}, {"000000000000000", 0, api.ErrForm}, {"00000000000000000", 0, api.ErrForm}, {"1ffffffffffffffff", 0, api.ErrForm},
		{"00000000000000FF", 0, api.ErrForm}, {"000000000000000g", 0, api.ErrForm}, {"/000000000000000", 0, api.ErrForm}, {"000000000000000:", 0, api.ErrForm}, {"000000000000000`", 0, api.ErrForm}, {"0x000000000000ff", 0, api.ErrForm}, {" 0000000000000ff", 0, api.ErrForm},
	} {
		if x, e := ReadHex(c.s); x != c.x || e != c.want {
			t.Errorf("ReadHex(%q) = %d, %d, want %d, %d", c.s, x, e, c.x, c.want)
		}
	}
}

// wordTexts are strings of few and many words: blanks in all places, other white space, and bytes that are no UTF-8.
func wordTexts() []string {
	l := []string{"", " ", "  ", "   ", "a", " a", "a ", " a ", "a b", "a  b", " a  bc ", "a b c d e", "a\tb", "a\nb c\r", "\u00a0 \u2003 \u3000", "a\x00b \x00", "\xff \xfe", "\xe2 \x80 \xa8", "\xe2\x80 \xa8", "\xf0\x9f\x98 \x80", "é ü", "\xa0 \x20\x85"}
	// All strings of up to seven bytes of a blank, a letter and the first byte of a longer rune.
	short := []string{""}
	for range 7 {
		var next []string
		for _, s := range short {
			next = append(next, s+" ", s+"a", s+"\xe2")
		}
		l = append(l, next...)
		short = next
	}
	for i := range 256 {
		b := string([]byte{byte(i)})
		l = append(l, b, "a"+b+"c", b+" "+b, " "+b+" ", b+b+b)
	}
	return append(l, strings.Repeat("ab ", 1000), strings.Repeat(" ", 1000), strings.Repeat("x", 1000))
}

// wordsByBytes cuts s at each byte 32 and leaves out what is empty.
func wordsByBytes(s string) []string {
	var words []string
	for _, w := range strings.Split(s, " ") {
		if w != "" {
			words = append(words, w)
		}
	}
	return words
}

// P3.3: Words, against the definition.
func TestWords(t *testing.T) {
	for _, s := range wordTexts() {
		if l, want := Words(s), wordsByBytes(s); !slices.Equal(l, want) {
			t.Errorf("Words(%.60q) = %.60q, want %.60q", s, l, want)
		}
	}
}

// P3.3: blanks at the ends and in a row, no word at all, and what is no blank.
func TestWordsAtTheBounds(t *testing.T) {
	for _, c := range []struct {
		s    string
		want []string
	}{
		{"", nil}, {" ", nil}, {"    ", nil}, {"a", []string{"a"}}, {" a", []string{"a"}}, {"a ", []string{"a"}}, {"ab  cd", []string{"ab", "cd"}}, {"b a b", []string{"b", "a", "b"}},
		{"a\tb\nc", []string{"a\tb\nc"}}, {"\t \n", []string{"\t", "\n"}}, {"a\u00a0b", []string{"a\u00a0b"}}, {"a\u2003b", []string{"a\u2003b"}}, {"\xff a\xe2 \x80", []string{"\xff", "a\xe2", "\x80"}}, {"é  ", []string{"é"}},
	} {
		if l := Words(c.s); !slices.Equal(l, c.want) {
			t.Errorf("Words(%q) = %q, want %q", c.s, l, c.want)
		}
	}
}

// P3.3: each answer is new memory.
func TestWordsAnswersAnew(t *testing.T) {
	const s = "one two three"
	l := Words(s)
	l[0] = "another"
	_ = append(l[:1], "more")
	if again := Words(s); !slices.Equal(again, []string{"one", "two", "three"}) {
		t.Error(again)
	}
}

// P3.4: what was printed is read again.
func TestPrintThenRead(t *testing.T) {
	for _, x := range numbers() {
		if y, e := Read(Print(x)); y != x || e != api.OK {
			t.Errorf("Read(Print(%d)) = %d, %d", x, y, e)
		}
		if y, e := ReadHex(Hex(x)); y != x || e != api.OK {
			t.Errorf("ReadHex(Hex(%d)) = %d, %d", x, y, e)
		}
	}
}

// P3.4: what was read is printed to the same string.
func TestReadThenPrint(t *testing.T) {
	read := 0
	for _, s := range texts() {
		if x, e := Read(s); e == api.OK {
			read++
			if Print(x) != s {
				t.Errorf("Print of what %q is read to is %q", s, Print(x))
			}
		}
		if x, e := Int(s, math.MaxInt); e == api.OK && Print(uint64(x)) != s {
			t.Errorf("Print of the int that %q is read to is %q", s, Print(uint64(x)))
		}
	}
	for _, s := range hexTexts() {
		if x, e := ReadHex(s); e == api.OK {
			read++
			if Hex(x) != s {
				t.Errorf("Hex of what %q is read to is %q", s, Hex(x))
			}
		}
	}
	if read < 1000 {
		t.Errorf("only %d texts were read", read)
	}
}

// P3.5: words joined by one blank have the same words.
func TestWordsJoined(t *testing.T) {
	for _, s := range wordTexts() {
		l := Words(s)
		if again := Words(strings.Join(l, " ")); !slices.Equal(again, l) {
			t.Errorf("the words of %.60q joined have the words %.60q", s, again)
		}
	}
}

// The chapter's example.
func TestExample(t *testing.T) {
	if x, e := Read("007"); x != 0 || e != api.ErrForm {
		t.Error(x, e)
	}
	if x, e := Read("18446744073709551616"); x != 0 || e != api.ErrRange {
		t.Error(x, e)
	}
	if s := Hex(255); s != "00000000000000ff" {
		t.Error(s)
	}
	if l := Words(" a  bc "); !slices.Equal(l, []string{"a", "bc"}) {
		t.Error(l)
	}
}
