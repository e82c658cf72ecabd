package tests

import (
	"math"
	"slices"
	"strconv"
	"strings"
	"testing"
	"unsafe"

	"loop.example/g00746/impl"
)

// allTexts lists every text of 0 .. most bytes, each byte one of signs.
func allTexts(signs string, most int) []string {
	all := []string{""}
	last := all
	for range most {
		var longer []string
		for _, s := range last {
			for i := range len(signs) {
				longer = append(longer, s+signs[i:i+1])
			}
		}
		all = append(all, longer...)
		last = longer
	}
	return all
}

// allBytes is the text of all 256 bytes, in order.
func allBytes() string {
	b := make([]byte, 256)
	for i := range b {
		b[i] = byte(i)
	}
	return string(b)
}

func TestMaxText(t *testing.T) {
	if impl.MaxText != 4000 {
		t.Errorf("MaxText is %d", impl.MaxText)
	}
}

func TestDecText(t *testing.T) {
	for _, c := range []struct {
		n    int
		want string
	}{
		{0, "0"}, {1, "1"}, {9, "9"}, {10, "10"}, {105, "105"},
		{-1, "-1"}, {-10, "-10"}, {-120, "-120"},
		{999999999, "999999999"}, {1000000000, "1000000000"}, {-999999999, "-999999999"},
		{math.MaxInt32, "2147483647"}, {math.MaxInt32 + 1, "2147483648"},
		{math.MaxInt64, "9223372036854775807"}, {math.MinInt64, "-9223372036854775808"},
		{math.MinInt64 + 1, "-9223372036854775807"},
	} {
		if got := impl.DecText(c.n); got != c.want {
			t.Errorf("DecText(%d) = %q, want %q", c.n, got, c.want)
		}
	}
}

func TestReadDecComesBack(t *testing.T) {
	check := func(n int) {
		want := n
		if n < 0 || n > 999999999 {
			want = -1
		}
		if got := impl.ReadDec(impl.DecText(n)); got != want {
			t.Errorf("ReadDec(DecText(%d)) = %d, want %d", n, got, want)
		}
	}
	for n := -1000; n <= 100000; n++ {
		check(n)
	}
	for power := 10; power <= 1000000000000000000 && power > 0; power *= 10 {
		for n := power - 2; n <= power+2; n++ {
			check(n)
			check(-n)
		}
	}
	for n := 1; n < 999999999; n = n*3 + 7 {
		check(n)
	}
	for _, n := range []int{999999998, 999999999, 1000000000, 1 << 31, 1 << 32, math.MaxInt64, math.MinInt64} {
		check(n)
	}
}

func TestReadDecOfShortTexts(t *testing.T) {
	numbers := map[string]int{}
	for n := range 100 {
		numbers[strconv.Itoa(n)] = n
	}
	for _, s := range allTexts(allBytes(), 2) {
		want, ok := numbers[s]
		if !ok {
			want = -1
		}
		if got := impl.ReadDec(s); got != want {
			t.Errorf("ReadDec(%q) = %d, want %d", s, got, want)
		}
	}
}

func TestReadDecRefuses(t *testing.T) {
	for _, s := range []string{
		"", "-1", "-0", "+0", "+1", "--1", "-999999999",
		"00", "000000000", "012", "0120", "0999999999", "0000000001",
		"1000000000", "2147483648", "4294967296", "9999999999", "4294967297",
		"9223372036854775807", "9223372036854775808", "-9223372036854775808",
		"18446744073709551615", "18446744073709551616", "18446744073709551617",
		"184467440737095516170", "340282366920938463463374607431768211457",
		strings.Repeat("9", 4000), strings.Repeat("9", 4001), strings.Repeat("0", 100000), "1" + strings.Repeat("0", 100000),
		" 1", "1 ", "1\n", "\n1", "\t1", "1\x00", "\x001", "1 2", "1.", "1.0", "1,000", "1_000", "0x1", "0b1", "0o7", "1e3", "ff", "a", "12a", "a12",
		"\xd9\xa1", "\xef\xbc\x91", "1\xff", "\xff", "\xb2",
	} {
		if got := impl.ReadDec(s); got != -1 {
			t.Errorf("ReadDec(%.40q) = %d, want -1", s, got)
		}
	}
}

func TestHexText(t *testing.T) {
	for _, c := range []struct{ s, want string }{
		{"", ""}, {"\x00", "00"}, {"\x0f", "0f"}, {"\xf0", "f0"}, {"\xff", "ff"},
		{"\x00\xffA", "00ff41"}, {"\x01\x23\x45\x67\x89\xab\xcd\xef", "0123456789abcdef"},
		{"\xc3\xa4\n ", "c3a40a20"},
	} {
		if got := impl.HexText(c.s); got != c.want {
			t.Errorf("HexText(%q) = %q, want %q", c.s, got, c.want)
		}
	}
	const digits = "0123456789abcdef"
	for i := range 256 {
		want := digits[i/16:i/16+1] + digits[i%16:i%16+1]
		if got := impl.HexText(string([]byte{byte(i)})); got != want {
			t.Errorf("HexText of byte %d = %q, want %q", i, got, want)
		}
	}
}

func TestReadHexComesBack(t *testing.T) {
	every := allBytes()
	texts := append(allTexts("\x00\x0a\x7f\xff", 4), every, every+every, strings.Repeat("\xa5", impl.MaxText), strings.Repeat("\xa5", impl.MaxText+1))
	for i := range 256 {
		texts = append(texts, every[i:i+1], every[i:]+every[:i])
	}
	for _, s := range texts {
		if got, ok := impl.ReadHex(impl.HexText(s)); !ok || got != s {
			t.Errorf("ReadHex(HexText(%.40q)) = %.40q, %v", s, got, ok)
		}
	}
}

func TestReadHexOfShortTexts(t *testing.T) {
	bytesOf := map[string]string{"": ""}
	for i := range 256 {
		s := string([]byte{byte(i)})
		bytesOf[impl.HexText(s)] = s
	}
	for _, s := range allTexts(allBytes(), 2) {
		want, wantOk := bytesOf[s]
		if got, ok := impl.ReadHex(s); got != want || ok != wantOk {
			t.Errorf("ReadHex(%q) = %q, %v, want %q, %v", s, got, ok, want, wantOk)
		}
	}
}

func TestReadHexRefuses(t *testing.T) {
	for _, s := range []string{
		"0", "a", "00f", "00ff4", strings.Repeat("0", 4001),
		"FF", "fF", "Ff", "00FF", "0A", "A0",
		"0g", "g0", "00zz", "zz00", "0x", "0x00", " 00", "00 ", "0 0 ", "00\n0", "00\n\n", "-1", "+1", "0/", "0:", "0@", "0`", "/0", ":0", "@0", "`0",
		"\x00\x00", "00\x00\x00", "\xff\xff", "\xc3\xa4", "00\xff0",
	} {
		if got, ok := impl.ReadHex(s); got != "" || ok {
			t.Errorf("ReadHex(%.40q) = %q, %v, want nothing", s, got, ok)
		}
	}
}

func TestLines(t *testing.T) {
	for _, c := range []struct {
		s    string
		want []string
	}{
		{"", nil},
		{"a", []string{"a"}},
		{"\n", []string{"", ""}},
		{"\n\n", []string{"", "", ""}},
		{"\na", []string{"", "a"}},
		{"a\n", []string{"a", ""}},
		{"a\nb", []string{"a", "b"}},
		{"a\n\nb\n", []string{"a", "", "b", ""}},
		{"a\n\n\nb", []string{"a", "", "", "b"}},
		{" a \t\n b\r\nc\x0b\x0c", []string{" a \t", " b\r", "c\x0b\x0c"}},
		{"\x00\n\xff\n\xc3\xa4", []string{"\x00", "\xff", "\xc3\xa4"}},
		{"a\u0085b\u2028c", []string{"a\u0085b\u2028c"}},
	} {
		if got := impl.Lines(c.s); !slices.Equal(got, c.want) {
			t.Errorf("Lines(%q) = %q, want %q", c.s, got, c.want)
		}
	}
}

func TestLinesComeBack(t *testing.T) {
	texts := append(allTexts("\na \r\xff", 6), strings.Repeat("ab\n", 5000), strings.Repeat("\n", impl.MaxText+1), allBytes())
	for _, s := range texts {
		lines := impl.Lines(s)
		if strings.Join(lines, "\n") != s {
			t.Errorf("Lines(%.40q) = %.40q", s, lines)
		}
		if s != "" && len(lines) != strings.Count(s, "\n")+1 {
			t.Errorf("Lines(%.40q) are %d", s, len(lines))
		}
	}
	if n := len(impl.Lines("")); n != 0 {
		t.Errorf("Lines of the empty text are %d", n)
	}
}

func TestWords(t *testing.T) {
	for _, c := range []struct {
		s    string
		want []string
	}{
		{"", nil}, {" ", nil}, {"\t", nil}, {" \t", nil}, {"\t \t  ", nil},
		{"a", []string{"a"}},
		{"abc", []string{"abc"}},
		{" a", []string{"a"}},
		{"a ", []string{"a"}},
		{"\ta\t", []string{"a"}},
		{"  a \t", []string{"a"}},
		{"a b", []string{"a", "b"}},
		{"a  b", []string{"a", "b"}},
		{"a\t\tb", []string{"a", "b"}},
		{"a \t b", []string{"a", "b"}},
		{" a\tbc  d\ne", []string{"a", "bc", "d\ne"}},
		{"\n", []string{"\n"}},
		{" \n ", []string{"\n"}},
		{"a\nb", []string{"a\nb"}},
		{"a\rb\x0bc\x0cd", []string{"a\rb\x0bc\x0cd"}},
		{"a\u00a0b\u2003c", []string{"a\u00a0b\u2003c"}},
		{"\x00 \xff\t\xc3\x20\xa4", []string{"\x00", "\xff", "\xc3", "\xa4"}},
		{"same same", []string{"same", "same"}},
	} {
		if got := impl.Words(c.s); !slices.Equal(got, c.want) {
			t.Errorf("Words(%q) = %q, want %q", c.s, got, c.want)
		}
	}
}

// TestWordsOfShortTexts takes for granted only what strings.FieldsFunc tells.
func TestWordsOfShortTexts(t *testing.T) {
	isGap := func(r rune) bool { return r == ' ' || r == '\t' }
	for _, s := range allTexts(" \ta\n\x00b", 6) {
		if got := impl.Words(s); !slices.Equal(got, strings.FieldsFunc(s, isGap)) {
			t.Errorf("Words(%q) = %q", s, got)
		}
	}
	for i := range 256 {
		s := string([]byte{byte(i)})
		want := []string{"x" + s + "y"}
		if s == " " || s == "\t" {
			want = []string{"x", "y"}
		}
		if got := impl.Words("x" + s + "y"); !slices.Equal(got, want) {
			t.Errorf("Words(%q) = %q, want %q", "x"+s+"y", got, want)
		}
	}
}

func TestWordsComeBack(t *testing.T) {
	words := []string{"a", "\n", "b\nc", "\x00", "\xff\xfe", "12", "-", strings.Repeat("w", impl.MaxText+1)}
	for _, gap := range []string{" ", "\t", "  ", " \t ", strings.Repeat("\t ", 3000)} {
		for _, end := range []string{"", " ", "\t", " \t"} {
			if got := impl.Words(end + strings.Join(words, gap) + end); !slices.Equal(got, words) {
				t.Errorf("words with %.10q between and %q around come back as %.40q", gap, end, got)
			}
		}
	}
}

// sharesBytes tells whether a part lies in the memory of a text.
func sharesBytes(text, part string) bool {
	if text == "" || part == "" {
		return false
	}
	start := uintptr(unsafe.Pointer(unsafe.StringData(text)))
	at := uintptr(unsafe.Pointer(unsafe.StringData(part)))
	return at >= start && at < start+uintptr(len(text))
}

// sharesRoom tells whether two lists lie in one array, or the room behind them does.
func sharesRoom[T any](a, b []T) bool {
	if cap(a) == 0 || cap(b) == 0 {
		return false
	}
	size := unsafe.Sizeof(a[:1][0])
	startA, startB := uintptr(unsafe.Pointer(unsafe.SliceData(a))), uintptr(unsafe.Pointer(unsafe.SliceData(b)))
	return startA < startB+uintptr(cap(b))*size && startB < startA+uintptr(cap(a))*size
}

// TestTextAnswersAreNewMemory: what is done to an answer is seen neither by the argument nor by the next answer.
func TestTextAnswersAreNewMemory(t *testing.T) {
	text := strings.Clone("one two\nthree four")
	for name, parts := range map[string]func(string) []string{"Lines": impl.Lines, "Words": impl.Words} {
		first := parts(text)
		kept := slices.Clone(first)
		for i, part := range first {
			if sharesBytes(text, part) {
				t.Errorf("%s: %q lies in the argument", name, part)
			}
			first[i] = "changed"
		}
		next := parts(text)
		if !slices.Equal(next, kept) {
			t.Errorf("%s: told %q, then %q", name, kept, next)
		}
		if sharesRoom(first, next) {
			t.Errorf("%s tells the same memory twice", name)
		}
	}
	if text != "one two\nthree four" {
		t.Errorf("the argument became %q", text)
	}
}

// TestTextsAnswerAtAnyArguments: the answers are those of other tests; here none may panic, or change what it is given.
func TestTextsAnswerAtAnyArguments(t *testing.T) {
	texts := append(allTexts(" \t\n0f-\xff\x00", 3), allBytes(), strings.Repeat(allBytes(), 500))
	for _, s := range texts {
		before := strings.Clone(s)
		for range 2 {
			if n := impl.ReadDec(s); n < -1 || n > 999999999 {
				t.Errorf("ReadDec(%.40q) = %d", s, n)
			}
			if text, ok := impl.ReadHex(s); !ok && text != "" {
				t.Errorf("ReadHex(%.40q) = %q beside false", s, text)
			}
			if n := len(impl.HexText(s)); n != 2*len(s) {
				t.Errorf("HexText(%.40q) has %d bytes", s, n)
			}
			impl.Lines(s)
			impl.Words(s)
		}
		if s != before {
			t.Errorf("%.40q became %.40q", before, s)
		}
	}
	for _, n := range []int{math.MinInt64, math.MinInt32, -1, 0, 1, math.MaxInt32, math.MaxInt64} {
		if impl.DecText(n) != strconv.FormatInt(int64(n), 10) {
			t.Errorf("DecText(%d) = %q", n, impl.DecText(n))
		}
	}
}
