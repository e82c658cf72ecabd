package tests

import (
	"hash/crc32"
	"math"
	"strings"
	"testing"

	"loop.example/g00746/impl"
)

// extremeInts are numbers that sums and shifts stumble over.
var extremeInts = []int{math.MinInt64, math.MinInt64 + 1, math.MinInt32, -256, -5, -4, -1, math.MaxInt32, math.MaxInt64 - 4, math.MaxInt64 - 3, math.MaxInt64 - 1, math.MaxInt64}

// wrongCounts are counts of bytes that PutNum and GetNum don't take.
var wrongCounts = append([]int{0, 5, 6, 7, 8, 9, 64, 256, 257, 260, 1 << 32, 1<<32 + 1}, extremeInts...)

func TestPutNum(t *testing.T) {
	for _, c := range []struct {
		n, bytes int
		want     string
	}{
		{0, 1, "\x00"}, {0, 2, "\x00\x00"}, {0, 3, "\x00\x00\x00"}, {0, 4, "\x00\x00\x00\x00"},
		{1, 1, "\x01"}, {1, 2, "\x00\x01"}, {1, 3, "\x00\x00\x01"}, {1, 4, "\x00\x00\x00\x01"},
		{4660, 1, "\x34"}, {4660, 2, "\x12\x34"}, {4660, 3, "\x00\x12\x34"},
		{0x12345678, 1, "\x78"}, {0x12345678, 2, "\x56\x78"}, {0x12345678, 3, "\x34\x56\x78"}, {0x12345678, 4, "\x12\x34\x56\x78"},
		// The greatest number of each count of bytes, and one more.
		{255, 1, "\xff"}, {256, 1, "\x00"}, {257, 1, "\x01"},
		{65535, 2, "\xff\xff"}, {65536, 2, "\x00\x00"}, {65537, 2, "\x00\x01"},
		{1<<24 - 1, 3, "\xff\xff\xff"}, {1 << 24, 3, "\x00\x00\x00"}, {1<<24 + 1, 3, "\x00\x00\x01"},
		{1<<32 - 1, 4, "\xff\xff\xff\xff"}, {1 << 32, 4, "\x00\x00\x00\x00"}, {1<<32 + 1, 4, "\x00\x00\x00\x01"},
		{255, 2, "\x00\xff"}, {256, 2, "\x01\x00"}, {65536, 3, "\x01\x00\x00"}, {1 << 24, 4, "\x01\x00\x00\x00"},
		{1 << 31, 4, "\x80\x00\x00\x00"},
		{0x0123456789abcdef, 4, "\x89\xab\xcd\xef"}, {0x0123456789abcdef, 1, "\xef"},
		{math.MaxInt64, 1, "\xff"}, {math.MaxInt64, 4, "\xff\xff\xff\xff"}, {math.MaxInt64 - 1, 2, "\xff\xfe"},
	} {
		if got := impl.PutNum(c.n, c.bytes); got != c.want {
			t.Errorf("PutNum(%d, %d) = %q, want %q", c.n, c.bytes, got, c.want)
		}
	}
}

func TestPutNumRefuses(t *testing.T) {
	for bytes := 1; bytes <= 4; bytes++ {
		for _, n := range []int{-1, -2, -255, -256, -65536, math.MinInt32, math.MinInt64, math.MinInt64 + 1} {
			if got := impl.PutNum(n, bytes); got != "" {
				t.Errorf("PutNum(%d, %d) = %q, want nothing", n, bytes, got)
			}
		}
	}
	for _, bytes := range wrongCounts {
		for _, n := range []int{0, 1, 255, 4660, math.MaxInt64, -1, math.MinInt64} {
			if got := impl.PutNum(n, bytes); got != "" {
				t.Errorf("PutNum(%d, %d) = %q, want nothing", n, bytes, got)
			}
		}
	}
}

func TestGetNum(t *testing.T) {
	const s = "\x12\x34\x56\x78\x9a\xff\xff\xff\xff"
	for _, c := range []struct{ at, bytes, want int }{
		{0, 1, 0x12}, {0, 2, 0x1234}, {0, 3, 0x123456}, {0, 4, 0x12345678},
		{1, 1, 0x34}, {1, 2, 0x3456}, {1, 3, 0x345678}, {1, 4, 0x3456789a},
		{4, 1, 0x9a}, {4, 2, 0x9aff}, {5, 4, 1<<32 - 1}, {6, 3, 1<<24 - 1}, {7, 2, 65535}, {8, 1, 255},
	} {
		if got := impl.GetNum(s, c.at, c.bytes); got != c.want {
			t.Errorf("GetNum(%d, %d) = %d, want %d", c.at, c.bytes, got, c.want)
		}
	}
	if got := impl.GetNum("\x80\x00\x00\x00", 0, 4); got != 1<<31 {
		t.Errorf("GetNum of a number whose highest bit is a one = %d", got)
	}
}

// TestGetNumBehindTheEnd: a number is told at just those places from which on all its bytes are there.
func TestGetNumBehindTheEnd(t *testing.T) {
	for size := range 10 {
		s := strings.Repeat("\x01", size)
		for bytes := 1; bytes <= 4; bytes++ {
			whole := impl.GetNum("\x01\x01\x01\x01", 0, bytes)
			for at := -6; at <= size+6; at++ {
				want := -1
				if at >= 0 && at+bytes <= size {
					want = whole
				}
				if got := impl.GetNum(s, at, bytes); got != want {
					t.Errorf("GetNum of %d bytes (%d, %d) = %d, want %d", size, at, bytes, got, want)
				}
			}
			for _, at := range append([]int{1 << 32, 1<<32 + 1}, extremeInts...) {
				if got := impl.GetNum(s, at, bytes); got != -1 {
					t.Errorf("GetNum of %d bytes (%d, %d) = %d, want -1", size, at, bytes, got)
				}
			}
		}
	}
}

func TestGetNumRefusesCounts(t *testing.T) {
	places := append([]int{0, 1, 2, 9, 10, 11}, extremeInts...)
	for _, s := range []string{"", "\x01", "0123456789"} {
		for _, bytes := range wrongCounts {
			for _, at := range places {
				if got := impl.GetNum(s, at, bytes); got != -1 {
					t.Errorf("GetNum(%q, %d, %d) = %d, want -1", s, at, bytes, got)
				}
			}
		}
	}
}

func TestNumbersComeBackFromTheirBytes(t *testing.T) {
	ahead := []string{"", "\x00", "\xff", "ab", strings.Repeat("\x07", 300)}
	behind := []string{"", "\x00", "\xff\xff\xff\xff\xff"}
	check := func(n, bytes int) {
		s := impl.PutNum(n, bytes)
		if len(s) != bytes {
			t.Fatalf("PutNum(%d, %d) has %d bytes", n, bytes, len(s))
		}
		for _, a := range ahead {
			for _, b := range behind {
				if got, want := impl.GetNum(a+s+b, len(a), bytes), n%(1<<(8*bytes)); got != want {
					t.Errorf("GetNum(%.20q, %d, %d) = %d, want %d", a+s+b, len(a), bytes, got, want)
				}
			}
		}
	}
	for bytes := 1; bytes <= 4; bytes++ {
		for n := range 1000 {
			check(n, bytes)
		}
		for shift := range 62 {
			for near := -2; near <= 2; near++ {
				if n := 1<<shift + near; n >= 0 {
					check(n, bytes)
				}
			}
		}
		for n := 1; n > 0 && n < math.MaxInt64/3-7; n = n*3 + 7 {
			check(n, bytes)
		}
		check(math.MaxInt64, bytes)
	}
}

// slowCrc goes bit by bit, as the document tells it.
func slowCrc(s string) int {
	sum := uint32(math.MaxUint32)
	for i := range len(s) {
		sum ^= uint32(s[i])
		for range 8 {
			low := sum & 1
			sum >>= 1
			if low == 1 {
				sum ^= 0xedb88320
			}
		}
	}
	return int(sum ^ math.MaxUint32)
}

func TestCrc(t *testing.T) {
	for _, c := range []struct {
		s    string
		want int
	}{
		{"", 0}, {"a", 3904355907}, {"123456789", 3421780262},
		{"\x00", 0xd202ef8d}, {"\xff", 0xff000000}, {"\x00\x00\x00\x00", 0x2144df1c}, {"\xff\xff\xff\xff", 0xffffffff},
	} {
		if got := impl.Crc(c.s); got != c.want {
			t.Errorf("Crc(%q) = %d, want %d", c.s, got, c.want)
		}
	}
	texts := append(allTexts(allBytes(), 2), allBytes(), strings.Repeat(allBytes(), 40), strings.Repeat("\x00", impl.MaxText), strings.Repeat("x", impl.MaxText+1))
	for _, s := range append(texts, allTexts("\x00a\x80\xff", 5)...) {
		got := impl.Crc(s)
		if want := slowCrc(s); got != want {
			t.Errorf("Crc(%.40q) = %d, want %d", s, got, want)
		}
		if want := int(crc32.ChecksumIEEE([]byte(s))); got != want {
			t.Errorf("Crc(%.40q) = %d, other programs tell %d", s, got, want)
		}
	}
}

// sealedTexts are texts of many lengths, those that look like seals among them.
func sealedTexts() []string {
	texts := allTexts("\x00a\xff", 5)
	for size := range 60 {
		texts = append(texts, allBytes()[:size], allBytes()[256-size:])
	}
	for _, s := range []string{"", "a", "123456789"} {
		texts = append(texts, impl.Sealed(s), impl.Sealed(impl.Sealed(s)))
	}
	return append(texts, "123456789", allBytes(), strings.Repeat("ab\n", 5000), strings.Repeat("\x00", impl.MaxText), strings.Repeat("\xff", impl.MaxText+1))
}

func TestSealed(t *testing.T) {
	for _, c := range []struct{ s, want string }{
		{"", "\x00\x00\x00\x00"},
		{"123456789", "123456789\x26\x39\xf4\xcb"},
		{"a", "a\x43\xbe\xb7\xe8"},
		{"\xff", "\xff\x00\x00\x00\xff"},
		{"\x00\x00\x00\x00", "\x00\x00\x00\x00\x1c\xdf\x44\x21"},
	} {
		if got := impl.Sealed(c.s); got != c.want {
			t.Errorf("Sealed(%q) = %q, want %q", c.s, got, c.want)
		}
	}
	for _, s := range sealedTexts() {
		sum := slowCrc(s)
		want := s + string([]byte{byte(sum), byte(sum >> 8), byte(sum >> 16), byte(sum >> 24)})
		if got := impl.Sealed(s); got != want {
			t.Errorf("Sealed(%.40q) = %.40q, want %.40q", s, got, want)
		}
	}
}

func TestTextsComeBackFromTheirSeals(t *testing.T) {
	for _, s := range sealedTexts() {
		if got, ok := impl.Opened(impl.Sealed(s)); !ok || got != s {
			t.Errorf("Opened(Sealed(%.40q)) = %.40q, %v", s, got, ok)
		}
	}
}

// notOpened demands that a text is no seal.
func notOpened(t *testing.T, s, why string) {
	t.Helper()
	if got, ok := impl.Opened(s); ok || got != "" {
		t.Errorf("%s: Opened(%.40q) = %.40q, %v, want nothing", why, s, got, ok)
	}
}

func TestOpenedRefusesShortTexts(t *testing.T) {
	for _, s := range allTexts(allBytes(), 2) {
		notOpened(t, s, "shorter than a seal")
	}
	for _, s := range allTexts("\x00\x01a\x80\xff", 3) {
		notOpened(t, s, "shorter than a seal")
	}
	// Of four bytes only noughts are the seal of a text, the empty one.
	for _, s := range allTexts("\x00\x01a\x80\xff", 4) {
		if s != "\x00\x00\x00\x00" && len(s) == 4 {
			notOpened(t, s, "no seal of the empty text")
		}
	}
	if s, ok := impl.Opened("\x00\x00\x00\x00"); !ok || s != "" {
		t.Errorf("the seal of the empty text opens as %q, %v", s, ok)
	}
}

// TestOpenedRefusesOtherSeals: the four bytes stand the lowest first, and hold the sum as it comes out in the end.
func TestOpenedRefusesOtherSeals(t *testing.T) {
	for _, s := range []string{
		"abc", "123456789", "123456789\x26\x39\xf4\xca", "123456789\x27\x39\xf4\xcb", "12345678\x26\x39\xf4\xcb", "1234567890\x26\x39\xf4\xcb",
		"123456789\xcb\xf4\x39\x26", "123456789\xd9\xc6\x0b\x34", "\x26\x39\xf4\xcb123456789",
		"123456789\x00\x00\x00\x00", "\xff\xff\xff\xff", "a\x00\x00\x00\x00", "aa\x43\xbe\xb7\xe8", "\x43\xbe\xb7\xe8",
	} {
		notOpened(t, s, "another seal")
	}
	for i := range len("123456789") {
		notOpened(t, "123456789"[:i]+"x"+"123456789"[i+1:]+"\x26\x39\xf4\xcb", "another byte")
	}
}

func TestOpenedRefusesCutSeals(t *testing.T) {
	for size := range 60 {
		s := impl.Sealed(allBytes()[256-size:])
		notOpened(t, s[:len(s)-1], "cut behind")
		notOpened(t, s[1:], "cut ahead")
		for cut := 1; cut <= 4; cut++ {
			notOpened(t, s[:len(s)-cut], "cut behind")
		}
		notOpened(t, s+"\x00", "a byte more behind")
		notOpened(t, "\x01"+s, "a byte more ahead")
	}
}

// TestOpenedRefusesTurnedBits turns each bit of each byte, those of the seal among them.
func TestOpenedRefusesTurnedBits(t *testing.T) {
	texts := append(allTexts("\x00a\xff", 4), "123456789", allBytes(), strings.Repeat("\x00", 300))
	for _, text := range texts {
		s := impl.Sealed(text)
		for at := range len(s) {
			for bit := range 8 {
				turned := s[:at] + string([]byte{s[at] ^ 1<<bit}) + s[at+1:]
				notOpened(t, turned, "a bit turned")
			}
		}
	}
}

func TestXor(t *testing.T) {
	for _, c := range []struct{ a, b, want string }{
		{"", "", ""},
		{"\x0f\xff", "\xff\xff", "\xf0\x00"},
		{"\x00", "\x00", "\x00"}, {"a", "a", "\x00"}, {"a", "A", "\x20"}, {"\x00a\xff", "\x00\x00\x00", "\x00a\xff"},
		{"\x01\x02\x04\x08", "\x10\x20\x40\x80", "\x11\x22\x44\x88"},
		// Beside texts of one length there is no answer.
		{"a", "ab", ""}, {"ab", "a", ""}, {"", "a", ""}, {"a", "", ""}, {"abcd", "abcde", ""}, {"\x00", "\x00\x00", ""},
		{strings.Repeat("x", 256), "", ""}, {strings.Repeat("x", 257), "x", ""},
	} {
		if got := impl.Xor(c.a, c.b); got != c.want {
			t.Errorf("Xor(%.40q, %.40q) = %.40q, want %.40q", c.a, c.b, got, c.want)
		}
	}
	for a := range 256 {
		for b := range 256 {
			if got, want := impl.Xor(string([]byte{byte(a)}), string([]byte{byte(b)})), string([]byte{byte(a ^ b)}); got != want {
				t.Errorf("Xor of bytes %d and %d = %q, want %q", a, b, got, want)
			}
		}
	}
}

func TestXorTwiceIsGone(t *testing.T) {
	texts := append(allTexts("\x00a\x80\xff", 3), allBytes(), allBytes()[128:]+allBytes()[:128], strings.Repeat("a", impl.MaxText+1), strings.Repeat("\xa5", impl.MaxText+1))
	for _, a := range texts {
		for _, b := range texts {
			once := impl.Xor(a, b)
			if len(a) != len(b) {
				if once != "" {
					t.Errorf("Xor(%.40q, %.40q) = %.40q, of two lengths", a, b, once)
				}
				continue
			}
			if len(once) != len(a) {
				t.Errorf("Xor(%.40q, %.40q) has %d bytes", a, b, len(once))
			}
			if impl.Xor(b, a) != once {
				t.Errorf("Xor(%.40q, %.40q) is another one the other way round", a, b)
			}
			if impl.Xor(once, b) != a || impl.Xor(once, a) != b {
				t.Errorf("Xor(%.40q, %.40q) put together again is another text", a, b)
			}
		}
	}
}

func TestByteAnswersAreNewMemory(t *testing.T) {
	text := strings.Clone("123456789\x26\x39\xf4\xcb")
	noughts := strings.Repeat("\x00", len(text))
	opened, _ := impl.Opened(text)
	for name, got := range map[string]string{"Sealed": impl.Sealed(text), "Opened": opened, "Xor": impl.Xor(text, noughts), "Xor, the other way round": impl.Xor(noughts, text)} {
		if sharesBytes(text, got) || sharesBytes(noughts, got) {
			t.Errorf("%s: %q lies in an argument", name, got)
		}
	}
}

// TestBytesAnswerAtAnyArguments: the answers are those of other tests; here none may panic, change what it is given, or differ when asked again.
func TestBytesAnswerAtAnyArguments(t *testing.T) {
	texts := append(allTexts("\x00a\xff", 4), allBytes(), strings.Repeat(allBytes(), 500))
	for _, s := range texts {
		before := strings.Clone(s)
		sum, sealed := impl.Crc(s), impl.Sealed(s)
		if sum < 0 || sum > math.MaxUint32 || len(sealed) != len(s)+4 {
			t.Errorf("Crc(%.40q) = %d, Sealed has %d bytes", s, sum, len(sealed))
		}
		if text, ok := impl.Opened(s); !ok && text != "" {
			t.Errorf("Opened(%.40q) = %.40q beside false", s, text)
		}
		if text := impl.Xor(s, s); strings.Trim(text, "\x00") != "" || len(text) != len(s) {
			t.Errorf("Xor of %.40q and itself is %.40q", s, text)
		}
		if impl.Crc(s) != sum || impl.Sealed(s) != sealed || s != before {
			t.Errorf("%.40q: asked again, another answer", before)
		}
	}
	numbers := append([]int{0, 1, 2, 3, 4, 5, 255, 256, 1<<32 - 1, 1 << 32}, extremeInts...)
	for _, n := range numbers {
		for _, m := range numbers {
			if got := impl.PutNum(n, m); len(got) > 4 || n < 0 && got != "" {
				t.Errorf("PutNum(%d, %d) = %q", n, m, got)
			}
			for _, s := range []string{"", "a", "abcd", "abcdefgh"} {
				if got := impl.GetNum(s, n, m); got < -1 || got > math.MaxUint32 {
					t.Errorf("GetNum(%q, %d, %d) = %d", s, n, m, got)
				}
			}
		}
	}
}
