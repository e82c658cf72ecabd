package tests

import (
	"math"
	"math/rand"
	"slices"
	"strconv"
	"strings"
	"testing"

	"loop.example/g00746/impl"
)

// bitsOf lists the bits of a text: those of a byte by what they are worth, from 1 on.
func bitsOf(s string) []bool {
	var bits []bool
	for i := range len(s) {
		for worth := 1; worth <= 128; worth *= 2 {
			bits = append(bits, int(s[i])/worth%2 == 1)
		}
	}
	return bits
}

// textOfBits tells the text whose bits a list is.
func textOfBits(bits []bool) string {
	var text strings.Builder
	for ; len(bits) > 0; bits = bits[8:] {
		sum, worth := 0, 1
		for _, bit := range bits[:8] {
			if bit {
				sum += worth
			}
			worth *= 2
		}
		text.WriteByte(byte(sum))
	}
	return text.String()
}

// slowTurned tells a text with bits turned, one by one, and how many of these are bits of it.
func slowTurned(s string, bits ...int) (turned string, own int) {
	all := bitsOf(s)
	for _, bit := range bits {
		if bit >= 0 && bit < len(all) {
			all[bit] = !all[bit]
			own++
		}
	}
	return textOfBits(all), own
}

func slowAirOk(air []string) bool {
	longest := 0
	for _, s := range air {
		longest = max(longest, len(s))
	}
	return len(air) < 11 && longest < 41
}

// slowSent tells what Sent does, without the functions of impl; so do the ones that follow of others.
func slowSent(air []string, s string) ([]string, bool) {
	if !slowAirOk(air) || len(air) == 10 || len(s) > 40 {
		return air, false
	}
	return slices.Concat(air, []string{s}), true
}

func slowGone(air []string, at int) (left []string, gone string) {
	if !slowAirOk(air) {
		return air, ""
	}
	for i, s := range air {
		if i == at {
			gone = s
		} else {
			left = append(left, s)
		}
	}
	return left, gone
}

func slowTwice(air []string, at int) ([]string, bool) {
	for i, s := range air {
		if i == at {
			return slowSent(air, s)
		}
	}
	return air, false
}

func slowFlip(s string, bit int) string {
	turned, _ := slowTurned(s, bit)
	return turned
}

func slowHurt(air []string, at int, bits []int) (hurt []string, ok bool) {
	if !slowAirOk(air) || len(bits) == 0 || len(bits) >= 9 {
		return air, false
	}
	for i, s := range air {
		if i == at {
			var own int
			s, own = slowTurned(s, bits...)
			ok = own == len(bits)
		}
		hurt = append(hurt, s)
	}
	if !ok {
		return air, false
	}
	return hurt, true
}

// shownAir shows the first texts of an air, and how many there are.
func shownAir(air []string) string {
	text := strconv.Itoa(len(air)) + " texts"
	for _, s := range air[:min(len(air), 12)] {
		text += " " + strconv.Quote(s[:min(len(s), 45)])
	}
	return text
}

func isAirOk(t *testing.T, air []string, want bool) {
	t.Helper()
	if got := impl.AirOk(air); got != want || slowAirOk(air) != want {
		t.Errorf("AirOk = %v, want %v: %s", got, want, shownAir(air))
	}
}

// isSent holds what Sent tells against what it should tell: the air with s behind where that may be, else the air.
func isSent(t *testing.T, air []string, s string, wantOk bool) {
	t.Helper()
	want, slowOk := slowSent(air, s)
	if got, ok := impl.Sent(air, s); ok != wantOk || slowOk != wantOk || !slices.Equal(got, want) {
		t.Errorf("Sent(%s, %.45q) = %s, %v, want %v", shownAir(air), s, shownAir(got), ok, wantOk)
	}
}

func isGone(t *testing.T, air []string, at int, want []string, wantGone string) {
	t.Helper()
	slow, slowText := slowGone(air, at)
	if got, gone := impl.Gone(air, at); gone != wantGone || slowText != wantGone || !slices.Equal(got, want) || !slices.Equal(slow, want) {
		t.Errorf("Gone(%s, %d) = %s, %.45q, want %s, %.45q", shownAir(air), at, shownAir(got), gone, shownAir(want), wantGone)
	}
}

// isTwice holds what Twice tells against what it should tell, likewise.
func isTwice(t *testing.T, air []string, at int, wantOk bool) {
	t.Helper()
	want, slowOk := slowTwice(air, at)
	if got, ok := impl.Twice(air, at); ok != wantOk || slowOk != wantOk || !slices.Equal(got, want) {
		t.Errorf("Twice(%s, %d) = %s, %v, want %v", shownAir(air), at, shownAir(got), ok, wantOk)
	}
}

func isFlipped(t *testing.T, s string, bit int, want string) {
	t.Helper()
	if got := impl.Flip(s, bit); got != want || slowFlip(s, bit) != want {
		t.Errorf("Flip(%.45q, %d) = %.45q, want %.45q", s, bit, got, want)
	}
}

// isHurt demands that the text at a place becomes want, and that all others stay as they were.
func isHurt(t *testing.T, air []string, at int, bits []int, want string) {
	t.Helper()
	all := slices.Clone(air)
	all[at] = want
	slow, slowOk := slowHurt(air, at, bits)
	if got, ok := impl.Hurt(air, at, bits); !ok || !slowOk || !slices.Equal(got, all) || !slices.Equal(slow, all) {
		t.Errorf("Hurt(%s, %d, %v) = %s, %v, want %.45q there", shownAir(air), at, bits, shownAir(got), ok, want)
	}
}

func notHurt(t *testing.T, air []string, at int, bits ...int) {
	t.Helper()
	_, slowOk := slowHurt(air, at, bits)
	if got, ok := impl.Hurt(air, at, bits); ok || slowOk || !slices.Equal(got, air) {
		t.Errorf("Hurt(%s, %d, %v) = %s, %v, want it as it was", shownAir(air), at, bits, shownAir(got), ok)
	}
}

// isAirRight holds all that is told of an air, a text, a place and bits against the slow rules.
func isAirRight(t *testing.T, air []string, s string, at int, bits []int) {
	t.Helper()
	isAirOk(t, air, slowAirOk(air))
	_, ok := slowSent(air, s)
	isSent(t, air, s, ok)
	left, gone := slowGone(air, at)
	isGone(t, air, at, left, gone)
	_, ok = slowTwice(air, at)
	isTwice(t, air, at, ok)
	if hurt, ok := slowHurt(air, at, bits); ok {
		isHurt(t, air, at, bits, hurt[at])
	} else {
		notHurt(t, air, at, bits...)
	}
	for _, bit := range bits {
		isFlipped(t, s, bit, slowFlip(s, bit))
	}
}

// longText is a text of so many bytes, no two in a row alike.
func longText(size int) string { return strings.Repeat(allBytes(), size/256+1)[:size] }

// airOf is an air of so many texts, each other than all others, none of them empty.
func airOf(n int) []string {
	var air []string
	for i := range n {
		air = append(air, "text "+strconv.Itoa(i)+strings.Repeat("\xff", i))
	}
	return air
}

// wrongAirs are airs that aren't right, by how many texts they have, or by how long one is.
func wrongAirs() [][]string {
	wrong := [][]string{airOf(11), airOf(12), airOf(20), make([]string, 11), make([]string, 256), make([]string, 266), slices.Repeat([]string{longText(40)}, 11), {longText(41), longText(41)}, {longText(100000)}}
	for _, n := range []int{1, 2, 3, 9, 10, 11} {
		for at := range n {
			air := airOf(n)
			air[at] = longText(41)
			wrong = append(wrong, air)
		}
	}
	return wrong
}

// placesAround are places of an air, behind its end, below 0, and far off.
var placesAround = append([]int{0, 1, 2, 3, 4, 5, 6, 7, 8, 9, 10, 11, 12, 20, -2, -9, -10, -11, 256, 1 << 32, 1<<32 + 1}, extremeInts...)

// bitsAround are bits of short texts and of texts of 40 bytes, behind their ends, below 0, and far off.
var bitsAround = append([]int{0, 1, 6, 7, 8, 9, 15, 16, 17, 23, 24, 25, 311, 312, 318, 319, 320, 321, 327, 328, 400, 2047, 2048, -2, -7, -8, -9, -16, -319, -320, -321, 1 << 32, 1<<32 + 1, math.MaxInt64 - 7, math.MinInt64 + 8}, extremeInts...)

func TestMaxAir(t *testing.T) {
	if impl.MaxAir != 10 {
		t.Errorf("MaxAir is %d", impl.MaxAir)
	}
}

func TestAirOk(t *testing.T) {
	for _, air := range [][]string{nil, {}, {""}, {"a"}, {"a", "a"}, {"", ""}, {"b", "a", ""}, {longText(40)}, {"", longText(40), "a"}, airOf(9), airOf(10), make([]string, 10), slices.Repeat([]string{longText(40)}, 10)} {
		isAirOk(t, air, true)
	}
	for _, air := range [][]string{{longText(41)}, {"", longText(41)}, {longText(41), ""}, {"a", longText(41), "a"}, {longText(40), longText(41)}, airOf(11), make([]string, 11), slices.Repeat([]string{longText(40)}, 11)} {
		isAirOk(t, air, false)
	}
	for _, air := range wrongAirs() {
		isAirOk(t, air, false)
	}
}

func TestAirOkOfHowMany(t *testing.T) {
	for n := range 300 {
		isAirOk(t, make([]string, n), n <= 10)
		isAirOk(t, slices.Repeat([]string{longText(40)}, n), n <= 10)
	}
	isAirOk(t, make([]string, 65536), false)
	isAirOk(t, make([]string, 65546), false)
}

// TestAirOkOfHowLong: at each place of an air a text of 40 bytes may stand, and one of 41 may not.
func TestAirOkOfHowLong(t *testing.T) {
	for n := 1; n <= 10; n++ {
		for at := range n {
			air := airOf(n)
			for _, size := range []int{0, 1, 25, 38, 39, 40, 41, 42, 50, 255, 256, 257, 296, 297, 65536, 65576} {
				air[at] = longText(size)
				isAirOk(t, air, size <= 40)
			}
		}
	}
	for size := range 600 {
		isAirOk(t, []string{longText(size)}, size <= 40)
	}
}

// TestAirOkOfAnyBytes: it is bytes that count, whatever they are, not letters.
func TestAirOkOfAnyBytes(t *testing.T) {
	for i := range 256 {
		s := string([]byte{byte(i)})
		isAirOk(t, []string{s}, true)
		isAirOk(t, []string{strings.Repeat(s, 40)}, true)
		isAirOk(t, []string{strings.Repeat(s, 41)}, false)
	}
	isAirOk(t, []string{strings.Repeat("ä", 20)}, true)
	isAirOk(t, []string{strings.Repeat("ä", 20) + "a"}, false)
	isAirOk(t, []string{strings.Repeat("€", 13)}, true)
	isAirOk(t, []string{strings.Repeat("€", 13) + "a"}, true)
	isAirOk(t, []string{strings.Repeat("€", 14)}, false)
	isAirOk(t, []string{strings.Repeat(" ", 40), strings.Repeat("\n", 40), strings.Repeat("\x00", 40)}, true)
	isAirOk(t, []string{"a" + strings.Repeat(" ", 40)}, false)
	isAirOk(t, []string{strings.Repeat("\x00", 41)}, false)
}

func TestSent(t *testing.T) {
	for _, air := range [][]string{nil, {}, {""}, {"one"}, {"one", "two"}, {"", "", ""}, airOf(8), airOf(9)} {
		for _, s := range []string{"", "a", "one", "two", "\x00", "\xff\xfe\n ", longText(39), longText(40), strings.Repeat("ä", 20)} {
			isSent(t, air, s, true)
		}
		for _, s := range []string{longText(41), longText(42), longText(256), longText(296), longText(65576), strings.Repeat("ä", 21), strings.Repeat("\x00", 41), strings.Repeat(" ", 41)} {
			isSent(t, air, s, false)
		}
	}
	for size := range 600 {
		isSent(t, nil, longText(size), size <= 40)
		isSent(t, airOf(9), longText(size), size <= 40)
		isSent(t, airOf(10), longText(size), false)
	}
	if air, ok := impl.Sent([]string{"one", "two"}, "three"); !ok || !slices.Equal(air, []string{"one", "two", "three"}) {
		t.Errorf("three behind one and two: %s, %v", shownAir(air), ok)
	}
}

// TestSentToMaxAir sends until there is no room; a text that there is already is sent all the same.
func TestSentToMaxAir(t *testing.T) {
	for _, texts := range [][]string{airOf(13), make([]string, 13), slices.Repeat([]string{longText(40)}, 13)} {
		var air []string
		for i, s := range texts {
			isSent(t, air, s, i < 10)
			next, ok := impl.Sent(air, s)
			if ok != (i < 10) || !slices.Equal(next, texts[:min(i+1, 10)]) || !impl.AirOk(next) {
				t.Errorf("text %d: Sent = %s, %v", i, shownAir(next), ok)
			}
			air = next
		}
		// Once one is gone, there is room for one.
		air, _ = impl.Gone(air, 4)
		isSent(t, air, "more", true)
		air, _ = impl.Sent(air, "more")
		isSent(t, air, "more", false)
		isSent(t, air, "", false)
	}
}

// TestAirsThatAreNotRightStay: of such an air nothing is told but what it was, whatever is asked for.
func TestAirsThatAreNotRightStay(t *testing.T) {
	for _, air := range wrongAirs() {
		for _, s := range []string{"", "a", "text 0", longText(40), longText(41)} {
			isSent(t, air, s, false)
		}
		for _, at := range placesAround {
			isGone(t, air, at, air, "")
			isTwice(t, air, at, false)
			for _, bits := range [][]int{{0}, {0, 9, 0}, {7, 6, 5, 4, 3, 2, 1, 0}, nil, {-1}, {328}, {0, 1, 2, 3, 4, 5, 6, 7, 8}} {
				notHurt(t, air, at, bits...)
			}
		}
	}
}

func TestGone(t *testing.T) {
	isGone(t, []string{"one"}, 0, nil, "one")
	isGone(t, []string{"one", "two"}, 0, []string{"two"}, "one")
	isGone(t, []string{"one", "two"}, 1, []string{"one"}, "two")
	isGone(t, []string{"one", "two", "three"}, 1, []string{"one", "three"}, "two")
	// Of texts that are alike just the one at the place goes; and an empty text may go, too.
	isGone(t, []string{"a", "a"}, 1, []string{"a"}, "a")
	isGone(t, []string{"a", "b", "a", "b"}, 2, []string{"a", "b", "b"}, "a")
	isGone(t, []string{""}, 0, nil, "")
	isGone(t, []string{"a", "", "b"}, 1, []string{"a", "b"}, "")
	isGone(t, []string{longText(40), "a"}, 0, []string{"a"}, longText(40))
	isGone(t, []string{"\x00", "\xff\xfe"}, 1, []string{"\x00"}, "\xff\xfe")
}

// TestGoneOfEachPlace: the others are left, in their order; where there is none all are.
func TestGoneOfEachPlace(t *testing.T) {
	for n := 0; n <= 10; n++ {
		for _, air := range [][]string{airOf(n), make([]string, n), slices.Repeat([]string{longText(40)}, n)} {
			for at := range n {
				isGone(t, air, at, slices.Concat(air[:at], air[at+1:]), air[at])
			}
			for _, at := range placesAround {
				if at < 0 || at >= n {
					isGone(t, air, at, air, "")
				}
			}
			for _, at := range []int{n, n + 1, -1, -n - 1} {
				isGone(t, air, at, air, "")
			}
		}
	}
}

// TestSentAndGone: what is sent is there, behind all others, and what goes is what was there; without it all is as it was.
func TestSentAndGone(t *testing.T) {
	for n := 0; n <= 9; n++ {
		for _, air := range [][]string{airOf(n), make([]string, n), slices.Repeat([]string{"\xff\x00"}, n)} {
			for _, s := range []string{"", "a", "text 0", "\xff\x00", longText(40)} {
				next, ok := impl.Sent(air, s)
				if !ok || len(next) != n+1 || next[n] != s {
					t.Fatalf("Sent(%s, %q) = %s, %v", shownAir(air), s, shownAir(next), ok)
				}
				isGone(t, next, n, air, s)
				again, ok := impl.Twice(next, n)
				if n < 9 && (!ok || len(again) != n+2 || again[n] != s || again[n+1] != s) || n == 9 && (ok || len(again) != 10) {
					t.Fatalf("Twice(%s, %d) = %s, %v", shownAir(next), n, shownAir(again), ok)
				}
				if n < 9 {
					isGone(t, again, n+1, next, s)
				}
			}
		}
	}
}

// TestAllGo: the first, the last or any one, until there is none.
func TestAllGo(t *testing.T) {
	draw := rand.New(rand.NewSource(140))
	for way := range 40 {
		air := airOf(10)
		left := slices.Clone(air)
		for n := 10; n > 0; n-- {
			at := []int{0, n - 1, draw.Intn(n), n / 2}[way%4]
			want := left[at]
			left = slices.Concat(left[:at], left[at+1:])
			isGone(t, air, at, left, want)
			air, _ = impl.Gone(air, at)
		}
		isGone(t, air, 0, nil, "")
	}
}

func TestTwice(t *testing.T) {
	for n := 0; n <= 10; n++ {
		for _, air := range [][]string{airOf(n), make([]string, n), slices.Repeat([]string{longText(40)}, n)} {
			for at := range n {
				isTwice(t, air, at, n < 10)
			}
			for _, at := range placesAround {
				isTwice(t, air, at, at >= 0 && at < n && n < 10)
			}
			for _, at := range []int{n, n + 1, -1, -n - 1} {
				isTwice(t, air, at, false)
			}
		}
	}
	for at, want := range [][]string{{"one", "two", "", "one"}, {"one", "two", "", "two"}, {"one", "two", "", ""}} {
		if air, ok := impl.Twice([]string{"one", "two", ""}, at); !ok || !slices.Equal(air, want) {
			t.Errorf("Twice at %d: %s, %v", at, shownAir(air), ok)
		}
	}
}

// TestTwiceToMaxAir: one text, once more until there is no room.
func TestTwiceToMaxAir(t *testing.T) {
	air := []string{"one"}
	for n := 1; n <= 12; n++ {
		next, ok := impl.Twice(air, len(air)-1)
		if ok != (n < 10) || !slices.Equal(next, slices.Repeat([]string{"one"}, min(n+1, 10))) {
			t.Errorf("Twice of %d: %s, %v", n, shownAir(next), ok)
		}
		air = next
	}
}

func TestFlip(t *testing.T) {
	for _, c := range []struct {
		s    string
		bit  int
		want string
	}{
		{"\x00", 0, "\x01"}, {"\x00", 1, "\x02"}, {"\x00", 2, "\x04"}, {"\x00", 3, "\x08"}, {"\x00", 4, "\x10"}, {"\x00", 5, "\x20"}, {"\x00", 6, "\x40"}, {"\x00", 7, "\x80"},
		{"\xff", 0, "\xfe"}, {"\xff", 1, "\xfd"}, {"\xff", 2, "\xfb"}, {"\xff", 3, "\xf7"}, {"\xff", 4, "\xef"}, {"\xff", 5, "\xdf"}, {"\xff", 6, "\xbf"}, {"\xff", 7, "\x7f"},
		{"ab", 0, "\x60b"}, {"ab", 5, "Ab"}, {"ab", 7, "\xe1b"}, {"ab", 8, "ac"}, {"ab", 9, "a\x60"}, {"ab", 13, "aB"}, {"ab", 15, "a\xe2"},
		{"abc", 16, "abb"}, {"abc", 23, "ab\xe3"}, {"\x00\x00\x00\x00", 31, "\x00\x00\x00\x80"}, {"\x00\x00\x00\x00", 24, "\x00\x00\x00\x01"},
		{"ä", 0, "\xc2\xa4"}, {"ä", 8, "\xc3\xa5"},
		// Where there is no such bit it is as it was: the first one behind the end, and those below 0.
		{"\x00", 8, "\x00"}, {"ab", 16, "ab"}, {"ab", 17, "ab"}, {"ab", 23, "ab"}, {"ab", 24, "ab"}, {"abc", 24, "abc"},
		{"ab", -1, "ab"}, {"ab", -2, "ab"}, {"ab", -7, "ab"}, {"ab", -8, "ab"}, {"ab", -9, "ab"}, {"ab", -16, "ab"}, {"\x00", -1, "\x00"}, {"\xff", -8, "\xff"},
		{"", 0, ""}, {"", 1, ""}, {"", 7, ""}, {"", 8, ""}, {"", -1, ""}, {"", -8, ""},
	} {
		isFlipped(t, c.s, c.bit, c.want)
	}
}

// TestFlipOfEachBit: of all bytes, and of all bits of texts of all sizes up to some beyond those of the air; twice is as it was.
func TestFlipOfEachBit(t *testing.T) {
	for b := range 256 {
		s := string([]byte{byte(b)})
		for bit := range 8 {
			isFlipped(t, s, bit, string([]byte{byte(b ^ 1<<bit)}))
			isFlipped(t, "x"+s+"y", 8+bit, "x"+string([]byte{byte(b ^ 1<<bit)})+"y")
		}
	}
	for _, size := range []int{0, 1, 2, 3, 7, 8, 9, 39, 40, 41, 255, 256, 257, 300} {
		s := longText(size)
		seen := map[string]bool{s: true}
		for bit := range 8 * size {
			once := slowFlip(s, bit)
			if seen[once] {
				t.Errorf("the slow rule tells the same text of two bits: %d of %d bytes", bit, size)
			}
			seen[once] = true
			isFlipped(t, s, bit, once)
			isFlipped(t, impl.Flip(s, bit), bit, s)
		}
	}
}

// TestFlipWhereThereIsNoBit: below 0 and behind the end nothing is turned.
func TestFlipWhereThereIsNoBit(t *testing.T) {
	for _, size := range []int{0, 1, 2, 3, 39, 40, 41, 255, 256, 257} {
		s := longText(size)
		for more := range 20 {
			isFlipped(t, s, 8*size+more, s)
			isFlipped(t, s, -1-more, s)
			isFlipped(t, s, -8*size-more-1, s)
		}
		for _, bit := range bitsAround {
			if bit < 0 || bit >= 8*size {
				isFlipped(t, s, bit, s)
			}
		}
	}
}

// TestFlipOfLongTexts: Flip names no limit, so that a text may be longer than one of the air.
func TestFlipOfLongTexts(t *testing.T) {
	const size = 1000000
	s := longText(size)
	for _, bit := range []int{0, 7, 8, 8*size - 1, 8*size - 8, 8*size - 9, 4 * size, 65536, 1 << 20} {
		want := withByte(s, bit/8, s[bit/8]^1<<(bit%8))
		if got := impl.Flip(s, bit); got != want || impl.Flip(got, bit) != s {
			t.Errorf("bit %d of a long text", bit)
		}
	}
	for _, bit := range []int{-1, 8 * size, 8*size + 7, -8 * size} {
		if impl.Flip(s, bit) != s {
			t.Errorf("bit %d of a long text was turned", bit)
		}
	}
}

func TestHurt(t *testing.T) {
	air := []string{"one", "two", "three"}
	isHurt(t, air, 0, []int{0}, "nne")
	isHurt(t, air, 0, []int{9}, "ole")
	isHurt(t, air, 0, []int{23}, "on\xe5")
	isHurt(t, air, 1, []int{0}, "uwo")
	isHurt(t, air, 1, []int{5, 13, 21}, "TWO")
	isHurt(t, air, 2, []int{37, 29, 5}, "ThrEE")
	isHurt(t, air, 2, []int{39}, "thre\xe5")
	// Eight bits are the most, and the same one may be among them twice.
	isHurt(t, air, 0, []int{0, 1, 2, 3, 4, 5, 6, 7}, "\x90ne")
	isHurt(t, air, 0, []int{7, 6, 5, 4, 3, 2, 1, 0}, "\x90ne")
	isHurt(t, air, 0, []int{0, 0}, "one")
	isHurt(t, air, 0, []int{0, 9, 0}, "ole")
	isHurt(t, air, 0, []int{0, 0, 0}, "nne")
	isHurt(t, air, 2, []int{39, 39, 39, 39, 39, 39, 39, 39}, "three")
	isHurt(t, []string{"\x00", ""}, 0, []int{0, 7}, "\x81")
	// No bit, nine, and those that aren't bits of it, alone and among others.
	for at := range air {
		notHurt(t, air, at)
		notHurt(t, air, at, 0, 1, 2, 3, 4, 5, 6, 7, 8)
		notHurt(t, air, at, 0, 0, 0, 0, 0, 0, 0, 0, 0)
		size := 8 * len(air[at])
		for _, bit := range []int{-1, -2, -7, -8, -9, size, size + 1, size + 7, size + 8, -size, 1 << 32, math.MinInt64, math.MaxInt64} {
			notHurt(t, air, at, bit)
			notHurt(t, air, at, bit, 0)
			notHurt(t, air, at, 0, bit)
			notHurt(t, air, at, 0, bit, 1)
			notHurt(t, air, at, bit, bit)
			notHurt(t, air, at, 0, 1, 2, 3, 4, 5, 6, bit)
			notHurt(t, air, at, bit, 1, 2, 3, 4, 5, 6, 0)
		}
	}
	// An empty text has no bit, and a bit of the next text is none of this one.
	for _, bit := range []int{0, 1, 7, 8, -1, -8} {
		notHurt(t, []string{"", "abc"}, 0, bit)
	}
	notHurt(t, []string{"a", "abc"}, 0, 8)
	for _, at := range []int{-1, 3, 4, -3} {
		notHurt(t, air, at, 0)
		notHurt(t, nil, at, 0)
	}
	notHurt(t, nil, 0, 0)
	notHurt(t, nil, 0)
	notHurt(t, []string{}, 0, 1)
}

// TestHurtOfEachPlace: each bit of each text, and the others stay.
func TestHurtOfEachPlace(t *testing.T) {
	for n := 0; n <= 10; n++ {
		for _, air := range [][]string{airOf(n), slices.Repeat([]string{longText(40)}, n)} {
			for at, s := range air {
				for bit := range 8 * len(s) {
					isHurt(t, air, at, []int{bit}, slowFlip(s, bit))
				}
				notHurt(t, air, at, 8*len(s))
				notHurt(t, air, at, -1)
			}
			for _, at := range placesAround {
				if at < 0 || at >= n {
					notHurt(t, air, at, 0)
					notHurt(t, air, at, 1, 2)
					notHurt(t, air, at)
				}
			}
			for _, at := range []int{n, n + 1, -1, -n - 1} {
				notHurt(t, air, at, 0)
			}
		}
	}
}

// TestHurtOfHowManyBits: of 1 .. 8, whichever they are, and of no other count.
func TestHurtOfHowManyBits(t *testing.T) {
	draw := rand.New(rand.NewSource(141))
	air := []string{"a", longText(40), "abc"}
	for at, s := range air {
		for count := range 300 {
			bits := make([]int, count)
			for i := range bits {
				bits[i] = draw.Intn(8 * len(s))
			}
			if count >= 1 && count <= 8 {
				isHurt(t, air, at, bits, turned(s, bits...))
			} else {
				notHurt(t, air, at, bits...)
			}
		}
		for _, count := range []int{65536, 65537, 65544, 1000000} {
			notHurt(t, air, at, make([]int, count)...)
		}
	}
}

// TestHurtInAnyOrder: the same bits in another order turn the same.
func TestHurtInAnyOrder(t *testing.T) {
	draw := rand.New(rand.NewSource(142))
	air := []string{longText(40), "text", "ab"}
	for at, s := range air {
		for range 200 {
			bits := make([]int, 1+draw.Intn(8))
			for i := range bits {
				bits[i] = draw.Intn(8 * min(len(s), 2+draw.Intn(39)))
			}
			want := turned(s, bits...)
			for range 8 {
				draw.Shuffle(len(bits), func(i, j int) { bits[i], bits[j] = bits[j], bits[i] })
				isHurt(t, air, at, bits, want)
			}
			slices.Sort(bits)
			isHurt(t, air, at, bits, want)
			slices.Reverse(bits)
			isHurt(t, air, at, bits, want)
		}
	}
}

// TestHurtByBits: what Hurt tells is Flip, one bit behind the other.
func TestHurtByBits(t *testing.T) {
	for _, bits := range listsOf([]int{-1, 0, 7, 8, 15, 16}, 4)[1:] {
		s, all := "ab", true
		for _, bit := range bits {
			s = impl.Flip(s, bit)
			all = all && bit >= 0 && bit < 16
		}
		if all {
			isHurt(t, []string{"ab"}, 0, bits, s)
			isHurt(t, []string{"", "ab", "x"}, 1, bits, s)
		} else {
			notHurt(t, []string{"ab"}, 0, bits...)
			notHurt(t, []string{"", "ab", "x"}, 1, bits...)
		}
	}
}

// TestHurtAgain: by the same bits, in any order, all is as it was.
func TestHurtAgain(t *testing.T) {
	draw := rand.New(rand.NewSource(143))
	changed := 0
	for n := 1; n <= 10; n++ {
		for range 300 {
			air := airOf(n)
			at := draw.Intn(n)
			bits := make([]int, 1+draw.Intn(8))
			for i := range bits {
				bits[i] = draw.Intn(8 * len(air[at]))
			}
			hurt, ok := impl.Hurt(air, at, bits)
			if !ok {
				t.Errorf("Hurt(%s, %d, %v) is refused", shownAir(air), at, bits)
			}
			if hurt[at] != air[at] {
				changed++
			}
			isHurt(t, hurt, at, bits, air[at])
			draw.Shuffle(len(bits), func(i, j int) { bits[i], bits[j] = bits[j], bits[i] })
			isHurt(t, hurt, at, bits, air[at])
			whole, ok := impl.Hurt(hurt, at, bits)
			if !ok || !slices.Equal(whole, air) {
				t.Errorf("Hurt(%s, %d, %v) again = %s, %v", shownAir(air), at, bits, shownAir(whole), ok)
			}
		}
	}
	if changed < 2500 {
		t.Errorf("of 3000 texts %d became others", changed)
	}
}

// TestFramesInTheAir: frames that were sent come back; one that was hurt a little is none, and hurt again by the same bits it is what it was.
func TestFramesInTheAir(t *testing.T) {
	draw := rand.New(rand.NewSource(144))
	for _, f := range someFrames() {
		air, ok := impl.Sent([]string{"ahead"}, impl.PutFrame(f))
		if !ok || len(air) != 2 {
			t.Fatalf("%s isn't sent", shownFrame(f))
		}
		for range 100 {
			bits := draw.Perm(8 * len(air[1]))[:1+draw.Intn(3)]
			hurt, ok := impl.Hurt(air, 1, bits)
			if _, code := impl.GetFrame(hurt[1]); !ok || code == impl.FrOk {
				t.Errorf("%s, hurt by %v, is still one", shownFrame(f), bits)
			}
			again, _ := impl.Hurt(hurt, 1, bits)
			_, s := impl.Gone(again, 1)
			isGot(t, s, f)
		}
		twice, _ := impl.Twice(air, 1)
		left, s := impl.Gone(twice, 1)
		isGot(t, s, f)
		isGot(t, left[1], f)
	}
}

// TestAirsOfFew holds all that is told of short lists of some texts, right and not, against the slow rules.
func TestAirsOfFew(t *testing.T) {
	lists := listsOf([]string{"", "a", "bc", longText(40), longText(41)}, 3)
	bits := listsOf([]int{-1, 0, 7, 8, 16, 319, 320, 328}, 2)
	for _, air := range lists {
		for at := -2; at <= 4; at++ {
			for i, some := range bits {
				isAirRight(t, air, []string{"", "a", "bc", longText(40), longText(41)}[i%5], at, some)
			}
		}
	}
}

// TestDrawnAirs lets texts come and go, come twice and be hurt, and holds all that is told against the slow rules.
func TestDrawnAirs(t *testing.T) {
	draw := rand.New(rand.NewSource(145))
	var times [8]int
	for range 100 {
		var air []string
		for range 200 {
			s := longText(draw.Intn(44))
			at := draw.Intn(len(air)+4) - 2
			bits := make([]int, draw.Intn(11))
			for i := range bits {
				bits[i] = draw.Intn(200)
			}
			isAirRight(t, air, s, at, bits)
			var ok bool
			next, kind := air, draw.Intn(4)
			switch kind {
			case 0:
				next, ok = impl.Sent(air, s)
			case 1:
				next, _ = impl.Gone(air, at)
				ok = len(next) < len(air)
			case 2:
				next, ok = impl.Twice(air, at)
			case 3:
				next, ok = impl.Hurt(air, at, bits)
			}
			if !impl.AirOk(next) {
				t.Fatalf("%s became %s", shownAir(air), shownAir(next))
			}
			if ok {
				kind += 4
			}
			times[kind]++
			air = next
		}
	}
	if slices.Min(times[:]) < 300 {
		t.Errorf("refused and done, of each kind: %v", times)
	}
}

// withAirRoom puts a list into a longer array, with texts of note ahead and behind; it tells the list, and all of the array.
func withAirRoom(list []string) (part, all []string) {
	const ahead, behind = 3, 20
	all = slices.Concat(slices.Repeat([]string{"ahead"}, ahead), list, slices.Repeat([]string{"behind"}, behind))
	return all[ahead : ahead+len(list)], all
}

// withBitRoom does so with bits.
func withBitRoom(list []int) (part, all []int) {
	const ahead, behind = 3, 20
	all = slices.Concat(slices.Repeat([]int{3}, ahead), list, slices.Repeat([]int{3}, behind))
	return all[ahead : ahead+len(list)], all
}

// someAirs are airs, right and not: each way through the chapter is gone by some of these.
func someAirs() [][]string {
	some := [][]string{nil, {}, {""}, {"one"}, {"one", "two"}, {"one", "one", ""}, {longText(40), "two", longText(40)}, airOf(9), airOf(10), make([]string, 10)}
	return append(some, wrongAirs()[:20]...)
}

// someBits are bits, right and not, in rising order and not.
var someBits = [][]int{nil, {}, {0}, {9, 0}, {7, 6, 5, 4, 3, 2, 1, 0}, {0, 9, 0}, {23, 8, 16}, {8, 7, 6, 5, 4, 3, 2, 1, 0}, {5, -1, 3}, {3, 400, 2}}

// spoilTexts writes into a list, and into the room behind it.
func spoilTexts(list []string) {
	list = list[:cap(list)]
	for i := range list {
		list[i] = "spoilt"
	}
}

// TestAirsAreLeftAsTheyWere: nothing is written into a list, nor into the room behind it, what stands there isn't taken for a part of it, and what is done to an answer is seen by none.
func TestAirsAreLeftAsTheyWere(t *testing.T) {
	for _, air := range someAirs() {
		part, all := withAirRoom(air)
		was := slices.Clone(all)
		for _, at := range []int{-1, 0, 1, 2, len(air) - 1, len(air), len(air) + 1} {
			for _, bits := range someBits {
				own, allBits := withBitRoom(bits)
				wereBits := slices.Clone(allBits)
				for _, s := range []string{"", "three", longText(40), longText(41)} {
					isAirRight(t, part, s, at, own)
					sent, _ := impl.Sent(part, s)
					gone, _ := impl.Gone(part, at)
					twice, _ := impl.Twice(part, at)
					hurt, _ := impl.Hurt(part, at, own)
					for _, answer := range [][]string{sent, gone, twice, hurt} {
						spoilTexts(answer)
					}
					isAirRight(t, part, s, at, own)
					isAirRight(t, slices.Clip(part), s, at, slices.Clip(own))
				}
				if !slices.Equal(allBits, wereBits) {
					t.Fatalf("bits %v became %v", wereBits, allBits)
				}
			}
		}
		if !slices.Equal(all, was) {
			t.Fatalf("%s became %s", shownAir(was), shownAir(all))
		}
	}
}

// TestAirAnswersAreNewMemory: no answer lies in an argument, nor in another answer; no text of one lies in another text.
func TestAirAnswersAreNewMemory(t *testing.T) {
	for _, list := range someAirs() {
		// Texts of one byte are passed over: where a program puts them together, all that are alike are one.
		air := slices.DeleteFunc(slices.Clone(list), func(s string) bool { return len(s) == 1 })
		for i, s := range air {
			air[i] = strings.Clone(s)
		}
		s := strings.Clone("three")
		told, texts := [][]string{air}, append(slices.Clone(air), s)
		for range 2 {
			sent, _ := impl.Sent(air, s)
			refused, _ := impl.Sent(air, longText(41))
			told, texts = append(told, sent, refused), append(texts, impl.Flip(s, 9), impl.Flip(s, -1), impl.Flip(s, 40))
			for _, at := range []int{0, 1, len(air) - 1, -1, len(air)} {
				left, gone := impl.Gone(air, at)
				twice, _ := impl.Twice(air, at)
				hurt, _ := impl.Hurt(air, at, []int{9, 0})
				whole, _ := impl.Hurt(air, at, []int{0, 0})
				told, texts = append(told, left, twice, hurt, whole), append(texts, gone)
			}
		}
		if sharesAny(told, sharesRoom) {
			t.Errorf("lists of %s share memory", shownAir(list))
		}
		if len(list) > 20 {
			continue
		}
		for _, answer := range told[1:] {
			texts = append(texts, answer...)
		}
		if sharesAny(texts, func(a, b string) bool { return sharesBytes(a, b) || sharesBytes(b, a) }) {
			t.Errorf("texts of %s share memory", shownAir(list))
		}
	}
}

// TestAirsThatWereToldStay: what is done with an answer isn't seen by it, nor by what was told ahead.
func TestAirsThatWereToldStay(t *testing.T) {
	draw := rand.New(rand.NewSource(146))
	var answers, were [][]string
	var air []string
	for i := range 600 {
		at := draw.Intn(len(air) + 1)
		switch draw.Intn(5) {
		case 0, 1:
			air, _ = impl.Sent(air, "text "+strconv.Itoa(i))
		case 2:
			air, _ = impl.Gone(air, at)
		case 3:
			air, _ = impl.Twice(air, at)
		case 4:
			air, _ = impl.Hurt(air, at, []int{draw.Intn(50)})
		}
		answers, were = append(answers, air), append(were, slices.Clone(air))
	}
	for i, got := range answers {
		if !slices.Equal(got, were[i]) {
			t.Fatalf("answer %d was %s, and became %s", i, shownAir(were[i]), shownAir(got))
		}
		spoilTexts(got)
	}
}

// TestAirsThatChange: what was told of a list isn't kept; once it is another one, so is what is told.
func TestAirsThatChange(t *testing.T) {
	air, bits := []string{"one", "two"}, []int{0}
	isHurt(t, air, 0, bits, "nne")
	isGone(t, air, 1, []string{"one"}, "two")
	air[0], air[1], bits[0] = "two", "", 5
	isHurt(t, air, 0, bits, "Two")
	isGone(t, air, 1, []string{"two"}, "")
	notHurt(t, air, 1, bits...)
	air[1] = longText(41)
	isAirOk(t, air, false)
	isGone(t, air, 0, air, "")
	notHurt(t, air, 0, bits...)
	air[1] = longText(40)
	isTwice(t, air, 1, true)
	bits[0] = 24
	notHurt(t, air, 0, bits...)
	isHurt(t, air, 1, bits, slowFlip(longText(40), 24))
}

// TestAirsAnswerAtAnyArguments: every function answers, whatever stands in its arguments, and the same when asked again.
func TestAirsAnswerAtAnyArguments(t *testing.T) {
	for _, air := range [][]string{nil, {""}, {"a"}, {longText(40), "", "abc"}, airOf(10), airOf(11), {"a", longText(41)}} {
		for _, at := range placesAround {
			for _, bit := range bitsAround {
				for range 2 {
					isAirRight(t, air, "abc", at, []int{bit})
				}
				isAirRight(t, air, longText(40), at, []int{0, bit})
				isAirRight(t, air, longText(41), at, []int{bit, 1, bit})
			}
		}
	}
	huge := strings.Repeat("x", 1000000)
	for _, air := range [][]string{make([]string, 1000000), slices.Repeat([]string{longText(40)}, 100000), {huge}, {"a", huge, ""}} {
		for _, at := range []int{0, 1, len(air) - 1, len(air), -1, math.MinInt64, math.MaxInt64} {
			isAirRight(t, air, "a", at, []int{0})
			isSent(t, air, huge, false)
		}
	}
	isSent(t, nil, huge, false)
	notHurt(t, []string{"abc"}, 0, make([]int, 1000000)...)
}
