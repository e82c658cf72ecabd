package tests

import (
	"fmt"
	"hash/crc32"
	"math/rand"
	"slices"
	"strings"
	"testing"

	"loop.example/g00746/impl"
)

func frame(from, to int, x impl.Code) impl.Frame { return impl.Frame{From: from, To: to, Code: x} }

func shownFrame(f impl.Frame) string {
	return fmt.Sprintf("from %d to %d %s", f.From, f.To, shownCode(f.Code))
}

// sameFrame tells whether two Frames are alike in all.
func sameFrame(a, b impl.Frame) bool {
	return a.From == b.From && a.To == b.To && sameCode(a.Code, b.Code)
}

// stamped tells a text with a seal that fits, without the functions of impl.
func stamped(text string) string {
	sum := crc32.ChecksumIEEE([]byte(text))
	return text + string([]byte{byte(sum), byte(sum >> 8), byte(sum >> 16), byte(sum >> 24)})
}

// fitted tells a text of a frame's first byte, of the length that all of it has, of what stands behind that, and of a seal that fits.
func fitted(behind string) string {
	return stamped("\x01" + string([]byte{byte(len(behind) + 6)}) + behind)
}

// slowFrameOk tells whether a Frame is right, without the functions of impl.
func slowFrameOk(f impl.Frame) bool {
	return slowCodeOk(f.Code) && len(f.Code.Keys) != 0 && 1 <= f.From && f.From <= 20 && 0 <= f.To && f.To <= 20
}

// slowPut tells the bytes of a right Frame, without the functions of impl.
func slowPut(f impl.Frame) string {
	behind := []byte{byte(f.From), byte(f.To), byte(len(f.Code.Keys))}
	for _, k := range f.Code.Keys {
		behind = append(behind, byte(k.Node), byte(k.Seq))
	}
	return fitted(string(behind) + f.Code.Load)
}

// slowGet goes through a text part by part, as the document tells them.
func slowGet(s string) (impl.Frame, int) {
	if len(s) < 15 || int(s[1]) != len(s) {
		return impl.Frame{}, 1
	}
	text := s[:len(s)-4]
	if stamped(text) != s {
		return impl.Frame{}, 2
	}
	degree := int(s[4])
	if s[0] != 1 || len(text) != 5+2*degree+4 {
		return impl.Frame{}, 3
	}
	f := impl.Frame{From: int(s[2]), To: int(s[3]), Code: impl.Code{Load: text[5+2*degree:]}}
	for i := range degree {
		f.Code.Keys = append(f.Code.Keys, key(int(text[5+2*i]), int(text[6+2*i])))
	}
	if !slowFrameOk(f) {
		return impl.Frame{}, 3
	}
	return f, 0
}

// isGot holds what GetFrame tells of a text against what it should tell.
func isGot(t *testing.T, s string, want impl.Frame) {
	t.Helper()
	if f, code := impl.GetFrame(s); code != impl.FrOk || !sameFrame(f, want) {
		t.Errorf("GetFrame(%.60q) = %s, %d, want %s", s, shownFrame(f), code, shownFrame(want))
	}
}

// notGot demands that a text is no frame's, by a code, and that the Frame beside it is the zero one.
func notGot(t *testing.T, why, s string, want int) {
	t.Helper()
	if f, code := impl.GetFrame(s); code != want || !sameFrame(f, impl.Frame{}) {
		t.Errorf("%s: GetFrame(%.60q) = %s, %d, want none and %d", why, s, shownFrame(f), code, want)
	}
}

// isGotRightly holds what GetFrame tells of a text against what slowGet does.
func isGotRightly(t *testing.T, why, s string) {
	t.Helper()
	want, code := slowGet(s)
	if code == 0 {
		isGot(t, s, want)
	} else {
		notGot(t, why, s, code)
	}
}

// withByte tells a text with another byte at a place.
func withByte(s string, at int, b byte) string {
	return s[:at] + string([]byte{b}) + s[at+1:]
}

// someFrames are right Frames of each degree, those of all limits among them.
func someFrames() []impl.Frame {
	all := allKeys()
	return []impl.Frame{
		frame(1, 0, code(all[:1], noLoad)),
		frame(20, 20, code(all[1979:], "\xff\xff\xff\xff")),
		frame(3, 3, code(someKeys[3:4], "abcd")),
		frame(20, 0, code(all[:2], "\x01\x0f\x03\x00")),
		frame(1, 20, code(someKeys[1:4], "\x00\x00\x00\x01")),
		frame(19, 1, code(someKeys[:4], "\x80\x00\x00\x00")),
		frame(7, 12, code(someKeys[1:], "\r\n\t ")),
		frame(2, 19, code(someKeys, "abcd")),
		frame(1, 1, code(all[:6], "\xff\x00\xff\x00")),
		frame(20, 20, code(all[1974:], "\x14\x63\x14\x63")),
	}
}

// wrongFrames are Frames that aren't right: by From, by To, and by their Codes.
func wrongFrames() []impl.Frame {
	frames := []impl.Frame{{}, {From: 1}, {From: 1, To: 2}, frame(1, 0, code(nil, noLoad)), frame(20, 20, code([]impl.Key{}, noLoad)), frame(0, 21, code(someKeys, "abcd"))}
	for _, from := range append([]int{0, 21, 22, -1, -20, 255, 256, 257, 1<<32 + 1}, extremeInts...) {
		frames = append(frames, frame(from, 0, code(someKeys[:1], "abcd")), frame(from, 20, code(someKeys, "abcd")), frame(from, from, code(someKeys, "abcd")))
	}
	for _, to := range append([]int{-1, 21, 22, -20, 255, 256, 257, 1 << 32, 1<<32 + 1}, extremeInts...) {
		frames = append(frames, frame(1, to, code(someKeys[:1], "abcd")), frame(20, to, code(someKeys, "abcd")))
	}
	for _, x := range wrongWords() {
		frames = append(frames, frame(1, 0, x), frame(20, 20, x))
	}
	return frames
}

func TestFrameConstants(t *testing.T) {
	if codes := [...]int{impl.FrOk, impl.FrLen, impl.FrSum, impl.FrBad}; codes != [...]int{0, 1, 2, 3} {
		t.Errorf("the codes of GetFrame are %v", codes)
	}
}

func TestFrameOk(t *testing.T) {
	for _, f := range someFrames() {
		if !impl.FrameOk(f) || !slowFrameOk(f) {
			t.Errorf("FrameOk is false: %s", shownFrame(f))
		}
	}
	for _, f := range wrongFrames() {
		if impl.FrameOk(f) || slowFrameOk(f) {
			t.Errorf("FrameOk is true: %s", shownFrame(f))
		}
	}
}

// TestFrameOkOfStations: From is of 1 .. 20, and To of 0 .. 20; they may be the same.
func TestFrameOkOfStations(t *testing.T) {
	var ids []int
	for id := -30; id <= 60; id++ {
		ids = append(ids, id)
	}
	ids = append(append(ids, 256, 257, 276, 277), nearLimits...)
	all := allKeys()
	for _, from := range ids {
		for _, to := range ids {
			want := from >= 1 && from < 21 && to >= 0 && to < 21
			for degree := range 8 {
				f := frame(from, to, code(all[100:100+degree], noLoad))
				if got := impl.FrameOk(f); got != (want && degree >= 1 && degree <= 6) {
					t.Errorf("FrameOk = %v: %s", got, shownFrame(f))
				}
			}
		}
	}
}

func TestFrameOkOfWords(t *testing.T) {
	for _, x := range append(rightWords(), wrongWords()...) {
		for _, f := range []impl.Frame{frame(1, 0, x), frame(20, 20, x), frame(5, 5, x), frame(0, 0, x), frame(1, 21, x)} {
			if impl.FrameOk(f) != slowFrameOk(f) {
				t.Errorf("FrameOk = %v: %s", !slowFrameOk(f), shownFrame(f))
			}
		}
	}
}

func TestPutFrame(t *testing.T) {
	all := allKeys()
	for _, c := range []struct {
		f    impl.Frame
		want string
	}{
		{frame(1, 0, code(all[:1], noLoad)), "\x01\x0f\x01\x00\x01\x01\x01\x00\x00\x00\x00\x43\xd0\x32\x1c"},
		{frame(20, 20, code(all[1979:], "\xff\xff\xff\xff")), "\x01\x0f\x14\x14\x01\x14\x63\xff\xff\xff\xff\x4a\x7f\xc6\x6c"},
		{frame(3, 0, code([]impl.Key{key(1, 2), key(20, 99)}, "abcd")), "\x01\x11\x03\x00\x02\x01\x02\x14\x63abcd\xb9\x3e\x6d\x23"},
		{frame(2, 19, code(someKeys, "wxyz")), "\x01\x19\x02\x13\x06\x01\x01\x01\x02\x01\x0a\x02\x01\x0a\x01\x14\x63wxyz\xaa\x5f\x00\xc2"},
		{frame(20, 0, code(all[:6], "\x00\x01\x02\xff")), "\x01\x19\x14\x00\x06\x01\x01\x01\x02\x01\x03\x01\x04\x01\x05\x01\x06\x00\x01\x02\xff\x38\x61\x6b\x05"},
	} {
		if got := impl.PutFrame(c.f); got != c.want {
			t.Errorf("PutFrame = %q, want %q: %s", got, c.want, shownFrame(c.f))
		}
	}
}

// TestFramesComeBack: of all right words, stations and keys, byte for byte, and back again.
func TestFramesComeBack(t *testing.T) {
	check := func(f impl.Frame) {
		t.Helper()
		s := impl.PutFrame(f)
		if want := slowPut(f); s != want {
			t.Errorf("PutFrame = %q, want %q: %s", s, want, shownFrame(f))
		}
		isGot(t, s, f)
	}
	for _, f := range someFrames() {
		check(f)
	}
	for _, x := range rightWords() {
		for _, id := range []int{1, 2, 10, 19, 20} {
			if len(x.Keys) > 0 {
				check(frame(id, 0, x))
				check(frame(id, id, x))
				check(frame(21-id, id, x))
			}
		}
	}
	all := allKeys()
	for from := 1; from <= 20; from++ {
		for to := 0; to <= 20; to++ {
			for degree := 1; degree <= 6; degree++ {
				check(frame(from, to, code(all[from*to:from*to+degree], "abcd")))
			}
		}
	}
	for at := range all {
		for degree := 1; degree <= 6 && at+degree <= len(all); degree++ {
			check(frame(1+at%20, at%21, code(all[at:at+degree], string([]byte{byte(at), byte(at >> 8), 0, byte(degree)}))))
		}
	}
	for _, load := range rightLoads {
		check(frame(4, 0, code(someKeys[2:3], load)))
		check(frame(4, 5, code(someKeys, load)))
	}
	for i := range 256 {
		for at := range 4 {
			load := withByte("abcd", at, byte(i))
			check(frame(4, 5, code(someKeys[:1], load)))
			check(frame(4, 5, code(someKeys, load)))
		}
	}
}

func TestPutFrameRefuses(t *testing.T) {
	for _, f := range wrongFrames() {
		if got := impl.PutFrame(f); got != "" {
			t.Errorf("PutFrame = %q: %s", got, shownFrame(f))
		}
	}
}

// TestGetFrameOfShortTexts: less than 15 bytes are no frame's, whatever stands in them.
func TestGetFrameOfShortTexts(t *testing.T) {
	for _, s := range allTexts("\x00\x01\x02\x0f", 4) {
		notGot(t, "short", s, impl.FrLen)
	}
	for size := range 15 {
		for i := range 256 {
			if s := strings.Repeat(string([]byte{byte(i)}), size); size < 2 || i == size {
				notGot(t, "one byte, over and over", s, impl.FrLen)
			}
		}
		for _, f := range someFrames() {
			s := slowPut(f)
			notGot(t, "cut behind", s[:size], impl.FrLen)
			notGot(t, "cut ahead", s[len(s)-size:], impl.FrLen)
			if size >= 2 {
				notGot(t, "cut behind, with the length that it has", withByte(s[:size], 1, byte(size)), impl.FrLen)
			}
		}
		if size >= 6 {
			notGot(t, "with its length and its seal", stamped("\x01"+string([]byte{byte(size)})+"\x03\x00\x00\x00\x00\x00\x00\x00"[:size-6]), impl.FrLen)
		}
	}
	// A word of no Key would have 13 bytes, and one of half a Key 14.
	notGot(t, "of degree 0", fitted("\x03\x00\x00\x00\x00\x00\x00"), impl.FrLen)
	notGot(t, "of half a Key", fitted("\x03\x00\x01\x05\x00\x00\x00\x00"), impl.FrLen)
	isGot(t, fitted("\x03\x00\x01\x05\x63\x00\x00\x00\x00"), frame(3, 0, code([]impl.Key{key(5, 99)}, noLoad)))
	notGot(t, "of 15 bytes", "\x01\x0faaaaaaaaaaaaa", impl.FrSum)
	notGot(t, "of 15 bytes, with a seal", fitted("aaaaaaaaa"), impl.FrBad)
}

// TestGetFrameOfLengthsToldWrong: by the second byte alone; the seal fits all the same.
func TestGetFrameOfLengthsToldWrong(t *testing.T) {
	for _, f := range someFrames() {
		s := slowPut(f)
		text := s[:len(s)-4]
		for i := range 256 {
			other := stamped(withByte(text, 1, byte(i)))
			if i == len(s) {
				isGot(t, other, f)
				continue
			}
			notGot(t, "another length, and a seal", other, impl.FrLen)
			notGot(t, "another length", withByte(s, 1, byte(i)), impl.FrLen)
		}
		notGot(t, "one less", stamped(withByte(text, 1, byte(len(s)-1))), impl.FrLen)
		notGot(t, "one more", stamped(withByte(text, 1, byte(len(s)+1))), impl.FrLen)
		notGot(t, "without the seal", stamped(withByte(text, 1, byte(len(text)))), impl.FrLen)
		notGot(t, "of what stands behind it", stamped(withByte(text, 1, byte(len(s)-2))), impl.FrLen)
	}
}

// TestGetFrameOfOtherLengths: bytes are missing or too many, but the length that is told is what it was.
func TestGetFrameOfOtherLengths(t *testing.T) {
	for _, f := range someFrames() {
		s := slowPut(f)
		text := s[:len(s)-4]
		for size := range len(s) {
			notGot(t, "cut behind", s[:size], impl.FrLen)
		}
		for size := 2; size < len(text); size++ {
			notGot(t, "cut ahead of the seal", stamped(text[:size]), impl.FrLen)
		}
		for more := 1; more < 600; more++ {
			notGot(t, "bytes behind", s+strings.Repeat("\x00", more), impl.FrLen)
			notGot(t, "bytes ahead of the seal", stamped(text+strings.Repeat("\x01", more)), impl.FrLen)
		}
		notGot(t, "twice", s+s, impl.FrLen)
		isGotRightly(t, "without the first byte", s[1:])
		isGotRightly(t, "with one more ahead", "\x01"+s)
	}
}

// TestGetFrameOfLongTexts: a length beyond 255 can't be told in one byte, and its lowest byte doesn't tell it.
func TestGetFrameOfLongTexts(t *testing.T) {
	for size := 15; size < 1100; size++ {
		text := make([]byte, size-4)
		text[0], text[1], text[2], text[4] = 1, byte(size), 3, byte((size-13)/2)
		s := stamped(string(text))
		if size > 255 {
			notGot(t, "too long", s, impl.FrLen)
		} else {
			notGot(t, "of Keys of noughts", s, impl.FrBad)
			notGot(t, "with another seal", withByte(s, size-1, s[size-1]^1), impl.FrSum)
		}
	}
	// What would be right, was there not so much of it.
	f := someFrames()[7]
	s := slowPut(f)
	for _, more := range []int{256, 512, 65536} {
		notGot(t, "too long by what a byte can't tell", stamped(s[:len(s)-4]+strings.Repeat("\x01", more)), impl.FrLen)
		notGot(t, "too long behind", s+strings.Repeat("\x00", more), impl.FrLen)
	}
}

func TestGetFrameOfOtherSeals(t *testing.T) {
	for _, f := range someFrames() {
		s := slowPut(f)
		text, seal := s[:len(s)-4], s[len(s)-4:]
		for at := range len(s) {
			for i := range 256 {
				if at != 1 && s[at] != byte(i) {
					notGot(t, "another byte", withByte(s, at, byte(i)), impl.FrSum)
				}
			}
		}
		turned := []byte(seal)
		slices.Reverse(turned)
		notGot(t, "the highest byte first", text+string(turned), impl.FrSum)
		notGot(t, "all ones", text+"\xff\xff\xff\xff", impl.FrSum)
		notGot(t, "all noughts", text+noLoad, impl.FrSum)
		notGot(t, "of the text without its first byte", text+stamped(text[1:])[len(text)-1:], impl.FrSum)
		notGot(t, "of the text without head", text+stamped(text[2:])[len(text)-2:], impl.FrSum)
		notGot(t, "of the text without Load", text+stamped(text[:len(text)-4])[len(text)-4:], impl.FrSum)
		notGot(t, "of the text with length 0", text+stamped(withByte(text, 1, 0))[len(text):], impl.FrSum)
		notGot(t, "ahead of the text", s[:2]+seal+text[2:], impl.FrSum)
	}
}

// TestGetFrameOfOtherParts: length and seal fit; each byte of someFrames becomes any other one.
func TestGetFrameOfOtherParts(t *testing.T) {
	for _, f := range someFrames() {
		s := slowPut(f)
		text := s[:len(s)-4]
		for i := range 256 {
			b := byte(i)
			if i != 1 {
				notGot(t, "another first byte", stamped(withByte(text, 0, b)), impl.FrBad)
			}
			if i < 1 || i > 20 {
				notGot(t, "From", stamped(withByte(text, 2, b)), impl.FrBad)
			} else {
				isGot(t, stamped(withByte(text, 2, b)), frame(i, f.To, f.Code))
			}
			if i > 20 {
				notGot(t, "To", stamped(withByte(text, 3, b)), impl.FrBad)
			} else {
				isGot(t, stamped(withByte(text, 3, b)), frame(f.From, i, f.Code))
			}
			if i != len(f.Code.Keys) {
				notGot(t, "another degree", stamped(withByte(text, 4, b)), impl.FrBad)
			}
			for at := 5; at < len(text); at++ {
				isGotRightly(t, "another byte of Keys or Load", stamped(withByte(text, at, b)))
			}
		}
	}
}

// TestGetFrameOfTwoOtherParts: any two bytes behind the second one become others, and the first one with them.
func TestGetFrameOfTwoOtherParts(t *testing.T) {
	others := []byte{0, 1, 2, 3, 6, 7, 20, 21, 99, 100, 255}
	for _, f := range []impl.Frame{someFrames()[2], someFrames()[3], someFrames()[7]} {
		s := slowPut(f)
		text := s[:len(s)-4]
		for at := range len(text) {
			for next := range at {
				for _, b := range others {
					for _, c := range others {
						isGotRightly(t, "two other bytes", stamped(withByte(withByte(text, at, b), next, c)))
					}
				}
			}
		}
	}
}

// TestGetFrameOfDegrees: as many Keys stand there as they may, or more or less than the degree tells; length and seal fit.
func TestGetFrameOfDegrees(t *testing.T) {
	all := allKeys()
	for count := range 121 {
		var keys strings.Builder
		for _, k := range all[:count] {
			keys.Write([]byte{byte(k.Node), byte(k.Seq)})
		}
		for degree := range 256 {
			for _, rest := range []string{"abcd", noLoad, "\x0fabcd", "abcde"} {
				s := fitted(string([]byte{5, 0, byte(degree)}) + keys.String() + rest)
				switch {
				case count == 0:
					notGot(t, "of no Key", s, impl.FrLen)
				case count == degree && len(rest) == 4 && degree <= 6:
					isGot(t, s, frame(5, 0, code(all[:count], rest)))
				default:
					notGot(t, fmt.Sprintf("of %d Keys and degree %d", count, degree), s, impl.FrBad)
				}
			}
		}
	}
	// No Key at all, but so many bytes that they would do for one.
	notGot(t, "of degree 0", fitted("\x03\x00\x00\x00\x00\x00\x00\x00\x00"), impl.FrBad)
	notGot(t, "of degree 0", fitted("\x03\x00\x00\x01\x01\x00\x00\x00\x00"), impl.FrBad)
}

// TestGetFrameOfKeys: all lists of up to four Keys, some of which aren't right.
func TestGetFrameOfKeys(t *testing.T) {
	some := append(slices.Clone(someKeys), key(0, 1), key(1, 0), key(20, 100), key(21, 1), key(255, 255), key(0, 0))
	for _, list := range listsOf(some, 4) {
		s := slowPut(frame(6, 0, code(list, "abcd")))
		switch {
		case len(list) == 0:
			notGot(t, "of no Key", s, impl.FrLen)
		case slowCodeOk(code(list, "abcd")):
			isGot(t, s, frame(6, 0, code(list, "abcd")))
		default:
			notGot(t, "of Keys that aren't right, or not rising", s, impl.FrBad)
		}
	}
	for at := range 5 {
		swapped := slices.Clone(someKeys)
		swapped[at], swapped[at+1] = swapped[at+1], swapped[at]
		notGot(t, "two Keys the other way round", slowPut(frame(6, 0, code(swapped, "abcd"))), impl.FrBad)
		swapped[at] = swapped[at+1]
		notGot(t, "one Key twice", slowPut(frame(6, 0, code(swapped, "abcd"))), impl.FrBad)
	}
}

// TestGetFrameTellsTheFirstCode: a length that is told wrong goes ahead of a seal that doesn't fit, and that of all else.
func TestGetFrameTellsTheFirstCode(t *testing.T) {
	const bad = "\x02\x0f\x00\x15\x07\x00\x64abcd"
	for at, c := range []struct {
		s    string
		want int
	}{
		{"", impl.FrLen}, {bad, impl.FrLen}, {bad[:10] + "\x00\x00\x00\x00", impl.FrLen},
		{stamped(bad[:10]), impl.FrLen}, {stamped(withByte(bad[:10], 1, 14)), impl.FrLen},
		{stamped(withByte(bad, 1, 14)), impl.FrLen}, {stamped(withByte(bad, 1, 16)), impl.FrLen}, {stamped(withByte(bad, 1, 0)), impl.FrLen},
		{withByte(bad, 1, 14) + noLoad, impl.FrLen}, {stamped(bad + "x"), impl.FrLen}, {bad + "\x00\x00\x00\x00\x00", impl.FrLen},
		{bad + noLoad, impl.FrSum}, {bad + "\xff\xff\xff\xff", impl.FrSum},
		{stamped(bad), impl.FrBad}, {stamped(withByte(bad, 0, 1)), impl.FrBad},
	} {
		notGot(t, fmt.Sprintf("text %d", at), c.s, c.want)
	}
	for _, f := range someFrames() {
		s := slowPut(f)
		for at := range len(s) {
			if at == 1 {
				continue
			}
			hurt := withByte(s, at, s[at]^0x80)
			notGot(t, "hurt", hurt, impl.FrSum)
			notGot(t, "hurt, and told one more", withByte(hurt, 1, byte(len(s)+1)), impl.FrLen)
			notGot(t, "hurt, and cut", hurt[:len(s)-1], impl.FrLen)
		}
	}
}

// turned tells a text with bits turned; a bit's byte is it divided by 8, and the one that is worth 1 is a byte's first.
func turned(s string, bits ...int) string {
	all := []byte(s)
	for _, bit := range bits {
		all[bit/8] ^= 1 << (bit % 8)
	}
	return string(all)
}

// notGotHurt demands that a frame's text with bits turned is none, by its length where the second byte is another one, else by its seal.
func notGotHurt(t *testing.T, s, hurt string) {
	t.Helper()
	want := impl.FrSum
	if hurt[1] != s[1] {
		want = impl.FrLen
	}
	notGot(t, "hurt", hurt, want)
}

func TestFramesWithUpToTwoBitsTurned(t *testing.T) {
	for _, f := range someFrames() {
		s := slowPut(f)
		isGot(t, s, f)
		for bit := range 8 * len(s) {
			notGotHurt(t, s, turned(s, bit))
			for other := range bit {
				notGotHurt(t, s, turned(s, bit, other))
			}
			isGot(t, turned(s, bit, bit), f)
		}
	}
}

func TestFramesWithThreeBitsTurned(t *testing.T) {
	for _, f := range []impl.Frame{someFrames()[0], someFrames()[4], someFrames()[7]} {
		s := slowPut(f)
		for bit := range 8 * len(s) {
			for other := range bit {
				two := turned(s, bit, other)
				for third := range other {
					notGotHurt(t, s, turned(two, third))
				}
			}
		}
	}
}

// TestFramesWithBursts turns bits in a row of up to 32, the first and the last of them always: of short rows all that there are, of long ones many.
func TestFramesWithBursts(t *testing.T) {
	draw := rand.New(rand.NewSource(6))
	for _, f := range someFrames() {
		s := slowPut(f)
		for size := 1; size <= 32; size++ {
			ends := uint32(1) | 1<<(size-1)
			patterns := []uint32{ends, 1<<size - 1, ends | 0x55555555&(1<<size-1), ends | 0xaaaaaaaa&(1<<size-1), ends | 0xedb88320&(1<<size-1)}
			for i := range uint32(64) {
				if size <= 8 {
					patterns = append(patterns, ends|i<<1&(1<<size-1))
				} else {
					patterns = append(patterns, ends|draw.Uint32()&(1<<size-1))
				}
			}
			for first := 0; first+size <= 8*len(s); first++ {
				for _, pattern := range patterns {
					notGotHurt(t, s, burst(s, first, pattern))
				}
			}
		}
	}
}

// burst tells a text with those bits turned that are ones in a pattern, from a bit on.
func burst(s string, first int, pattern uint32) string {
	all := []byte(s)
	for bit := first; pattern != 0; bit, pattern = bit+1, pattern>>1 {
		all[bit/8] ^= byte(pattern&1) << (bit % 8)
	}
	return string(all)
}

// TestGetFrameOfDrawnTexts: texts of all lengths, with the length and the seal that they should have, or without.
func TestGetFrameOfDrawnTexts(t *testing.T) {
	draw := rand.New(rand.NewSource(66))
	for size := range 300 {
		for range 40 {
			text := make([]byte, size)
			for i := range text {
				text[i] = byte(draw.Intn(1 << (1 + draw.Intn(8))))
			}
			isGotRightly(t, "drawn", string(text))
			isGotRightly(t, "drawn, with a seal", stamped(string(text)))
			if size >= 2 {
				text[0], text[1] = 1, byte(size+4)
				isGotRightly(t, "drawn, with length and seal", stamped(string(text)))
			}
			if size >= 5 {
				text[4] = byte((size - 9) / 2)
				isGotRightly(t, "drawn, with degree, length and seal", stamped(string(text)))
			}
		}
	}
}

// TestFramesAreLeftAsTheyWere: nothing is written into a frame's Keys, nor ahead of them, nor into the room behind.
func TestFramesAreLeftAsTheyWere(t *testing.T) {
	for _, f := range append(someFrames(), wrongFrames()...) {
		keys, all := withRoom(f.Code.Keys)
		was, load := slices.Clone(all), strings.Clone(f.Code.Load)
		g := frame(f.From, f.To, code(keys, load))
		ok, s := impl.FrameOk(g), impl.PutFrame(g)
		if ok != slowFrameOk(f) || ok && s != slowPut(f) || !ok && s != "" {
			t.Errorf("with room behind: FrameOk = %v, PutFrame = %q: %s", ok, s, shownFrame(f))
		}
		if !slices.Equal(all, was) || load != f.Code.Load || g.From != f.From || g.To != f.To {
			t.Errorf("was written into: %s", shownFrame(f))
		}
		if ok {
			got, _ := impl.GetFrame(s)
			spoil(got.Code)
			if s != slowPut(f) || !slices.Equal(all, was) {
				t.Errorf("became %q: %s", s, shownFrame(f))
			}
		}
	}
}

// TestFrameAnswersAreNewMemory: what is done to an answer is seen by no other one; no Load lies in the text, nor a text in a Load.
func TestFrameAnswersAreNewMemory(t *testing.T) {
	for _, f := range someFrames() {
		s := strings.Clone(slowPut(f))
		first, _ := impl.GetFrame(s)
		second, _ := impl.GetFrame(s)
		again := impl.PutFrame(first)
		if sharesBytes(s, first.Code.Load) || sharesBytes(first.Code.Load, second.Code.Load) || sharesBytes(s, again) || sharesBytes(again, first.Code.Load) {
			t.Errorf("shares bytes: %s", shownFrame(first))
		}
		spoil(first.Code)
		isGot(t, s, f)
		if !sameFrame(second, f) || s != slowPut(f) || again != s {
			t.Errorf("became %s and %q: %s", shownFrame(second), s, shownFrame(f))
		}
	}
}

// TestFramesAnswerAtAnyArguments: every function answers, whatever stands in its arguments, and the same when asked again.
func TestFramesAnswerAtAnyArguments(t *testing.T) {
	long := []impl.Code{code(slices.Repeat(allKeys(), 20), "abcd"), code(someKeys[:1], strings.Repeat("x", 1000000)), code(nil, strings.Repeat("\x00", 1000000)), code(allKeys(), "")}
	for _, from := range nearLimits {
		for _, to := range nearLimits {
			k := key(from, to)
			for _, x := range append(long, code([]impl.Key{k}, "abcd"), code([]impl.Key{k, key(to, from)}, noLoad), code([]impl.Key{k, k}, "abcd"), impl.Code{}) {
				f := frame(to, from, x)
				ok, s := impl.FrameOk(f), impl.PutFrame(f)
				if ok != slowFrameOk(f) || ok && s != slowPut(f) || !ok && s != "" {
					t.Errorf("FrameOk = %v, PutFrame = %q: %s", ok, s, shownFrame(f))
				}
				if impl.FrameOk(f) != ok || impl.PutFrame(f) != s {
					t.Errorf("asked again, another answer: %s", shownFrame(f))
				}
			}
		}
	}
	texts := append(allTexts("\x00\x01\x0f\xff", 5), allBytes(), strings.Repeat("\x01", 1000000), strings.Repeat("\xff", 255), strings.Repeat("\x0f", 15), strings.Repeat("\x19", 25), strings.Repeat("\x00", 256))
	for _, s := range texts {
		for range 2 {
			isGotRightly(t, "any text", s)
			isGotRightly(t, "any text, with a seal", stamped(s))
			isGotRightly(t, "any text, with length and seal", fitted(s))
		}
	}
}
