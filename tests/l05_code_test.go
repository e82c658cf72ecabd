package tests

import (
	"fmt"
	"slices"
	"strings"
	"testing"

	"loop.example/g00746/impl"
)

const noLoad = "\x00\x00\x00\x00"

func code(keys []impl.Key, load string) impl.Code { return impl.Code{Keys: keys, Load: load} }

// eightReadings are right readings, rising, two more than a word may have. The Loads of no two or more of them make none.
var eightReadings = []impl.Reading{
	reading(1, 1, "\x01\x00\x00\x0f"), reading(1, 2, "\x02\x00\x00\xf0"), reading(1, 10, "\x04\xff\x00\x00"), reading(2, 1, "\x08\x00\xff\x00"),
	reading(10, 1, "\x10abc"), reading(10, 2, "\x20==="), reading(20, 1, "\x40\x00\x00\x00"), reading(20, 99, "\x80\xff\xff\xff"),
}

// shownCode tells the first Keys of a Code, how many they are, and the bytes of its Load quoted.
func shownCode(x impl.Code) string {
	return fmt.Sprintf("[%s, %d in all]:%.20q", slowText(x.Keys[:min(len(x.Keys), 9)]), len(x.Keys), x.Load)
}

// sameCode tells whether two Codes are alike in all.
func sameCode(a, b impl.Code) bool { return slices.Equal(a.Keys, b.Keys) && a.Load == b.Load }

// slowOr tells texts of four bytes by or (exclusively), bit by bit.
func slowOr(loads ...string) string {
	all := make([]byte, 4)
	for _, load := range loads {
		for i := range 32 {
			if load[i/8]>>(i%8)&1 == 1 {
				if all[i/8]>>(i%8)&1 == 1 {
					all[i/8] -= 1 << (i % 8)
				} else {
					all[i/8] += 1 << (i % 8)
				}
			}
		}
	}
	return string(all)
}

// wordOf tells the Code that stands for readings, without the functions of impl.
func wordOf(list []impl.Reading) impl.Code {
	x := impl.Code{Load: noLoad}
	for _, r := range list {
		x.Keys = append(x.Keys, r.Key)
		x.Load = slowOr(x.Load, r.Load)
	}
	return x
}

// slowCodeOk tells whether a Code is right, without the functions of impl.
func slowCodeOk(x impl.Code) bool {
	last := -1
	for _, k := range x.Keys {
		if k.Node < 1 || k.Node > 20 || k.Seq < 1 || k.Seq > 99 || k.Node*100+k.Seq <= last {
			return false
		}
		last = k.Node*100 + k.Seq
	}
	return len([]byte(x.Load)) == 4 && len(x.Keys) <= 6 && (len(x.Keys) > 0 || x.Load == noLoad)
}

// rightWords are right Codes of each degree.
func rightWords() []impl.Code {
	words := []impl.Code{{Load: noLoad}, {Keys: []impl.Key{}, Load: noLoad}}
	for _, part := range partsOf(someKeys) {
		if len(part) > 0 {
			words = append(words, code(part, "abcd"), code(part, noLoad), code(part, "\xff\x00\n:"))
		}
	}
	return words
}

// wrongWords are Codes that aren't right: by their Keys, by how many they are, by their Loads, and by a Load of no Key.
func wrongWords() []impl.Code {
	all := allKeys()
	words := []impl.Code{{}, {Keys: []impl.Key{}}, {Keys: someKeys}, code(all[:7], "abcd"), code(all[:7], noLoad), code(all[1973:], "abcd"), code(all[:8], "abcd"), code(all, "abcd")}
	for _, keys := range notOkLists() {
		words = append(words, code(keys, "abcd"), code(keys, noLoad), code(keys, ""), code(keys, "abcde"))
	}
	for _, load := range wrongLoads {
		words = append(words, code(nil, load), code(someKeys[:1], load), code(someKeys, load))
	}
	for _, load := range rightLoads[1:] {
		words = append(words, code(nil, load), code([]impl.Key{}, load))
	}
	return append(words, code(nil, "\x00\x00\x00\x01"), code(nil, "\x01\x00\x00\x00"), code(nil, "\x00\x00\x80\x00"), code(nil, "0000"))
}

func TestMaxDeg(t *testing.T) {
	if impl.MaxDeg != 6 {
		t.Errorf("MaxDeg is %d", impl.MaxDeg)
	}
}

func TestCodeOk(t *testing.T) {
	for _, x := range rightWords() {
		if !impl.CodeOk(x) || !slowCodeOk(x) {
			t.Errorf("CodeOk(%s) is false", shownCode(x))
		}
	}
	for _, x := range wrongWords() {
		if impl.CodeOk(x) || slowCodeOk(x) {
			t.Errorf("CodeOk(%s) is true", shownCode(x))
		}
	}
}

func TestCodeOkOfDegrees(t *testing.T) {
	all := allKeys()
	for n := range 300 {
		for _, load := range []string{"abcd", noLoad} {
			for _, keys := range [][]impl.Key{all[:n], all[len(all)-n:]} {
				want := n <= 6 && (n > 0 || load == noLoad)
				if got := impl.CodeOk(code(keys, load)); got != want {
					t.Errorf("CodeOk of %d Keys and the Load %q = %v", n, load, got)
				}
			}
		}
	}
}

func TestCodeOkOfLoads(t *testing.T) {
	for size := range 600 {
		for _, sign := range []string{"\x00", "a", "\xff"} {
			load := strings.Repeat(sign, size)
			if got := impl.CodeOk(code(someKeys, load)); got != (size == 4) {
				t.Errorf("CodeOk of Keys and %d bytes %q = %v", size, sign, got)
			}
			if got := impl.CodeOk(code(nil, load)); got != (size == 4 && sign == "\x00") {
				t.Errorf("CodeOk of no Key and %d bytes %q = %v", size, sign, got)
			}
		}
	}
	for i := range 256 {
		for at := range 4 {
			load := []byte(noLoad)
			load[at] = byte(i)
			if !impl.CodeOk(code(someKeys[:1], string(load))) || !impl.CodeOk(code(someKeys, string(load))) {
				t.Errorf("CodeOk of Keys and the Load %q is false", load)
			}
			if got := impl.CodeOk(code(nil, string(load))); got != (i == 0) {
				t.Errorf("CodeOk of no Key and the Load %q = %v", load, got)
			}
		}
	}
}

// TestCodeOkOfShortLists goes through all lists of up to four keys, some of which aren't right.
func TestCodeOkOfShortLists(t *testing.T) {
	some := append(slices.Clone(someKeys), key(0, 1), key(1, 0), key(20, 100), key(21, 1))
	for _, keys := range listsOf(some, 4) {
		for _, load := range []string{"abcd", noLoad, "abc", "", "\x00\x00\x00", "\x00\x00\x00\x00\x00"} {
			if x := code(keys, load); impl.CodeOk(x) != slowCodeOk(x) {
				t.Errorf("CodeOk(%s) = %v", shownCode(x), !slowCodeOk(x))
			}
		}
	}
}

// isBlank demands that a Code is the one of degree 0.
func isBlank(t *testing.T, what string, x impl.Code) {
	t.Helper()
	if len(x.Keys) != 0 || x.Load != "\x00\x00\x00\x00" {
		t.Errorf("%s = %s, want Blank", what, shownCode(x))
	}
}

func TestBlank(t *testing.T) {
	for _, x := range append(rightWords(), wrongWords()...) {
		got := impl.Blank(x)
		isBlank(t, "Blank("+shownCode(x)+")", got)
		if !impl.CodeOk(got) {
			t.Errorf("Blank(%s) isn't right", shownCode(x))
		}
	}
}

func TestSingle(t *testing.T) {
	for _, k := range allKeys() {
		for _, load := range rightLoads {
			got := impl.Single(impl.Reading{Key: k, Load: load})
			if !sameCode(got, code([]impl.Key{k}, load)) || !impl.CodeOk(got) {
				t.Errorf("Single of %v and %q = %s", k, load, shownCode(got))
			}
		}
	}
	for _, r := range append(wrongReadings(), impl.Reading{}) {
		isBlank(t, "Single("+shown(r)+")", impl.Single(r))
	}
}

// isCombined holds what Combine tells of two words, in either order, against what it should tell.
func isCombined(t *testing.T, a, b, want impl.Code) {
	t.Helper()
	for _, c := range [][2]impl.Code{{a, b}, {b, a}} {
		if got, ok := impl.Combine(c[0], c[1]); !ok || !sameCode(got, want) {
			t.Errorf("Combine(%s, %s) = %s, %v, want %s", shownCode(c[0]), shownCode(c[1]), shownCode(got), ok, shownCode(want))
		}
	}
}

// notCombined demands that two words, in either order, make none.
func notCombined(t *testing.T, a, b impl.Code) {
	t.Helper()
	for _, c := range [][2]impl.Code{{a, b}, {b, a}} {
		got, ok := impl.Combine(c[0], c[1])
		if ok {
			t.Errorf("Combine(%s, %s) is true", shownCode(c[0]), shownCode(c[1]))
		}
		isBlank(t, "Combine("+shownCode(c[0])+", "+shownCode(c[1])+")", got)
	}
}

func TestCombine(t *testing.T) {
	a, b, c, d := key(1, 2), key(1, 10), key(2, 1), key(10, 1)
	type keys = []impl.Key
	none := code(nil, noLoad)
	// Of no Key, at one side and at both.
	isCombined(t, none, none, none)
	isCombined(t, none, code(keys{a}, "abcd"), code(keys{a}, "abcd"))
	isCombined(t, none, code(keys{a}, noLoad), code(keys{a}, noLoad))
	isCombined(t, code(keys{}, noLoad), code(keys{a, b, c}, "\xff\xfe\xfd\xfc"), code(keys{a, b, c}, "\xff\xfe\xfd\xfc"))
	// With no Key in both.
	isCombined(t, code(keys{a}, "\x0f\xff\x00\x01"), code(keys{b}, "\xff\xff\x00\x02"), code(keys{a, b}, "\xf0\x00\x00\x03"))
	isCombined(t, code(keys{a, c}, "\x01\x02\x04\x08"), code(keys{b, d}, "\x10\x20\x40\x80"), code(keys{a, b, c, d}, "\x11\x22\x44\x88"))
	// A Load that is all 0 in the end is no reason, as long as there are Keys.
	isCombined(t, code(keys{a}, "abcd"), code(keys{b}, "abcd"), code(keys{a, b}, noLoad))
	isCombined(t, code(keys{a}, noLoad), code(keys{b}, noLoad), code(keys{a, b}, noLoad))
	// With some in both.
	isCombined(t, code(keys{a, b}, "abcd"), code(keys{b}, "aBcD"), code(keys{a}, "\x00\x20\x00\x20"))
	isCombined(t, code(keys{a, b, c}, "abcd"), code(keys{b, c, d}, "zzzz"), code(keys{a, d}, "\x1b\x18\x19\x1e"))
	isCombined(t, code(keys{a, b}, "abcd"), code(keys{a, c}, "abcd"), code(keys{b, c}, noLoad))
	// With the same Keys, and the same Load, or another.
	for _, same := range []keys{{a}, {a, b}, {a, b, c, d}, allKeys()[:6]} {
		isCombined(t, code(same, "abcd"), code(same, "abcd"), none)
		isCombined(t, code(same, noLoad), code(same, noLoad), none)
		for i := range 32 {
			load := []byte("abcd")
			load[i/8] ^= 1 << (i % 8)
			notCombined(t, code(same, "abcd"), code(same, string(load)))
		}
		notCombined(t, code(same, "abcd"), code(same, noLoad))
	}
}

// TestCombineOfDegrees: as many Keys as MaxDeg may stand in what comes out, and none more, however they are parted.
func TestCombineOfDegrees(t *testing.T) {
	all := allKeys()
	for shared := range 7 {
		for left := range 7 - shared {
			for right := range 7 - shared {
				a := append(slices.Clone(all[:shared]), all[500:500+left]...)
				b := append(slices.Clone(all[:shared]), all[1000:1000+right]...)
				x, y := code(a, "abcd"), code(b, "wxyz")
				if len(a) == 0 {
					x.Load = noLoad
				}
				if len(b) == 0 {
					y.Load = noLoad
				}
				want := code(append(slices.Clone(all[500:500+left]), all[1000:1000+right]...), slowOr(x.Load, y.Load))
				if slowCodeOk(want) {
					isCombined(t, x, y, want)
				} else {
					notCombined(t, x, y)
				}
			}
		}
	}
	five, six, seventh := code(all[:5], "abcd"), code(all[:6], "abcd"), code(all[6:7], "zzzz")
	isCombined(t, five, seventh, code([]impl.Key{all[0], all[1], all[2], all[3], all[4], all[6]}, "\x1b\x18\x19\x1e"))
	notCombined(t, six, seventh)
	isCombined(t, six, code(all[3:9], "zzzz"), code(append(slices.Clone(all[:3]), all[6:9]...), "\x1b\x18\x19\x1e"))
	notCombined(t, six, code(all[6:12], "zzzz"))
}

func TestCombineRefuses(t *testing.T) {
	wrong := wrongWords()
	for i, x := range wrong {
		for _, right := range []impl.Code{{Load: noLoad}, code(someKeys[:1], "abcd"), code(someKeys[2:4], noLoad), code(someKeys, "abcd")} {
			notCombined(t, x, right)
		}
		notCombined(t, x, x)
		notCombined(t, x, wrong[(i*7+3)%len(wrong)])
	}
	// What came out would be right, but one of both isn't, or neither.
	notCombined(t, code(nil, "abcd"), code(someKeys[:1], "abcd"))
	notCombined(t, code(nil, "abcd"), code(nil, "abcd"))
	notCombined(t, code(allKeys()[:7], "abcd"), code(allKeys()[:6], "abcd"))
	notCombined(t, code(allKeys()[:7], "abcd"), code(allKeys()[:7], "abcd"))
	notCombined(t, code(someKeys, "abc"), code(someKeys, "abc"))
	notCombined(t, code(someKeys[:1], "abcde"), code(someKeys[1:2], "abcde"))
	notCombined(t, code([]impl.Key{{}}, "abcd"), code([]impl.Key{{}}, "abcd"))
	notCombined(t, code([]impl.Key{{}, key(1, 1)}, "abcd"), code([]impl.Key{{}}, "abcd"))
}

// TestCombineOfParts puts the words of all parts of eight readings together.
func TestCombineOfParts(t *testing.T) {
	parts := partsOf(eightReadings)
	for _, p := range parts {
		for _, q := range parts {
			var alone []impl.Reading
			for _, r := range eightReadings {
				if slices.Contains(p, r) != slices.Contains(q, r) {
					alone = append(alone, r)
				}
			}
			a, b, want := wordOf(p), wordOf(q), wordOf(alone)
			got, ok := impl.Combine(a, b)
			if !slowCodeOk(a) || !slowCodeOk(b) || !slowCodeOk(want) {
				want = code(nil, noLoad)
				if ok {
					t.Errorf("Combine(%s, %s) is true", shownCode(a), shownCode(b))
				}
			} else if !ok {
				t.Errorf("Combine(%s, %s) is false", shownCode(a), shownCode(b))
			}
			if !sameCode(got, want) {
				t.Errorf("Combine(%s, %s) = %s, want %s", shownCode(a), shownCode(b), shownCode(got), shownCode(want))
			}
		}
	}
}

// TestWordsPutTogetherComeBack: put together again with the one it is the other, whatever their Loads are.
func TestWordsPutTogetherComeBack(t *testing.T) {
	words := rightWords()
	for _, a := range words {
		for _, b := range words {
			both, ok := impl.Combine(a, b)
			if !ok {
				continue
			}
			isCombined(t, both, a, b)
			isCombined(t, both, b, a)
		}
	}
}

// TestWhatIsPutTogetherHolds: what is put together of what holds does so, and so does what is left of it.
func TestWhatIsPutTogetherHolds(t *testing.T) {
	truth := eightReadings
	parts := partsOf(truth)
	for i, p := range parts {
		a := wordOf(p)
		if len(p) > 6 {
			continue
		}
		for _, q := range parts {
			if both, ok := impl.Combine(a, wordOf(q)); ok && !impl.Holds(both, truth) {
				t.Errorf("%s, of what holds, doesn't", shownCode(both))
			}
			if left := impl.Reduced(a, q); !impl.Holds(left, truth) || !impl.CodeOk(left) {
				t.Errorf("%s, reduced by what holds, is %s", shownCode(a), shownCode(left))
			}
		}
		// What doesn't hold doesn't do so put together with what does.
		wrong := code(a.Keys, slowOr(a.Load, "\x00\x01\x00\x00"))
		if both, ok := impl.Combine(wrong, wordOf(parts[len(parts)-1-i])); ok && impl.Holds(both, truth) {
			t.Errorf("%s holds, of what doesn't", shownCode(both))
		}
	}
}

// isReduced holds what Reduced tells against what it should tell.
func isReduced(t *testing.T, x impl.Code, known []impl.Reading, want impl.Code) {
	t.Helper()
	if got := impl.Reduced(x, known); !sameCode(got, want) {
		t.Errorf("Reduced(%s, %s) = %s, want %s", shownCode(x), shownList(known), shownCode(got), shownCode(want))
	}
}

func TestReduced(t *testing.T) {
	a, b, c := reading(1, 2, "\x01\x02\x04\x08"), reading(1, 10, "\x10\x20\x40\x80"), reading(2, 1, "abcd")
	type list = []impl.Reading
	x := wordOf(list{a, b, c})
	// Nothing is known, or nothing of it.
	isReduced(t, x, nil, x)
	isReduced(t, x, list{}, x)
	isReduced(t, x, list{reading(1, 1, "abcd"), reading(1, 3, "abcd"), reading(10, 1, "abcd"), reading(20, 99, "abcd")}, x)
	// One Key, two, and all.
	isReduced(t, x, list{a}, wordOf(list{b, c}))
	isReduced(t, x, list{b}, wordOf(list{a, c}))
	isReduced(t, x, list{c}, wordOf(list{a, b}))
	isReduced(t, x, list{a, c}, wordOf(list{b}))
	isReduced(t, x, list{a, b, c}, code(nil, noLoad))
	// Others are known, too, ahead, between and behind.
	isReduced(t, x, list{reading(1, 1, "zzzz"), a, reading(1, 5, "zzzz"), c, reading(2, 2, "zzzz")}, wordOf(list{b}))
	// What is known is otherwise than what was put together.
	isReduced(t, x, list{reading(1, 2, noLoad)}, code([]impl.Key{b.Key, c.Key}, x.Load))
	isReduced(t, x, list{a, b, reading(2, 1, "abce")}, code(nil, "\x00\x00\x00\x01"))
	isReduced(t, code([]impl.Key{c.Key}, "abcd"), list{reading(2, 1, "ABCD")}, code(nil, "    "))
	isReduced(t, code([]impl.Key{c.Key}, noLoad), list{c}, code(nil, "abcd"))
	// Of no Key there is nothing to take out.
	isReduced(t, code(nil, noLoad), nil, code(nil, noLoad))
	isReduced(t, code([]impl.Key{}, noLoad), list{a, b, c}, code(nil, noLoad))
}

// TestReducedOfParts reduces words, whatever their Loads are, by all parts of readings.
func TestReducedOfParts(t *testing.T) {
	parts := partsOf(eightReadings)
	for _, p := range parts {
		word := wordOf(p)
		for _, x := range []impl.Code{word, code(word.Keys, "abcd"), code(word.Keys, noLoad)} {
			if !slowCodeOk(x) {
				continue
			}
			for _, known := range parts {
				want := code(nil, x.Load)
				for _, r := range p {
					if slices.Contains(known, r) {
						want.Load = slowOr(want.Load, r.Load)
					} else {
						want.Keys = append(want.Keys, r.Key)
					}
				}
				isReduced(t, x, known, want)
			}
		}
	}
}

// TestReducedRefuses: a word or readings that aren't right leave the word as it was.
func TestReducedRefuses(t *testing.T) {
	for _, x := range wrongWords() {
		var own []impl.Reading
		for _, k := range x.Keys {
			own = append(own, impl.Reading{Key: k, Load: "abcd"})
		}
		for _, known := range [][]impl.Reading{nil, {}, someReadings, someReadings[:1], own, {{}}, {reading(1, 1, "abc")}} {
			isReduced(t, x, known, x)
		}
	}
	for _, known := range wrongReadingLists() {
		for _, x := range []impl.Code{{Load: noLoad}, wordOf(someReadings), wordOf(someReadings[:1]), code(someKeys[:1], "zzzz"), code([]impl.Key{key(1, 1), key(1, 2)}, "zzzz"), {}, code(nil, "abcd")} {
			isReduced(t, x, known, x)
		}
	}
	for _, r := range wrongReadings() {
		x := code([]impl.Key{key(1, 1)}, "abcd")
		isReduced(t, x, []impl.Reading{r}, x)
	}
}

func TestReducedByAll(t *testing.T) {
	all := allReadings()
	for at := range len(all) - 5 {
		isReduced(t, wordOf(all[at:at+6]), all, code(nil, noLoad))
		isReduced(t, wordOf(all[at:at+6]), append(slices.Clone(all[:at+2]), all[at+3:]...), wordOf(all[at+2:at+3]))
	}
}

// isHeld holds what Holds tells against what it should tell.
func isHeld(t *testing.T, x impl.Code, truth []impl.Reading, want bool) {
	t.Helper()
	if got := impl.Holds(x, truth); got != want {
		t.Errorf("Holds(%s, %s) = %v", shownCode(x), shownList(truth), got)
	}
}

func TestHolds(t *testing.T) {
	a, b, c := reading(1, 2, "\x01\x02\x04\x08"), reading(1, 10, "\x10\x20\x40\x80"), reading(2, 1, "abcd")
	type list = []impl.Reading
	truth := list{a, b, c}
	for _, part := range partsOf(truth) {
		x := wordOf(part)
		isHeld(t, x, truth, true)
		isHeld(t, x, part, true)
		isHeld(t, x, append(list{reading(1, 1, "zzzz")}, truth...), true)
		for i := range 32 {
			load := []byte(x.Load)
			load[i/8] ^= 1 << (i % 8)
			isHeld(t, code(x.Keys, string(load)), truth, false)
		}
		// A Key of it has no reading.
		for at := range part {
			isHeld(t, x, slices.Delete(slices.Clone(part), at, at+1), false)
			isHeld(t, x, slices.Replace(slices.Clone(part), at, at+1, reading(7, 7, part[at].Load)), false)
		}
	}
	// A Load that is all 0 doesn't make up for a Key that has no reading.
	isHeld(t, code([]impl.Key{key(7, 7)}, noLoad), truth, false)
	isHeld(t, code([]impl.Key{key(7, 7)}, noLoad), nil, false)
	isHeld(t, code([]impl.Key{a.Key, key(7, 7)}, a.Load), truth, false)
	isHeld(t, code([]impl.Key{key(1, 1), a.Key}, a.Load), truth, false)
	isHeld(t, code([]impl.Key{key(10, 1)}, b.Load), truth, false)
}

// TestHoldsOfNoKey: a word of no Key holds where its Load is all 0, whatever is true.
func TestHoldsOfNoKey(t *testing.T) {
	truths := append(wrongReadingLists()[:60], nil, someReadings, []impl.Reading{{}}, []impl.Reading{reading(1, 1, noLoad)}, []impl.Reading{{Load: "abcd"}}, []impl.Reading{reading(1, 1, "abcd")})
	for _, truth := range truths {
		for _, keys := range [][]impl.Key{nil, {}} {
			isHeld(t, code(keys, noLoad), truth, true)
			for _, load := range append(rightLoads[1:], wrongLoads...) {
				isHeld(t, code(keys, load), truth, false)
			}
			for i := range 32 {
				load := []byte(noLoad)
				load[i/8] ^= 1 << (i % 8)
				isHeld(t, code(keys, string(load)), truth, false)
			}
		}
	}
}

// TestHoldsByReadingsThatAreNotRight: the first one of each Key counts, in whatever order and beside whatever else they stand.
func TestHoldsByReadingsThatAreNotRight(t *testing.T) {
	a, b, other := reading(1, 1, "\x01\x02\x04\x08"), reading(2, 1, "abcd"), reading(1, 1, "zzzz")
	type list = []impl.Reading
	both, otherwise := wordOf(list{a, b}), wordOf(list{other, b})
	isHeld(t, both, list{b, a}, true)
	isHeld(t, both, list{a, b, other}, true)
	isHeld(t, both, list{a, other, b}, true)
	isHeld(t, both, list{b, a, other}, true)
	isHeld(t, both, list{a, a, b, b}, true)
	isHeld(t, both, list{other, a, b}, false)
	isHeld(t, both, list{b, other, a}, false)
	isHeld(t, otherwise, list{other, a, b}, true)
	isHeld(t, otherwise, list{a, other, b}, false)
	isHeld(t, wordOf(list{a}), list{a, other}, true)
	isHeld(t, wordOf(list{a}), list{other, a}, false)
	for _, wrong := range wrongReadings() {
		if wrong.Key != a.Key && wrong.Key != b.Key {
			isHeld(t, both, list{wrong, a, b}, true)
			isHeld(t, both, list{a, wrong, b}, true)
		}
		isHeld(t, both, list{b, a, wrong}, true)
	}
	// The first one of a Key has a Load that is too short, or too long: there is no or (exclusively) of it.
	for _, load := range wrongLoads {
		isHeld(t, wordOf(list{a}), list{reading(1, 1, load)}, false)
		isHeld(t, wordOf(list{a}), list{reading(1, 1, load), a}, false)
		isHeld(t, both, list{reading(1, 1, load), a, b}, false)
		isHeld(t, both, list{a, reading(2, 1, load)}, false)
		isHeld(t, code(both.Keys, load), list{a, b}, false)
		isHeld(t, code(someKeys[:1], load), list{reading(1, 1, load)}, false)
		for _, right := range rightLoads {
			isHeld(t, code(someKeys[:1], right), list{reading(1, 1, load)}, false)
			isHeld(t, code(someKeys[:1], load), list{reading(1, 1, right)}, false)
		}
	}
}

// TestHoldsOfWordsThatAreNotRight: each Key is asked for as it stands there, whether or not they are right, rising, or too many.
func TestHoldsOfWordsThatAreNotRight(t *testing.T) {
	a, b := reading(1, 1, "\x01\x02\x04\x08"), reading(2, 1, "abcd")
	truth := []impl.Reading{a, b}
	isHeld(t, code([]impl.Key{b.Key, a.Key}, slowOr(a.Load, b.Load)), truth, true)
	isHeld(t, code([]impl.Key{b.Key, a.Key}, a.Load), truth, false)
	isHeld(t, code([]impl.Key{a.Key, a.Key}, noLoad), truth, true)
	isHeld(t, code([]impl.Key{a.Key, a.Key}, a.Load), truth, false)
	isHeld(t, code([]impl.Key{a.Key, b.Key, a.Key}, b.Load), truth, true)
	isHeld(t, wordOf(eightReadings), eightReadings, true)
	isHeld(t, code(wordOf(eightReadings).Keys, noLoad), eightReadings, false)
	for _, k := range wrongKeys {
		isHeld(t, code([]impl.Key{k}, "abcd"), truth, false)
		isHeld(t, code([]impl.Key{k}, noLoad), truth, false)
		isHeld(t, code([]impl.Key{k}, "abcd"), []impl.Reading{{Key: k, Load: "abcd"}}, true)
	}
}

// slowCodeText tells what CodeText does of a right Code, without the functions of impl.
func slowCodeText(x impl.Code) string { return fmt.Sprintf("%s:%x", slowText(x.Keys), x.Load) }

func TestCodeText(t *testing.T) {
	for _, c := range []struct {
		x    impl.Code
		want string
	}{
		{code(nil, noLoad), ":00000000"}, {code([]impl.Key{}, noLoad), ":00000000"},
		{code([]impl.Key{key(1, 1)}, noLoad), "1.1:00000000"}, {code([]impl.Key{key(20, 99)}, "\xff\xfe\x0a\x00"), "20.99:fffe0a00"},
		{code([]impl.Key{key(1, 2), key(10, 20)}, ":,. "), "1.2,10.20:3a2c2e20"},
		{code(someKeys, "abcd"), "1.1,1.2,1.10,2.1,10.1,20.99:61626364"},
	} {
		if got := impl.CodeText(c.x); got != c.want {
			t.Errorf("CodeText(%s) = %q, want %q", shownCode(c.x), got, c.want)
		}
	}
	for _, x := range rightWords() {
		if got := impl.CodeText(x); got != slowCodeText(x) {
			t.Errorf("CodeText(%s) = %q", shownCode(x), got)
		}
	}
	for _, x := range wrongWords() {
		if got := impl.CodeText(x); got != "" {
			t.Errorf("CodeText(%s) = %q, want nothing", shownCode(x), got)
		}
	}
}

func TestCodeTextOfAllKeys(t *testing.T) {
	all := allReadings()
	for at := range all {
		x := wordOf(all[at:min(at+6, len(all))])
		if got := impl.CodeText(x); got != slowCodeText(x) {
			t.Errorf("CodeText(%s) = %q", shownCode(x), got)
		}
	}
}

// spoil writes into all of an answer's Keys, and into the room behind them.
func spoil(x impl.Code) {
	whole := x.Keys[:cap(x.Keys)]
	for i := range whole {
		whole[i] = key(-3, -3)
	}
}

// copied tells a word in memory of its own.
func copied(x impl.Code) impl.Code {
	return impl.Code{Keys: slices.Clone(x.Keys), Load: strings.Clone(x.Load)}
}

// TestWordsAreLeftAsTheyWere: no function writes into a word, a list, or the room behind them, and what is done to an answer is seen by none of them.
func TestWordsAreLeftAsTheyWere(t *testing.T) {
	words := append(rightWords(), wrongWords()...)
	known := append(partsOf(someReadings[:4]), wrongReadingLists()[:12]...)
	for i, x := range words {
		keys, all := withRoom(x.Keys)
		was := slices.Clone(all)
		a := code(keys, x.Load)
		for j := range 12 {
			y := words[(i*31+j*17)%len(words)]
			otherKeys, otherAll := withRoom(y.Keys)
			otherWas := slices.Clone(otherAll)
			b := code(otherKeys, y.Load)
			first, ok := impl.Combine(a, b)
			told := copied(first)
			spoil(first)
			if again, okAgain := impl.Combine(a, b); okAgain != ok || !sameCode(again, told) {
				t.Fatalf("Combine(%s, %s) tells %s, then %s", shownCode(a), shownCode(b), shownCode(told), shownCode(again))
			}
			if !slices.Equal(otherAll, otherWas) {
				t.Fatalf("%s was written into", shownCode(y))
			}
		}
		for _, list := range known {
			part, allReadings := withReadingRoom(list)
			readingsWas := slices.Clone(allReadings)
			first := impl.Reduced(a, part)
			told := copied(first)
			spoil(first)
			if again := impl.Reduced(a, part); !sameCode(again, told) {
				t.Fatalf("Reduced(%s, %s) tells %s, then %s", shownCode(a), shownList(list), shownCode(told), shownCode(again))
			}
			impl.Holds(a, part)
			if !slices.Equal(allReadings, readingsWas) {
				t.Fatalf("%s became %s", shownList(readingsWas), shownList(allReadings))
			}
		}
		spoil(impl.Blank(a))
		impl.CodeOk(a)
		impl.CodeText(a)
		if !slices.Equal(all, was) {
			t.Fatalf("%s was written into", shownCode(x))
		}
	}
}

// TestWordsThatWereToldStay: what is done to a word, or told of it once more, isn't seen by what was told ahead.
func TestWordsThatWereToldStay(t *testing.T) {
	a, b := wordOf(eightReadings[:3]), wordOf(eightReadings[2:6])
	none, bad := code(nil, noLoad), code([]impl.Key{key(2, 1), key(1, 1)}, "abc")
	first, _ := impl.Combine(a, none)
	second, _ := impl.Combine(none, a)
	third, _ := impl.Combine(first, b)
	fourth, _ := impl.Combine(b, first)
	same := impl.Reduced(a, nil)
	less := impl.Reduced(a, eightReadings[1:2])
	refused := impl.Reduced(a, []impl.Reading{{}})
	wrong := impl.Reduced(bad, nil)
	single, twin := impl.Single(eightReadings[0]), impl.Single(eightReadings[0])
	answers := []impl.Code{first, second, third, fourth, same, less, refused, wrong, single, twin, a, b, bad}
	for i := range answers {
		kept := make([]impl.Code, len(answers))
		for j, x := range answers {
			kept[j] = copied(x)
		}
		spoil(answers[i])
		for j := range answers {
			if j != i && !sameCode(answers[j], kept[j]) {
				t.Errorf("answer %d became %s with answer %d", j, shownCode(answers[j]), i)
			}
		}
	}
}

// TestWordsLoadsAreNewMemory: no Load of an answer lies in an argument.
func TestWordsLoadsAreNewMemory(t *testing.T) {
	load, long, zero := strings.Clone("abcd"), strings.Clone("abcde"), strings.Clone(noLoad)
	r := impl.Reading{Key: key(1, 1), Load: load}
	x, none, wrong, empty := code(someKeys[:1], load), code(nil, zero), code(someKeys[:1], long), code(nil, load)
	one, _ := impl.Combine(x, none)
	two, _ := impl.Combine(none, x)
	three, _ := impl.Combine(none, none)
	four, _ := impl.Combine(x, x)
	five, _ := impl.Combine(wrong, none)
	six, _ := impl.Combine(code(someKeys[:1], zero), code([]impl.Key{key(1, 2)}, load))
	answers := []impl.Code{
		one, two, three, four, five, six, impl.Blank(x), impl.Blank(none), impl.Single(r), impl.Single(impl.Reading{Load: zero}),
		impl.Reduced(x, nil), impl.Reduced(x, []impl.Reading{r}), impl.Reduced(x, []impl.Reading{{}}), impl.Reduced(none, nil), impl.Reduced(none, []impl.Reading{{}}),
		impl.Reduced(wrong, nil), impl.Reduced(empty, nil), impl.Reduced(code(someKeys[:1], zero), []impl.Reading{r}),
	}
	for i, got := range answers {
		for _, text := range []string{load, long, zero} {
			if sharesBytes(text, got.Load) {
				t.Errorf("answer %d, %s, lies in %q", i, shownCode(got), text)
			}
		}
	}
}

// TestWordsAnswerAtAnyArguments: every function answers, whatever stands in its arguments, and the same when asked again.
func TestWordsAnswerAtAnyArguments(t *testing.T) {
	var some []impl.Code
	for _, node := range nearLimits {
		for _, seq := range nearLimits {
			some = append(some, code([]impl.Key{key(node, seq)}, "abcd"), code([]impl.Key{key(node, seq), key(seq, node)}, noLoad))
		}
	}
	some = append(some, code(allKeys(), "abcd"), code(slices.Repeat(allKeys(), 20), noLoad), code(someKeys[:1], strings.Repeat("x", 1000000)), code(nil, strings.Repeat("\x00", 1000000)))
	lists := [][]impl.Reading{nil, {{}}, someReadings, {reading(1, 1, strings.Repeat("x", 1000000))}, slices.Repeat(allReadings(), 2)}
	for _, x := range some {
		ok := impl.CodeOk(x)
		if ok != slowCodeOk(x) {
			t.Errorf("CodeOk(%s) = %v", shownCode(x), ok)
		}
		isBlank(t, "Blank", impl.Blank(x))
		if got := impl.CodeText(x); ok && got != slowCodeText(x) || !ok && got != "" {
			t.Errorf("CodeText(%s) = %.80q", shownCode(x), got)
		}
		if ok {
			isCombined(t, x, x, code(nil, noLoad))
			isCombined(t, x, code(nil, noLoad), x)
		} else {
			notCombined(t, x, x)
			notCombined(t, x, code(nil, noLoad))
		}
		for i, list := range lists {
			got := impl.Reduced(x, list)
			if !sameCode(impl.Reduced(x, list), got) || impl.Holds(x, list) != impl.Holds(x, list) {
				t.Errorf("%s, by list %d: asked again, another answer", shownCode(x), i)
			}
			if (!ok || !slowReadingsOk(list)) && !sameCode(got, x) {
				t.Errorf("Reduced(%s) by list %d = %s", shownCode(x), i, shownCode(got))
			}
		}
	}
}
