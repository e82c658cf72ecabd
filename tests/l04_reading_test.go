package tests

import (
	"fmt"
	"slices"
	"strconv"
	"strings"
	"testing"

	"loop.example/g00746/impl"
)

func reading(node, seq int, load string) impl.Reading {
	return impl.Reading{Key: key(node, seq), Load: load}
}

// someReadings are right readings, rising; their Loads would stand in another order, and two are alike.
var someReadings = []impl.Reading{
	reading(1, 1, "\xff\xff\xff\xff"), reading(1, 2, "abcd"), reading(1, 10, "\x00\x00\x00\x00"),
	reading(2, 1, "abcd"), reading(10, 1, "\n\t=."), reading(20, 99, "\x00\x01\x02\x03"),
}

// rightLoads are texts of four bytes, whatever they are.
var rightLoads = []string{"\x00\x00\x00\x00", "\xff\xff\xff\xff", "abcd", "ABCD", "    ", "\n\n\n\n", "1.1=", "====", "0000", "\x00\x01\x02\x03", "\x80\xc3\xa4\x00", "ää", "€x", "\U0001f4a7", "\xff\xfe\xfd\xfc"}

// wrongLoads are texts of another length: none, one less and one more among them, and those that have four signs, but not four bytes.
var wrongLoads = []string{
	"", "a", "ab", "abc", "abcde", "abcdef", "abcdefg", "abcdefgh", "\x00", "\x00\x00\x00", "\x00\x00\x00\x00\x00", "\xff\xff\xff", "\xff\xff\xff\xff\xff",
	"äbcd", "ääää", "€€€€", "\n", " abc ", strings.Repeat("x", 256), strings.Repeat("x", 260), strings.Repeat("x", 4000),
}

// wrongReadings are readings that are not right: by their Keys, by their Loads, and by both.
func wrongReadings() []impl.Reading {
	var wrong []impl.Reading
	for _, k := range wrongKeys {
		wrong = append(wrong, impl.Reading{Key: k, Load: "abcd"}, impl.Reading{Key: k}, impl.Reading{Key: k, Load: "abcde"})
	}
	for _, load := range wrongLoads {
		wrong = append(wrong, reading(1, 1, load), reading(1, 2, load), reading(5, 5, load), reading(20, 99, load))
	}
	return wrong
}

// wrongReadingLists are lists that aren't ReadingsOk.
func wrongReadingLists() [][]impl.Reading {
	a, b, c := reading(1, 1, "aaaa"), reading(1, 2, "bbbb"), reading(2, 1, "cccc")
	lists := [][]impl.Reading{
		{b, a}, {c, a}, {c, b}, {c, b, a}, {a, c, b}, {b, a, c}, {reading(10, 1, "aaaa"), c}, {reading(1, 10, "aaaa"), b},
		// One Key twice, with the same Load and with others.
		{a, a}, {a, reading(1, 1, "bbbb")}, {a, a, b}, {a, b, b}, {a, b, reading(1, 2, "aaaa"), c}, {a, b, a}, {a, c, reading(1, 1, "zzzz")},
	}
	for _, wrong := range wrongReadings() {
		for at := range len(someReadings) + 1 {
			lists = append(lists, slices.Insert(slices.Clone(someReadings), at, wrong))
			if at < len(someReadings) {
				list := slices.Clone(someReadings)
				list[at] = wrong
				lists = append(lists, list)
			}
		}
		lists = append(lists, []impl.Reading{wrong}, []impl.Reading{wrong, wrong})
	}
	return lists
}

// slowReadingOk tells whether a reading is right, without the functions of impl.
func slowReadingOk(r impl.Reading) bool {
	return 1 <= r.Key.Node && r.Key.Node <= 20 && 1 <= r.Key.Seq && r.Key.Seq <= 99 && len([]byte(r.Load)) == 4
}

// slowReadingsOk tells whether readings are right: each one's place among all right keys is behind that of the one ahead.
func slowReadingsOk(list []impl.Reading) bool {
	last := -1
	for _, r := range list {
		if !slowReadingOk(r) || r.Key.Node*100+r.Key.Seq <= last {
			return false
		}
		last = r.Key.Node*100 + r.Key.Seq
	}
	return true
}

func TestReadingConstants(t *testing.T) {
	if impl.LoadLen != 4 {
		t.Errorf("LoadLen is %d", impl.LoadLen)
	}
	if codes := [...]int{impl.LnNew, impl.LnSame, impl.LnOther, impl.LnBad}; codes != [...]int{0, 1, 2, 3} {
		t.Errorf("the codes of Learn are %v", codes)
	}
}

func TestReadingOk(t *testing.T) {
	for _, k := range allKeys() {
		for _, load := range rightLoads {
			if !impl.ReadingOk(impl.Reading{Key: k, Load: load}) {
				t.Errorf("ReadingOk(%v, %q) is false", k, load)
			}
		}
		for _, load := range wrongLoads {
			if impl.ReadingOk(impl.Reading{Key: k, Load: load}) {
				t.Errorf("ReadingOk(%v, %.20q) is true", k, load)
			}
		}
	}
	for _, r := range append(wrongReadings(), impl.Reading{}) {
		if impl.ReadingOk(r) {
			t.Errorf("ReadingOk(%s) is true", shown(r))
		}
	}
}

func TestReadingOkAtTheLimitsOfKeys(t *testing.T) {
	for _, node := range nearLimits {
		for _, seq := range nearLimits {
			want := 1 <= node && node <= 20 && 1 <= seq && seq <= 99
			if got := impl.ReadingOk(reading(node, seq, "abcd")); got != want {
				t.Errorf("ReadingOk of the Key %d, %d = %v, want %v", node, seq, got, want)
			}
		}
	}
}

func TestReadingOkOfLoads(t *testing.T) {
	for size := range 600 {
		for _, sign := range []string{"\x00", "a", "\xff"} {
			if got := impl.ReadingOk(reading(3, 4, strings.Repeat(sign, size))); got != (size == 4) {
				t.Errorf("ReadingOk of %d bytes %q = %v", size, sign, got)
			}
		}
	}
	for i := range 256 {
		for at := range 4 {
			load := []byte("abcd")
			load[at] = byte(i)
			if !impl.ReadingOk(reading(3, 4, string(load))) {
				t.Errorf("ReadingOk of the Load %q is false", load)
			}
		}
	}
}

func TestReadingsOk(t *testing.T) {
	for _, list := range append(partsOf(someReadings), nil, []impl.Reading{}) {
		if !impl.ReadingsOk(list) {
			t.Errorf("ReadingsOk(%s) is false", shownList(list))
		}
	}
	for _, k := range allKeys() {
		if !impl.ReadingsOk([]impl.Reading{{Key: k, Load: "abcd"}}) {
			t.Errorf("ReadingsOk of one of Key %v is false", k)
		}
	}
	for _, list := range wrongReadingLists() {
		if impl.ReadingsOk(list) {
			t.Errorf("ReadingsOk(%s) is true", shownList(list))
		}
	}
}

// TestReadingsOkOfShortLists goes through all lists of up to four of some readings, two of one Key among them.
func TestReadingsOkOfShortLists(t *testing.T) {
	some := append(slices.Clone(someReadings), reading(1, 2, "zzzz"), reading(2, 1, "abc"), reading(20, 100, "abcd"))
	for _, list := range listsOf(some, 4) {
		if got := impl.ReadingsOk(list); got != slowReadingsOk(list) {
			t.Errorf("ReadingsOk(%s) = %v", shownList(list), got)
		}
	}
}

// allReadings are readings of all right keys, rising, each of another Load.
func allReadings() []impl.Reading {
	var all []impl.Reading
	for i, k := range allKeys() {
		all = append(all, impl.Reading{Key: k, Load: string([]byte{byte(i), byte(i >> 8), byte(255 - i), 0})})
	}
	return all
}

func TestReadingsOkOfLongLists(t *testing.T) {
	all := allReadings()
	if !impl.ReadingsOk(all) {
		t.Error("readings of all keys aren't right")
	}
	for at := range all {
		list := slices.Clone(all)
		list[at].Load = "abc"
		if impl.ReadingsOk(list) {
			t.Errorf("a Load too short at %d is taken", at)
		}
		list = slices.Clone(all)
		list[at].Key = all[(at+1)%len(all)].Key
		if impl.ReadingsOk(list) {
			t.Errorf("the next one's Key at %d is taken", at)
		}
	}
	if impl.ReadingsOk(append(slices.Clone(all), all...)) {
		t.Error("all of them twice are taken")
	}
}

// shown tells a reading with the bytes of its Load quoted.
func shown(r impl.Reading) string {
	return fmt.Sprintf("%d.%d=%.20q", r.Key.Node, r.Key.Seq, r.Load)
}

// shownList tells the beginning of a list.
func shownList(list []impl.Reading) string {
	text := ""
	for _, r := range list[:min(len(list), 8)] {
		text += shown(r) + " "
	}
	return fmt.Sprintf("[%s, %d in all]", strings.TrimSpace(text), len(list))
}

// isLoad holds what LoadOf tells against what it should tell.
func isLoad(t *testing.T, list []impl.Reading, k impl.Key, want string, wantOk bool) {
	t.Helper()
	if got, ok := impl.LoadOf(list, k); got != want || ok != wantOk {
		t.Errorf("LoadOf(%s, %v) = %.40q, %v, want %.40q, %v", shownList(list), k, got, ok, want, wantOk)
	}
}

func TestLoadOf(t *testing.T) {
	for _, r := range someReadings {
		isLoad(t, someReadings, r.Key, r.Load, true)
		isLoad(t, []impl.Reading{r}, r.Key, r.Load, true)
		isLoad(t, nil, r.Key, "", false)
		isLoad(t, []impl.Reading{}, r.Key, "", false)
	}
	for _, k := range append([]impl.Key{key(1, 3), key(2, 2), key(3, 1), key(20, 98), key(19, 99), key(99, 20), key(10, 10)}, wrongKeys...) {
		isLoad(t, someReadings, k, "", false)
	}
	isLoad(t, []impl.Reading{reading(2, 1, "abcd")}, key(1, 2), "", false)
}

// TestLoadOfListsThatAreNotRight: the first one of a Key counts, whatever it and the others are.
func TestLoadOfListsThatAreNotRight(t *testing.T) {
	a, other, b := reading(1, 1, "abcd"), reading(1, 1, "zzzz"), reading(2, 1, "bbbb")
	isLoad(t, []impl.Reading{a, other}, a.Key, "abcd", true)
	isLoad(t, []impl.Reading{other, a}, a.Key, "zzzz", true)
	isLoad(t, []impl.Reading{b, a, other}, a.Key, "abcd", true)
	isLoad(t, []impl.Reading{b, other, b, a}, a.Key, "zzzz", true)
	isLoad(t, []impl.Reading{b, a}, a.Key, "abcd", true)
	isLoad(t, []impl.Reading{b, a}, b.Key, "bbbb", true)
	isLoad(t, []impl.Reading{b, a}, key(1, 2), "", false)
	isLoad(t, []impl.Reading{reading(1, 1, ""), a}, a.Key, "", true)
	isLoad(t, []impl.Reading{reading(1, 1, "abc"), a}, a.Key, "abc", true)
	isLoad(t, []impl.Reading{reading(1, 1, "abcde"), a}, a.Key, "abcde", true)
	isLoad(t, []impl.Reading{{}}, key(0, 0), "", true)
	isLoad(t, []impl.Reading{reading(0, 0, "abcd"), a}, key(0, 0), "abcd", true)
	isLoad(t, []impl.Reading{reading(-1, 100, "abcd"), a}, key(-1, 100), "abcd", true)
	for _, wrong := range wrongReadings() {
		list := []impl.Reading{b, wrong, reading(wrong.Key.Node, wrong.Key.Seq, "later")}
		isLoad(t, list, wrong.Key, wrong.Load, true)
		isLoad(t, list, b.Key, "bbbb", true)
		isLoad(t, list, key(7, 7), "", false)
	}
}

func TestLoadOfShortLists(t *testing.T) {
	some := []impl.Reading{reading(1, 1, "aaaa"), reading(1, 1, "bbbb"), reading(1, 2, "cccc"), reading(2, 1, "d"), {}}
	for _, list := range listsOf(some, 4) {
		for _, k := range []impl.Key{key(1, 1), key(1, 2), key(2, 1), {}, key(2, 2)} {
			at := slices.IndexFunc(list, func(r impl.Reading) bool { return r.Key.Node == k.Node && r.Key.Seq == k.Seq })
			if at < 0 {
				isLoad(t, list, k, "", false)
			} else {
				isLoad(t, list, k, list[at].Load, true)
			}
		}
	}
}

// isLearnt holds what Learn tells against what it should tell.
func isLearnt(t *testing.T, list []impl.Reading, r impl.Reading, want []impl.Reading, wantCode int) {
	t.Helper()
	if got, code := impl.Learn(list, r); code != wantCode || !slices.Equal(got, want) {
		t.Errorf("Learn(%s, %s) = %s, %d, want %s, %d", shownList(list), shown(r), shownList(got), code, shownList(want), wantCode)
	}
}

func TestLearn(t *testing.T) {
	a, b, c, d := reading(1, 2, "aaaa"), reading(1, 10, "bbbb"), reading(2, 1, "cccc"), reading(10, 1, "dddd")
	type list = []impl.Reading
	isLearnt(t, nil, a, list{a}, impl.LnNew)
	isLearnt(t, list{}, a, list{a}, impl.LnNew)
	// Ahead of all, between two, behind all.
	isLearnt(t, list{b}, a, list{a, b}, impl.LnNew)
	isLearnt(t, list{a}, b, list{a, b}, impl.LnNew)
	isLearnt(t, list{b, c, d}, a, list{a, b, c, d}, impl.LnNew)
	isLearnt(t, list{a, c, d}, b, list{a, b, c, d}, impl.LnNew)
	isLearnt(t, list{a, b, d}, c, list{a, b, c, d}, impl.LnNew)
	isLearnt(t, list{a, b, c}, d, list{a, b, c, d}, impl.LnNew)
	// A Load that is there with another Key is nothing that is there.
	isLearnt(t, list{a, c}, reading(1, 10, "aaaa"), list{a, reading(1, 10, "aaaa"), c}, impl.LnNew)
	for _, r := range []impl.Reading{a, b, c, d} {
		isLearnt(t, list{r}, r, list{r}, impl.LnSame)
		isLearnt(t, list{a, b, c, d}, r, list{a, b, c, d}, impl.LnSame)
		for at := range 4 {
			load := []byte(r.Load)
			load[at] ^= 1
			other := impl.Reading{Key: r.Key, Load: string(load)}
			isLearnt(t, list{a, b, c, d}, other, list{a, b, c, d}, impl.LnOther)
			isLearnt(t, list{r}, other, list{r}, impl.LnOther)
		}
	}
}

// slowLearn tells what Learn does of right readings, by all keys in order.
func slowLearn(list []impl.Reading, r impl.Reading) ([]impl.Reading, int) {
	byKey := map[impl.Key]string{}
	for _, there := range list {
		byKey[there.Key] = there.Load
	}
	if load, ok := byKey[r.Key]; ok {
		if load == r.Load {
			return list, impl.LnSame
		}
		return list, impl.LnOther
	}
	byKey[r.Key] = r.Load
	var all []impl.Reading
	for _, k := range allKeys() {
		if load, ok := byKey[k]; ok {
			all = append(all, impl.Reading{Key: k, Load: load})
		}
	}
	return all, impl.LnNew
}

// TestLearnIntoParts learns each of some readings, and of others, into all lists of some.
func TestLearnIntoParts(t *testing.T) {
	come := append(slices.Clone(someReadings), reading(1, 1, "zzzz"), reading(1, 2, "abce"), reading(1, 10, "\x00\x00\x00\x01"), reading(2, 1, "ABCD"), reading(10, 1, "abcd"), reading(20, 99, "abcd"),
		reading(1, 3, "abcd"), reading(1, 99, "abcd"), reading(2, 99, "abcd"), reading(15, 7, "abcd"), reading(20, 98, "abcd"))
	for _, part := range partsOf(someReadings) {
		for _, r := range come {
			want, code := slowLearn(part, r)
			isLearnt(t, part, r, want, code)
		}
	}
}

// TestLearnRefuses: a reading or a list that isn't right is LnBad, whatever else is so, and the list stays.
func TestLearnRefuses(t *testing.T) {
	for _, wrong := range wrongReadings() {
		for _, list := range [][]impl.Reading{nil, {}, someReadings, someReadings[:1], someReadings[5:]} {
			// Of a Key that is there, with another Load that is too short or too long, too.
			isLearnt(t, list, wrong, list, impl.LnBad)
		}
	}
	for _, list := range wrongReadingLists() {
		come := []impl.Reading{
			// Neither there nor of a Key that is there; there; another Load: the list counts first.
			reading(7, 7, "abcd"), someReadings[0], someReadings[3], someReadings[5], reading(1, 1, "zzzz"), reading(20, 99, "zzzz"),
			// Both aren't right.
			{}, reading(1, 1, "abc"), reading(0, 1, "abcd"), reading(20, 100, "abcd"),
		}
		for _, r := range append(come, list...) {
			isLearnt(t, list, r, list, impl.LnBad)
		}
	}
}

// TestLearnAll learns readings of all keys in several orders: each is there then, once, and none is learned twice.
func TestLearnAll(t *testing.T) {
	all := allReadings()
	for _, step := range []int{1, 1979, 7, 1003, 613} {
		var list []impl.Reading
		for i := range all {
			r := all[(i*step+step)%len(all)]
			grown, code := impl.Learn(list, r)
			if code != impl.LnNew || len(grown) != len(list)+1 {
				t.Fatalf("step %d: %s is learned with code %d", step, shown(r), code)
			}
			list = grown
			isLoad(t, list, r.Key, r.Load, true)
		}
		if !slices.Equal(list, all) {
			t.Errorf("step %d: what was learned isn't all", step)
		}
	}
	for _, r := range all {
		isLearnt(t, all, r, all, impl.LnSame)
		isLearnt(t, all, impl.Reading{Key: r.Key, Load: "\x00\x00\x00\xff"}, all, impl.LnOther)
	}
}

// TestWhatIsLearnedIsThereOnce: once it was learned it is LnSame, and its Key with another Load LnOther.
func TestWhatIsLearnedIsThereOnce(t *testing.T) {
	for _, part := range partsOf(someReadings) {
		for _, k := range allKeys() {
			r := impl.Reading{Key: k, Load: "\x01\x02\x03\x04"}
			list, code := impl.Learn(part, r)
			if code != impl.LnNew {
				continue
			}
			times := 0
			for _, there := range list {
				if there == r {
					times++
				}
			}
			if times != 1 || len(list) != len(part)+1 || !impl.ReadingsOk(list) {
				t.Fatalf("%s stands %d times in %s", shown(r), times, shownList(list))
			}
			isLearnt(t, list, r, list, impl.LnSame)
			isLearnt(t, list, impl.Reading{Key: k, Load: "\x01\x02\x03\x05"}, list, impl.LnOther)
		}
	}
}

func TestReadingText(t *testing.T) {
	for _, c := range []struct {
		r    impl.Reading
		want string
	}{
		{reading(1, 9, "\x00\x01\x02\x03"), "1.9=00010203"},
		{reading(1, 1, "\x00\x00\x00\x00"), "1.1=00000000"},
		{reading(20, 99, "\xff\xff\xff\xff"), "20.99=ffffffff"},
		{reading(10, 20, "abcd"), "10.20=61626364"},
		{reading(2, 10, "=,. "), "2.10=3d2c2e20"},
		{reading(7, 70, "\xab\xcd\xef\x0a"), "7.70=abcdef0a"},
	} {
		if got := impl.ReadingText(c.r); got != c.want {
			t.Errorf("ReadingText(%s) = %q, want %q", shown(c.r), got, c.want)
		}
	}
	for _, r := range append(wrongReadings(), impl.Reading{}) {
		if got := impl.ReadingText(r); got != "" {
			t.Errorf("ReadingText(%s) = %q, want nothing", shown(r), got)
		}
	}
}

// slowReadingText tells what ReadingText does of a right reading, without the functions of impl.
func slowReadingText(r impl.Reading) string {
	text := strconv.Itoa(r.Key.Node) + "." + strconv.Itoa(r.Key.Seq) + "="
	for i := range len(r.Load) {
		text += strconv.FormatInt(int64(r.Load[i]>>4), 16) + strconv.FormatInt(int64(r.Load[i]&15), 16)
	}
	return text
}

// comesBack demands that a right reading has its text, and is read from it.
func comesBack(t *testing.T, r impl.Reading) {
	t.Helper()
	text := impl.ReadingText(r)
	if text != slowReadingText(r) {
		t.Errorf("ReadingText(%s) = %q", shown(r), text)
	}
	if got, ok := impl.ReadReading(text); !ok || got != r {
		t.Errorf("%s comes back from %q as %s, %v", shown(r), text, shown(got), ok)
	}
}

func TestReadingsComeBackFromTheirText(t *testing.T) {
	for _, r := range append(allReadings(), someReadings...) {
		comesBack(t, r)
	}
	for _, k := range allKeys() {
		for _, load := range rightLoads {
			comesBack(t, impl.Reading{Key: k, Load: load})
		}
	}
	for i := range 256 {
		for at := range 4 {
			load := []byte("\x12\xef\x00\x9a")
			load[at] = byte(i)
			comesBack(t, reading(13, 57, string(load)))
		}
	}
}

func noReading(t *testing.T, s string) {
	t.Helper()
	if r, ok := impl.ReadReading(s); ok || r != (impl.Reading{}) {
		t.Errorf("ReadReading(%.60q) = %s, %v, want the zero Reading and false", s, shown(r), ok)
	}
}

func TestReadReading(t *testing.T) {
	for _, c := range []struct {
		s    string
		want impl.Reading
	}{
		{"1.1=00000000", reading(1, 1, "\x00\x00\x00\x00")}, {"20.99=ffffffff", reading(20, 99, "\xff\xff\xff\xff")},
		{"1.9=00010203", reading(1, 9, "\x00\x01\x02\x03")}, {"10.20=61626364", reading(10, 20, "abcd")}, {"2.10=3d2c2e20", reading(2, 10, "=,. ")},
	} {
		if got, ok := impl.ReadReading(c.s); !ok || got != c.want {
			t.Errorf("ReadReading(%q) = %s, %v", c.s, shown(got), ok)
		}
	}
}

func TestReadReadingRefuses(t *testing.T) {
	for _, s := range []string{
		// Nothing, no sign of equality, and two.
		"", "1.9", "00010203", "1.900010203", "1.9 00010203", "1.9:00010203", "1.9==00010203", "1.9=00010203=", "=1.9=00010203", "1.9=0001=0203", "1.9=00010203=00010203", "1=9=00010203", "1.9=0001020=", "1.9==0010203", "=", "==", "=1.9",
		// No key, two, and half a one.
		"=00010203", "1.9,2.1=00010203", "1.9,1.9=00010203", "1.1,1.2,1.3=00010203", "1.9,=00010203", ",1.9=00010203", ",=00010203", "1=00010203", "1.=00010203", ".9=00010203", ".=00010203", "1.9.=00010203", ".1.9=00010203", "1.9.1=00010203", "1..9=00010203", "1,9=00010203",
		// Keys that aren't right, at each limit and far off.
		"0.1=00010203", "1.0=00010203", "0.0=00010203", "21.1=00010203", "1.100=00010203", "21.100=00010203", "20.100=00010203", "21.99=00010203", "99.20=00010203",
		"-1.9=00010203", "1.-9=00010203", "+1.9=00010203", "1.+9=00010203", "4294967297.1=00010203", "1.4294967297=00010203", "18446744073709551617.1=00010203", "1.18446744073709551617=00010203",
		// Needless noughts ahead.
		"01.9=00010203", "1.09=00010203", "001.9=00010203", "1.009=00010203", "00.9=00010203", "1.00=00010203", "020.9=00010203",
		// Digits too few and too many: a Load too short and too long.
		"1.9=", "1.9=0", "1.9=00", "1.9=0001", "1.9=000102", "1.9=0001020", "1.9=000102030", "1.9=0001020304", "1.9=0001020304050607", "1.9=" + strings.Repeat("0", 4000), "1.9=" + strings.Repeat("0", 520),
		// Big letters.
		"1.9=0001020A", "1.9=A0010203", "1.9=ABCDEF01", "1.9=aB000000", "1.9=FFFFFFFF", "1.9=ffffffFf",
		// Blanks and line ends.
		" 1.9=00010203", "1.9 =00010203", "1.9= 00010203", "1.9=00010203 ", "1. 9=00010203", "1 .9=00010203", "1.9=0001 0203", "1.9 = 00010203", "1.9=0001020 ", "1.9= 0010203", "1.9=00010203\n", "\n1.9=00010203", "1.9=\n00010203", "1.9=00010203\t", "\t1.9=00010203", "1.9=00010203\r\n",
		// Other bytes.
		"1.9=0001020g", "1.9=g0010203", "1.9=0x010203", "1.9=0001020-", "1.9=-0010203", "1.9=+0010203", "1.9=00010203\x00", "\x001.9=00010203", "1.9\x00=00010203", "1.9=\xff0010203", "1.9=\x00\x01\x02\x03", "1.9=abcdefgh", "x.9=00010203", "1.x=00010203", "a=00010203", "1.9=00010203\xff", "\u0661.9=00010203", "1.9=\u0661001020", "1.9\uff1d00010203",
		"00010203=1.9", strings.Repeat("=", 4000), strings.Repeat("1.9=00010203", 300),
	} {
		noReading(t, s)
	}
	for _, r := range wrongReadings() {
		noReading(t, slowReadingText(r))
		noReading(t, impl.ReadingText(r))
	}
}

// isReadRightly demands that a text is read just where it is the text of a right reading, which is told by all keys' texts and the digits' own.
func isReadRightly(t *testing.T, s string) {
	t.Helper()
	text, digits, _ := strings.Cut(s, "=")
	_, isKey := places[text]
	readable := isKey && len(digits) == 8 && strings.Trim(digits, "0123456789abcdef") == ""
	if !readable {
		noReading(t, s)
		return
	}
	if r, ok := impl.ReadReading(s); !ok || !slowReadingOk(r) || slowReadingText(r) != s {
		t.Errorf("ReadReading(%q) = %s, %v", s, shown(r), ok)
	}
}

// TestReadReadingOfChangedTexts puts a byte before, into and behind a reading's text, takes one away, or another instead.
func TestReadReadingOfChangedTexts(t *testing.T) {
	for _, text := range []string{"1.1=00000000", "20.99=ffffffff", "9.10=0a1b9c3d", "10.1=61626364"} {
		for at := range len(text) + 1 {
			for i := range 256 {
				sign := string([]byte{byte(i)})
				isReadRightly(t, text[:at]+sign+text[at:])
				if at < len(text) {
					isReadRightly(t, text[:at]+sign+text[at+1:])
				}
			}
			isReadRightly(t, text[:at])
			isReadRightly(t, text[at:])
			if at < len(text) {
				isReadRightly(t, text[:at]+text[at+1:])
			}
		}
	}
}

// TestReadReadingOfShortParts goes through all short texts ahead of a load's digits, and behind a key.
func TestReadReadingOfShortParts(t *testing.T) {
	for _, s := range allTexts("0129.,=", 5) {
		isReadRightly(t, s+"=00010203")
		isReadRightly(t, s+"00010203")
		isReadRightly(t, "1.9="+s)
		isReadRightly(t, "1.9=0001"+s)
		isReadRightly(t, s)
	}
}

// withReadingRoom puts a list into a longer array, with readings of note ahead and behind; it tells the list, and all of the array.
func withReadingRoom(list []impl.Reading) (part, all []impl.Reading) {
	const ahead, behind = 3, 9
	all = make([]impl.Reading, ahead+len(list)+behind)
	for i := range all {
		all[i] = reading(7, 70, "note")
	}
	copy(all[ahead:], list)
	return all[ahead : ahead+len(list)], all
}

// TestReadingListsAreLeftAsTheyWere: no function writes into a list, nor into the room behind it, and no answer shares memory with one.
func TestReadingListsAreLeftAsTheyWere(t *testing.T) {
	come := append(wrongReadings(), someReadings...)
	come = append(come, reading(1, 1, "zzzz"), reading(1, 3, "abcd"), reading(20, 98, "abcd"), reading(7, 70, "note"), reading(19, 99, "abcd"))
	for _, list := range append(partsOf(someReadings), wrongReadingLists()[:40]...) {
		part, all := withReadingRoom(list)
		was := slices.Clone(all)
		for _, r := range come {
			got, _ := impl.Learn(part, r)
			told := slices.Clone(got)
			// What is done to an answer, and to the room behind it, is seen neither by the list nor by the next answer.
			whole := got[:cap(got)]
			for i := range whole {
				whole[i] = reading(-3, -3, "changed")
			}
			if again, _ := impl.Learn(part, r); !slices.Equal(again, told) {
				t.Fatalf("Learn(%s, %s) tells %s, then %s", shownList(list), shown(r), shownList(told), shownList(again))
			}
			impl.LoadOf(part, r.Key)
		}
		impl.ReadingsOk(part)
		if !slices.Equal(all, was) {
			t.Fatalf("%s became %s", shownList(was), shownList(all))
		}
	}
}

// TestLearnedListsStay: what is done to a list, or learned into it twice, isn't seen by what was told ahead.
func TestLearnedListsStay(t *testing.T) {
	list := slices.Clone(someReadings[:3])
	first, _ := impl.Learn(list, reading(5, 5, "five"))
	second, _ := impl.Learn(first, reading(6, 6, "sixs"))
	third, _ := impl.Learn(first, reading(7, 7, "seve"))
	same, _ := impl.Learn(list, list[0])
	other, _ := impl.Learn(list, reading(1, 1, "zzzz"))
	bad, _ := impl.Learn(list, impl.Reading{})
	was := slices.Clone(list)
	for i := range list {
		list[i] = impl.Reading{}
	}
	for i, c := range []struct{ got, want []impl.Reading }{
		{first, append(slices.Clone(was), reading(5, 5, "five"))},
		{second, append(slices.Clone(was), reading(5, 5, "five"), reading(6, 6, "sixs"))},
		{third, append(slices.Clone(was), reading(5, 5, "five"), reading(7, 7, "seve"))},
		{same, was}, {other, was}, {bad, was},
	} {
		if !slices.Equal(c.got, c.want) {
			t.Errorf("%d: %s, want %s", i, shownList(c.got), shownList(c.want))
		}
	}
}

// TestReadingTextsAreNewMemory: no Load of an answer lies in an argument.
func TestReadingTextsAreNewMemory(t *testing.T) {
	there := reading(2, 2, strings.Clone("abcd"))
	list := []impl.Reading{there}
	long := reading(0, 0, strings.Clone("a Load that is too long"))
	for _, come := range []impl.Reading{reading(1, 1, strings.Clone("wxyz")), reading(3, 3, strings.Clone("wxyz")), {Key: there.Key, Load: strings.Clone("abcd")}, {Key: there.Key, Load: strings.Clone("abce")}, long} {
		got, _ := impl.Learn(list, come)
		for _, r := range got {
			if sharesBytes(there.Load, r.Load) || sharesBytes(come.Load, r.Load) {
				t.Errorf("%s of Learn(%s, %s) lies in an argument", shown(r), shownList(list), shown(come))
			}
		}
	}
	for _, r := range []impl.Reading{there, long} {
		if load, ok := impl.LoadOf([]impl.Reading{r}, r.Key); !ok || sharesBytes(r.Load, load) {
			t.Errorf("LoadOf of %s lies in its argument", shown(r))
		}
	}
	text := strings.Clone("1.9=61626364")
	if r, ok := impl.ReadReading(text); !ok || sharesBytes(text, r.Load) {
		t.Errorf("%s lies in its text", shown(r))
	}
}

// TestReadingsAnswerAtAnyArguments: every function answers, whatever stands in its arguments, and the same when asked again.
func TestReadingsAnswerAtAnyArguments(t *testing.T) {
	var some []impl.Reading
	for _, node := range nearLimits {
		for _, seq := range nearLimits {
			some = append(some, reading(node, seq, "abcd"), reading(node, seq, ""))
		}
	}
	long := slices.Repeat(allReadings(), 20)
	huge := reading(1, 1, strings.Repeat("x", 1000000))
	for _, r := range append(some, huge) {
		if got, ok := impl.ReadReading(impl.ReadingText(r)); ok != slowReadingOk(r) || ok && got != r || !ok && got != (impl.Reading{}) {
			t.Errorf("%s comes back as %s, %v", shown(r), shown(got), ok)
		}
		for _, list := range [][]impl.Reading{nil, {r}, {r, r}, {reading(1, 1, "abcd"), r}, {r, reading(20, 99, "abcd")}, {{}, r}} {
			ok := impl.ReadingsOk(list)
			if ok != slowReadingsOk(list) {
				t.Errorf("ReadingsOk(%s) = %v", shownList(list), ok)
			}
			got, code := impl.Learn(list, r)
			if bad := code == impl.LnBad; bad != (!ok || !slowReadingOk(r)) || bad && !slices.Equal(got, list) {
				t.Errorf("Learn(%s, %s) tells %d", shownList(list), shown(r), code)
			}
			if again, next := impl.Learn(list, r); next != code || !slices.Equal(again, got) {
				t.Errorf("Learn(%s, %s): asked again, another answer", shownList(list), shown(r))
			}
			if load, ok := impl.LoadOf(list, r.Key); !ok && (load != "" || len(list) > 0) {
				t.Errorf("LoadOf(%v) = %.40q, %v", r.Key, load, ok)
			}
		}
	}
	isLearnt(t, long, reading(1, 1, "abcd"), long, impl.LnBad)
	isLoad(t, long, key(20, 99), long[1979].Load, true)
	isLoad(t, long, key(0, 0), "", false)
	for _, s := range []string{allBytes(), strings.Repeat("9", 100000), "1.9=" + strings.Repeat("0", 1000000), strings.Repeat("=", 100000), strings.Repeat("1.9,", 50000) + "=00010203", strings.Repeat("\xff", 12)} {
		noReading(t, s)
	}
}
