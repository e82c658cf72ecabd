package tests

import (
	"math"
	"slices"
	"strconv"
	"strings"
	"testing"

	"loop.example/g00746/impl"
)

func key(node, seq int) impl.Key { return impl.Key{Node: node, Seq: seq} }

// nearLimits are numbers at the limits of Node and Seq, around them, and far off.
var nearLimits = append([]int{0, 1, 2, 19, 20, 21, 98, 99, 100, 257, 276, 355, 1<<32 + 1, 1<<32 + 20}, extremeInts...)

// wrongKeys are keys that are not right: each number alone, and both.
var wrongKeys = []impl.Key{
	{}, {Node: 1}, {Seq: 1}, {Node: 20}, {Seq: 99},
	{Node: 21, Seq: 1}, {Node: 1, Seq: 100}, {Node: 21, Seq: 100}, {Node: 20, Seq: 100}, {Node: 21, Seq: 99},
	{Node: -1, Seq: 1}, {Node: 1, Seq: -1}, {Node: -1, Seq: -1}, {Node: 99, Seq: 20},
	{Node: math.MinInt64, Seq: 1}, {Node: 1, Seq: math.MinInt64}, {Node: math.MaxInt64, Seq: 1}, {Node: 1, Seq: math.MaxInt64},
	{Node: 1<<32 + 1, Seq: 1}, {Node: 1, Seq: 1<<32 + 1},
}

// someKeys are right keys, rising, with the least and the greatest there are; by their texts they would stand in another order.
var someKeys = []impl.Key{{Node: 1, Seq: 1}, {Node: 1, Seq: 2}, {Node: 1, Seq: 10}, {Node: 2, Seq: 1}, {Node: 10, Seq: 1}, {Node: 20, Seq: 99}}

// allKeys lists all right keys, rising.
func allKeys() []impl.Key {
	var all []impl.Key
	for node := 1; node <= 20; node++ {
		for seq := 1; seq <= 99; seq++ {
			all = append(all, key(node, seq))
		}
	}
	return all
}

// partsOf lists all lists of some things of a list, in the list's order.
func partsOf[T any](list []T) [][]T {
	parts := [][]T{nil}
	for _, x := range list {
		for _, part := range parts[:len(parts):len(parts)] {
			parts = append(parts, append(slices.Clone(part), x))
		}
	}
	return parts
}

// listsOf lists every list of 0 .. most things, each one of some.
func listsOf[T any](some []T, most int) [][]T {
	all := [][]T{nil}
	last := all
	for range most {
		var longer [][]T
		for _, list := range last {
			for _, x := range some {
				longer = append(longer, append(slices.Clone(list), x))
			}
		}
		all = append(all, longer...)
		last = longer
	}
	return all
}

func TestKeyLimits(t *testing.T) {
	if impl.MaxId != 20 || impl.MaxSeq != 99 {
		t.Errorf("MaxId is %d, MaxSeq is %d", impl.MaxId, impl.MaxSeq)
	}
}

func TestKeyOk(t *testing.T) {
	for _, k := range allKeys() {
		if !impl.KeyOk(k) {
			t.Errorf("KeyOk(%v) is false", k)
		}
	}
	for _, k := range wrongKeys {
		if impl.KeyOk(k) {
			t.Errorf("KeyOk(%v) is true", k)
		}
	}
	for _, node := range nearLimits {
		for _, seq := range nearLimits {
			want := 1 <= node && node <= 20 && 1 <= seq && seq <= 99
			if got := impl.KeyOk(key(node, seq)); got != want {
				t.Errorf("KeyOk(%d, %d) = %v, want %v", node, seq, got, want)
			}
		}
	}
}

func TestAhead(t *testing.T) {
	for _, c := range []struct {
		a, b impl.Key
		want bool
	}{
		// A lesser Node stands ahead, whatever Seq is.
		{key(1, 1), key(2, 1), true}, {key(1, 99), key(2, 1), true}, {key(1, 1), key(20, 99), true}, {key(2, 5), key(10, 5), true},
		{key(2, 1), key(1, 1), false}, {key(2, 1), key(1, 99), false}, {key(20, 99), key(1, 1), false}, {key(10, 5), key(2, 5), false},
		// Of the same Node a lesser Seq does.
		{key(7, 1), key(7, 2), true}, {key(7, 2), key(7, 10), true}, {key(7, 98), key(7, 99), true},
		{key(7, 2), key(7, 1), false}, {key(7, 10), key(7, 2), false},
		{key(7, 2), key(7, 2), false}, {key(1, 1), key(1, 1), false}, {key(20, 99), key(20, 99), false},
		// Keys that are not right stand in order too.
		{key(0, 0), key(0, 0), false}, {key(0, 0), key(0, 1), true}, {key(-1, 5), key(0, 0), true}, {key(0, 0), key(-1, 5), false},
		{key(0, -2), key(0, -1), true}, {key(0, -1), key(0, -2), false}, {key(21, 1), key(20, 100), false}, {key(20, 100), key(21, 1), true},
	} {
		if got := impl.Ahead(c.a, c.b); got != c.want {
			t.Errorf("Ahead(%v, %v) = %v", c.a, c.b, got)
		}
	}
	for _, a := range nearLimits {
		for _, b := range nearLimits {
			for _, same := range nearLimits {
				if got := impl.Ahead(key(same, a), key(same, b)); got != (a < b) {
					t.Errorf("Ahead of the Node %d and the Seqs %d, %d = %v", same, a, b, got)
				}
				if got := impl.Ahead(key(a, same), key(b, -same)); a != b && got != (a < b) {
					t.Errorf("Ahead of the Nodes %d, %d = %v", a, b, got)
				}
			}
		}
	}
}

// TestAheadOfAllKeys: of two right keys that one stands ahead that is listed ahead.
func TestAheadOfAllKeys(t *testing.T) {
	all := allKeys()
	for i, a := range all {
		for j, b := range all {
			if impl.Ahead(a, b) != (i < j) {
				t.Fatalf("Ahead(%v, %v) = %v", a, b, i >= j)
			}
		}
	}
}

func TestKeysOk(t *testing.T) {
	for _, list := range [][]impl.Key{
		nil, {}, {key(1, 1)}, {key(20, 99)}, {key(1, 1), key(1, 2)}, {key(1, 99), key(2, 1)}, {key(1, 1), key(20, 99)},
		{key(2, 1), key(10, 1)}, {key(2, 2), key(2, 10)}, someKeys, allKeys(),
	} {
		if !impl.KeysOk(list) {
			t.Errorf("KeysOk(%v) is false", list)
		}
	}
	for _, list := range [][]impl.Key{
		{key(1, 2), key(1, 1)}, {key(2, 1), key(1, 1)}, {key(2, 1), key(1, 2)}, {key(10, 1), key(2, 1)}, {key(2, 10), key(2, 2)},
		{key(1, 1), key(1, 1)}, {key(20, 99), key(20, 99)}, {key(1, 1), key(1, 1), key(1, 2)}, {key(1, 1), key(1, 2), key(1, 2)},
		{key(1, 1), key(1, 3), key(1, 2)}, {key(1, 2), key(1, 1), key(1, 3)}, {key(1, 1), key(2, 1), key(1, 1)}, {key(3, 1), key(2, 1), key(1, 1)},
	} {
		if impl.KeysOk(list) {
			t.Errorf("KeysOk(%v) is true", list)
		}
	}
}

// TestKeysOkOfShortLists goes through all lists of up to four of some keys: those that are rising are the parts of the keys in order.
func TestKeysOkOfShortLists(t *testing.T) {
	ok := map[string]bool{}
	for _, part := range partsOf(someKeys) {
		ok[slowText(part)] = true
	}
	for _, list := range listsOf(someKeys, 4) {
		if got := impl.KeysOk(list); got != ok[slowText(list)] {
			t.Errorf("KeysOk(%v) = %v", list, got)
		}
	}
}

// TestKeysOkWrongKeys: one key that isn't right is enough, at each place, also where the list is rising.
func TestKeysOkWrongKeys(t *testing.T) {
	for _, wrong := range wrongKeys {
		for at := range len(someKeys) + 1 {
			for _, list := range [][]impl.Key{nil, {wrong}, slices.Insert(slices.Clone(someKeys), at, wrong)} {
				if got := impl.KeysOk(list); got != (len(list) == 0) {
					t.Errorf("KeysOk(%v) = %v", list, got)
				}
			}
		}
	}
	for _, list := range [][]impl.Key{
		{key(0, 1), key(1, 1)}, {key(1, 0), key(1, 1)}, {key(20, 99), key(20, 100)}, {key(20, 99), key(21, 1)},
		{key(1, 99), key(1, 100), key(2, 1)}, {key(1, 99), key(2, 0), key(2, 1)}, {key(-1, 1), key(0, 1)}, {key(21, 1), key(22, 1)},
	} {
		if impl.KeysOk(list) {
			t.Errorf("KeysOk(%v) is true", list)
		}
	}
}

// slowText tells what KeyText does, without the functions of impl.
func slowText(list []impl.Key) string {
	text := ""
	for i, k := range list {
		if i > 0 {
			text += ","
		}
		text += strconv.Itoa(k.Node) + "." + strconv.Itoa(k.Seq)
	}
	return text
}

func TestKeyText(t *testing.T) {
	for _, c := range []struct {
		list []impl.Key
		want string
	}{
		{nil, ""}, {[]impl.Key{}, ""}, {[]impl.Key{key(1, 1)}, "1.1"}, {[]impl.Key{key(20, 99)}, "20.99"},
		{[]impl.Key{key(1, 2), key(1, 10), key(10, 1)}, "1.2,1.10,10.1"},
		{someKeys, "1.1,1.2,1.10,2.1,10.1,20.99"},
		// The document asks neither for right keys nor for a rising list.
		{[]impl.Key{{}}, "0.0"}, {[]impl.Key{key(2, 1), key(1, 1)}, "2.1,1.1"}, {[]impl.Key{key(1, 1), key(1, 1)}, "1.1,1.1"},
		{[]impl.Key{key(-1, 100)}, "-1.100"},
		{[]impl.Key{key(math.MinInt64, math.MaxInt64)}, "-9223372036854775808.9223372036854775807"},
	} {
		if got := impl.KeyText(c.list); got != c.want {
			t.Errorf("KeyText(%v) = %q, want %q", c.list, got, c.want)
		}
	}
	for _, list := range append(listsOf(append(wrongKeys[:3:3], someKeys...), 3), allKeys()) {
		if got, want := impl.KeyText(list), slowText(list); got != want {
			t.Errorf("KeyText(%v) = %q, want %q", list, got, want)
		}
	}
}

// isRead holds what ReadKeys tells of a text against the list it should tell.
func isRead(t *testing.T, s string, want []impl.Key) {
	t.Helper()
	if got, ok := impl.ReadKeys(s); !ok || !slices.Equal(got, want) {
		t.Errorf("ReadKeys(%.60q) = %v, %v", s, got, ok)
	}
}

func notRead(t *testing.T, s string) {
	t.Helper()
	if got, ok := impl.ReadKeys(s); ok || len(got) != 0 {
		t.Errorf("ReadKeys(%.60q) = %v, %v, want nothing and false", s, got, ok)
	}
}

func TestReadKeys(t *testing.T) {
	isRead(t, "", nil)
	isRead(t, "1.1", []impl.Key{key(1, 1)})
	isRead(t, "20.99", []impl.Key{key(20, 99)})
	isRead(t, "1.99,2.1", []impl.Key{key(1, 99), key(2, 1)})
	isRead(t, "1.1,1.2,1.10,2.1,10.1,20.99", someKeys)
}

func TestReadKeysRefuses(t *testing.T) {
	for _, s := range []string{
		// Commas at either end, alone, and two in a row.
		",", ",,", "1.1,", ",1.1", "1.1,,1.2", "1.1,1.2,", ",1.1,1.2", "1.1,,", ",,1.1",
		// A point too few or too many.
		"1", "11", "1,1", "1.1,2", "1,2.1", ".", "..", "1.", ".1", "1..1", "1.1.", ".1.1", "1.1.1", "1.1,1.2.3", "1.1.1,1.2", "1.1 1.2", "1.11.2",
		// Needless noughts, and signs.
		"01.1", "1.01", "00.1", "1.00", "001.1", "1.001", "020.99", "20.099", "1.1,01.2", "1.1,1.02",
		"-1.1", "1.-1", "+1.1", "1.+1", "-0.1", "1.-0", "--1.1",
		// Numbers at, and beyond, the limits.
		"0.0", "0.1", "1.0", "21.1", "1.100", "20.100", "21.99", "99.20", "1.1,21.1", "1.1,1.100", "0.1,1.1", "1.0,1.1",
		"999999999.1", "1.999999999", "1000000000.1", "1.1000000000", "4294967297.1", "1.4294967297",
		"9223372036854775807.1", "9223372036854775808.1", "1.18446744073709551617", "18446744073709551617.1", "1." + strings.Repeat("1", 5000),
		// Not rising, or twice.
		"1.2,1.1", "2.1,1.1", "2.1,1.2", "10.1,2.1", "1.10,1.2", "1.1,1.1", "1.1,1.2,1.2", "1.1,1.1,1.2", "1.1,1.2,1.1", "1.1,1.3,1.2", "3.1,2.1,1.1",
		// Other bytes.
		" ", "x", "1.x", "x.1", "1:1", "1.1;1.2", "1.1, 1.2", "1.1 ,1.2", "1.1\n", "\n1.1", "1.1,\n1.2", "1.1\t", "\x001.1", "1.1\x00", "1.\xff", "0x1.1", "1.1e0", "1_0.1", "\u0661.1",
		strings.Repeat(",", 4000), strings.Repeat("1.1,", 1000) + "1.1",
	} {
		notRead(t, s)
	}
}

// TestReadKeysChangedTexts puts a byte before, into and behind a list's text, and takes one away or another instead: what is read then is another list's text.
func TestReadKeysChangedTexts(t *testing.T) {
	check := func(s string) {
		got, ok := impl.ReadKeys(s)
		if ok != slowReadable(s) || ok && slowText(got) != s || !ok && len(got) != 0 {
			t.Errorf("ReadKeys(%q) = %v, %v", s, got, ok)
		}
	}
	for _, text := range []string{"", "1.1", "20.99", "1.2,1.10", "9.1,10.20,20.99"} {
		for at := range len(text) + 1 {
			for _, sign := range allBytes() {
				check(text[:at] + string([]byte{byte(sign)}) + text[at:])
				if at < len(text) {
					check(text[:at] + string([]byte{byte(sign)}) + text[at+1:])
				}
			}
			if at < len(text) {
				check(text[:at] + text[at+1:])
			}
		}
	}
}

// TestReadKeysOfShortTexts goes through all texts of up to seven of some bytes.
func TestReadKeysOfShortTexts(t *testing.T) {
	for _, s := range allTexts("012.,", 7) {
		got, ok := impl.ReadKeys(s)
		if ok != slowReadable(s) || ok && slowText(got) != s || !ok && len(got) != 0 {
			t.Errorf("ReadKeys(%q) = %v, %v", s, got, ok)
		}
	}
}

// places tells where a right key stands in allKeys, by its text.
var places = func() map[string]int {
	at := map[string]int{}
	for i, k := range allKeys() {
		at[slowText([]impl.Key{k})] = i
	}
	return at
}()

// slowReadable tells whether s is the text of a rising list of right keys, by a list of all their texts.
func slowReadable(s string) bool {
	if s == "" {
		return true
	}
	last := -1
	for _, part := range strings.Split(s, ",") {
		at, ok := places[part]
		if !ok || at <= last {
			return false
		}
		last = at
	}
	return true
}

func TestKeysComeBackFromTheirText(t *testing.T) {
	all := allKeys()
	isRead(t, impl.KeyText(all), all)
	for _, k := range all {
		isRead(t, impl.KeyText([]impl.Key{k}), []impl.Key{k})
	}
	for _, part := range partsOf(someKeys) {
		isRead(t, impl.KeyText(part), part)
	}
	for _, list := range listsOf(append(wrongKeys[:5:5], someKeys...), 3) {
		if text := impl.KeyText(list); impl.KeysOk(list) {
			isRead(t, text, list)
		} else {
			notRead(t, text)
		}
	}
}

func TestHasKey(t *testing.T) {
	for _, list := range [][]impl.Key{
		nil, {}, {key(1, 1)}, someKeys,
		// Not rising, twice, not right.
		{key(2, 1), key(1, 1)}, {key(20, 99), key(10, 1), key(2, 1), key(1, 2)}, {key(1, 2), key(1, 2), key(1, 1)},
		{{}, key(-1, 5), key(21, 100)}, append(slices.Clone(wrongKeys), someKeys...),
	} {
		for _, k := range append(slices.Clone(wrongKeys), allKeys()...) {
			want := false
			for _, there := range list {
				want = want || there.Node == k.Node && there.Seq == k.Seq
			}
			if got := impl.HasKey(list, k); got != want {
				t.Errorf("HasKey(%v, %v) = %v", list, k, got)
			}
		}
	}
	all := allKeys()
	for _, k := range all {
		if !impl.HasKey(all, k) {
			t.Errorf("HasKey(all, %v) is false", k)
		}
	}
}

// sameKeys holds a list that was told against its text.
func sameKeys(t *testing.T, what string, got []impl.Key, want string) {
	t.Helper()
	if text := slowText(got); text != want {
		t.Errorf("%s = %.200q, want %.200q", what, text, want)
	}
}

func TestPartedAndJoined(t *testing.T) {
	for _, c := range []struct{ a, b, parted, joined string }{
		{"", "", "", ""},
		{"1.1", "", "1.1", "1.1"},
		{"1.1,1.2", "", "1.1,1.2", "1.1,1.2"},
		{"1.1", "1.1", "", "1.1"},
		{"1.1,1.2,20.99", "1.1,1.2,20.99", "", "1.1,1.2,20.99"},
		{"1.1", "1.2", "1.1,1.2", "1.1,1.2"},
		{"1.2", "2.1", "1.2,2.1", "1.2,2.1"},
		{"2.1", "10.1", "2.1,10.1", "2.1,10.1"},
		// None of them shared: one by one, and all of the one ahead.
		{"1.1,2.1,3.1", "1.2,2.2,3.2", "1.1,1.2,2.1,2.2,3.1,3.2", "1.1,1.2,2.1,2.2,3.1,3.2"},
		{"1.1,1.2,1.3", "2.1,2.2", "1.1,1.2,1.3,2.1,2.2", "1.1,1.2,1.3,2.1,2.2"},
		{"1.5,1.6", "1.1,1.9", "1.1,1.5,1.6,1.9", "1.1,1.5,1.6,1.9"},
		// Some shared, at either end and within.
		{"1.1,1.2", "1.1,1.3", "1.2,1.3", "1.1,1.2,1.3"},
		{"1.1,1.3", "1.2,1.3", "1.1,1.2", "1.1,1.2,1.3"},
		{"1.1,1.3,1.5", "1.2,1.3,1.4", "1.1,1.2,1.4,1.5", "1.1,1.2,1.3,1.4,1.5"},
		{"1.2,1.10,10.1", "1.10,2.1", "1.2,2.1,10.1", "1.2,1.10,2.1,10.1"},
		// One within the other.
		{"1.1,1.2,1.3", "1.2", "1.1,1.3", "1.1,1.2,1.3"},
		{"1.1,1.2,1.3", "1.1", "1.2,1.3", "1.1,1.2,1.3"},
		{"1.1,1.2,1.3", "1.3", "1.1,1.2", "1.1,1.2,1.3"},
		{"1.1,1.2,1.3", "1.1,1.3", "1.2", "1.1,1.2,1.3"},
		// The least and the greatest key.
		{"1.1", "20.99", "1.1,20.99", "1.1,20.99"},
		{"1.1,20.99", "5.5", "1.1,5.5,20.99", "1.1,5.5,20.99"},
	} {
		a, _ := impl.ReadKeys(c.a)
		b, _ := impl.ReadKeys(c.b)
		sameKeys(t, "Parted("+c.a+"; "+c.b+")", impl.Parted(a, b), c.parted)
		sameKeys(t, "Parted("+c.b+"; "+c.a+")", impl.Parted(b, a), c.parted)
		sameKeys(t, "Joined("+c.a+"; "+c.b+")", impl.Joined(a, b), c.joined)
		sameKeys(t, "Joined("+c.b+"; "+c.a+")", impl.Joined(b, a), c.joined)
	}
}

// counted tells the text of those keys of all that stand in so many of two lists as is told.
func counted(all, a, b []impl.Key, told func(n int) bool) string {
	var list []impl.Key
	for _, k := range all {
		n := 0
		for _, there := range append(slices.Clone(a), b...) {
			if there == k {
				n++
			}
		}
		if told(n) {
			list = append(list, k)
		}
	}
	return slowText(list)
}

// TestPartedAndJoinedOfParts goes through all pairs of lists of some keys.
func TestPartedAndJoinedOfParts(t *testing.T) {
	for _, a := range partsOf(someKeys) {
		for _, b := range partsOf(someKeys) {
			what := "(" + slowText(a) + "; " + slowText(b) + ")"
			sameKeys(t, "Parted"+what, impl.Parted(a, b), counted(someKeys, a, b, func(n int) bool { return n == 1 }))
			sameKeys(t, "Joined"+what, impl.Joined(a, b), counted(someKeys, a, b, func(n int) bool { return n >= 1 }))
		}
	}
}

// TestAloneAndInBothMakeAtLeastOne: the keys that stand in one alone, and those that stand in both, are the joined ones, each of them once.
func TestAloneAndInBothMakeAtLeastOne(t *testing.T) {
	for _, a := range partsOf(someKeys) {
		for _, b := range partsOf(someKeys) {
			what := "(" + slowText(a) + "; " + slowText(b) + ")"
			alone, least := impl.Parted(a, b), impl.Joined(a, b)
			both, _ := impl.ReadKeys(counted(someKeys, a, b, func(n int) bool { return n == 2 }))
			if !impl.KeysOk(alone) || !impl.KeysOk(least) {
				t.Errorf("%s: %v or %v isn't rising", what, alone, least)
			}
			sameKeys(t, "alone or both "+what, impl.Joined(alone, both), slowText(least))
			// Were one in both lists, it would be missing here.
			sameKeys(t, "alone, and both "+what, impl.Parted(alone, both), slowText(least))
			sameKeys(t, "parted once more "+what, impl.Parted(alone, b), slowText(a))
		}
	}
}

func TestPartedAndJoinedOfLongLists(t *testing.T) {
	all := allKeys()
	var odd, even, third []impl.Key
	for i, k := range all {
		if i%2 == 0 {
			even = append(even, k)
		} else {
			odd = append(odd, k)
		}
		if i%3 == 0 {
			third = append(third, k)
		}
	}
	for _, pair := range [][2][]impl.Key{{all, all}, {all, nil}, {odd, even}, {even, third}, {all, third}, {all[:900], all[900:]}, {all[:1000], all[500:]}, {all, all[1979:]}} {
		for _, c := range [][2][]impl.Key{pair, {pair[1], pair[0]}} {
			sameKeys(t, "Parted of long lists", impl.Parted(c[0], c[1]), counted(all, c[0], c[1], func(n int) bool { return n == 1 }))
			sameKeys(t, "Joined of long lists", impl.Joined(c[0], c[1]), counted(all, c[0], c[1], func(n int) bool { return n >= 1 }))
		}
	}
}

// notOkLists are lists that aren't KeysOk.
func notOkLists() [][]impl.Key {
	lists := [][]impl.Key{
		{key(1, 2), key(1, 1)}, {key(2, 1), key(1, 1)}, {key(1, 1), key(1, 1)}, {key(10, 1), key(2, 1)},
		{key(1, 1), key(1, 3), key(1, 2)}, {key(1, 1), key(1, 2), key(1, 2)}, {key(3, 1), key(2, 1), key(1, 1)},
	}
	for _, wrong := range wrongKeys {
		lists = append(lists, []impl.Key{wrong}, []impl.Key{wrong, key(5, 5)}, []impl.Key{key(5, 5), wrong}, []impl.Key{key(1, 1), wrong, key(5, 5)})
	}
	return lists
}

func TestPartedAndJoinedRefuse(t *testing.T) {
	for _, wrong := range notOkLists() {
		for _, right := range append(partsOf(someKeys), wrong, []impl.Key{{}}) {
			for _, c := range [][2][]impl.Key{{wrong, right}, {right, wrong}} {
				if got := impl.Parted(c[0], c[1]); len(got) != 0 {
					t.Errorf("Parted(%v, %v) = %v, want nothing", c[0], c[1], got)
				}
				if got := impl.Joined(c[0], c[1]); len(got) != 0 {
					t.Errorf("Joined(%v, %v) = %v, want nothing", c[0], c[1], got)
				}
			}
		}
	}
}

// withRoom puts a list into a longer array, with keys of note ahead and behind; it tells the list, and all of the array.
func withRoom(list []impl.Key) (part, all []impl.Key) {
	const ahead, behind = 3, 20
	all = make([]impl.Key, ahead+len(list)+behind)
	for i := range all {
		all[i] = key(7, 70)
	}
	copy(all[ahead:], list)
	return all[ahead : ahead+len(list)], all
}

// TestKeyListsAreLeftAsTheyWere: no function writes into a list, nor into the room behind it, and no answer shares memory with one.
func TestKeyListsAreLeftAsTheyWere(t *testing.T) {
	lists := append(partsOf(someKeys), notOkLists()...)
	for _, a := range lists {
		for _, b := range lists {
			partA, allA := withRoom(a)
			partB, allB := withRoom(b)
			wasA, wasB := slices.Clone(allA), slices.Clone(allB)
			for _, answer := range [][]impl.Key{impl.Parted(partA, partB), impl.Joined(partA, partB), impl.Joined(partA, partA), impl.Joined(partA, nil), impl.Joined(nil, partB), impl.Parted(partA, nil), impl.Parted(nil, partB)} {
				answer = answer[:cap(answer)]
				for i := range answer {
					answer[i] = key(-3, -3)
				}
			}
			impl.KeysOk(partA)
			impl.KeyText(partA)
			impl.HasKey(partA, key(1, 2))
			if !slices.Equal(allA, wasA) || !slices.Equal(allB, wasB) {
				t.Fatalf("%v and %v are %v and %v", wasA, wasB, allA, allB)
			}
		}
	}
}

// TestKeyAnswersAreNewMemory: what is told once more isn't changed by what was done to an answer.
func TestKeyAnswersAreNewMemory(t *testing.T) {
	a, b := someKeys[:4:4], someKeys[2:]
	for what, tell := range map[string]func() []impl.Key{
		"Parted":   func() []impl.Key { return impl.Parted(a, b) },
		"Joined":   func() []impl.Key { return impl.Joined(a, b) },
		"ReadKeys": func() []impl.Key { list, _ := impl.ReadKeys("1.1,1.2,3.4"); return list },
	} {
		first := tell()
		was := slices.Clone(first)
		for i := range first {
			first[i] = impl.Key{}
		}
		got := tell()
		if len(was) == 0 || !slices.Equal(got, was) {
			t.Errorf("%s tells %v once more, and told %v", what, got, was)
		}
		if sharesRoom(first, got) {
			t.Errorf("%s tells the same memory twice", what)
		}
	}
	if text := impl.KeyText([]impl.Key{key(1, 1)}); sharesBytes(text, impl.KeyText([]impl.Key{key(1, 1)})) {
		t.Error("KeyText tells the same memory twice")
	}
}

// TestOverlappingKeyLists: two lists may be parts of one array.
func TestOverlappingKeyLists(t *testing.T) {
	all := slices.Clone(someKeys)
	sameKeys(t, "Parted of two parts", impl.Parted(all[:4], all[2:]), "1.1,1.2,10.1,20.99")
	sameKeys(t, "Joined of two parts", impl.Joined(all[:4], all[2:]), slowText(someKeys))
	sameKeys(t, "Joined of two ends", impl.Joined(all[4:], all[:2]), "1.1,1.2,10.1,20.99")
	sameKeys(t, "all of it afterwards", all, slowText(someKeys))
}

// TestKeysAnswerAtAnyArguments: every function answers, whatever stands in its arguments.
func TestKeysAnswerAtAnyArguments(t *testing.T) {
	texts := append(allTexts("1.,-\x00\xff", 4), strings.Repeat("9", 100000), strings.Repeat("1.1,", 50000), strings.Repeat(".", 100000), strings.Repeat(",", 100000), allBytes())
	for _, s := range texts {
		if got, ok := impl.ReadKeys(s); ok != slowReadable(s) || !ok && len(got) != 0 {
			t.Errorf("ReadKeys(%.60q) = %v, %v", s, got, ok)
		}
	}
	long := slices.Repeat(allKeys(), 50)
	for _, node := range nearLimits {
		for _, seq := range nearLimits {
			k := key(node, seq)
			for _, list := range [][]impl.Key{nil, {k}, {k, k}, {key(1, 1), k}, {k, key(20, 99)}, {key(seq, node), k}} {
				impl.KeyOk(k)
				impl.Ahead(k, key(seq, node))
				impl.KeysOk(list)
				impl.HasKey(list, k)
				if got, ok := impl.ReadKeys(impl.KeyText(list)); ok != impl.KeysOk(list) || ok && !slices.Equal(got, list) {
					t.Errorf("%v comes back as %v, %v", list, got, ok)
				}
				impl.Parted(list, someKeys)
				impl.Joined(someKeys, list)
			}
		}
	}
	if impl.KeysOk(long) || len(impl.Parted(long, nil)) != 0 || len(impl.Joined(nil, long)) != 0 || !impl.HasKey(long, key(20, 99)) || impl.HasKey(long, key(0, 0)) {
		t.Error("of a long list that isn't rising")
	}
}
