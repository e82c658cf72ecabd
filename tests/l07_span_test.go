package tests

import (
	"fmt"
	"math/bits"
	"math/rand"
	"slices"
	"strings"
	"testing"

	"loop.example/g00746/impl"
)

// shownWords tells the first words of a list, and how many they are.
func shownWords(list []impl.Code) string {
	texts := make([]string, 0, 24)
	for _, x := range list[:min(len(list), 24)] {
		texts = append(texts, shownCode(x))
	}
	return fmt.Sprintf("{%s} (%d words)", strings.Join(texts, "; "), len(list))
}

// word tells the Code of a text of Keys, and of a Load; no function of impl makes it.
func word(keys, load string) impl.Code {
	x := impl.Code{Load: load}
	for _, part := range strings.Split(keys, ",") {
		var k impl.Key
		if n, _ := fmt.Sscanf(part, "%d.%d", &k.Node, &k.Seq); n == 2 {
			x.Keys = append(x.Keys, k)
		}
	}
	return x
}

// taken tells the words of a list that are equations: the first 20 of the right ones.
func taken(list []impl.Code) []impl.Code {
	var words []impl.Code
	for _, x := range list {
		if slowCodeOk(x) && len(words) < 20 {
			words = append(words, x)
		}
	}
	return words
}

// slowSum tells the sum of two: the Keys that stand in just one of them, rising, and both Loads.
func slowSum(a, b impl.Code) impl.Code {
	var keys []impl.Key
	for _, k := range a.Keys {
		if !slices.Contains(b.Keys, k) {
			keys = append(keys, k)
		}
	}
	for _, k := range b.Keys {
		if !slices.Contains(a.Keys, k) {
			keys = append(keys, k)
		}
	}
	slices.SortFunc(keys, func(a, b impl.Key) int { return a.Node*100 + a.Seq - b.Node*100 - b.Seq })
	return code(keys, slowOr(a.Load, b.Load))
}

// sumsOf tells the sum of each part of some words: the one at a place is of those words of whose numbers the place has the bits.
func sumsOf(words []impl.Code) []impl.Code {
	sums := []impl.Code{{Load: noLoad}}
	for _, x := range words {
		for _, s := range sums[:len(sums):len(sums)] {
			sums = append(sums, slowSum(s, x))
		}
	}
	return sums
}

// slowRank goes through all parts of the words of which these are the sums, and of each through all of its parts.
func slowRank(sums []impl.Code) int {
	most := 0
	for all := range sums {
		free := true
		for part := all; part > 0 && free; part = (part - 1) & all {
			free = len(sums[part].Keys) > 0
		}
		if free {
			most = max(most, bits.OnesCount(uint(all)))
		}
	}
	return most
}

func slowAgreed(sums []impl.Code) bool {
	return !slices.ContainsFunc(sums, func(s impl.Code) bool { return len(s.Keys) == 0 && s.Load != noLoad })
}

func slowSpanned(sums []impl.Code, x impl.Code) bool {
	return slices.ContainsFunc(sums, func(s impl.Code) bool { return sameCode(s, x) })
}

func slowSolve(sums []impl.Code) []impl.Reading {
	var told []impl.Reading
	if !slowAgreed(sums) {
		return nil
	}
	for _, k := range allKeys() {
		for _, s := range sums {
			if len(s.Keys) == 1 && s.Keys[0] == k {
				told = append(told, impl.Reading{Key: k, Load: s.Load})
				break
			}
		}
	}
	return told
}

// isRank, isAgreed, isSpanned and isSolved hold what is told of a list against what should be.
func isRank(t *testing.T, list []impl.Code, want int) {
	t.Helper()
	if got := impl.Rank(list); got != want {
		t.Errorf("Rank = %d, want %d: %s", got, want, shownWords(list))
	}
}

func isAgreed(t *testing.T, list []impl.Code, want bool) {
	t.Helper()
	if got := impl.Agreed(list); got != want {
		t.Errorf("Agreed = %v: %s", got, shownWords(list))
	}
}

func isSpanned(t *testing.T, list []impl.Code, x impl.Code, want bool) {
	t.Helper()
	if got := impl.Spanned(list, x); got != want {
		t.Errorf("Spanned = %v of %s: %s", got, shownCode(x), shownWords(list))
	}
}

func isSolved(t *testing.T, list []impl.Code, want ...impl.Reading) {
	t.Helper()
	if got := impl.Solve(list); !slices.Equal(got, want) {
		t.Errorf("Solve = %s, want %s: %s", shownList(got), shownList(want), shownWords(list))
	}
}

// besides tells words that are like one, but not alike: those with another Load, with a Key less or more, and with Keys in another order, or twice.
func besides(x impl.Code) []impl.Code {
	some := []impl.Code{
		code(x.Keys, slowOr(x.Load, "\x01\x00\x00\x00")), code(x.Keys, slowOr(x.Load, "\x00\x00\x00\x80")), code(x.Keys, slowOr(x.Load, "\x00\x10\x00\x00")),
		code(x.Keys, noLoad), code(x.Keys, ""), code(x.Keys, x.Load[:3]), code(x.Keys, x.Load+"\x00"), code(nil, x.Load),
	}
	for i, k := range x.Keys {
		less := slices.Delete(slices.Clone(x.Keys), i, i+1)
		some = append(some, code(less, x.Load), code(slices.Insert(slices.Clone(x.Keys), i, k), x.Load), code(append(less, k), x.Load))
	}
	turned := slices.Clone(x.Keys)
	slices.Reverse(turned)
	return append(some, code(turned, x.Load), slowSum(x, word("1.1", noLoad)), slowSum(x, word("20.99", noLoad)), code(append([]impl.Key{{}}, x.Keys...), x.Load))
}

// isToldOfSums holds all that is told of a list against a count over all sums of its words.
func isToldOfSums(t *testing.T, list []impl.Code) {
	t.Helper()
	sums := sumsOf(taken(list))
	isRank(t, list, slowRank(sums))
	isAgreed(t, list, slowAgreed(sums))
	isSolved(t, list, slowSolve(sums)...)
	for _, s := range sums {
		isSpanned(t, list, s, true)
	}
	last := sums[len(sums)-1]
	for _, x := range append(besides(last), besides(sums[len(sums)/2])...) {
		isSpanned(t, list, x, slowSpanned(sums, x))
	}
	for _, x := range list {
		isSpanned(t, list, x, slowSpanned(sums, x))
	}
}

// manyWords tells n words of a Key each, no two of one Key.
func manyWords(n int) []impl.Code {
	var words []impl.Code
	for _, k := range allKeys()[:n] {
		words = append(words, code([]impl.Key{k}, "abcd"))
	}
	return words
}

func TestRank(t *testing.T) {
	a, b, c, d := word("1.2", "abcd"), word("1.10", "wxyz"), word("2.1", "\x00\x00\x00\x01"), word("10.1", noLoad)
	ab, bc, ac, abc := word("1.2,1.10", "0000"), word("1.10,2.1", "1111"), word("1.2,2.1", "\x01\x01\x01\x01"), word("1.2,1.10,2.1", "2222")
	none := code(nil, noLoad)
	type list = []impl.Code
	isRank(t, nil, 0)
	isRank(t, list{}, 0)
	isRank(t, list{a}, 1)
	isRank(t, list{abc}, 1)
	isRank(t, list{d}, 1)
	isRank(t, list{a, b, c, d}, 4)
	isRank(t, list{d, c, b, a}, 4)
	// Of no Key.
	isRank(t, list{none}, 0)
	isRank(t, list{none, none, none}, 0)
	isRank(t, list{none, a, none, b}, 2)
	// The same one twice, and the same Keys with another Load.
	isRank(t, list{a, a}, 1)
	isRank(t, list{a, b, a, b, a}, 2)
	isRank(t, list{a, word("1.2", "abce")}, 1)
	isRank(t, list{ab, word("1.2,1.10", noLoad), word("1.2,1.10", "abcd")}, 1)
	// One that is a sum of others.
	isRank(t, list{a, b, ab}, 2)
	isRank(t, list{ab, a, b}, 2)
	isRank(t, list{ab, bc, ac}, 2)
	isRank(t, list{ab, bc, ac, abc}, 3)
	isRank(t, list{ab, bc}, 2)
	isRank(t, list{a, bc, abc}, 2)
	isRank(t, list{a, b, c, ab, bc, ac, abc, d}, 4)
	// Those that aren't right don't count.
	for _, wrong := range wrongWords() {
		isRank(t, list{wrong}, 0)
		isRank(t, list{wrong, a, wrong, ab, wrong, wrong}, 2)
	}
}

func TestRankOfMoreThanTwenty(t *testing.T) {
	words := manyWords(60)
	for n := range words {
		isRank(t, words[:n], min(n, 20))
	}
	wrong := wrongWords()
	for n := range 30 {
		var list []impl.Code
		for i, x := range words {
			if i < n {
				list = append(list, wrong[(n*7+i)%len(wrong)], x, wrong[(n*11+i*5)%len(wrong)])
			}
		}
		isRank(t, list, min(n, 20))
		// As many that aren't right stand ahead of all.
		isRank(t, append(slices.Repeat(wrong[n:n+1], n), words[:n]...), min(n, 20))
		// Those of no Key, and those that are sums of others, are among the 20.
		isRank(t, append(slices.Repeat([]impl.Code{{Load: noLoad}}, n), words...), max(20-n, 0))
		isRank(t, append(slices.Repeat(words[:1], n), words[1:]...), max(20-n, 0)+min(n, 1))
	}
	long := append(slices.Repeat(wrong, 5000/len(wrong)), words[:3]...)
	isRank(t, long, 3)
}

func TestAgreed(t *testing.T) {
	one, two, three, four := "\x01\x00\x00\x00", "\x00\x02\x00\x00", "\x00\x00\x04\x00", "\x00\x00\x00\x08"
	a, b, c, d := word("1.2", one), word("1.10", two), word("2.1", three), word("10.1", four)
	ab, bc, cd, ad := slowSum(a, b), slowSum(b, c), slowSum(c, d), slowSum(a, d)
	other := func(x impl.Code) impl.Code { return code(x.Keys, slowOr(x.Load, "\x00\x00\x00\x01")) }
	none := code(nil, noLoad)
	type list = []impl.Code
	for _, words := range []list{
		nil, {}, {none}, {none, none}, {a}, {other(a)}, {a, a}, {a, none, a}, {a, b, c, d}, {a, other(b)},
		{ab, bc, cd, ad}, {ab, other(bc), other(cd), ad}, {a, b, ab}, {a, other(b), other(ab)}, {ab, ab, ab}, {other(ab), other(ab)},
		{a, bc, cd, slowSum(slowSum(a, bc), cd)}, {a, slowSum(a, word("1.10", noLoad)), word("1.10", noLoad)},
	} {
		isAgreed(t, words, true)
		for _, wrong := range wrongWords() {
			isAgreed(t, append(list{wrong, wrong}, words...), true)
		}
	}
	for _, words := range []list{
		// Of the same Keys, and another Load.
		{a, other(a)}, {a, word("1.2", noLoad)}, {word("1.2", noLoad), a}, {ab, other(ab)}, {a, b, c, d, other(c)}, {none, a, other(a)},
		// Three and more that have no Keys together.
		{a, b, other(ab)}, {other(ab), a, b}, {ab, bc, other(slowSum(ab, bc))}, {ab, bc, cd, other(ad)}, {other(ab), other(bc), other(cd), ad}, {other(a), b, c, d, ab, bc, cd, ad},
		{ab, cd, other(slowSum(ab, cd))}, {d, cd, bc, ab, other(a)},
	} {
		isAgreed(t, words, false)
		isSolved(t, words)
		for i := range words {
			isAgreed(t, append(slices.Clone(words[i:]), words[:i]...), false)
		}
	}
}

// TestAgreedOfEachBit: a Load without Keys isn't all 0, whatever its bit is.
func TestAgreedOfEachBit(t *testing.T) {
	for bit := range 32 {
		load := []byte(noLoad)
		load[bit/8] = 1 << (bit % 8)
		ab, bc, ac := word("3.1,3.2", "abcd"), word("3.2,3.3", "efgh"), word("3.1,3.3", slowOr("abcd", "efgh"))
		isAgreed(t, []impl.Code{ab, bc, ac}, true)
		wrong := code(ac.Keys, slowOr(ac.Load, string(load)))
		isAgreed(t, []impl.Code{ab, bc, wrong}, false)
		isAgreed(t, []impl.Code{ab, code(ab.Keys, slowOr(ab.Load, string(load)))}, false)
		isRank(t, []impl.Code{ab, bc, wrong}, 2)
		isSpanned(t, []impl.Code{ab, bc, wrong}, code(nil, string(load)), true)
		isSpanned(t, []impl.Code{ab, bc, wrong}, ac, true)
		isSpanned(t, []impl.Code{ab, bc, ac}, code(nil, string(load)), false)
		isSpanned(t, []impl.Code{ab, bc, ac}, wrong, false)
		isSolved(t, []impl.Code{word("3.1", string(load)), wrong}, reading(3, 1, string(load)), reading(3, 3, ac.Load))
	}
}

// TestAgreedOfMoreThanTwenty: a disagreement counts where the first 20 right ones have it.
func TestAgreedOfMoreThanTwenty(t *testing.T) {
	wrong := wrongWords()
	for n := 1; n < 40; n++ {
		words := manyWords(n)
		first, last := code(words[0].Keys, "abce"), code(words[n-1].Keys, "abce")
		isAgreed(t, append(slices.Clone(words), first), n >= 20)
		isAgreed(t, append(slices.Clone(words), last), n >= 20)
		isAgreed(t, append(slices.Clone(words), wrong[n], wrong[n+1], last), n >= 20)
		isAgreed(t, slices.Insert(slices.Clone(words), n/2, slices.Repeat(wrong[n:n+1], 30)...), true)
		isAgreed(t, append([]impl.Code{first}, words...), false)
		// Twenty of no Key leave room for none.
		isAgreed(t, append(slices.Repeat([]impl.Code{{Load: noLoad}}, n), words[0], first), n >= 19)
	}
}

func TestSpanned(t *testing.T) {
	one, two, three, four := "\x01\x00\x00\x00", "\x00\x02\x00\x00", "\x00\x00\x04\x00", "\x00\x00\x00\x08"
	ab, bc, cd := word("1.2,1.10", one), word("1.10,2.1", two), word("2.1,10.1", three)
	type list = []impl.Code
	words := list{ab, bc, cd}
	for _, x := range []impl.Code{
		code(nil, noLoad), code([]impl.Key{}, noLoad), ab, bc, cd, word("1.2,2.1", slowOr(one, two)), word("1.10,10.1", slowOr(two, three)),
		word("1.2,1.10,2.1,10.1", slowOr(one, three)), word("1.2,10.1", slowOr(one, two, three)),
	} {
		isSpanned(t, words, x, true)
		isSpanned(t, list{cd, word("1.2", "abc"), ab, bc, ab}, x, true)
		isSpanned(t, nil, x, len(x.Keys) == 0)
		isSpanned(t, list{}, x, len(x.Keys) == 0)
		isSpanned(t, list{word("1.2", "abc"), code(nil, "abcd"), {}}, x, len(x.Keys) == 0)
		for _, wrong := range besides(x) {
			if !sameCode(wrong, x) {
				isSpanned(t, words, wrong, slowSpanned(sumsOf(words), wrong))
			}
		}
	}
	for _, x := range []impl.Code{
		// Keys that no sum has.
		word("1.2", one), word("10.1", three), word("1.2,1.10,2.1", one), word("5.5", noLoad), word("1.2,1.10,5.5", one), word("20.99", noLoad),
		// Another Load.
		word("1.2,1.10", two), word("1.2,1.10", noLoad), word("1.2,2.1", one), word("1.2,10.1", slowOr(one, two, three, four)), code(nil, one), code(nil, "\x00\x00\x00\x01"),
		// Not in order, or twice.
		word("1.10,1.2", one), word("10.1,2.1", three), word("1.2,1.2", noLoad), word("1.2,1.2,1.10", one), word("2.1,1.2", slowOr(one, two)), word("1.2,1.10,5.5,5.5", one),
		// A Load of another length.
		{}, code(nil, "\x00\x00\x00"), code(nil, "\x00\x00\x00\x00\x00"), code(ab.Keys, one+"\x00"), code(ab.Keys, one[:3]), code(ab.Keys, one[:1]), code(ab.Keys, ""),
		// Keys that aren't right.
		word("0.2,1.10", one), word("1.2,1.100", one), word("1.2,21.1", one), word("0.0", noLoad), word("0.1", noLoad), word("1.0", noLoad), word("21.1", noLoad), word("1.100", noLoad), word("1.109", one),
	} {
		isSpanned(t, words, x, false)
	}
	// Keys that aren't right, where those with which they might be taken for one another are told.
	isSpanned(t, list{word("2.1", one)}, word("1.100", one), false)
	isSpanned(t, list{word("1.99", one)}, word("2.0", one), false)
	isSpanned(t, list{word("20.99", one)}, word("21.0", one), false)
	isSpanned(t, list{word("2.1", one)}, word("3.-98", one), false)
}

// TestSpannedWhereWordsDoNotAgree: all sums are asked for, those with the same Keys and another Load as well.
func TestSpannedWhereWordsDoNotAgree(t *testing.T) {
	one, two, both := "\x01\x00\x00\x00", "\x00\x00\x00\x02", "\x01\x00\x00\x02"
	ab, bc := word("1.2,1.10", "abcd"), word("1.10,2.1", "wxyz")
	list := []impl.Code{ab, bc, code(ab.Keys, slowOr(ab.Load, one)), code(bc.Keys, slowOr(bc.Load, two))}
	ac := slowSum(ab, bc)
	for _, x := range []impl.Code{ab, bc, ac, code(nil, noLoad)} {
		for _, load := range []string{noLoad, one, two, both} {
			isSpanned(t, list, code(x.Keys, slowOr(x.Load, load)), true)
		}
		for _, load := range []string{"\x02\x00\x00\x00", "\x00\x00\x00\x01", "\x00\x01\x00\x00", "\x01\x00\x00\x03", "\xff\xff\xff\xff"} {
			isSpanned(t, list, code(x.Keys, slowOr(x.Load, load)), false)
		}
		isSpanned(t, list, code(x.Keys, ""), false)
	}
	isSpanned(t, list, word("1.2", "abcd"), false)
	// A word of no Key with a Load isn't right, so that it doesn't count in the list; but it may be asked for.
	isSpanned(t, []impl.Code{ab, code(nil, one)}, code(nil, one), false)
	isSpanned(t, []impl.Code{ab, code(nil, one)}, code(ab.Keys, slowOr(ab.Load, one)), false)
}

// TestSpannedOfManyKeys: a sum may have more Keys than a right Code.
func TestSpannedOfManyKeys(t *testing.T) {
	all := allReadings()
	var words []impl.Code
	for i := range 20 {
		var own []impl.Reading
		for j := range 6 {
			own = append(own, all[i+j*330])
		}
		words = append(words, wordOf(own))
	}
	isRank(t, words, 20)
	isAgreed(t, words, true)
	isSolved(t, words)
	for n := range 21 {
		sum := code(nil, noLoad)
		for _, x := range words[:n] {
			sum = slowSum(sum, x)
		}
		if len(sum.Keys) != 6*n {
			t.Fatalf("%d words make a sum of %d Keys", n, len(sum.Keys))
		}
		isSpanned(t, words, sum, true)
		isSpanned(t, words[:max(n-1, 0)], sum, n == 0)
		isSpanned(t, words, code(sum.Keys, slowOr(sum.Load, "\x00\x00\x01\x00")), false)
		if n > 0 {
			isSpanned(t, words, code(sum.Keys[1:], sum.Load), false)
			isSpanned(t, words, code(sum.Keys[:6*n-1], sum.Load), false)
		}
	}
}

func TestSpannedOfMoreThanTwenty(t *testing.T) {
	wrong := wrongWords()
	words := manyWords(40)
	for i, x := range words {
		isSpanned(t, words, x, i < 20)
		isSpanned(t, words, slowSum(words[0], x), i < 20)
		isSpanned(t, words[i:], x, true)
		isSpanned(t, words[max(i-19, 0):], x, true)
		isSpanned(t, words[max(i-20, 0):], x, i < 20)
		mixed := append(slices.Repeat(wrong[i:i+2], 11), words...)
		isSpanned(t, mixed, x, i < 20)
		isSpanned(t, append(slices.Repeat([]impl.Code{{Load: noLoad}}, i), words...), words[0], i < 20)
		isSpanned(t, append(slices.Repeat(words[1:2], i), words...), words[0], i < 20)
	}
	isSpanned(t, words, code(nil, noLoad), true)
}

func TestSolve(t *testing.T) {
	a, b, c, d := reading(1, 2, "abcd"), reading(1, 10, "wxyz"), reading(2, 1, noLoad), reading(10, 1, "\x00\xff\x80\x01")
	of := func(list ...impl.Reading) impl.Code { return wordOf(list) }
	none := code(nil, noLoad)
	type list = []impl.Code
	isSolved(t, nil)
	isSolved(t, list{})
	isSolved(t, list{none, none})
	isSolved(t, list{of(a)}, a)
	isSolved(t, list{of(c)}, c)
	isSolved(t, list{of(d), none, of(d), of(d)}, d)
	// Rising by Keys, in whatever order they come.
	isSolved(t, list{of(d), of(b), of(c), of(a)}, a, b, c, d)
	isSolved(t, list{of(a, b, c, d), of(c, d), of(d), of(b)}, a, b, c, d)
	// No Key is alone in a word, but all are in sums.
	isSolved(t, list{of(a, b), of(b, c), of(a, b, c)}, a, b, c)
	isSolved(t, list{of(a, b, c), of(b, c, d), of(a, c, d), of(a, b, d)}, a, b, c, d)
	// Some alone, and some not.
	isSolved(t, list{of(a, b), of(c), of(c, d)}, c, d)
	isSolved(t, list{of(a, b), of(a, b, d)}, d)
	isSolved(t, list{of(b, c, d), of(b, c), of(a, b, c)}, a, d)
	isSolved(t, list{of(a, b), of(c, d)})
	isSolved(t, list{of(a, b, c, d)})
	isSolved(t, list{of(a, b), of(a, b), of(a, b)})
	// Those that aren't right tell nothing.
	for _, wrong := range wrongWords() {
		isSolved(t, list{wrong})
		isSolved(t, list{wrong, of(a, b), wrong, wrong, of(b)}, a, b)
	}
}

// chainOf tells the words of each two readings that stand one behind the other, and that of the first and the last one, which makes a ring of them.
func chainOf(readings []impl.Reading) (chain []impl.Code, closing impl.Code) {
	for i := range len(readings) - 1 {
		chain = append(chain, wordOf(readings[i:i+2]))
	}
	return chain, wordOf([]impl.Reading{readings[0], readings[len(readings)-1]})
}

// TestSolveOfRingsAndChains: words of two Keys in a row tell nothing, in a ring neither; one Key known at any place tells all of them.
func TestSolveOfRingsAndChains(t *testing.T) {
	all := allReadings()
	for n := 2; n < 20; n++ {
		readings := make([]impl.Reading, 0, n)
		for i := range n {
			readings = append(readings, all[(i*7+n)*9])
		}
		chain, closing := chainOf(readings)
		ring := append(slices.Clone(chain), closing)
		for _, words := range [][]impl.Code{chain, ring} {
			isRank(t, words, n-1)
			isAgreed(t, words, true)
			isSolved(t, words)
			isSpanned(t, words, closing, true)
			isSpanned(t, words, wordOf(readings[:1]), false)
		}
		for _, r := range readings {
			isSolved(t, append(slices.Clone(chain), wordOf([]impl.Reading{r})), readings...)
			isRank(t, append([]impl.Code{wordOf([]impl.Reading{r})}, ring...), n)
			isSolved(t, append([]impl.Code{wordOf([]impl.Reading{r})}, chain...), readings...)
		}
		wrong := code(closing.Keys, slowOr(closing.Load, "\x00\x40\x00\x00"))
		isAgreed(t, append(slices.Clone(chain), wrong), false)
		isSolved(t, append(slices.Clone(chain), wrong, wordOf(readings[:1])))
		// A chain that is broken is told on that side only.
		if n > 3 {
			broken := slices.Delete(slices.Clone(chain), n/2-1, n/2)
			isSolved(t, append(broken, wordOf(readings[:1])), readings[:n/2]...)
			isSolved(t, append(broken[:n-2:n-2], wordOf(readings[n-1:])), readings[n/2:]...)
		}
	}
}

func TestSolveOfMoreThanTwenty(t *testing.T) {
	all := allReadings()
	wrong := wrongWords()
	for n := range 40 {
		var words []impl.Code
		for _, r := range all[:n] {
			words = append(words, wordOf([]impl.Reading{r}))
		}
		isSolved(t, words, all[:min(n, 20)]...)
		isSolved(t, append(slices.Repeat(wrong[n:n+1], 25), words...), all[:min(n, 20)]...)
		slices.Reverse(words)
		isSolved(t, words, all[max(n-20, 0):n]...)
		// What the 21st makes alone isn't told.
		pairs := slices.Repeat([]impl.Code{wordOf(all[100:102])}, n)
		if n > 0 && n < 20 {
			isSolved(t, append(pairs, wordOf(all[101:102])), all[100:102]...)
		} else if n >= 20 {
			isSolved(t, append(pairs, wordOf(all[101:102])))
		}
	}
}

// TestSpansOfAllKeys: no two Keys are taken for one another.
func TestSpansOfAllKeys(t *testing.T) {
	all := allReadings()
	for i, r := range all {
		isSolved(t, []impl.Code{wordOf(all[i : i+1])}, r)
		if i > 0 {
			pair, alone := wordOf(all[i-1:i+1]), wordOf(all[i-1:i])
			isSolved(t, []impl.Code{pair, alone}, all[i-1], r)
			isSolved(t, []impl.Code{pair})
			isSpanned(t, []impl.Code{pair, alone}, wordOf(all[i:i+1]), true)
			isSpanned(t, []impl.Code{alone}, code([]impl.Key{r.Key}, alone.Load), false)
		}
		for _, step := range []int{20, 32, 64, 99, 100, 128, 1024} {
			if i >= step {
				two := []impl.Reading{all[i-step], r}
				isSolved(t, []impl.Code{wordOf(two)})
				isRank(t, []impl.Code{wordOf(two[1:]), wordOf(two[:1]), wordOf(two)}, 2)
			}
		}
	}
}

// shortWordLists tells all lists of up to three words of three Keys with two Loads, of no Key, and of words that aren't right.
func shortWordLists() [][]impl.Code {
	some := []impl.Code{{Load: noLoad}, {}, code(nil, "\x01\x00\x00\x00"), word("2.1,1.2", noLoad), word("1.2", "abc")}
	for _, part := range partsOf([]impl.Key{key(1, 2), key(1, 10), key(2, 1)}) {
		if len(part) > 0 {
			some = append(some, code(part, noLoad), code(part, "\x01\x00\x00\x00"))
		}
	}
	lists := [][]impl.Code{nil}
	for range 3 {
		for _, list := range lists[:len(lists):len(lists)] {
			for _, x := range some {
				lists = append(lists, append(slices.Clone(list), x))
			}
		}
	}
	return lists
}

func TestSpansOfShortLists(t *testing.T) {
	for _, list := range shortWordLists() {
		isToldOfSums(t, list)
	}
}

// drawnKeys tells a rising list of at least one of some Keys, at most six.
func drawnKeys(draw *rand.Rand, some []impl.Key) []impl.Key {
	keys := slices.Clone(some)
	draw.Shuffle(len(keys), func(i, j int) { keys[i], keys[j] = keys[j], keys[i] })
	keys = keys[:1+draw.Intn(min(len(keys), 6))]
	slices.SortFunc(keys, func(a, b impl.Key) int { return a.Node*100 + a.Seq - b.Node*100 - b.Seq })
	return keys
}

// TestSpansOfDrawnLists holds what is told of longer lists, of words that agree or do not, against a count over all their sums.
func TestSpansOfDrawnLists(t *testing.T) {
	draw := rand.New(rand.NewSource(77))
	all, wrong := allKeys(), wrongWords()
	agreed := 0
	for range 1500 {
		var some []impl.Key
		for range 1 + draw.Intn(8) {
			some = append(some, all[draw.Intn(len(all))])
		}
		slices.SortFunc(some, func(a, b impl.Key) int { return a.Node*100 + a.Seq - b.Node*100 - b.Seq })
		some = slices.Compact(some)
		var truth []impl.Reading
		for _, k := range some {
			truth = append(truth, impl.Reading{Key: k, Load: string([]byte{byte(draw.Intn(256)), byte(draw.Intn(2)), byte(draw.Intn(256)), byte(draw.Intn(4))})})
		}
		var list []impl.Code
		lies := draw.Intn(2) * draw.Intn(3)
		for range draw.Intn(8) {
			x := code(drawnKeys(draw, some), noLoad)
			for _, r := range truth {
				if slices.Contains(x.Keys, r.Key) {
					x.Load = slowOr(x.Load, r.Load)
				}
			}
			switch draw.Intn(6) {
			case 0:
				list = append(list, wrong[draw.Intn(len(wrong))])
			case 1, 2:
				if lies > 0 {
					x.Load = slowOr(x.Load, string([]byte{0, byte(lies), 0, 0}))
				}
			}
			list = append(list, x)
		}
		isToldOfSums(t, list)
		if impl.Agreed(list) {
			agreed++
		}
	}
	if agreed < 500 || agreed > 1400 {
		t.Errorf("%d of 1500 lists agree", agreed)
	}
}

// onceEach tells the sums of words, but each that is alike once, by its text.
func onceEach(words []impl.Code) map[string]impl.Code {
	sums := map[string]impl.Code{slowCodeText(code(nil, noLoad)): code(nil, noLoad)}
	for _, x := range words {
		var more []impl.Code
		for _, s := range sums {
			more = append(more, slowSum(s, x))
		}
		for _, s := range more {
			sums[slowCodeText(s)] = s
		}
	}
	return sums
}

// TestSpansOfLongLists goes through lists around the 20 that are taken, of few Keys, so that their sums are still few.
func TestSpansOfLongLists(t *testing.T) {
	draw := rand.New(rand.NewSource(777))
	wrong := wrongWords()
	for round := range 300 {
		size := 15 + draw.Intn(12)
		var list []impl.Code
		for range size {
			x := code(drawnKeys(draw, someKeys[:5]), noLoad)
			for _, k := range x.Keys {
				x.Load = slowOr(x.Load, string([]byte{byte(k.Seq), 0, byte(k.Node), 0x55}))
			}
			switch draw.Intn(30) {
			case 0:
				list = append(list, wrong[draw.Intn(len(wrong))])
			case 1:
				if round%2 == 0 {
					x.Load = slowOr(x.Load, "\x00\x01\x00\x00")
				}
			}
			list = append(list, x)
		}
		// The last words are of a Key that no other one has.
		list = append(list, word("19.19", "abcd"), word("19.19,20.20", "0000"))
		var sums []impl.Code
		keys := map[string]bool{}
		for _, s := range onceEach(taken(list)) {
			sums = append(sums, s)
			keys[slowText(s.Keys)] = true
		}
		isRank(t, list, bits.Len(uint(len(keys)))-1)
		isAgreed(t, list, slowAgreed(sums))
		isSolved(t, list, slowSolve(sums)...)
		for _, x := range append(slices.Clone(sums), list...) {
			isSpanned(t, list, x, slowSpanned(sums, x))
		}
	}
}

// TestWhatIsToldIsTrue: words that all hold agree, and each reading that they tell is one of the truth, and of their span.
func TestWhatIsToldIsTrue(t *testing.T) {
	draw := rand.New(rand.NewSource(7))
	all := allReadings()
	told := 0
	for round := range 800 {
		truth := slices.Clone(all)
		draw.Shuffle(len(truth), func(i, j int) { truth[i], truth[j] = truth[j], truth[i] })
		truth = truth[:1+round%24]
		slices.SortFunc(truth, func(a, b impl.Reading) int { return a.Key.Node*100 + a.Key.Seq - b.Key.Node*100 - b.Key.Seq })
		var keys []impl.Key
		for _, r := range truth {
			keys = append(keys, r.Key)
		}
		var words []impl.Code
		for range draw.Intn(30) {
			var own []impl.Reading
			for _, k := range drawnKeys(draw, keys) {
				own = append(own, truth[slices.Index(keys, k)])
			}
			words = append(words, wordOf(own))
		}
		isAgreed(t, words, true)
		got := impl.Solve(words)
		if !slowReadingsOk(got) {
			t.Fatalf("Solve = %s, which isn't right: %s", shownList(got), shownWords(words))
		}
		sum := code(nil, noLoad)
		for _, x := range taken(words) {
			sum = slowSum(sum, x)
			isSpanned(t, words, x, true)
			isSpanned(t, words, sum, true)
		}
		for _, r := range got {
			told++
			if !slices.Contains(truth, r) {
				t.Fatalf("Solve tells %s, which isn't true: %s", shown(r), shownWords(words))
			}
			isSpanned(t, words, wordOf([]impl.Reading{r}), true)
		}
		// What is told, put to the words, changes nothing that they tell.
		if len(words)+len(got) <= 20 {
			more := slices.Clone(words)
			for _, r := range got {
				more = append(more, wordOf([]impl.Reading{r}))
			}
			isRank(t, more, impl.Rank(words))
			isSolved(t, more, got...)
		}
		// Each reading that isn't told is of no sum alone: with another Load the words would agree, too.
		for _, r := range truth {
			if !slices.Contains(got, r) {
				isSpanned(t, words, wordOf([]impl.Reading{r}), false)
				if len(words) < 20 {
					isAgreed(t, append(slices.Clone(words), code([]impl.Key{r.Key}, slowOr(r.Load, "\x00\x00\x00\x01"))), true)
				}
			}
		}
	}
	if told < 1000 {
		t.Errorf("only %d readings were told", told)
	}
}

// TestSpansInAnyOrder: of up to 20 right words it is all the same in what order they come.
func TestSpansInAnyOrder(t *testing.T) {
	draw := rand.New(rand.NewSource(70))
	for round := range 200 {
		var words []impl.Code
		for range draw.Intn(21) {
			x := code(drawnKeys(draw, allKeys()[500:508]), noLoad)
			for _, k := range x.Keys {
				x.Load = slowOr(x.Load, string([]byte{byte(k.Seq), byte(k.Seq * 7), byte(round), 0}))
			}
			if round%4 == 0 && draw.Intn(8) == 0 {
				x.Load = slowOr(x.Load, "\x80\x00\x00\x00")
			}
			words = append(words, x)
		}
		rank, agreed, told := impl.Rank(words), impl.Agreed(words), impl.Solve(words)
		asked := code(drawnKeys(draw, allKeys()[500:508]), noLoad)
		spanned := impl.Spanned(words, asked)
		for range 10 {
			draw.Shuffle(len(words), func(i, j int) { words[i], words[j] = words[j], words[i] })
			isRank(t, words, rank)
			isAgreed(t, words, agreed)
			isSolved(t, words, told...)
			isSpanned(t, words, asked, spanned)
		}
	}
}

// withWordRoom puts a list into a longer array, with words of note ahead and behind, and the Keys of each word into one of its own.
// It tells the list, all of the array, and what tells whether anything of it was written into.
func withWordRoom(list []impl.Code) (part, all []impl.Code, changed func() bool) {
	const ahead, behind = 2, 25
	all = make([]impl.Code, ahead+len(list)+behind)
	var arrays, were [][]impl.Key
	for i := range all {
		x := word("7.70", "note")
		if at := i - ahead; at >= 0 && at < len(list) {
			x = list[at]
		}
		keys, array := withRoom(x.Keys)
		arrays, were = append(arrays, array), append(were, slices.Clone(array))
		all[i] = code(keys, strings.Clone(x.Load))
	}
	was := make([]impl.Code, 0, len(all))
	for _, x := range all {
		was = append(was, copied(x))
	}
	return all[ahead : ahead+len(list)], all, func() bool {
		return !slices.EqualFunc(all, was, sameCode) || !slices.EqualFunc(arrays, were, slices.Equal[[]impl.Key])
	}
}

// TestSpannedWordsAreLeftAsTheyWere: nothing is written into a list, its words, the room behind them, or what is asked for.
func TestSpannedWordsAreLeftAsTheyWere(t *testing.T) {
	lists := [][]impl.Code{nil, wrongWords()[:30], rightWords()[:40], manyWords(19), manyWords(20), manyWords(21), append(manyWords(3), wrongWords()...), append(wrongWords()[3:9], manyWords(22)...)}
	turned := manyWords(30)
	slices.Reverse(turned)
	lists = append(lists, turned, slices.Insert(slices.Clone(turned), 10, word("2.1,1.2", "abcd"), code(nil, noLoad), word("1.5", "abc")))
	a, b, c := reading(1, 2, "abcd"), reading(1, 10, "wxyz"), reading(20, 99, noLoad)
	for _, part := range partsOf([]impl.Key{a.Key, b.Key, c.Key}) {
		lists = append(lists, []impl.Code{wordOf([]impl.Reading{b, c}), code(part, "abcd"), wordOf([]impl.Reading{a, b}), wordOf([]impl.Reading{a, b, c})})
	}
	for _, list := range lists {
		part, all, changed := withWordRoom(list)
		asked := append([]impl.Code{{}, {Load: noLoad}, word("1.2", "abcd"), word("2.1,1.2", "abcd"), code(allKeys(), "abcd")}, list...)
		questions, _, askedChanged := withWordRoom(asked)
		rank, agreed, first := impl.Rank(part), impl.Agreed(part), impl.Solve(part)
		told := slices.Clone(first)
		for _, x := range questions {
			if got := impl.Spanned(part, x); got != impl.Spanned(list, x) {
				t.Errorf("with room behind: Spanned = %v of %s: %s", got, shownCode(x), shownWords(list))
			}
		}
		// What is done to an answer, and to the room behind it, is seen neither by the list nor by the next answer.
		whole := first[:cap(first)]
		for i := range whole {
			whole[i] = reading(-3, -3, "changed")
		}
		isSolved(t, part, told...)
		isSolved(t, list, told...)
		isRank(t, list, rank)
		isAgreed(t, list, agreed)
		if changed() || askedChanged() {
			t.Errorf("%s became %s", shownWords(list), shownWords(all))
		}
	}
	// One that is asked for may be a part of the list's own memory.
	list := manyWords(5)
	for _, x := range list {
		isSpanned(t, list, x, true)
		isSpanned(t, list, code(x.Keys, noLoad), false)
	}
}

// TestSolvedLoadsAreNewMemory: no Load that is told lies in a word, or in another one that is told.
func TestSolvedLoadsAreNewMemory(t *testing.T) {
	load := strings.Clone("abcd")
	list := []impl.Code{word("1.2", load), word("1.10", load), word("1.10,2.1", load), word("10.1", load), word("10.1,20.99", strings.Clone(noLoad))}
	first, second := impl.Solve(list), impl.Solve(list)
	if len(first) != 5 {
		t.Fatalf("Solve = %s", shownList(first))
	}
	for i, r := range first {
		for _, x := range list {
			if sharesBytes(x.Load, r.Load) {
				t.Errorf("the Load of %s lies in %s", shown(r), shownCode(x))
			}
		}
		for j, other := range first {
			if sharesBytes(second[j].Load, r.Load) || i != j && sharesBytes(other.Load, r.Load) {
				t.Errorf("the Loads of %s and %s are one", shown(r), shown(other))
			}
		}
	}
}

// TestSpansAnswerAtAnyArguments: every function answers, whatever stands in its arguments, and the same when asked again.
func TestSpansAnswerAtAnyArguments(t *testing.T) {
	var some []impl.Code
	for _, node := range nearLimits {
		for _, seq := range nearLimits {
			some = append(some, code([]impl.Key{key(node, seq)}, "abcd"), code([]impl.Key{key(node, seq), key(seq, node)}, noLoad), code([]impl.Key{key(1, 1), key(node, seq)}, noLoad))
		}
	}
	some = append(some, wrongWords()...)
	some = append(some, code(allKeys(), "abcd"), code(slices.Repeat(allKeys(), 20), noLoad), code(someKeys[:1], strings.Repeat("x", 1000000)), code(nil, strings.Repeat("\x00", 1000000)))
	there := word("5.5", "abcd")
	for _, x := range some {
		for _, list := range [][]impl.Code{nil, {x}, {x, x}, {there, x}, {x, there, there}, {{}, x, {}}} {
			isToldOfSums(t, list)
			if impl.Rank(list) != impl.Rank(list) || impl.Agreed(list) != impl.Agreed(list) || impl.Spanned(list, x) != impl.Spanned(list, x) || !slices.Equal(impl.Solve(list), impl.Solve(list)) {
				t.Errorf("asked again, another answer: %s", shownWords(list))
			}
			isSpanned(t, []impl.Code{there}, x, slowSpanned(sumsOf([]impl.Code{there}), x))
		}
	}
	long := append(slices.Repeat(wrongWords(), 200), slices.Repeat([]impl.Code{there}, 100000)...)
	isRank(t, long, 1)
	isAgreed(t, long, true)
	isSpanned(t, long, there, true)
	isSpanned(t, long, code(allKeys(), "abcd"), false)
	isSolved(t, long, reading(5, 5, "abcd"))
}
