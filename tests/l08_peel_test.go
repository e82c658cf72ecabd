package tests

import (
	"fmt"
	"math/rand"
	"runtime"
	"slices"
	"strings"
	"testing"
	"time"

	"loop.example/g00746/impl"
)

// slowLeft tells what is left of a right word where some Loads are known, without the functions of impl.
func slowLeft(x impl.Code, known map[impl.Key]string) impl.Code {
	left := impl.Code{Load: x.Load}
	for _, k := range x.Keys {
		if load, there := known[k]; there {
			left.Load = slowOr(left.Load, load)
		} else {
			left.Keys = append(left.Keys, k)
		}
	}
	return left
}

// slowKnown tells what is known in the end: after each Key the words are gone through from the first one on again.
func slowKnown(list []impl.Code) map[impl.Key]string {
	known := map[impl.Key]string{}
	for at := 0; at < len(list) && at < 40; at++ {
		if !slowCodeOk(list[at]) {
			continue
		}
		if left := slowLeft(list[at], known); len(left.Keys) == 1 {
			known[left.Keys[0]] = left.Load
			at = -1
		}
	}
	return known
}

// slowOrder tells how two right readings stand by their Keys, as a sort asks for it.
func slowOrder(a, b impl.Reading) int { return a.Key.Node*100 + a.Key.Seq - b.Key.Node*100 - b.Key.Seq }

func slowPeel(list []impl.Code) []impl.Reading {
	var told []impl.Reading
	for k, load := range slowKnown(list) {
		told = append(told, impl.Reading{Key: k, Load: load})
	}
	slices.SortFunc(told, slowOrder)
	return told
}

func slowRest(list []impl.Code) []impl.Code {
	var rest []impl.Code
	known := slowKnown(list)
	for i, x := range list {
		if i < 40 && slowCodeOk(x) {
			if left := slowLeft(x, known); len(left.Keys) > 0 {
				rest = append(rest, left)
			}
		}
	}
	return rest
}

// isPeeled, isRest and isPeeledRightly hold what is told of a list against what should be.
func isPeeled(t *testing.T, list []impl.Code, want ...impl.Reading) {
	t.Helper()
	if got := impl.Peel(list); !slices.Equal(got, want) {
		t.Errorf("Peel = %s, want %s: %s", shownList(got), shownList(want), shownWords(list))
	}
}

func isRest(t *testing.T, list []impl.Code, want ...impl.Code) {
	t.Helper()
	if got := impl.Rest(list); !slices.EqualFunc(got, want, sameCode) {
		t.Errorf("Rest = %s, want %s: %s", shownWords(got), shownWords(want), shownWords(list))
	}
}

func isPeeledRightly(t *testing.T, list []impl.Code) {
	t.Helper()
	isPeeled(t, list, slowPeel(list)...)
	isRest(t, list, slowRest(list)...)
}

func TestPeel(t *testing.T) {
	a, b, c, d := reading(1, 2, "abcd"), reading(1, 10, "wxyz"), reading(2, 1, noLoad), reading(10, 1, "\x00\xff\x80\x01")
	of := func(list ...impl.Reading) impl.Code { return wordOf(list) }
	none := code(nil, noLoad)
	type list = []impl.Code
	isPeeled(t, nil)
	isPeeled(t, list{})
	isPeeled(t, list{none})
	isPeeled(t, list{none, none, {Keys: []impl.Key{}, Load: noLoad}})
	isPeeled(t, list{of(a)}, a)
	isPeeled(t, list{of(c)}, c)
	isPeeled(t, list{none, of(d), none, of(d), of(d)}, d)
	// Rising by Keys, in whatever order they come.
	isPeeled(t, list{of(d), of(b), of(c), of(a)}, a, b, c, d)
	isPeeled(t, list{of(a, b, c, d), of(c, d), of(d), of(b)}, a, b, c, d)
	isPeeled(t, list{of(b), of(d), of(c, d), of(a, b, c, d)}, a, b, c, d)
	// A chain is told from its end, at whatever place that stands.
	isPeeled(t, list{of(a, b), of(b, c), of(c, d), of(d)}, a, b, c, d)
	isPeeled(t, list{of(d), of(c, d), of(b, c), of(a, b)}, a, b, c, d)
	isPeeled(t, list{of(c, d), of(a, b), of(a), of(b, c)}, a, b, c, d)
	isPeeled(t, list{of(a, b), of(c, d), of(a)}, a, b)
	// Where no word becomes one of a Key alone nothing is told, though all together would tell it.
	isPeeled(t, list{of(a, b)})
	isPeeled(t, list{of(a, b, c, d)})
	isPeeled(t, list{of(a, b), of(b, c), of(a, c)})
	isPeeled(t, list{of(a, b), of(b, c), of(a, b, c)})
	isPeeled(t, list{of(a, b), of(a, b, d)})
	isPeeled(t, list{of(a, b), of(a, b), of(a, b)})
	isPeeled(t, list{of(b, c), of(a), of(b, c, d), of(b, d)}, a)
	isPeeled(t, list{of(a, b), of(b, c), of(a, c), of(c)}, a, b, c)
	// Words become ones of no Key by what is known, and tell nothing, not even where they don't agree.
	isPeeled(t, list{of(a), of(b), of(a, b), of(a, b), of(b)}, a, b)
	isPeeled(t, list{of(a, b), of(a), of(b), code([]impl.Key{a.Key, b.Key}, "0000"), of(a, b, d)}, a, b, d)
	isPeeled(t, list{of(a, b), code([]impl.Key{a.Key, b.Key}, "0000")})
}

// TestPeelOfTwoLoads: of words that tell other Loads of one Key the first of the list counts that is of degree 1 by then.
func TestPeelOfTwoLoads(t *testing.T) {
	a, b, c := reading(1, 2, "abcd"), reading(1, 10, "wxyz"), reading(2, 1, "\x00\x00\x00\x01")
	a2, b2 := reading(1, 2, "ABCD"), reading(1, 10, "WXYZ")
	of := func(list ...impl.Reading) impl.Code { return wordOf(list) }
	by := func(told, with, known impl.Reading) impl.Reading {
		return reading(told.Key.Node, told.Key.Seq, slowOr(told.Load, with.Load, known.Load))
	}
	type list = []impl.Code
	isPeeled(t, list{of(a), of(a2)}, a)
	isPeeled(t, list{of(a2), of(a)}, a2)
	isPeeled(t, list{of(a), of(a2), of(a2), of(a2)}, a)
	isPeeled(t, list{of(b), of(a2), of(a), of(b2)}, a2, b)
	isPeeled(t, list{of(a), of(a, b), of(b2)}, a, b)
	isPeeled(t, list{of(a), of(b2), of(a, b)}, a, b2)
	// What is known by a later word makes an earlier one the first of degree 1, ahead of those between and behind.
	isPeeled(t, list{of(a, b), of(b2), of(a)}, by(a, b, b2), b2)
	isPeeled(t, list{of(a, b), of(b2), of(a2)}, by(a, b, b2), b2)
	isPeeled(t, list{of(a, b), of(a2), of(b2)}, a2, by(b, a, a2))
	isPeeled(t, list{of(b, c), of(a, b), of(a2), of(c), of(b2)}, a2, by(b, a, a2), by(c, b, by(b, a, a2)))
	isPeeled(t, list{of(b, c), of(a2), of(a, b), of(b2)}, a2, by(b, a, a2), by(c, b, by(b, a, a2)))
	isPeeled(t, list{of(b, c), of(a2), of(b2), of(a, b)}, a2, b2, by(c, b, b2))
	isPeeled(t, list{of(c), of(b, c), of(b2), of(a, b), of(a2)}, a, b, c)
	// By Keys it would be otherwise than by the list.
	isPeeled(t, list{of(b2), of(a, b), of(a)}, by(a, b, b2), b2)
	for _, words := range []list{{of(a, b), of(b2), of(a)}, {of(b, c), of(a, b), of(a2), of(c), of(b2)}} {
		isRest(t, words)
		isPeeledRightly(t, words)
	}
}

// TestPeelOfWordsThatAreNotRight: those tell nothing, though a Key and a Load may be in them, and nothing of theirs is known.
func TestPeelOfWordsThatAreNotRight(t *testing.T) {
	a, b, c := reading(5, 2, "abcd"), reading(5, 10, "wxyz"), reading(6, 1, noLoad)
	ab, bc, alone := wordOf([]impl.Reading{a, b}), wordOf([]impl.Reading{b, c}), wordOf([]impl.Reading{b})
	type list = []impl.Code
	wrong := append(wrongWords(), word("5.2,5.2", "abcd"), word("5.2,5.10,5.2", noLoad), word("5.10,5.2", "abcd"), word("5.2", "abc"), word("5.2", "abcde"), word("5.2", ""), word("0.1", "abcd"), word("5.10,5.100", "abcd"))
	for _, x := range wrong {
		isPeeled(t, list{x})
		isRest(t, list{x})
		isPeeled(t, list{x, x, x})
		isPeeled(t, list{x, ab, bc, x})
		isRest(t, list{x, ab, bc, x}, ab, bc)
		isPeeled(t, list{x, ab, x, x, alone, bc, x}, a, b, c)
		isRest(t, list{x, ab, x, x, alone, bc, x})
		isPeeled(t, list{alone, x, ab}, a, b)
		isRest(t, list{alone, x, bc, x})
	}
}

// TestPeelOfMoreThanForty: only the first 40 of a list are looked at, whether or not they are right.
func TestPeelOfMoreThanForty(t *testing.T) {
	all, words, wrong := allReadings(), manyWords(100), wrongWords()
	none := code(nil, noLoad)
	for n := range 90 {
		var list []impl.Code
		for _, r := range all[:n] {
			list = append(list, wordOf([]impl.Reading{r}))
		}
		isPeeled(t, list, all[:min(n, 40)]...)
		slices.Reverse(list)
		isPeeled(t, list, all[max(n-40, 0):n]...)
		isRest(t, list)
		// What stands ahead counts, be it wrong, of no Key, or a word that tells nothing new.
		alone := wordOf(all[500:501])
		for _, x := range []impl.Code{wrong[n], none, words[0], wordOf(all[500:502]), wordOf(all[600:606])} {
			list := append(slices.Repeat([]impl.Code{x}, n), alone)
			isPeeledRightly(t, list)
			told := slices.Contains(impl.Peel(list), all[500])
			if told != (n < 40) {
				t.Errorf("behind %d: told is %v: %s", n, told, shownWords(list))
			}
		}
		// What is behind isn't told, and isn't left.
		pair := wordOf(all[500:502])
		list = append(slices.Repeat(wrong[n:n+1], n), pair, alone)
		switch {
		case n < 39:
			isPeeled(t, list, all[500:502]...)
			isRest(t, list)
		case n == 39:
			isPeeled(t, list)
			isRest(t, list, pair)
		default:
			isPeeled(t, list)
			isRest(t, list)
		}
	}
	isPeeled(t, append(slices.Repeat(wrong, 1+5000/len(wrong)), words...))
	isRest(t, append(slices.Repeat(wrong, 1+5000/len(wrong)), wordOf(all[:2])))
	isPeeled(t, append(slices.Clone(words[:1]), slices.Repeat(wrong, 100)...), reading(1, 1, "abcd"))
}

// TestPeelOfRingsAndChains: words of two Keys in a row, or in a ring, tell nothing; one of a Key alone, at any place, tells all of them.
func TestPeelOfRingsAndChains(t *testing.T) {
	all := allReadings()
	for n := 2; n < 40; n++ {
		readings := make([]impl.Reading, 0, n)
		for i := range n {
			readings = append(readings, all[(i*7+n)*6])
		}
		chain, closing := chainOf(readings)
		ring := append(slices.Clone(chain), closing)
		isPeeled(t, chain)
		isRest(t, chain, chain...)
		isPeeled(t, ring)
		isRest(t, ring, ring...)
		for at, r := range readings {
			list := slices.Insert(slices.Clone(chain), min(at, n-1), wordOf([]impl.Reading{r}))
			isPeeled(t, list, readings...)
			isRest(t, list)
			slices.Reverse(list)
			isPeeled(t, list, readings...)
			isRest(t, list)
		}
		isPeeled(t, append([]impl.Code{wordOf(readings[n/2 : n/2+1])}, ring...), readings...)
		// A chain that is broken is told on that side only.
		if n > 3 {
			broken := slices.Delete(slices.Clone(chain), n/2-1, n/2)
			list := append(slices.Clone(broken), wordOf(readings[:1]))
			isPeeled(t, list, readings[:n/2]...)
			isRest(t, list, chain[n/2:]...)
			list = append(slices.Clone(broken), wordOf(readings[n-1:]))
			isPeeled(t, list, readings[n/2:]...)
			isRest(t, list, chain[:n/2-1]...)
		}
	}
}

func TestRest(t *testing.T) {
	a, b, c, d := reading(1, 2, "abcd"), reading(1, 10, "wxyz"), reading(2, 1, noLoad), reading(10, 1, "\x00\xff\x80\x01")
	of := func(list ...impl.Reading) impl.Code { return wordOf(list) }
	none := code(nil, noLoad)
	type list = []impl.Code
	isRest(t, nil)
	isRest(t, list{})
	isRest(t, list{none, none})
	isRest(t, list{of(a)})
	isRest(t, list{of(a), of(a), code(of(a).Keys, "zzzz")})
	isRest(t, list{of(a, b)}, of(a, b))
	// In order, each as often as it comes, whatever its degree is.
	isRest(t, list{of(c, d), of(a, b), of(a, b, c, d), none, of(a, b)}, of(c, d), of(a, b), of(a, b, c, d), of(a, b))
	isRest(t, list{of(c, d), of(a, b), of(c), of(a, b)}, of(a, b), of(a, b))
	// What is known is taken out, and its Load, too, of words ahead and behind.
	isRest(t, list{of(a, b, c), of(a), of(a, c, d), of(b, d)}, of(b, c), of(c, d), of(b, d))
	isRest(t, list{of(b), of(a, b, c), of(a, c), of(a, b, c, d), of(d)}, of(a, c), of(a, c), of(a, c))
	// Those that become ones of no Key are left out, and those as well that don't agree with what is known.
	isRest(t, list{of(a), code(of(a).Keys, "zzzz"), of(b, c), of(a, b, c)}, of(b, c), of(b, c))
	isRest(t, list{of(a), of(b), code(of(a, b).Keys, "zzzz"), code(of(a, b, c, d).Keys, "zzzz")}, code(of(c, d).Keys, slowOr("zzzz", a.Load, b.Load)))
	isRest(t, list{of(a, b), code(of(a, b).Keys, "zzzz")}, of(a, b), code(of(a, b).Keys, "zzzz"))
	// A Load that is all 0 in the end is no reason, as long as there are Keys.
	isRest(t, list{code(of(b, c).Keys, noLoad), of(a, b)}, code(of(b, c).Keys, noLoad), of(a, b))
	isRest(t, list{code(of(a, b, c).Keys, a.Load), of(a)}, code(of(b, c).Keys, noLoad))
	six := wordOf(eightReadings[:6])
	isRest(t, list{six}, six)
	isRest(t, list{six, wordOf(eightReadings[3:4])}, wordOf(slices.Delete(slices.Clone(eightReadings[:6]), 3, 4)))
}

func TestPeelOfShortLists(t *testing.T) {
	for _, list := range shortWordLists() {
		isPeeledRightly(t, list)
	}
}

// drawnWord tells a word of some of these readings, of up to most Keys; where lie isn't 0 its Load may be another one.
func drawnWord(draw *rand.Rand, truth []impl.Reading, most, lie int) impl.Code {
	own := slices.Clone(truth)
	draw.Shuffle(len(own), func(i, j int) { own[i], own[j] = own[j], own[i] })
	own = own[:1+draw.Intn(min(most, len(own)))]
	slices.SortFunc(own, slowOrder)
	x := wordOf(own)
	if lie > 0 && draw.Intn(4) == 0 {
		x.Load = slowOr(x.Load, string([]byte{0, byte(lie), 0, 0}))
	}
	return x
}

// drawnTruth tells n right readings, rising.
func drawnTruth(draw *rand.Rand, n int) []impl.Reading {
	truth := allReadings()
	draw.Shuffle(len(truth), func(i, j int) { truth[i], truth[j] = truth[j], truth[i] })
	truth = truth[:n]
	for i := range truth {
		truth[i].Load = string([]byte{byte(draw.Intn(256)), byte(draw.Intn(2)), byte(draw.Intn(256)), byte(draw.Intn(4))})
	}
	slices.SortFunc(truth, slowOrder)
	return truth
}

// TestPeelOfDrawnLists holds what is told of longer lists, up to and behind the 40 that are looked at, against a plain count.
func TestPeelOfDrawnLists(t *testing.T) {
	draw := rand.New(rand.NewSource(8))
	wrong := wrongWords()
	told, left := 0, 0
	for round := range 4000 {
		truth := drawnTruth(draw, 1+draw.Intn(30))
		var list []impl.Code
		for range draw.Intn(50) {
			switch draw.Intn(12) {
			case 0:
				list = append(list, wrong[draw.Intn(len(wrong))])
			case 1:
				list = append(list, code(nil, noLoad))
			default:
				list = append(list, drawnWord(draw, truth, 2+round%5, round%3))
			}
		}
		isPeeledRightly(t, list)
		told += len(impl.Peel(list))
		left += len(impl.Rest(list))
	}
	if told < 8000 || left < 8000 {
		t.Errorf("%d readings were told and %d words were left", told, left)
	}
}

// isToldByAll demands that what one word after another tells, all words tell together, and that it is of their span.
func isToldByAll(t *testing.T, list []impl.Code) {
	t.Helper()
	together := impl.Solve(list)
	for _, r := range impl.Peel(list) {
		if !slices.Contains(together, r) {
			t.Errorf("Peel tells %s, Solve %s: %s", shown(r), shownList(together), shownWords(list))
		}
		isSpanned(t, list, wordOf([]impl.Reading{r}), true)
	}
}

// ordersOf tells all orders of a list.
func ordersOf(list []impl.Code) [][]impl.Code {
	orders := [][]impl.Code{nil}
	for _, x := range list {
		var more [][]impl.Code
		for _, order := range orders {
			for at := range len(order) + 1 {
				more = append(more, slices.Insert(slices.Clone(order), at, x))
			}
		}
		orders = more
	}
	return orders
}

// TestPeelInAllOrders: words that agree tell the same, whatever their order is.
func TestPeelInAllOrders(t *testing.T) {
	all := allReadings()
	of := func(places ...int) impl.Code {
		var own []impl.Reading
		for _, i := range places {
			own = append(own, all[i*90])
		}
		return wordOf(own)
	}
	type list = []impl.Code
	for _, words := range []list{
		nil, {of(1), of(1, 2), of(2, 3), of(3, 4), of(4, 5)}, {of(1, 2, 3, 4, 5), of(1, 2, 3, 4), of(1, 2, 3), of(1, 2), of(1)},
		{of(1, 2), of(2, 3), of(1, 3), of(3, 4), of(4)}, {of(1, 2), of(2, 3), of(1, 3), of(4, 5), of(4)}, {of(1), of(1), of(1, 2), of(1, 2), of(2)},
		{of(1, 2), of(2, 3), of(1, 2, 3), of(4), of(3, 4, 5)}, {of(1, 2), of(1, 3), of(1, 4), of(1, 5), of(5), word("1.2", "abc")}, {code(nil, noLoad), of(6), of(5, 6), word("2.1,1.1", noLoad), of(4, 5, 6, 7), of(4, 5)},
	} {
		isAgreed(t, words, true)
		told := impl.Peel(words)
		for _, order := range ordersOf(words) {
			isPeeled(t, order, told...)
			isToldByAll(t, order)
			isPeeledRightly(t, order)
		}
	}
}

// TestPeelIsToldByAll: of no more than 20 words that agree, in whatever order they come, Peel tells the same, and Solve tells all of it.
func TestPeelIsToldByAll(t *testing.T) {
	draw := rand.New(rand.NewSource(88))
	wrong := wrongWords()
	told, more := 0, 0
	for round := range 600 {
		truth := drawnTruth(draw, 1+draw.Intn(24))
		var list []impl.Code
		for range draw.Intn(21) {
			x := drawnWord(draw, truth, 1+round%6, round%4)
			// Words needn't hold to agree; those that don't agree with the ones ahead are left out.
			if impl.Agreed(append(slices.Clone(list), x)) {
				list = append(list, x)
			}
		}
		if round%3 == 0 {
			for range 40 - len(list) {
				list = slices.Insert(list, draw.Intn(len(list)+1), wrong[draw.Intn(len(wrong))])
			}
		}
		first, together := impl.Peel(list), impl.Solve(list)
		told += len(first)
		more += len(together) - len(first)
		for range 12 {
			isPeeled(t, list, first...)
			isSolved(t, list, together...)
			isToldByAll(t, list)
			draw.Shuffle(len(list), func(i, j int) { list[i], list[j] = list[j], list[i] })
		}
		// What is left tells, all together, just what wasn't told one after another.
		if rest := impl.Solve(impl.Rest(list)); len(rest)+len(first) != len(together) {
			t.Errorf("%s one after another, %s of the rest, %s all together: %s", shownList(first), shownList(rest), shownList(together), shownWords(list))
		}
	}
	if told < 1000 || more < 100 {
		t.Errorf("%d readings were told one after another, %d more all together", told, more)
	}
}

// TestPeelTellsTheTruth: of words that hold, 40 as well, what is told is true, and what is left holds.
func TestPeelTellsTheTruth(t *testing.T) {
	draw := rand.New(rand.NewSource(888))
	for round := range 400 {
		truth := drawnTruth(draw, 1+draw.Intn(40))
		var list []impl.Code
		for range draw.Intn(41) {
			list = append(list, drawnWord(draw, truth, 1+round%6, 0))
		}
		told := impl.Peel(list)
		if !slowReadingsOk(told) {
			t.Errorf("Peel = %s, which isn't right: %s", shownList(told), shownWords(list))
		}
		for _, r := range told {
			if !slices.Contains(truth, r) {
				t.Errorf("Peel tells %s, which isn't true: %s", shown(r), shownWords(list))
			}
		}
		for _, x := range impl.Rest(list) {
			if len(x.Keys) < 2 || !slowCodeOk(x) || !impl.Holds(x, truth) {
				t.Errorf("%s is left: %s", shownCode(x), shownWords(list))
			}
		}
	}
}

// TestRestIsReduced holds what is left against Reduced by what Peel tells.
func TestRestIsReduced(t *testing.T) {
	draw := rand.New(rand.NewSource(80))
	wrong := wrongWords()
	for round := range 600 {
		truth := drawnTruth(draw, 1+draw.Intn(20))
		var list, want []impl.Code
		for range draw.Intn(46) {
			list = append(list, drawnWord(draw, truth, 1+round%6, round%2))
			if draw.Intn(5) == 0 {
				list = append(list, wrong[draw.Intn(len(wrong))])
			}
		}
		told := impl.Peel(list)
		for _, x := range list[:min(len(list), 40)] {
			if left := impl.Reduced(x, told); impl.CodeOk(x) && len(left.Keys) >= 1 {
				want = append(want, left)
			}
		}
		isRest(t, list, want...)
		// Of what is left nothing is told one after another, and all of it is left.
		isPeeled(t, want)
		isRest(t, want, want...)
	}
}

type set = [2]impl.Key

// slowClosed goes through all sets again and again, as long as a Key comes in.
func slowClosed(sets []set, known []impl.Key) []impl.Key {
	in := map[impl.Key]bool{}
	last := -1
	for _, k := range known {
		if k.Node < 1 || k.Node > 20 || k.Seq < 1 || k.Seq > 99 || k.Node*100+k.Seq <= last {
			return nil
		}
		last = k.Node*100 + k.Seq
		in[k] = true
	}
	for _, s := range sets {
		for _, k := range s {
			if k.Node < 1 || k.Node > 20 || k.Seq < 1 || k.Seq > 99 {
				return nil
			}
		}
	}
	for many := -1; many < len(in); {
		many = len(in)
		for _, s := range sets {
			if in[s[0]] || in[s[1]] {
				in[s[0]], in[s[1]] = true, true
			}
		}
	}
	var list []impl.Key
	for k := range in {
		list = append(list, k)
	}
	slices.SortFunc(list, func(a, b impl.Key) int { return a.Node*100 + a.Seq - b.Node*100 - b.Seq })
	return list
}

func shownSets(sets []set) string {
	texts := make([]string, 0, 12)
	for _, s := range sets[:min(len(sets), 12)] {
		texts = append(texts, slowText(s[:]))
	}
	return fmt.Sprintf("{%s} (%d sets)", strings.Join(texts, "; "), len(sets))
}

// isClosed holds what Closed tells against what it should tell, by the texts of the Keys.
func isClosed(t *testing.T, sets []set, known []impl.Key, want string) {
	t.Helper()
	got := impl.Closed(sets, known)
	if slowText(got) != want || !impl.KeysOk(got) {
		t.Errorf("Closed(%s, %.80s) = %.80s, want %.80s", shownSets(sets), slowText(known), slowText(got), want)
	}
}

func TestClosed(t *testing.T) {
	a, b, c, d, e := key(1, 2), key(1, 10), key(2, 1), key(10, 1), key(20, 99)
	type keys = []impl.Key
	type sets = []set
	// No sets, and nothing known.
	isClosed(t, nil, nil, "")
	isClosed(t, sets{}, keys{}, "")
	isClosed(t, nil, keys{a}, "1.2")
	isClosed(t, sets{}, keys{a, b, e}, "1.2,1.10,20.99")
	isClosed(t, sets{{a, b}, {b, c}}, nil, "")
	// One of two brings the other, from either side.
	isClosed(t, sets{{a, b}}, keys{a}, "1.2,1.10")
	isClosed(t, sets{{a, b}}, keys{b}, "1.2,1.10")
	isClosed(t, sets{{b, a}}, keys{a}, "1.2,1.10")
	isClosed(t, sets{{b, a}}, keys{b}, "1.2,1.10")
	isClosed(t, sets{{a, b}}, keys{a, b}, "1.2,1.10")
	isClosed(t, sets{{a, b}, {b, a}, {a, b}}, keys{b}, "1.2,1.10")
	// Sets none of whose Keys is in.
	isClosed(t, sets{{a, b}, {d, e}}, keys{c}, "2.1")
	isClosed(t, sets{{a, b}, {d, e}}, keys{a}, "1.2,1.10")
	isClosed(t, sets{{d, e}, {a, b}, {c, c}}, keys{b}, "1.2,1.10")
	// A chain, in either order, from its ends and from between.
	for _, chain := range []sets{{{a, b}, {b, c}, {c, d}, {d, e}}, {{d, e}, {c, d}, {b, c}, {a, b}}, {{e, d}, {b, a}, {c, d}, {c, b}}} {
		for _, k := range (keys{a, b, c, d, e}) {
			isClosed(t, chain, keys{k}, "1.2,1.10,2.1,10.1,20.99")
		}
	}
	// A ring.
	isClosed(t, sets{{a, b}, {b, c}, {c, a}}, keys{c}, "1.2,1.10,2.1")
	isClosed(t, sets{{a, b}, {b, c}, {c, a}}, keys{d}, "10.1")
	isClosed(t, sets{{e, c}, {c, a}, {a, e}, {b, d}}, keys{a}, "1.2,2.1,20.99")
	// A set of one Key twice brings nothing, but may be there.
	isClosed(t, sets{{a, a}}, keys{b}, "1.10")
	isClosed(t, sets{{a, a}}, keys{a}, "1.2")
	isClosed(t, sets{{a, a}}, nil, "")
	isClosed(t, sets{{a, a}, {a, b}, {b, b}, {c, c}}, keys{a, d}, "1.2,1.10,10.1")
}

func TestClosedRefuses(t *testing.T) {
	a, b, c := key(1, 2), key(1, 10), key(2, 1)
	type keys = []impl.Key
	type sets = []set
	// Known isn't rising, or not right.
	for _, known := range append(notOkLists(), keys{b, a}, keys{a, a}, keys{a, c, b}, keys{c, a, b}, keys{a, b, b, c}) {
		isClosed(t, nil, known, "")
		isClosed(t, sets{{a, b}}, known, "")
		isClosed(t, sets{{a, b}, {b, c}, {c, a}}, known, "")
	}
	// A Key of a set isn't right, in whatever set it is, whether or not it would be looked at.
	for _, k := range wrongKeys {
		isClosed(t, nil, keys{k}, "")
		isClosed(t, sets{{a, b}}, keys{a, k}, "")
		for _, wrong := range []set{{a, k}, {k, a}, {c, k}, {k, c}, {k, k}} {
			isClosed(t, sets{wrong}, keys{a}, "")
			isClosed(t, sets{wrong}, nil, "")
			isClosed(t, sets{wrong, {a, b}}, keys{a}, "")
			isClosed(t, sets{{a, b}, wrong}, keys{a}, "")
			isClosed(t, sets{{a, b}, {a, b}, wrong, {a, c}}, keys{a}, "")
			isClosed(t, append(slices.Repeat(sets{{a, b}}, 2000), wrong), keys{a}, "")
			isClosed(t, append(sets{wrong}, slices.Repeat(sets{{a, b}}, 50)...), keys{a, b, c}, "")
		}
	}
}

// TestClosedOfFewKeys goes through all lists of up to three sets of four Keys and one that isn't right, and all that may be known of them.
func TestClosedOfFewKeys(t *testing.T) {
	some := []impl.Key{key(1, 2), key(1, 10), key(2, 1), key(10, 1)}
	var pairs []set
	for _, a := range some {
		for _, b := range some {
			pairs = append(pairs, set{a, b})
		}
	}
	pairs = append(pairs, set{some[0], key(1, 0)})
	lists := [][]set{nil}
	for range 3 {
		for _, list := range lists[:len(lists):len(lists)] {
			for _, s := range pairs {
				lists = append(lists, append(slices.Clone(list), s))
			}
		}
	}
	known := append(partsOf(some), []impl.Key{some[1], some[0]}, []impl.Key{some[2], some[2]}, []impl.Key{{}})
	for _, list := range lists {
		for _, part := range known {
			isClosed(t, list, part, slowText(slowClosed(list, part)))
		}
	}
}

// TestClosedOfAllKeys goes through chains and rings of all right Keys; there may be any number of sets.
func TestClosedOfAllKeys(t *testing.T) {
	all := allKeys()
	var chain []set
	for i := range len(all) - 1 {
		chain = append(chain, set{all[i], all[i+1]})
	}
	backward := slices.Clone(chain)
	slices.Reverse(backward)
	mixed := slices.Clone(chain)
	rand.New(rand.NewSource(808)).Shuffle(len(mixed), func(i, j int) { mixed[i], mixed[j] = mixed[j], mixed[i] })
	whole := slowText(all)
	for _, sets := range [][]set{chain, backward, mixed, slices.Repeat(mixed, 3), append(slices.Clone(chain), set{all[1979], all[0]})} {
		for _, at := range []int{0, 1, 39, 40, 98, 99, 1000, 1978, 1979} {
			isClosed(t, sets, all[at:at+1], whole)
		}
		isClosed(t, sets, all, whole)
		isClosed(t, sets, nil, "")
		isClosed(t, append(slices.Clone(sets), set{all[3], {}}), all, "")
	}
	for _, at := range []int{0, 40, 99, 1000, 1978} {
		broken := slices.Delete(slices.Clone(backward), len(backward)-1-at, len(backward)-at)
		isClosed(t, broken, all[:1], slowText(all[:at+1]))
		isClosed(t, broken, all[1979:], slowText(all[at+1:]))
		isClosed(t, broken, []impl.Key{all[0], all[1979]}, whole)
	}
	// Each Key stands for itself alone.
	for i, k := range all {
		other := all[(i*7+5)%len(all)]
		isClosed(t, nil, all[i:i+1], slowText(all[i:i+1]))
		isClosed(t, []set{{k, other}}, all[i:i+1], slowText(slowClosed([]set{{k, other}}, all[i:i+1])))
		isClosed(t, []set{{other, k}, {all[(i+99)%len(all)], all[(i+100)%len(all)]}}, all[i:i+1], slowText(slowClosed([]set{{k, other}}, all[i:i+1])))
	}
}

// TestClosedOfDrawnSets holds Closed against a plain count, and against the Keys that Peel tells of words of these Keys.
func TestClosedOfDrawnSets(t *testing.T) {
	draw := rand.New(rand.NewSource(880))
	all := allKeys()
	for round := range 3000 {
		some := make([]impl.Key, 2+draw.Intn(30))
		for i := range some {
			some[i] = all[draw.Intn(len(all))]
		}
		var sets []set
		var words []impl.Code
		for range draw.Intn(30 + round%40) {
			s := set{some[draw.Intn(len(some))], some[draw.Intn(len(some))]}
			sets = append(sets, s)
			if s[0] != s[1] {
				pair := s[:]
				if pair[0].Node*100+pair[0].Seq > pair[1].Node*100+pair[1].Seq {
					pair = []impl.Key{s[1], s[0]}
				}
				words = append(words, code(pair, "abcd"))
			}
		}
		var known []impl.Key
		for _, k := range all {
			if slices.Contains(some, k) && draw.Intn(8) == 0 {
				known = append(known, k)
				words = append(words, code([]impl.Key{k}, "abcd"))
			}
		}
		want := slowText(slowClosed(sets, known))
		isClosed(t, sets, known, want)
		if len(words) > 40 {
			continue
		}
		var told []impl.Key
		for _, r := range impl.Peel(words) {
			told = append(told, r.Key)
		}
		if slowText(told) != want {
			t.Errorf("Peel tells %s, Closed %s: %s", slowText(told), want, shownWords(words))
		}
	}
}

// TestPeeledWordsAreLeftAsTheyWere: nothing is written into a list, its words, or the room behind them, and what is done to an answer is seen by none.
func TestPeeledWordsAreLeftAsTheyWere(t *testing.T) {
	a, b, c := reading(1, 2, "abcd"), reading(1, 10, "wxyz"), reading(20, 99, noLoad)
	lists := [][]impl.Code{nil, wrongWords()[:30], rightWords()[:39], rightWords()[:40], rightWords()[:60], manyWords(39), manyWords(40), manyWords(41), append(manyWords(3), wrongWords()...), append(wrongWords()[3:9], manyWords(45)...)}
	for _, part := range partsOf([]impl.Key{a.Key, b.Key, c.Key}) {
		lists = append(lists, []impl.Code{wordOf([]impl.Reading{b, c}), code(part, "abcd"), wordOf([]impl.Reading{a, b}), code(part, noLoad), wordOf([]impl.Reading{a, b, c}), wordOf(eightReadings[:6])})
	}
	draw := rand.New(rand.NewSource(8008))
	for range 60 {
		truth := drawnTruth(draw, 12)
		var list []impl.Code
		for range draw.Intn(20) {
			list = append(list, drawnWord(draw, truth, 4, 1))
		}
		lists = append(lists, list)
	}
	for _, list := range lists {
		part, all, changed := withWordRoom(list)
		first, rest := impl.Peel(part), impl.Rest(part)
		told := slices.Clone(first)
		var left []impl.Code
		for _, x := range rest {
			left = append(left, copied(x))
		}
		// Each word that is left has Keys of its own.
		for i, x := range rest {
			spoil(x)
			for j := i + 1; j < len(rest); j++ {
				if !sameCode(rest[j], left[j]) {
					t.Errorf("words %d and %d that are left share Keys: %s", i, j, shownWords(list))
				}
			}
		}
		whole := first[:cap(first)]
		for i := range whole {
			whole[i] = reading(-3, -3, "changed")
		}
		words := rest[:cap(rest)]
		for i := range words {
			words[i] = word("3.3", "changed")
		}
		isPeeled(t, part, told...)
		isRest(t, part, left...)
		isPeeled(t, list, told...)
		isRest(t, list, left...)
		if sharesRoom(first, impl.Peel(part)) || sharesRoom(rest, impl.Rest(part)) {
			t.Errorf("the same memory is told twice: %s", shownWords(list))
		}
		if changed() {
			t.Errorf("%s became %s", shownWords(list), shownWords(all))
		}
	}
}

// TestPeeledLoadsAreNewMemory: no Load of an answer lies in a word, or in another one that is told.
func TestPeeledLoadsAreNewMemory(t *testing.T) {
	load := strings.Clone("abcd")
	list := []impl.Code{word("1.2", load), word("1.10", load), word("1.10,2.1", load), word("10.1,20.99", load), word("10.1,20.99", load), word("1.2,10.1,20.98", load), code(nil, strings.Clone(noLoad))}
	var loads []string
	// Each word is the last one once, and what is known last may be a Load as it stands in the word.
	for n := range len(list) + 1 {
		told, rest := impl.Peel(list[:n]), impl.Rest(list[:n])
		if len(told) != min(n, 3) || len(rest) != max(min(n, 6)-3, 0) {
			t.Fatalf("Peel = %s, Rest = %s: %s", shownList(told), shownWords(rest), shownWords(list[:n]))
		}
		for _, r := range told {
			loads = append(loads, r.Load)
		}
		for _, x := range rest {
			loads = append(loads, x.Load)
		}
	}
	for i, got := range loads {
		for _, x := range list {
			if sharesBytes(x.Load, got) {
				t.Errorf("Load %d, %q, lies in %s", i, got, shownCode(x))
			}
		}
		for j, other := range loads {
			if i != j && sharesBytes(other, got) {
				t.Errorf("Loads %d and %d are one", i, j)
			}
		}
	}
}

// TestClosedListsAreLeftAsTheyWere: nothing is written into sets, known, or the room behind them, and what is done to an answer is seen by none.
func TestClosedListsAreLeftAsTheyWere(t *testing.T) {
	a, b, c, d := key(1, 2), key(1, 10), key(2, 1), key(10, 1)
	known := append(partsOf(someKeys), notOkLists()[:20]...)
	for _, sets := range [][]set{nil, {{a, b}}, {{b, a}, {a, a}, {c, d}}, {{d, c}, {c, b}, {b, a}}, {{c, d}, {a, {}}, {b, a}}, {{key(20, 99), key(1, 1)}, {key(10, 1), key(1, 1)}, {key(7, 7), key(10, 1)}, {key(8, 8), key(9, 9)}}} {
		room := append(slices.Repeat([]set{{key(7, 70), key(7, 71)}}, 3), sets...)
		room = append(room, slices.Repeat([]set{{key(7, 72), key(7, 73)}}, 9)...)
		wasRoom := slices.Clone(room)
		some := room[3 : 3+len(sets)]
		for _, list := range known {
			part, all := withRoom(list)
			was := slices.Clone(all)
			first := impl.Closed(some, part)
			told := slowText(first)
			whole := first[:cap(first)]
			for i := range whole {
				whole[i] = key(-3, -3)
			}
			isClosed(t, some, part, told)
			isClosed(t, sets, list, told)
			if sharesRoom(first, impl.Closed(some, part)) {
				t.Errorf("Closed tells the same memory twice: %s", told)
			}
			if !slices.Equal(all, was) || !slices.Equal(room, wasRoom) {
				t.Fatalf("Closed wrote into %s or %s", slowText(list), shownSets(sets))
			}
		}
	}
}

// TestPeelLeavesNothingRunning: what goes on beside a call has ended with it.
func TestPeelLeavesNothingRunning(t *testing.T) {
	lists := [][]impl.Code{nil, manyWords(60), wrongWords(), rightWords()}
	before := runtime.NumGoroutine()
	for range 200 {
		for _, list := range lists {
			impl.Peel(list)
			impl.Rest(list)
		}
	}
	// One that has closed its channel may need a moment until it is gone.
	for range 200 {
		if runtime.NumGoroutine() <= before {
			return
		}
		time.Sleep(10 * time.Millisecond)
	}
	t.Errorf("%d goroutines before, %d behind", before, runtime.NumGoroutine())
}

// TestPeelAnswersAtAnyArguments: every function answers, whatever stands in its arguments, and the same when asked again.
func TestPeelAnswersAtAnyArguments(t *testing.T) {
	var some []impl.Code
	var keys []impl.Key
	for _, node := range nearLimits {
		for _, seq := range nearLimits {
			keys = append(keys, key(node, seq))
			some = append(some, code([]impl.Key{key(node, seq)}, "abcd"), code([]impl.Key{key(node, seq), key(seq, node)}, noLoad), code([]impl.Key{key(1, 1), key(node, seq)}, noLoad))
		}
	}
	some = append(some, wrongWords()...)
	some = append(some, code(allKeys(), "abcd"), code(slices.Repeat(allKeys(), 20), noLoad), code(someKeys[:1], strings.Repeat("x", 1000000)), code(nil, strings.Repeat("\x00", 1000000)))
	there := word("5.5", "abcd")
	for _, x := range some {
		for _, list := range [][]impl.Code{{x}, {x, x}, {there, x}, {x, there, there}, {{}, x, {}, word("1.1", "wxyz")}} {
			isPeeledRightly(t, list)
			if !slices.Equal(impl.Peel(list), impl.Peel(list)) || !slices.EqualFunc(impl.Rest(list), impl.Rest(list), sameCode) {
				t.Errorf("asked again, another answer: %s", shownWords(list))
			}
		}
	}
	for _, k := range keys {
		for _, sets := range [][]set{nil, {{k, key(1, 1)}}, {{key(1, 1), k}}, {{k, k}}, {{key(2, 2), key(1, 1)}, {k, key(2, 2)}}} {
			for _, known := range [][]impl.Key{nil, {k}, {key(1, 1)}, {key(1, 1), k}, {k, key(20, 99)}} {
				isClosed(t, sets, known, slowText(slowClosed(sets, known)))
			}
		}
	}
	long := append(slices.Repeat([]impl.Code{there}, 40), slices.Repeat(wrongWords(), 200)...)
	isPeeled(t, long, reading(5, 5, "abcd"))
	isRest(t, long)
	isClosed(t, slices.Repeat([]set{{key(9, 9), key(8, 8)}, {key(8, 8), key(7, 7)}}, 200000), []impl.Key{key(9, 9)}, "7.7,8.8,9.9")
	isClosed(t, nil, slices.Repeat(allKeys(), 20), "")
}
