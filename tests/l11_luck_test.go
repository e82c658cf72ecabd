package tests

import (
	"math"
	"math/big"
	"math/rand"
	"slices"
	"testing"

	"loop.example/g00746/impl"
)

// lucks is how many lucks there are: they are the numbers of 31 bits.
const lucks = 1 << 31

// someLucks are lucks of all sizes, and numbers that are none: beyond the greatest one, and below 0.
var someLucks = append([]int{0, 1, 2, 5, 12345, 65535, 65536, 1000000, lucks/2 - 1, lucks / 2, lucks - 2, lucks - 1, lucks, lucks + 1, lucks + 5, 2*lucks - 1, 2 * lucks, 2*lucks + 5, -2, -7, -12345, -65536, -lucks + 1, -lucks, -lucks - 1, -2 * lucks}, extremeInts...)

// slowNext tells what NextLuck does, by numbers of any size. Their Mod is never below 0.
func slowNext(luck int) int {
	count := big.NewInt(lucks)
	n := big.NewInt(int64(luck))
	n.Mod(n, count)
	n.Mul(n, big.NewInt(1103515245))
	n.Add(n, big.NewInt(12345))
	return int(n.Mod(n, count).Int64())
}

// slowBelow divides by taking away.
func slowBelow(luck, n int) (next, drawn int) {
	next = slowNext(luck)
	if n < 1 {
		return next, 0
	}
	for left := next; left >= 65536; left -= 65536 {
		drawn++
	}
	for drawn >= n {
		drawn -= n
	}
	return next, drawn
}

// slowMixed takes the drawn ones out of those that are left, the last of which stands in the place that is free then, and puts each ahead of those taken so far.
func slowMixed(luck, n int) (behind int, list []int) {
	if n < 0 || n > 50 {
		return luck, nil
	}
	var left []int
	for i := 0; i < n; i++ {
		left = append(left, i)
	}
	for len(left) > 1 {
		last := len(left) - 1
		var at int
		luck, at = slowBelow(luck, len(left))
		list = append([]int{left[at]}, list...)
		left[at] = left[last]
		left = left[:last]
	}
	return luck, append(left, list...)
}

func isNext(t *testing.T, luck, want int) {
	t.Helper()
	if got := impl.NextLuck(luck); got != want {
		t.Errorf("NextLuck(%d) = %d, want %d", luck, got, want)
	}
}

func isBelow(t *testing.T, luck, n, wantNext, want int) {
	t.Helper()
	if next, drawn := impl.Below(luck, n); next != wantNext || drawn != want {
		t.Errorf("Below(%d, %d) = %d, %d, want %d, %d", luck, n, next, drawn, wantNext, want)
	}
}

func isMixed(t *testing.T, luck, n, wantBehind int, want []int) {
	t.Helper()
	if behind, list := impl.Mixed(luck, n); behind != wantBehind || !slices.Equal(list, want) {
		t.Errorf("Mixed(%d, %d) = %d, %v, want %d, %v", luck, n, behind, list, wantBehind, want)
	}
}

// isDrawnRightly holds all that is told of a luck and a number against the slow rules.
func isDrawnRightly(t *testing.T, luck, n int) {
	t.Helper()
	isNext(t, luck, slowNext(luck))
	next, drawn := slowBelow(luck, n)
	isBelow(t, luck, n, next, drawn)
	behind, list := slowMixed(luck, n)
	isMixed(t, luck, n, behind, list)
}

func isLuck(n int) bool { return n >= 0 && n <= 2147483647 }

func TestNextLuck(t *testing.T) {
	for _, c := range []struct{ luck, want int }{
		{0, 12345}, {1, 1103527590}, {2, 59559187}, {12345, 1406932606}, {65536, 1315778617}, {1000000, 707716473},
		// The last lucks.
		{2147483646, 2087949151}, {2147483647, 1043980748},
		// Beyond them the lowest 31 bits count: these are of 0, 1, 5 and the greatest luck.
		{2147483648, 12345}, {2147483649, 1103527590}, {4294967295, 1043980748}, {4294967296, 12345}, {4294967301, 1222621274}, {1000000000000000000, 1033121849},
		// Below 0, too.
		{-1, 1043980748}, {-2, 2087949151}, {-12345, 740575732}, {-2147483647, 1103527590}, {-2147483648, 12345}, {-2147483649, 1043980748}, {-4294967296, 12345}, {-1000000000000000000, 1114386489},
		// The least and the greatest int.
		{math.MinInt64, 12345}, {math.MinInt64 + 1, 1103527590}, {math.MaxInt64, 1043980748}, {math.MaxInt64 - 1, 2087949151},
	} {
		isNext(t, c.luck, c.want)
		if got := slowNext(c.luck); got != c.want {
			t.Errorf("the slow rule tells %d of %d, want %d", got, c.luck, c.want)
		}
	}
}

// TestALuckLeadsToALuck: of any number the one behind is a luck again, and so on.
func TestALuckLeadsToALuck(t *testing.T) {
	for _, first := range someLucks {
		luck := first
		for i := range 2000 {
			next := impl.NextLuck(luck)
			if !isLuck(next) || next != slowNext(luck) {
				t.Fatalf("step %d from %d: NextLuck(%d) = %d", i, first, luck, next)
			}
			luck = next
		}
	}
	for luck := -70000; luck <= 70000; luck++ {
		if next := impl.NextLuck(luck); !isLuck(next) || next != slowNext(luck) {
			t.Fatalf("NextLuck(%d) = %d", luck, next)
		}
	}
}

// TestLowestBitsAlone: whatever stands above the lowest 31 bits, the luck behind is the same.
func TestLowestBitsAlone(t *testing.T) {
	for _, luck := range []int{0, 1, 5, 12345, 1 << 30, lucks - 1} {
		want := slowNext(luck)
		for bit := 31; bit <= 63; bit++ {
			isNext(t, luck|1<<bit, want)
			isNext(t, luck|-1<<bit, want)
		}
		for bit := range 31 {
			if got := impl.NextLuck(luck ^ 1<<bit); got == want {
				t.Errorf("NextLuck of %d with bit %d turned is %d, too", luck, bit, got)
			}
		}
	}
}

// TestNoTwoLucksMeet: the lucks that share their highest bits lead to ones that differ in the lowest, each way of those once.
func TestNoTwoLucksMeet(t *testing.T) {
	for _, first := range []int{0, 1 << 20, lucks - 1<<16, -1 << 16} {
		var seen [1 << 16]bool
		for luck := first; luck < first+1<<16; luck++ {
			low := impl.NextLuck(luck) & (1<<16 - 1)
			if seen[low] {
				t.Fatalf("NextLuck(%d) ends as another one did", luck)
			}
			seen[low] = true
		}
	}
}

func TestBelow(t *testing.T) {
	for _, c := range []struct{ luck, n, next, drawn int }{
		{0, 1, 12345, 0}, {0, 2, 12345, 0}, {0, 50, 12345, 0},
		{1, 1, 1103527590, 0}, {1, 2, 1103527590, 0}, {1, 3, 1103527590, 2}, {1, 7, 1103527590, 3}, {1, 50, 1103527590, 38}, {1, 100, 1103527590, 38}, {1, 16838, 1103527590, 0}, {1, 16839, 1103527590, 16838}, {1, 32767, 1103527590, 16838},
		{5, 1, 1222621274, 0}, {5, 2, 1222621274, 1}, {5, 7, 1222621274, 0}, {5, 50, 1222621274, 5}, {5, 100, 1222621274, 55},
		{2147483647, 2, 1043980748, 1}, {2147483647, 3, 1043980748, 2}, {2147483647, 7, 1043980748, 4}, {2147483647, 50, 1043980748, 29},
		// Where n is great all of what the luck tells is drawn.
		{1, 2147483648, 1103527590, 16838}, {5, math.MaxInt64, 1222621274, 18655}, {0, math.MaxInt64, 12345, 0}, {1, 1 << 32, 1103527590, 16838},
		// Lucks that are out of range.
		{2147483648, 50, 12345, 0}, {2147483649, 50, 1103527590, 38}, {-1, 50, 1043980748, 29}, {-1, 2, 1043980748, 1}, {-7, 2, 865340222, 0}, {-7, 3, 865340222, 1}, {-7, 7, 865340222, 2}, {-7, 50, 865340222, 4}, {-7, 32768, 865340222, 13204},
		{math.MinInt64, 50, 12345, 0}, {math.MaxInt64, 50, 1043980748, 29}, {math.MinInt64 + 1, 7, 1103527590, 3}, {math.MaxInt64, math.MaxInt64, 1043980748, 15929},
	} {
		isBelow(t, c.luck, c.n, c.next, c.drawn)
		if next, drawn := slowBelow(c.luck, c.n); next != c.next || drawn != c.drawn {
			t.Errorf("the slow rule tells %d, %d of %d and %d, want %d, %d", next, drawn, c.luck, c.n, c.next, c.drawn)
		}
	}
}

// TestBelowNothing: where n is below 1 the number is 0, but the luck goes on all the same.
func TestBelowNothing(t *testing.T) {
	for _, luck := range someLucks {
		for _, n := range []int{0, -1, -2, -3, -7, -50, -16838, -65536, math.MinInt32, -1 << 32, math.MinInt64, math.MinInt64 + 1} {
			isBelow(t, luck, n, slowNext(luck), 0)
		}
	}
}

// TestBelowIsBelow: the luck behind is NextLuck, and the number is of 0 .. n less 1, as a plain count tells.
func TestBelowIsBelow(t *testing.T) {
	for _, luck := range someLucks {
		for n := 1; n <= 300; n++ {
			next, drawn := impl.Below(luck, n)
			if next != impl.NextLuck(luck) || drawn < 0 || drawn >= n {
				t.Errorf("Below(%d, %d) = %d, %d", luck, n, next, drawn)
			}
			wantNext, want := slowBelow(luck, n)
			isBelow(t, luck, n, wantNext, want)
		}
		for _, n := range []int{1000, 4096, 32766, 32767, 32768, 65536, lucks - 1, lucks, 1 << 32, math.MaxInt64 - 1, math.MaxInt64} {
			wantNext, want := slowBelow(luck, n)
			isBelow(t, luck, n, wantNext, want)
		}
	}
}

// TestAllNumbersAreDrawn: going on from a luck, each number below n comes, none much more often than another one.
func TestAllNumbersAreDrawn(t *testing.T) {
	for _, n := range []int{1, 2, 3, 6, 50} {
		for _, first := range []int{0, 1, -1, 2147483647} {
			times := make([]int, n)
			luck := first
			for range 1000 * n {
				var drawn int
				luck, drawn = impl.Below(luck, n)
				times[drawn]++
			}
			for drawn, count := range times {
				if count < 800 || count > 1200 {
					t.Errorf("from %d on %d comes %d times in 1000 for each of %d", first, drawn, count, n)
				}
			}
		}
	}
}

func TestMixed(t *testing.T) {
	for _, c := range []struct {
		luck, n, behind int
		want            []int
	}{
		{0, 2, 12345, []int{1, 0}}, {1, 2, 1103527590, []int{1, 0}}, {3, 2, 1163074432, []int{0, 1}}, {5, 2, 1222621274, []int{0, 1}},
		{0, 3, 1406932606, []int{1, 2, 0}}, {1, 3, 377401575, []int{1, 0, 2}}, {2147483647, 3, 288979989, []int{0, 1, 2}},
		{5, 4, 695785320, []int{1, 2, 0, 3}}, {0, 5, 1449466924, []int{3, 2, 1, 4, 0}}, {12345, 5, 229283573, []int{2, 4, 1, 0, 3}}, {7, 10, 523310796, []int{7, 6, 3, 2, 0, 8, 1, 9, 5, 4}},
		{7, 50, 357200836, []int{18, 3, 32, 48, 1, 19, 25, 30, 21, 41, 10, 15, 0, 31, 37, 4, 43, 16, 45, 38, 22, 8, 27, 33, 24, 17, 44, 36, 23, 12, 46, 49, 26, 34, 40, 29, 11, 28, 39, 42, 7, 5, 13, 2, 35, 9, 47, 20, 6, 14}},
		// Lucks that are out of range.
		{2147483648, 5, 1449466924, []int{3, 2, 1, 4, 0}}, {-1, 3, 288979989, []int{0, 1, 2}}, {-1, 5, 1751031067, []int{2, 0, 3, 1, 4}}, {math.MinInt64, 4, 654583775, []int{1, 2, 3, 0}}, {math.MaxInt64, 4, 646343466, []int{3, 0, 2, 1}},
		{-7, 50, 2001063246, []int{47, 39, 28, 43, 44, 20, 14, 41, 19, 24, 5, 45, 8, 48, 17, 46, 7, 31, 40, 26, 27, 15, 0, 9, 13, 36, 34, 22, 32, 21, 25, 10, 2, 1, 49, 37, 30, 16, 42, 29, 3, 6, 38, 12, 23, 11, 33, 35, 18, 4}},
	} {
		isMixed(t, c.luck, c.n, c.behind, c.want)
		if behind, list := slowMixed(c.luck, c.n); behind != c.behind || !slices.Equal(list, c.want) {
			t.Errorf("the slow rule tells %d, %v of %d and %d, want %d, %v", behind, list, c.luck, c.n, c.behind, c.want)
		}
	}
}

// TestMixedWithoutADraw: of no number, and of one, nothing is drawn, so that the luck behind is what came, a luck or not.
func TestMixedWithoutADraw(t *testing.T) {
	for _, luck := range someLucks {
		isMixed(t, luck, 0, luck, nil)
		isMixed(t, luck, 1, luck, []int{0})
	}
}

// TestMixedRefuses: of a count that isn't of 0 .. 50 nothing is told, and nothing is drawn.
func TestMixedRefuses(t *testing.T) {
	for _, luck := range someLucks {
		for _, n := range append([]int{-2, -3, -50, -51, 51, 52, 100, 256, 1000000, 1 << 32, 1<<32 + 1, 1<<32 + 2}, extremeInts...) {
			isMixed(t, luck, n, luck, nil)
		}
	}
	// The limits themselves are met.
	for n, want := range map[int]int{-1: 0, 0: 0, 1: 1, 49: 49, 50: 50, 51: 0} {
		if _, list := impl.Mixed(7, n); len(list) != want {
			t.Errorf("Mixed(7, %d) tells %d numbers, want %d", n, len(list), want)
		}
	}
}

// TestMixedNumbersAreThoseNumbers: of all counts each number stands there once, one luck has gone by for each place but the first, and the order is the plain count's.
func TestMixedNumbersAreThoseNumbers(t *testing.T) {
	for _, luck := range someLucks {
		wantBehind := luck
		for n := 0; n <= 50; n++ {
			if n > 1 {
				wantBehind = slowNext(wantBehind)
			}
			behind, list := impl.Mixed(luck, n)
			if behind != wantBehind || n > 1 && !isLuck(behind) {
				t.Errorf("Mixed(%d, %d) leaves %d, want %d", luck, n, behind, wantBehind)
			}
			times := make([]int, n)
			for _, m := range list {
				if m < 0 || m >= n {
					t.Fatalf("Mixed(%d, %d) has %d", luck, n, m)
				}
				times[m]++
			}
			if len(list) != n || slices.ContainsFunc(times, func(count int) bool { return count != 1 }) {
				t.Errorf("Mixed(%d, %d) has %v", luck, n, list)
			}
			slowBehind, want := slowMixed(luck, n)
			isMixed(t, luck, n, slowBehind, want)
		}
	}
}

// TestMixedByBelow: the luck behind each change of places is the one that Below tells, from the last place down to the second.
func TestMixedByBelow(t *testing.T) {
	for _, first := range someLucks {
		for n := 2; n <= 50; n++ {
			luck := first
			var places []int
			for i := n - 1; i >= 1; i-- {
				var at int
				luck, at = impl.Below(luck, i+1)
				places = append(places, at)
			}
			behind, list := impl.Mixed(first, n)
			if behind != luck {
				t.Errorf("Mixed(%d, %d) leaves %d, want %d", first, n, behind, luck)
			}
			// The same changes once more, from the last one back, put the numbers in order again.
			for i := 1; i < n; i++ {
				at := places[n-1-i]
				list[i], list[at] = list[at], list[i]
			}
			for i, m := range list {
				if i != m {
					t.Fatalf("Mixed(%d, %d) with its changes taken back is %v", first, n, list)
				}
			}
		}
	}
}

// TestAllOrdersCome: each order of four numbers is that of some luck, and going on from one each comes as well.
func TestAllOrdersCome(t *testing.T) {
	seen, running := map[[4]int]int{}, map[[4]int]int{}
	behind := 1
	for luck := range 2400 {
		_, list := impl.Mixed(luck, 4)
		seen[[4]int(list)]++
		behind, list = impl.Mixed(behind, 4)
		running[[4]int(list)]++
	}
	if len(seen) != 24 || len(running) != 24 {
		t.Errorf("of 24 orders %d and %d came", len(seen), len(running))
	}
}

// TestDrawnLucks holds all that is told of drawn numbers against the slow rules.
func TestDrawnLucks(t *testing.T) {
	draw := rand.New(rand.NewSource(11))
	for range 20000 {
		luck := int(draw.Uint64()) >> draw.Intn(64)
		if draw.Intn(2) == 0 {
			luck = draw.Intn(lucks)
		}
		isDrawnRightly(t, luck, draw.Intn(60)-5)
	}
}

// TestMixedAnswersAreNewMemory: no two answers lie in one array, and what is done to one is seen by no other one, neither one told ahead nor one told later.
func TestMixedAnswersAreNewMemory(t *testing.T) {
	for _, luck := range []int{0, 7, 2147483647, -1} {
		var told [][]int
		for n := -1; n <= 51; n++ {
			_, want := slowMixed(luck, n)
			_, other := impl.Mixed(luck, n)
			_, first := impl.Mixed(luck, n)
			first = first[:cap(first)]
			for i := range first {
				first[i] = -3
			}
			if !slices.Equal(other, want) {
				t.Errorf("the answer ahead of Mixed(%d, %d) became %v, want %v", luck, n, other, want)
			}
			_, next := impl.Mixed(luck, n)
			if !slices.Equal(next, want) {
				t.Errorf("Mixed(%d, %d) is %v now, want %v", luck, n, next, want)
			}
			for _, list := range [][]int{other, first, next} {
				for _, there := range told {
					if sharesRoom(there, list) {
						t.Fatalf("Mixed(%d, %d) and another answer lie in one array", luck, n)
					}
				}
				told = append(told, list)
			}
		}
	}
}

// TestNoLuckIsKept: what is told hangs on the luck that is handed in alone, whatever was asked ahead.
func TestNoLuckIsKept(t *testing.T) {
	for _, luck := range someLucks {
		for _, other := range []int{0, 1, -1, 2147483647} {
			impl.NextLuck(other)
			isNext(t, luck, slowNext(luck))
			impl.Below(other, 50)
			next, drawn := slowBelow(luck, 7)
			isBelow(t, luck, 7, next, drawn)
			isBelow(t, luck, 7, next, drawn)
			impl.Mixed(other, 50)
			behind, list := slowMixed(luck, 7)
			isMixed(t, luck, 7, behind, list)
			isMixed(t, luck, 7, behind, list)
		}
	}
}

// TestLucksAnswerAtAnyArguments: every function answers, whatever stands in its arguments, and the same when asked again.
func TestLucksAnswerAtAnyArguments(t *testing.T) {
	for _, luck := range someLucks {
		for _, n := range append(slices.Clone(someLucks), 3, 49, 50, 51, 52) {
			isDrawnRightly(t, luck, n)
			isDrawnRightly(t, luck, n)
		}
	}
}
