package tests

import (
	"math"
	"math/rand"
	"slices"
	"strconv"
	"strings"
	"testing"

	"loop.example/g00746/impl"
)

func link(a, b int) impl.Link { return impl.Link{A: a, B: b} }

// links are those of a text such as 0-3 1-2, in its order, right or not.
func links(text string) []impl.Link {
	var list []impl.Link
	for _, part := range strings.Fields(text) {
		a, b, _ := strings.Cut(part, "-")
		from, _ := strconv.Atoi(a)
		to, err := strconv.Atoi(b)
		if err != nil {
			panic(err)
		}
		list = append(list, link(from, to))
	}
	return list
}

// ids are the numbers of a text such as 0 3 20.
func ids(text string) []int {
	var list []int
	for _, part := range strings.Fields(text) {
		n, err := strconv.Atoi(part)
		if err != nil {
			panic(err)
		}
		list = append(list, n)
	}
	return list
}

// allLinks lists all right links, rising.
func allLinks() []impl.Link {
	var all []impl.Link
	for a := range 20 {
		for b := a + 1; b <= 20; b++ {
			all = append(all, link(a, b))
		}
	}
	return all
}

// linksAmong lists all links of two of some numbers, which are rising.
func linksAmong(some ...int) []impl.Link {
	var all []impl.Link
	for i, a := range some {
		for _, b := range some[i+1:] {
			all = append(all, link(a, b))
		}
	}
	return all
}

// drawnLinks are so many right links, rising, drawn from all.
func drawnLinks(draw *rand.Rand, n int) []impl.Link {
	all := allLinks()
	var list []impl.Link
	for _, at := range draw.Perm(len(all))[:n] {
		list = append(list, all[at])
	}
	return inTheirOrder(list)
}

// inTheirOrder tells the right ones of links rising, each once.
func inTheirOrder(list []impl.Link) []impl.Link {
	var there reachable
	for _, l := range list {
		if l.A >= 0 && l.A < 21 && l.B >= 0 && l.B < 21 {
			there[l.A][l.B] = true
		}
	}
	rising := make([]impl.Link, 0, len(list))
	for a := range 21 {
		for b := a + 1; b < 21; b++ {
			if there[a][b] {
				rising = append(rising, link(a, b))
			}
		}
	}
	return rising
}

// slowLinksOk tells whether links are right: what is left of all right ones, of which they may have 30, is just these.
func slowLinksOk(list []impl.Link) bool {
	return len(list) <= 30 && slices.Equal(list, inTheirOrder(list))
}

// slowLinkAt tells the first place of a Link of these two, in either order.
func slowLinkAt(list []impl.Link, a, b int) int {
	for i, l := range list {
		if l.A == a && l.B == b || l.A == b && l.B == a {
			return i
		}
	}
	return -1
}

// slowUp tells what LinkUp does, without the functions of impl.
func slowUp(list []impl.Link, a, b int) []impl.Link {
	if a > b {
		a, b = b, a
	}
	if !slowLinksOk(list) || a < 0 || a == b || b > 20 || slices.Contains(list, link(a, b)) || len(list) == 30 {
		return list
	}
	return inTheirOrder(append(slices.Clone(list), link(a, b)))
}

// slowDown tells what LinkDown does, without the functions of impl.
func slowDown(list []impl.Link, a, b int) []impl.Link {
	if !slowLinksOk(list) {
		return list
	}
	var left []impl.Link
	for _, l := range list {
		if l != link(a, b) && l != link(b, a) {
			left = append(left, l)
		}
	}
	return left
}

// reachable is a table of who can come to whom over right links.
type reachable [21][21]bool

// slowNears tells who is linked with whom.
func slowNears(list []impl.Link) (table reachable) {
	for _, l := range list {
		table[l.A][l.B], table[l.B][l.A] = true, true
	}
	return table
}

// slowReaches tells who can come to whom: each way by way of one more.
func slowReaches(list []impl.Link) reachable {
	table := slowNears(list)
	for by := range table {
		for from := range table {
			for to := range table {
				if table[from][by] && table[by][to] {
					table[from][to] = true
				}
			}
		}
	}
	return table
}

// row lists those that a table has for one, but not itself.
func (table reachable) row(id int) []int {
	var list []int
	for other := range table {
		if id >= 0 && id <= 20 && other != id && table[id][other] {
			list = append(list, other)
		}
	}
	return list
}

func slowNear(list []impl.Link, id int) []int {
	if !slowLinksOk(list) {
		return nil
	}
	return slowNears(list).row(id)
}

func slowReach(list []impl.Link, id int) []int {
	if !slowLinksOk(list) {
		return nil
	}
	return slowReaches(list).row(id)
}

// shownLinks shows the first links of a list, and how many there are.
func shownLinks(list []impl.Link) string {
	text := strconv.Itoa(len(list)) + " links"
	for _, l := range list[:min(len(list), 40)] {
		text += " " + strconv.Itoa(l.A) + "-" + strconv.Itoa(l.B)
	}
	return text
}

func isLinksOk(t *testing.T, list []impl.Link, want bool) {
	t.Helper()
	if got := impl.LinksOk(list); got != want || slowLinksOk(list) != want {
		t.Errorf("LinksOk = %v, want %v: %s", got, want, shownLinks(list))
	}
}

// isLinkAt holds what LinkAt tells of two in both orders against what it should tell.
func isLinkAt(t *testing.T, list []impl.Link, a, b, want int) {
	t.Helper()
	for _, two := range [][2]int{{a, b}, {b, a}} {
		if got := impl.LinkAt(list, two[0], two[1]); got != want || slowLinkAt(list, a, b) != want {
			t.Errorf("LinkAt(%s, %d, %d) = %d, want %d", shownLinks(list), two[0], two[1], got, want)
		}
	}
}

// isUp holds what LinkUp tells of two in both orders against what it should tell.
func isUp(t *testing.T, list []impl.Link, a, b int, want []impl.Link) {
	t.Helper()
	for _, two := range [][2]int{{a, b}, {b, a}} {
		if got := impl.LinkUp(list, two[0], two[1]); !slices.Equal(got, want) || !slices.Equal(slowUp(list, two[0], two[1]), want) {
			t.Errorf("LinkUp(%s, %d, %d) = %s, want %s", shownLinks(list), two[0], two[1], shownLinks(got), shownLinks(want))
		}
	}
}

// isDown holds what LinkDown tells of two in both orders against what it should tell.
func isDown(t *testing.T, list []impl.Link, a, b int, want []impl.Link) {
	t.Helper()
	for _, two := range [][2]int{{a, b}, {b, a}} {
		if got := impl.LinkDown(list, two[0], two[1]); !slices.Equal(got, want) || !slices.Equal(slowDown(list, two[0], two[1]), want) {
			t.Errorf("LinkDown(%s, %d, %d) = %s, want %s", shownLinks(list), two[0], two[1], shownLinks(got), shownLinks(want))
		}
	}
}

func isNear(t *testing.T, list []impl.Link, id int, want ...int) {
	t.Helper()
	if got := impl.Near(list, id); !slices.Equal(got, want) || !slices.Equal(slowNear(list, id), want) {
		t.Errorf("Near(%s, %d) = %v, want %v", shownLinks(list), id, got, want)
	}
}

func isReached(t *testing.T, list []impl.Link, id int, want ...int) {
	t.Helper()
	if got := impl.Reach(list, id); !slices.Equal(got, want) || !slices.Equal(slowReach(list, id), want) {
		t.Errorf("Reach(%s, %d) = %v, want %v", shownLinks(list), id, got, want)
	}
}

// isLinkedRightly holds all that is told of links, and of one or two, against the slow rules.
func isLinkedRightly(t *testing.T, list []impl.Link, a, b int) {
	t.Helper()
	isLinksOk(t, list, slowLinksOk(list))
	isLinkAt(t, list, a, b, slowLinkAt(list, a, b))
	isUp(t, list, a, b, slowUp(list, a, b))
	isDown(t, list, a, b, slowDown(list, a, b))
	for _, id := range []int{a, b} {
		isNear(t, list, id, slowNear(list, id)...)
		isReached(t, list, id, slowReach(list, id)...)
	}
}

// numbersAround are all that a link may join, some on both sides of these, and some far off.
var numbersAround = append([]int{-21, -20, -2, 3, 4, 5, 6, 7, 8, 9, 10, 11, 12, 13, 14, 15, 16, 17, 18, 22, 30, 256}, nearLimits...)

// wrongLinks are links that aren't right, each by one thing alone.
func wrongLinks() [][]impl.Link {
	wrong := [][]impl.Link{
		allLinks()[:31], allLinks()[179:], allLinks(), make([]impl.Link, 30), make([]impl.Link, 31),
		links("1-2 1-2"), links("0-1 0-1 0-2"), links("19-20 19-20"), links("0-1 1-2 1-2"),
		links("1-3 1-2"), links("0-20 0-19"), links("0-1 1-3 1-2 4-5"), links("1-2 1-3 1-2"),
		links("1-2 0-3"), links("2-3 1-20"), links("0-1 5-6 4-20"), links("0-5 1-3 0-6"), links("2-3 1-2"), links("19-20 0-1"),
	}
	for _, l := range []impl.Link{link(0, 0), link(1, 1), link(20, 20), link(1, 0), link(2, 1), link(20, 19), link(-1, 1), link(-1, 0), link(-1, -1), link(-2, -1), link(1, 21), link(20, 21), link(0, 21), link(21, 21), link(21, 22), link(-1, 21), link(1, -1), link(21, 1), link(math.MinInt64, 1), link(1, math.MaxInt64), link(math.MinInt64, math.MaxInt64), link(1, 1<<32+2), link(1, 258), link(1, math.MinInt64)} {
		wrong = append(wrong, []impl.Link{l}, append(links("0-1"), l), append([]impl.Link{l}, links("18-19 19-20")...))
	}
	return wrong
}

func TestMaxLinks(t *testing.T) {
	if impl.MaxLinks != 30 {
		t.Errorf("MaxLinks is %d", impl.MaxLinks)
	}
}

func TestLinksOk(t *testing.T) {
	isLinksOk(t, nil, true)
	isLinksOk(t, []impl.Link{}, true)
	for _, text := range []string{"0-1", "0-20", "19-20", "1-2", "0-1 0-2", "0-20 1-2", "0-1 1-2", "0-3 1-2 1-3 4-5", "0-1 0-2 0-20 1-20 10-11 19-20"} {
		isLinksOk(t, links(text), true)
	}
	for _, text := range []string{"0-0", "1-1", "20-20", "1-0", "20-0", "1-2 1-2", "1-3 1-2", "1-2 0-3", "0-2 0-1", "0-1 1-1", "0-1 2-1"} {
		isLinksOk(t, links(text), false)
	}
	for _, list := range wrongLinks() {
		isLinksOk(t, list, false)
	}
	isLinksOk(t, []impl.Link{link(-1, 0)}, false)
	isLinksOk(t, []impl.Link{{}}, false)
}

// TestLinksOkOfEachLink: A of 0 .. 20, less than B, of at most 20; alone, and with others around.
func TestLinksOkOfEachLink(t *testing.T) {
	for _, a := range numbersAround {
		for _, b := range numbersAround {
			right := a >= 0 && a < b && b <= 20
			isLinksOk(t, []impl.Link{link(a, b)}, right)
			isLinksOk(t, []impl.Link{link(0, 1), link(a, b)}, right && (a > 0 || b > 1))
			isLinksOk(t, []impl.Link{link(a, b), link(19, 20)}, right && a < 19)
			isLinksOk(t, []impl.Link{link(0, 1), link(a, b), link(19, 20)}, right && (a > 0 || b > 1) && a < 19)
		}
	}
}

// TestLinksOkOfTwo: of two right ones the first must stand ahead, by A and then B.
func TestLinksOkOfTwo(t *testing.T) {
	all := allLinks()
	for i, first := range all {
		for j, second := range all {
			isLinksOk(t, []impl.Link{first, second}, i < j)
		}
	}
}

func TestLinksOkOfShortLists(t *testing.T) {
	some := []impl.Link{link(0, 1), link(0, 20), link(1, 2), link(2, 3), link(19, 20), link(1, 1), link(3, 2), link(-1, 2), link(2, 21)}
	for _, list := range listsOf(some, 4) {
		isLinksOk(t, list, slowLinksOk(list))
	}
}

// TestLinksOkOfHowMany: 30 are right, and 31 aren't, whichever they are.
func TestLinksOkOfHowMany(t *testing.T) {
	all := allLinks()
	for n := range len(all) + 1 {
		isLinksOk(t, all[:n], n <= 30)
		isLinksOk(t, all[len(all)-n:], n <= 30)
	}
	draw := rand.New(rand.NewSource(13))
	for range 200 {
		for _, n := range []int{28, 29, 30, 31, 32, 60} {
			isLinksOk(t, drawnLinks(draw, n), n <= 30)
		}
	}
}

// TestLinksOkOfFullLists: with any one of 30 links changed for another, or two of them for one another, they are right only where they rise still.
func TestLinksOkOfFullLists(t *testing.T) {
	draw := rand.New(rand.NewSource(1313))
	for range 20 {
		full := drawnLinks(draw, 30)
		for i := range full {
			for _, l := range append([]impl.Link{link(full[i].B, full[i].A), link(full[i].A, full[i].A), link(full[i].A, 21), link(-1, full[i].B)}, allLinks()...) {
				list := slices.Clone(full)
				list[i] = l
				isLinksOk(t, list, slowLinksOk(list))
			}
			for j := range i {
				list := slices.Clone(full)
				list[i], list[j] = list[j], list[i]
				isLinksOk(t, list, false)
			}
		}
	}
}

func TestLinkAt(t *testing.T) {
	list := links("0-3 0-20 1-2 1-3 4-5 19-20")
	for at, l := range list {
		isLinkAt(t, list, l.A, l.B, at)
	}
	for _, two := range [][2]int{{0, 1}, {0, 2}, {0, 4}, {2, 3}, {3, 4}, {0, 0}, {1, 1}, {3, 3}, {20, 20}, {19, 19}, {-1, 3}, {0, -3}, {-1, -1}, {0, 21}, {20, 21}, {21, 21}, {-1, 21}, {math.MinInt64, math.MaxInt64}, {math.MaxInt64, math.MaxInt64}, {0, 1<<32 + 3}} {
		isLinkAt(t, list, two[0], two[1], -1)
	}
	isLinkAt(t, nil, 0, 1, -1)
	isLinkAt(t, nil, 0, 0, -1)
	isLinkAt(t, []impl.Link{}, 1, 2, -1)
	isLinkAt(t, links("1-2"), 1, 2, 0)
	isLinkAt(t, links("1-2"), 1, 3, -1)
	isLinkAt(t, links("1-2"), 2, 3, -1)
}

// TestLinkAtOfAllTwo: of 30 links each is at its place, and any other two have none, one with itself neither.
func TestLinkAtOfAllTwo(t *testing.T) {
	draw := rand.New(rand.NewSource(131))
	lists := [][]impl.Link{allLinks()[:30], allLinks()[180:], linksAmong(0, 3, 7, 9, 11, 13, 19, 20), drawnLinks(draw, 30), drawnLinks(draw, 30), drawnLinks(draw, 17)}
	for _, list := range lists {
		for _, a := range numbersAround {
			for _, b := range numbersAround {
				at := slices.Index(list, link(min(a, b), max(a, b)))
				isLinkAt(t, list, a, b, at)
				if a == b && at >= 0 {
					t.Errorf("%s has one of %d with itself", shownLinks(list), a)
				}
			}
		}
	}
}

// TestLinkAtOfLinksThatAreNotRight: the first one of these two is told, be it right or not.
func TestLinkAtOfLinksThatAreNotRight(t *testing.T) {
	isLinkAt(t, links("1-3 1-2"), 1, 2, 1)
	isLinkAt(t, links("1-2 0-3 1-2"), 2, 1, 0)
	isLinkAt(t, links("0-1 2-1"), 1, 2, 1)
	isLinkAt(t, links("0-1 2-1 1-2"), 1, 2, 1)
	isLinkAt(t, links("0-1 1-1"), 1, 1, 1)
	isLinkAt(t, links("0-1 1-1"), 0, 0, -1)
	isLinkAt(t, links("0-1 1-21"), 21, 1, 1)
	isLinkAt(t, []impl.Link{link(0, 1), link(-1, 1)}, 1, -1, 1)
	isLinkAt(t, []impl.Link{link(math.MinInt64, math.MaxInt64)}, math.MaxInt64, math.MinInt64, 0)
	all := allLinks()
	for at, l := range all {
		isLinkAt(t, all, l.A, l.B, at)
		isLinkAt(t, append(all, all...), l.A, l.B, at)
	}
	isLinkAt(t, make([]impl.Link, 31), 0, 0, 0)
	isLinkAt(t, make([]impl.Link, 31), 0, 1, -1)
}

func TestLinkUp(t *testing.T) {
	list := links("0-3 1-2 1-4 5-6")
	for _, c := range []struct {
		a, b int
		want string
	}{
		{0, 1, "0-1 0-3 1-2 1-4 5-6"}, {0, 2, "0-2 0-3 1-2 1-4 5-6"}, {0, 4, "0-3 0-4 1-2 1-4 5-6"}, {0, 20, "0-3 0-20 1-2 1-4 5-6"}, {1, 3, "0-3 1-2 1-3 1-4 5-6"},
		{1, 5, "0-3 1-2 1-4 1-5 5-6"}, {2, 3, "0-3 1-2 1-4 2-3 5-6"}, {4, 5, "0-3 1-2 1-4 4-5 5-6"}, {5, 7, "0-3 1-2 1-4 5-6 5-7"}, {6, 7, "0-3 1-2 1-4 5-6 6-7"}, {19, 20, "0-3 1-2 1-4 5-6 19-20"},
	} {
		isUp(t, list, c.a, c.b, links(c.want))
	}
	for _, two := range [][2]int{{0, 3}, {1, 2}, {1, 4}, {5, 6}, {0, 0}, {1, 1}, {7, 7}, {20, 20}, {-1, 1}, {-1, 0}, {0, 21}, {1, 21}, {20, 21}, {21, 22}, {21, 21}, {-1, -1}, {-2, -1}, {-1, 21}, {math.MinInt64, 1}, {1, math.MaxInt64}, {math.MinInt64, math.MaxInt64}, {1, 1<<32 + 3}} {
		isUp(t, list, two[0], two[1], list)
	}
	isUp(t, nil, 0, 1, links("0-1"))
	isUp(t, nil, 0, 20, links("0-20"))
	isUp(t, nil, 19, 20, links("19-20"))
	isUp(t, []impl.Link{}, 3, 2, links("2-3"))
	isUp(t, nil, 3, 3, nil)
	isUp(t, nil, 0, 0, nil)
	isUp(t, nil, 0, 21, nil)
	isUp(t, nil, -1, 0, nil)
}

// TestLinkUpOfAllTwo: what comes out is right, and has the Link once, and all others.
func TestLinkUpOfAllTwo(t *testing.T) {
	draw := rand.New(rand.NewSource(132))
	for _, n := range []int{0, 1, 2, 5, 15, 28, 29, 30} {
		list := drawnLinks(draw, n)
		for _, a := range numbersAround {
			for _, b := range numbersAround {
				isUp(t, list, a, b, slowUp(list, a, b))
				got := impl.LinkUp(list, a, b)
				isLinksOk(t, got, true)
				joined := a != b && min(a, b) >= 0 && max(a, b) <= 20
				if at := impl.LinkAt(got, b, a); joined && n < 30 && (at < 0 || got[at] != link(min(a, b), max(a, b))) {
					t.Errorf("LinkUp(%s, %d, %d) = %s, which hasn't it", shownLinks(list), a, b, shownLinks(got))
				}
			}
		}
	}
}

// TestLinkUpToMaxLinks: the 30th comes, wherever its place is, and no other one behind it.
func TestLinkUpToMaxLinks(t *testing.T) {
	all := allLinks()
	draw := rand.New(rand.NewSource(133))
	for range 5 {
		almost := drawnLinks(draw, 29)
		for _, l := range all {
			if slices.Contains(almost, l) {
				isUp(t, almost, l.A, l.B, almost)
				continue
			}
			full := inTheirOrder(append(slices.Clone(almost), l))
			isUp(t, almost, l.A, l.B, full)
			for _, other := range all {
				isUp(t, full, other.A, other.B, full)
			}
		}
	}
}

// TestLinksThatAreNotRightStay: LinkUp and LinkDown tell them as they were, Near and Reach nothing.
func TestLinksThatAreNotRightStay(t *testing.T) {
	for _, list := range wrongLinks() {
		for _, two := range [][2]int{{0, 1}, {1, 2}, {1, 1}, {2, 3}, {5, 6}, {19, 20}, {0, 20}, {0, 0}, {-1, 1}, {1, 21}} {
			isUp(t, list, two[0], two[1], list)
			isDown(t, list, two[0], two[1], list)
		}
		for _, l := range list[:min(len(list), 40)] {
			isUp(t, list, l.A, l.B, list)
			isDown(t, list, l.A, l.B, list)
			isNear(t, list, l.A)
			isNear(t, list, l.B)
			isReached(t, list, l.A)
			isReached(t, list, l.B)
		}
		for id := -2; id <= 22; id++ {
			isNear(t, list, id)
			isReached(t, list, id)
		}
	}
}

func TestLinkDown(t *testing.T) {
	list := links("0-3 1-2 1-4 5-6")
	isDown(t, list, 0, 3, links("1-2 1-4 5-6"))
	isDown(t, list, 1, 2, links("0-3 1-4 5-6"))
	isDown(t, list, 1, 4, links("0-3 1-2 5-6"))
	isDown(t, list, 5, 6, links("0-3 1-2 1-4"))
	for _, two := range [][2]int{{0, 1}, {0, 2}, {2, 3}, {1, 3}, {1, 6}, {5, 7}, {0, 0}, {1, 1}, {3, 3}, {5, 5}, {-1, 3}, {0, 21}, {-1, -1}, {21, 21}, {math.MinInt64, math.MaxInt64}, {1<<32 + 1, 2}} {
		isDown(t, list, two[0], two[1], list)
	}
	isDown(t, links("1-2"), 1, 2, nil)
	isDown(t, links("1-2"), 2, 2, links("1-2"))
	isDown(t, nil, 1, 2, nil)
	isDown(t, nil, 0, 0, nil)
	isDown(t, []impl.Link{}, 0, 1, nil)
}

// TestLinkDownOfEachPlace: what comes out is right, hasn't that Link, and has all others.
func TestLinkDownOfEachPlace(t *testing.T) {
	draw := rand.New(rand.NewSource(134))
	for _, n := range []int{0, 1, 2, 3, 29, 30} {
		list := drawnLinks(draw, n)
		for at, l := range list {
			isDown(t, list, l.A, l.B, slices.Concat(list[:at], list[at+1:]))
		}
		for _, a := range numbersAround {
			for _, b := range numbersAround {
				isDown(t, list, a, b, slowDown(list, a, b))
				got := impl.LinkDown(list, a, b)
				isLinksOk(t, got, true)
				isLinkAt(t, got, a, b, -1)
			}
		}
	}
}

// isUpAndDown demands of right links that a Link that wasn't there is, once it is up, from both sides; and that, taken down again, it isn't, and all is as it was.
func isUpAndDown(t *testing.T, list []impl.Link, a, b int) {
	t.Helper()
	up := impl.LinkUp(list, a, b)
	at := impl.LinkAt(up, a, b)
	if len(up) != len(list)+1 || at < 0 || impl.LinkAt(up, b, a) != at || !impl.LinksOk(up) {
		t.Errorf("LinkUp(%s, %d, %d) = %s", shownLinks(list), a, b, shownLinks(up))
	}
	if !slices.Contains(impl.Near(up, a), b) || !slices.Contains(impl.Near(up, b), a) || !slices.Contains(impl.Reach(up, a), b) || !slices.Contains(impl.Reach(up, b), a) {
		t.Errorf("behind LinkUp(%s, %d, %d) they aren't near to one another", shownLinks(list), a, b)
	}
	down := impl.LinkDown(up, b, a)
	if !slices.Equal(down, list) || impl.LinkAt(down, a, b) != -1 || slices.Contains(impl.Near(down, a), b) || slices.Contains(impl.Near(down, b), a) {
		t.Errorf("LinkDown behind LinkUp(%s, %d, %d) = %s", shownLinks(list), a, b, shownLinks(down))
	}
	if again := impl.LinkUp(down, b, a); !slices.Equal(again, up) {
		t.Errorf("LinkUp once more behind LinkUp(%s, %d, %d) = %s", shownLinks(list), a, b, shownLinks(again))
	}
}

func TestLinksUpAndDown(t *testing.T) {
	draw := rand.New(rand.NewSource(135))
	for _, n := range []int{0, 1, 2, 3, 8, 15, 20, 28, 29} {
		for range 4 {
			list := drawnLinks(draw, n)
			for _, l := range allLinks() {
				if !slices.Contains(list, l) {
					isUpAndDown(t, list, l.A, l.B)
					isUpAndDown(t, list, l.B, l.A)
				}
			}
		}
	}
}

func TestNear(t *testing.T) {
	list := links("0-3 0-5 0-20 1-2 1-3 3-4 3-10 3-20 11-12")
	isNear(t, list, 0, 3, 5, 20)
	isNear(t, list, 1, 2, 3)
	isNear(t, list, 2, 1)
	isNear(t, list, 3, 0, 1, 4, 10, 20)
	isNear(t, list, 4, 3)
	isNear(t, list, 5, 0)
	isNear(t, list, 20, 0, 3)
	isNear(t, list, 11, 12)
	for _, id := range []int{6, 9, 13, 19, -1, -3, 21, 256, 1 << 32, 1<<32 + 3, math.MinInt64, math.MaxInt64} {
		isNear(t, list, id)
	}
	for id := -1; id <= 21; id++ {
		isNear(t, nil, id)
		isNear(t, []impl.Link{}, id)
	}
	star := links("0-10 1-10 2-10 3-10 4-10 5-10 6-10 7-10 8-10 9-10 10-11 10-12 10-13 10-14 10-15 10-16 10-17 10-18 10-19 10-20")
	isNear(t, star, 10, 0, 1, 2, 3, 4, 5, 6, 7, 8, 9, 11, 12, 13, 14, 15, 16, 17, 18, 19, 20)
	isNear(t, star, 0, 10)
	isNear(t, star, 20, 10)
	isNear(t, allLinks()[:20], 0, 1, 2, 3, 4, 5, 6, 7, 8, 9, 10, 11, 12, 13, 14, 15, 16, 17, 18, 19, 20)
}

// TestReach: those in other parts, and itself, aren't among those that can be come to.
func TestReach(t *testing.T) {
	list := links("0-3 0-5 1-2 1-3 6-20 11-12 12-19")
	for id, want := range map[int]string{0: "1 2 3 5", 1: "0 2 3 5", 2: "0 1 3 5", 3: "0 1 2 5", 5: "0 1 2 3", 6: "20", 20: "6", 11: "12 19", 12: "11 19", 19: "11 12", 4: "", 7: "", 18: "", 10: "", -1: "", 21: "", -3: "", 1 << 32: "", math.MinInt64: "", math.MaxInt64: ""} {
		isReached(t, list, id, ids(want)...)
	}
	for id := -1; id <= 21; id++ {
		isReached(t, nil, id)
		isReached(t, []impl.Link{}, id)
	}
	isReached(t, links("4-9"), 4, 9)
	isReached(t, links("4-9"), 9, 4)
	isReached(t, links("4-9"), 5)
}

// shapes are right links of note, by their names: each of these is one part.
func shapes() map[string][]impl.Link {
	chain, ring, wild := allLinks()[:0], links("0-20"), allLinks()[:0]
	for id := range 20 {
		chain = append(chain, link(id, id+1))
		ring = append(ring, link(id, id+1))
		// 8 and 21 have no divisor in common, so that this goes through all numbers, up and down.
		wild = append(wild, link(min(id*8%21, (id+1)*8%21), max(id*8%21, (id+1)*8%21)))
	}
	return map[string][]impl.Link{
		"a chain": chain, "a ring": inTheirOrder(ring), "a chain up and down": inTheirOrder(wild), "a star of 0": allLinks()[:20],
		"a star of 10":       links("0-10 1-10 2-10 3-10 4-10 5-10 6-10 7-10 8-10 9-10 10-11 10-12 10-13 10-14 10-15 10-16 10-17 10-18 10-19 10-20"),
		"a tree":             links("0-1 0-2 1-3 1-4 2-5 2-6 3-7 3-8 4-9 4-10 5-11 5-12 6-13 6-14 7-15 7-16 8-17 8-18 9-19 9-20"),
		"a tree upside down": links("0-11 1-11 2-12 3-12 4-13 5-13 6-14 7-14 8-15 9-15 10-16 11-16 12-17 13-17 14-18 15-18 16-19 17-19 18-20 19-20"),
		"30 links":           inTheirOrder(append(slices.Clone(ring), links("0-10 1-11 2-12 3-13 4-14 5-15 6-16 7-17 8-18")...)),
	}
}

func TestReachOfShapes(t *testing.T) {
	all := ids("0 1 2 3 4 5 6 7 8 9 10 11 12 13 14 15 16 17 18 19 20")
	for name, list := range shapes() {
		if !impl.LinksOk(list) || len(list) < 20 {
			t.Errorf("%s is %s", name, shownLinks(list))
		}
		for id := range 21 {
			isReached(t, list, id, slices.Concat(all[:id], all[id+1:])...)
		}
		isReached(t, list, -1)
		isReached(t, list, 21)
	}
	for _, id := range []int{0, 3, 20} {
		isReached(t, linksAmong(0, 3, 7, 9, 11, 13, 19, 20), id, slices.DeleteFunc(ids("0 3 7 9 11 13 19 20"), func(n int) bool { return n == id })...)
		isReached(t, linksAmong(0, 3, 7, 9, 11, 13, 19, 20), id+1)
	}
}

// TestReachOfBrokenShapes: without any one Link those of one part don't come to those of the other.
func TestReachOfBrokenShapes(t *testing.T) {
	for _, list := range shapes() {
		for at, l := range list {
			left := slices.Concat(list[:at], list[at+1:])
			for id := range 21 {
				isReached(t, left, id, slowReach(left, id)...)
			}
			isUpAndDown(t, left, l.A, l.B)
		}
	}
	chain := shapes()["a chain"]
	isReached(t, impl.LinkDown(chain, 8, 7), 3, 0, 1, 2, 4, 5, 6, 7)
	isReached(t, impl.LinkDown(chain, 8, 7), 20, 8, 9, 10, 11, 12, 13, 14, 15, 16, 17, 18, 19)
	ring := shapes()["a ring"]
	if got := impl.Reach(impl.LinkDown(ring, 8, 7), 8); len(got) != 20 {
		t.Errorf("in a ring with one Link down 8 comes to %v", got)
	}
}

// isSameFromBothSides demands that who is near to one has it near, and that who can be come to from one comes to it, and to all that it comes to.
func isSameFromBothSides(t *testing.T, list []impl.Link) {
	t.Helper()
	var near, reach [21][]int
	for id := range 21 {
		near[id], reach[id] = impl.Near(list, id), impl.Reach(list, id)
		if slices.Contains(near[id], id) || slices.Contains(reach[id], id) || !slices.IsSorted(near[id]) || !slices.IsSorted(reach[id]) {
			t.Errorf("by %s %d has %v near, and comes to %v", shownLinks(list), id, near[id], reach[id])
		}
	}
	for a := range 21 {
		for b := range 21 {
			if slices.Contains(near[a], b) != slices.Contains(near[b], a) || slices.Contains(near[a], b) != (impl.LinkAt(list, a, b) >= 0) {
				t.Errorf("by %s %d has %v near, and %d has %v", shownLinks(list), a, near[a], b, near[b])
			}
			if slices.Contains(near[a], b) && !slices.Contains(reach[a], b) || slices.Contains(reach[a], b) != slices.Contains(reach[b], a) {
				t.Errorf("by %s %d comes to %v, and %d to %v", shownLinks(list), a, reach[a], b, reach[b])
			}
			if slices.Contains(reach[a], b) && !slices.Equal(inOrderWith(reach[a], a), inOrderWith(reach[b], b)) {
				t.Errorf("by %s %d comes to %v, and %d to %v", shownLinks(list), a, reach[a], b, reach[b])
			}
		}
	}
}

// inOrderWith tells a list with one more, rising.
func inOrderWith(list []int, id int) []int {
	list = append(slices.Clone(list), id)
	slices.Sort(list)
	return list
}

// TestLinksOfFew holds all that is told of all links of five that there may be against the slow rules.
func TestLinksOfFew(t *testing.T) {
	for _, list := range partsOf(linksAmong(0, 1, 7, 19, 20)) {
		for _, a := range []int{0, 1, 2, 7, 19, 20} {
			for _, b := range []int{-1, 0, 1, 7, 19, 20, 21} {
				isLinkedRightly(t, list, a, b)
			}
		}
		isSameFromBothSides(t, list)
	}
}

// TestDrawnLinks lets links come up and go down, and holds all that is told against the slow rules.
func TestDrawnLinks(t *testing.T) {
	draw := rand.New(rand.NewSource(136))
	up, down, full, apart := 0, 0, 0, 0
	for round := range 60 {
		most := 2 + draw.Intn(20)
		var list []impl.Link
		for range 120 {
			a, b := draw.Intn(most), draw.Intn(most)
			isLinkedRightly(t, list, a, b)
			if there := slowLinkAt(list, a, b) >= 0; there && draw.Intn(2) == 0 {
				list = impl.LinkDown(list, a, b)
				down++
			} else {
				if !there && a != b && len(list) == 30 {
					full++
				}
				if n := len(slowReach(list, a)); n > 0 && a != b && !slices.Contains(slowReach(list, a), b) {
					apart++
				}
				next := impl.LinkUp(list, a, b)
				up += len(next) - len(list)
				list = next
			}
			if round%6 == 0 {
				isSameFromBothSides(t, list)
			}
		}
	}
	if up < 1000 || down < 400 || full < 200 || apart < 400 {
		t.Errorf("%d came up, %d went down, %d times there were 30 already, %d times they didn't come to one another", up, down, full, apart)
	}
}

// withLinkRoom puts a list into a longer array, with links of note ahead and behind, which would go on with it; it tells the list, and all of the array.
func withLinkRoom(list []impl.Link) (part, all []impl.Link) {
	const ahead, behind = 3, 40
	all = slices.Concat(links("0-1 0-2 0-3"), list, slices.Repeat(links("19-20"), behind))
	return all[ahead : ahead+len(list)], all
}

// someLinks are links, right and not: each way through the chapter is gone by some of these.
func someLinks() [][]impl.Link {
	draw := rand.New(rand.NewSource(137))
	some := [][]impl.Link{nil, {}, links("1-2"), links("0-3 1-2 1-4 5-6"), links("0-1 1-2 2-3"), drawnLinks(draw, 29), drawnLinks(draw, 30), shapes()["a chain"], shapes()["a star of 10"]}
	return append(some, wrongLinks()...)
}

// twosOf are some two to ask of links: of each place, at both limits, none that may be linked, and some that aren't.
func twosOf(list []impl.Link) [][2]int {
	twos := [][2]int{{0, 1}, {0, 20}, {19, 20}, {3, 9}, {10, 4}, {1, 1}, {-1, 2}, {2, 21}}
	for _, l := range list[:min(len(list), 31)] {
		twos = append(twos, [2]int{l.A, l.B}, [2]int{l.B, l.A})
	}
	return twos
}

// TestLinksAreLeftAsTheyWere: nothing is written into a list, nor into the room behind it, what stands there isn't taken for a part of it, and what is done to an answer is seen by none.
func TestLinksAreLeftAsTheyWere(t *testing.T) {
	for _, list := range someLinks() {
		part, all := withLinkRoom(list)
		was := slices.Clone(all)
		for _, two := range twosOf(list) {
			isLinkedRightly(t, part, two[0], two[1])
			for _, answer := range [][]impl.Link{impl.LinkUp(part, two[0], two[1]), impl.LinkDown(part, two[0], two[1])} {
				answer = answer[:cap(answer)]
				for i := range answer {
					answer[i] = link(-3, -3)
				}
			}
			for _, answer := range [][]int{impl.Near(part, two[0]), impl.Reach(part, two[1])} {
				answer = answer[:cap(answer)]
				for i := range answer {
					answer[i] = -3
				}
			}
			isLinkedRightly(t, part, two[0], two[1])
			isLinkedRightly(t, slices.Clip(part), two[0], two[1])
		}
		if !slices.Equal(all, was) {
			t.Fatalf("%s became %s", shownLinks(was), shownLinks(all))
		}
	}
}

// TestLinkAnswersAreNewMemory: no answer lies in the argument, nor in another answer.
func TestLinkAnswersAreNewMemory(t *testing.T) {
	for _, list := range someLinks() {
		list = slices.Clone(list)
		told, numbers := [][]impl.Link{list}, [][]int{}
		for _, two := range twosOf(list)[:min(len(list)+8, 16)] {
			for range 2 {
				told = append(told, impl.LinkUp(list, two[0], two[1]), impl.LinkDown(list, two[0], two[1]))
				numbers = append(numbers, impl.Near(list, two[0]), impl.Near(list, two[1]), impl.Reach(list, two[0]), impl.Reach(list, two[1]))
			}
		}
		if sharesAny(told, sharesRoom) || sharesAny(numbers, sharesRoom) {
			t.Errorf("what is told of %s shares memory", shownLinks(list))
		}
	}
}

// TestLinksThatWereToldStay: what is done with an answer isn't seen by it, nor by what was told ahead.
func TestLinksThatWereToldStay(t *testing.T) {
	draw := rand.New(rand.NewSource(138))
	var answers, were [][]impl.Link
	var list []impl.Link
	for range 400 {
		a, b := draw.Intn(9), draw.Intn(9)
		if draw.Intn(3) == 0 {
			list = impl.LinkDown(list, a, b)
		} else {
			list = impl.LinkUp(list, a, b)
		}
		answers, were = append(answers, list), append(were, slices.Clone(list))
	}
	for i, got := range answers {
		if !slices.Equal(got, were[i]) {
			t.Fatalf("answer %d was %s, and became %s", i, shownLinks(were[i]), shownLinks(got))
		}
		got = got[:cap(got)]
		for j := range got {
			got[j] = link(-3, -3)
		}
	}
}

// TestLinksThatChange: what was told of a list isn't kept; once it is another one, so is what is told.
func TestLinksThatChange(t *testing.T) {
	list := links("0-1 2-3")
	isReached(t, list, 1, 0)
	isNear(t, list, 2, 3)
	list[1] = link(1, 2)
	isReached(t, list, 0, 1, 2)
	isNear(t, list, 2, 1)
	isLinkAt(t, list, 2, 3, -1)
	list[0] = link(1, 2)
	isLinksOk(t, list, false)
	isReached(t, list, 1)
	list[0] = link(0, 2)
	isReached(t, list, 1, 0, 2)
	isUp(t, list, 3, 2, links("0-2 1-2 2-3"))
	isDown(t, list, 2, 0, links("1-2"))
}

// TestLinksAnswerAtAnyArguments: every function answers, whatever stands in its arguments, and the same when asked again.
func TestLinksAnswerAtAnyArguments(t *testing.T) {
	for _, a := range numbersAround {
		for _, b := range numbersAround {
			l := link(a, b)
			for _, list := range [][]impl.Link{nil, {l}, {l, l}, {link(0, 1), l}, {l, link(b, a)}, {link(0, 1), l, link(19, 20)}, links("0-3 1-2 1-4 5-6"), {link(a, a), l, link(b, b)}} {
				isLinkedRightly(t, list, a, b)
				isLinkedRightly(t, list, a, b)
			}
		}
	}
	for _, list := range [][]impl.Link{make([]impl.Link, 1000000), slices.Repeat(allLinks(), 5000), slices.Repeat(links("0-1"), 1000000), slices.Repeat([]impl.Link{link(math.MaxInt64, math.MinInt64)}, 1000000)} {
		for _, two := range [][2]int{{0, 1}, {19, 20}, {0, 0}, {-1, 21}, {math.MinInt64, math.MaxInt64}} {
			isLinkedRightly(t, list, two[0], two[1])
		}
	}
}
