package tests

import (
	"math/rand"
	"slices"
	"strconv"
	"strings"
	"testing"

	"loop.example/g00746/impl"
)

func step(at, deg int) impl.Step { return impl.Step{At: at, Deg: deg} }

// plan tells the steps of these Ats, one behind the other, and of Degs from 1 on.
func plan(ats ...int) []impl.Step {
	var list []impl.Step
	for i, at := range ats {
		list = append(list, step(at, i+1))
	}
	return list
}

// slowPlanOk tells what PlanOk does, without the functions of impl.
func slowPlanOk(list []impl.Step) bool {
	if len(list) < 1 || len(list) > 6 || list[0].At != 0 || list[0].Deg != 1 {
		return false
	}
	for i := 1; i < len(list); i++ {
		if list[i].At <= list[i-1].At || list[i].Deg <= list[i-1].Deg || list[i].At > 1000000 || list[i].Deg > 6 {
			return false
		}
	}
	return true
}

// slowDegree goes through a plan from behind: the first step that isn't later than now is the last one of those.
func slowDegree(list []impl.Step, now int) int {
	if slowPlanOk(list) {
		for i := len(list) - 1; i >= 0; i-- {
			if list[i].At <= now {
				return list[i].Deg
			}
		}
	}
	return 1
}

// leastCount counts k up from 0 to the least one for which k times d and 1 is at least d times n, less d.
func leastCount(n, d int) int {
	k := 0
	for k*(d+1) < d*n-d {
		k++
	}
	return k
}

func slowGrowth(n, pace int) []impl.Step {
	if n < 1 || n > 100 || pace < 1 || pace > 1000 {
		return nil
	}
	list := []impl.Step{step(0, 1)}
	for d := 1; d <= 5; d++ {
		at := pace * leastCount(n, d)
		if at <= list[len(list)-1].At || at > 1000000 {
			return list
		}
		list = append(list, step(at, d+1))
	}
	return list
}

// slowPlanText tells what PlanText does, without the functions of impl.
func slowPlanText(list []impl.Step) string {
	if !slowPlanOk(list) {
		return ""
	}
	text := ""
	for _, s := range list {
		text += " " + strconv.Itoa(s.At) + ":" + strconv.Itoa(s.Deg)
	}
	return text[1:]
}

// isPlan and notPlan hold what all functions tell of some steps against whether they are a plan.
func isPlan(t *testing.T, list []impl.Step, text string) {
	t.Helper()
	if !impl.PlanOk(list) {
		t.Errorf("PlanOk(%v) is false", list)
	}
	if got := impl.PlanText(list); got != text {
		t.Errorf("PlanText(%v) = %q, want %q", list, got, text)
	}
	for _, now := range nowsOf(list) {
		isDegree(t, list, now, slowDegree(list, now))
	}
}

func notPlan(t *testing.T, list []impl.Step) {
	t.Helper()
	if impl.PlanOk(list) {
		t.Errorf("PlanOk(%.200v) is true", list)
	}
	if got := impl.PlanText(list); got != "" {
		t.Errorf("PlanText(%.200v) = %.200q", list, got)
	}
	for _, now := range nowsOf(list[:min(len(list), 20)]) {
		isDegree(t, list, now, 1)
	}
}

// isPlanOrNot holds what is told of some steps against the slow rule.
func isPlanOrNot(t *testing.T, list []impl.Step) {
	t.Helper()
	if slowPlanOk(list) {
		isPlan(t, list, slowPlanText(list))
	} else {
		notPlan(t, list)
	}
}

func isDegree(t *testing.T, list []impl.Step, now, want int) {
	t.Helper()
	if got := impl.DegreeAt(list, now); got != want {
		t.Errorf("DegreeAt(%.200v, %d) = %d, want %d", list, now, got, want)
	}
}

// nowsOf are times at, just ahead of, and just behind each step, and far off.
func nowsOf(list []impl.Step) []int {
	nows := append([]int{-1, 0, 1, 1000000, 1000001}, extremeInts...)
	for _, s := range list {
		nows = append(nows, s.At-1, s.At, s.At+1)
	}
	return nows
}

// isGrown holds a plan that was told against its text.
func isGrown(t *testing.T, n, pace int, want string) {
	t.Helper()
	got := impl.Growth(n, pace)
	if text := slowPlanText(got); text != want || len(got) > 0 && !slowPlanOk(got) || want == "" && len(got) > 0 {
		t.Errorf("Growth(%d, %d) = %v, want %q", n, pace, got, want)
	}
}

// manyPlans are plans of all degrees that there may be behind the first one, at times that are close, far apart, and the last ones of all.
func manyPlans() [][]impl.Step {
	var plans [][]impl.Step
	for set := range 32 {
		for _, ats := range [][]int{{1, 2, 3, 4, 5}, {5, 6, 20, 21, 1000}, {1, 10, 100, 1000, 10000}, {100, 1000, 99999, 999999, 1000000}, {999996, 999997, 999998, 999999, 1000000}} {
			list := []impl.Step{step(0, 1)}
			for i := range 5 {
				if set>>i&1 == 1 {
					list = append(list, step(ats[i], i+2))
				}
			}
			plans = append(plans, list)
		}
	}
	return plans
}

// wrongPlans are lists that are no plans: each reason alone.
func wrongPlans() [][]impl.Step {
	first := step(0, 1)
	return [][]impl.Step{
		// No step.
		nil, {},
		// Seven, of which the last is of no degree that there is, or of one that was; and many more.
		plan(0, 1, 2, 3, 4, 5, 6), append(plan(0, 1, 2, 3, 4, 5), step(6, 6)), append(plan(0, 1, 2, 3, 4, 5), step(6, 5)), append(plan(0, 1, 2, 3, 4, 5), step(6, 1)),
		slices.Repeat([]impl.Step{first}, 6), slices.Repeat([]impl.Step{first}, 7), slices.Repeat(plan(0, 1, 2, 3, 4, 5), 2), plan(make([]int, 100)...),
		// A first step whose At isn't 0, or whose Deg isn't 1.
		{step(1, 1)}, {step(-1, 1)}, {step(1000000, 1)}, {step(0, 2)}, {step(0, 0)}, {step(0, -1)}, {step(0, 6)}, {step(0, 7)}, {step(1, 2)}, {step(1, 0)}, {{}},
		{step(1, 1), step(2, 2)}, {step(-1, 1), step(2, 2)}, {step(-1, 1), first}, {step(0, 2), step(1, 3)}, {step(0, 0), step(1, 2)}, {step(0, 0), step(1, 1)}, {step(0, -1), step(1, 2)}, {step(5, 2), step(9, 4)},
		{step(-1, 0), first, step(5, 2)},
		// A next one whose At is the same, or less.
		{first, step(0, 2)}, {first, step(-1, 2)}, {first, first}, {first, step(5, 2), step(5, 3)}, {first, step(5, 2), step(4, 3)}, {first, step(5, 2), step(0, 3)}, {first, step(5, 2), step(5, 2)},
		{first, step(5, 2), step(9, 3), step(9, 4)}, {first, step(5, 2), step(9, 3), step(7, 4)}, {first, step(9, 2), step(5, 3), step(10, 4)}, {first, step(5, 2), step(5, 3), step(6, 4)}, plan(0, 1, 2, 3, 4, 4), plan(0, 1, 1, 2, 3, 4), plan(0, 2, 1),
		// A next one whose Deg is the same, or less.
		{first, step(5, 1)}, {first, step(5, 0)}, {first, step(5, -1)}, {first, step(5, 2), step(9, 2)}, {first, step(5, 2), step(9, 1)}, {first, step(5, 3), step(9, 2)}, {first, step(5, 6), step(9, 6)}, {first, step(5, 6), step(9, 5)},
		{first, step(5, 3), step(9, 2), step(10, 4)}, {first, step(5, 2), step(9, 2), step(10, 3)}, {first, step(1, 1), step(2, 2)},
		// An At beyond MaxTime, a Deg beyond MaxDeg.
		{first, step(1000001, 2)}, {first, step(1000000, 2), step(1000001, 3)}, {first, step(5, 2), step(1000001, 6)}, {first, step(1000001, 2), step(1000002, 3)}, plan(0, 1, 2, 3, 4, 1000001), {first, step(1<<32+5, 2)},
		{first, step(5, 7)}, {first, step(5, 6), step(6, 7)}, {first, step(5, 2), step(6, 7)}, {first, step(5, 7), step(6, 8)}, {first, step(5, 1<<32+2)},
	}
}

func TestPlanLimits(t *testing.T) {
	if impl.MaxTime != 1000000 || impl.MaxDeg != 6 {
		t.Errorf("MaxTime is %d, MaxDeg is %d", impl.MaxTime, impl.MaxDeg)
	}
}

func TestPlanOk(t *testing.T) {
	first := step(0, 1)
	isPlan(t, []impl.Step{first}, "0:1")
	isPlan(t, []impl.Step{first, step(5, 2)}, "0:1 5:2")
	isPlan(t, []impl.Step{first, step(5, 2), step(9, 4)}, "0:1 5:2 9:4")
	isPlan(t, plan(0, 1, 2, 3, 4, 5), "0:1 1:2 2:3 3:4 4:5 5:6")
	isPlan(t, plan(0, 1, 20, 300, 4000, 50000), "0:1 1:2 20:3 300:4 4000:5 50000:6")
	// Degrees may be left out, and the last one may come at once.
	isPlan(t, []impl.Step{first, step(1, 6)}, "0:1 1:6")
	isPlan(t, []impl.Step{first, step(1, 3), step(2, 6)}, "0:1 1:3 2:6")
	// At of MaxTime, and Deg of MaxDeg.
	isPlan(t, []impl.Step{first, step(1000000, 2)}, "0:1 1000000:2")
	isPlan(t, []impl.Step{first, step(999999, 2), step(1000000, 6)}, "0:1 999999:2 1000000:6")
	isPlan(t, plan(0, 999996, 999997, 999998, 999999, 1000000), "0:1 999996:2 999997:3 999998:4 999999:5 1000000:6")
	for _, list := range manyPlans() {
		isPlan(t, list, slowPlanText(list))
	}
	for _, list := range wrongPlans() {
		notPlan(t, list)
	}
}

// TestPlanOkOfShortLists goes through all lists of up to four of some steps.
func TestPlanOkOfShortLists(t *testing.T) {
	some := []impl.Step{step(0, 1), step(0, 2), step(1, 1), step(1, 2), step(2, 2), step(2, 3), step(5, 3), step(5, 6), step(1000000, 6), step(1000001, 6), step(6, 7), step(-1, 0), {}}
	for _, list := range listsOf(some, 4) {
		if got := impl.PlanOk(list); got != slowPlanOk(list) {
			t.Errorf("PlanOk(%v) = %v", list, got)
		}
		if got, want := impl.PlanText(list), slowPlanText(list); got != want {
			t.Errorf("PlanText(%v) = %q, want %q", list, got, want)
		}
		for now := -1; now < 7; now++ {
			isDegree(t, list, now, slowDegree(list, now))
		}
	}
}

// TestPlansWithAStepChanged puts another At or Deg at each place of plans, takes steps away, and puts one in.
func TestPlansWithAStepChanged(t *testing.T) {
	for _, list := range [][]impl.Step{plan(0), plan(0, 5), plan(0, 5, 9), plan(0, 3, 6, 9, 12, 15), {step(0, 1), step(5, 2), step(9, 4)}, {step(0, 1), step(999999, 3), step(1000000, 6)}} {
		for at := range list {
			isPlanOrNot(t, slices.Delete(slices.Clone(list), at, at+1))
			isPlanOrNot(t, slices.Insert(slices.Clone(list), at, list[at]))
			for _, n := range nowsOf(list) {
				changed := slices.Clone(list)
				changed[at].At = n
				isPlanOrNot(t, changed)
			}
			for _, n := range append([]int{0, 1, 2, 3, 4, 5, 6, 7, 8, 1<<32 + 1, 1<<32 + 2}, extremeInts...) {
				changed := slices.Clone(list)
				changed[at].Deg = n
				isPlanOrNot(t, changed)
			}
		}
		last := list[len(list)-1]
		for _, more := range []impl.Step{step(last.At+1, last.Deg+1), step(last.At+1, last.Deg), step(last.At, last.Deg+1), step(last.At+1, 6), step(1000000, last.Deg+1), step(1000001, last.Deg+1)} {
			isPlanOrNot(t, append(slices.Clone(list), more))
		}
		reversed := slices.Clone(list)
		slices.Reverse(reversed)
		isPlanOrNot(t, reversed)
	}
}

func TestDegreeAt(t *testing.T) {
	list := []impl.Step{step(0, 1), step(5, 2), step(9, 4), step(1000, 6)}
	for _, c := range []struct{ now, want int }{
		{-1, 1}, {-5, 1}, {-1000000, 1}, {0, 1}, {1, 1}, {4, 1}, {5, 2}, {6, 2}, {8, 2}, {9, 4}, {10, 4}, {999, 4}, {1000, 6}, {1001, 6}, {1000000, 6}, {1000001, 6}, {1 << 32, 6},
	} {
		isDegree(t, list, c.now, c.want)
		isDegree(t, list[:1], c.now, 1)
		isDegree(t, list[:2], c.now, min(c.want, 2))
		isDegree(t, list[:3], c.now, min(c.want, 4))
	}
	for _, now := range extremeInts {
		if now < 0 {
			isDegree(t, list, now, 1)
		} else {
			isDegree(t, list, now, 6)
		}
	}
	// The last moment there is for a step.
	late := []impl.Step{step(0, 1), step(999999, 3), step(1000000, 5)}
	isDegree(t, late, 999998, 1)
	isDegree(t, late, 999999, 3)
	isDegree(t, late, 1000000, 5)
	isDegree(t, late, 1000001, 5)
}

// TestDegreeAtOfNoPlan: it is 1 at any time, whatever the steps would tell.
func TestDegreeAtOfNoPlan(t *testing.T) {
	for _, list := range wrongPlans() {
		for _, now := range append([]int{-1, 0, 1, 4, 5, 6, 9, 10, 100, 1000000, 1000001, 2000000}, extremeInts...) {
			isDegree(t, list, now, 1)
		}
	}
}

// doesntFall asks for the degree at some rising times: it begins with one, never falls, and is the last one in the end.
func doesntFall(t *testing.T, list []impl.Step, nows []int) {
	t.Helper()
	ahead := 1
	for i, now := range nows {
		deg := impl.DegreeAt(list, now)
		if deg < ahead || deg > 6 || (i == 0 || now <= 0) && deg != 1 {
			t.Fatalf("DegreeAt(%v, %d) = %d, behind %d", list, now, deg, ahead)
		}
		ahead = deg
	}
	if last := list[len(list)-1]; ahead != last.Deg {
		t.Errorf("%v ends with %d", list, ahead)
	}
}

// TestDegreesDontFall goes from -1 to behind the last step, by ones where that isn't far, else around all steps.
func TestDegreesDontFall(t *testing.T) {
	plans := manyPlans()
	for n := 1; n <= 100; n++ {
		for _, pace := range []int{1, 2, 7, 100, 999, 1000} {
			plans = append(plans, impl.Growth(n, pace))
		}
	}
	for _, list := range plans {
		if !impl.PlanOk(list) {
			t.Fatalf("%v is no plan", list)
		}
		var nows []int
		if end := list[len(list)-1].At + 2; end <= 10002 {
			for now := -1; now <= end; now++ {
				nows = append(nows, now)
			}
		} else {
			nows = nowsOf(list)
			slices.Sort(nows)
		}
		doesntFall(t, list, nows)
	}
}

func TestGrowth(t *testing.T) {
	for _, c := range []struct {
		n, pace int
		want    string
	}{
		// The sample of one pace, and the same of others.
		{100, 1, "0:1 50:2 66:3 75:4 80:5 83:6"}, {100, 2, "0:1 100:2 132:3 150:4 160:5 166:6"}, {100, 999, "0:1 49950:2 65934:3 74925:4 79920:5 82917:6"},
		// The most of both: still far from MaxTime.
		{100, 1000, "0:1 50000:2 66000:3 75000:4 80000:5 83000:6"},
		{99, 1, "0:1 49:2 66:3 74:4 79:5 82:6"}, {61, 3, "0:1 90:2 120:3 135:4 144:5 150:6"}, {60, 1, "0:1 30:2 40:3 45:4 48:5 50:6"}, {30, 5, "0:1 75:2 100:3 110:4 120:5 125:6"},
		{12, 1, "0:1 6:2 8:3 9:4"}, {11, 1, "0:1 5:2 7:3 8:4"}, {10, 1, "0:1 5:2 6:3 7:4 8:5"}, {7, 10, "0:1 30:2 40:3 50:4"}, {5, 2, "0:1 4:2 6:3"},
		// One reading alone: the first At would be 0 again, and of any pace.
		{1, 1, "0:1"}, {1, 5, "0:1"}, {1, 1000, "0:1"},
	} {
		isGrown(t, c.n, c.pace, c.want)
		if got := impl.PlanText(impl.Growth(c.n, c.pace)); got != c.want {
			t.Errorf("the text of Growth(%d, %d) is %q, want %q", c.n, c.pace, got, c.want)
		}
	}
}

func TestGrowthRefuses(t *testing.T) {
	for _, wrong := range append([]int{0, -1, -2, -100, -1000, 1001, 1002, 2000, 1000000, 1<<32 + 1, 1<<32 + 50}, extremeInts...) {
		for _, right := range []int{1, 2, 10, 50, 100} {
			isGrown(t, right, wrong, "")
			isGrown(t, wrong, right, "")
		}
		isGrown(t, wrong, 1000, "")
		isGrown(t, wrong, wrong, "")
		isGrown(t, wrong, -wrong, "")
	}
	for _, pace := range []int{0, 1, 2, 100, 999, 1000, 1001} {
		isGrown(t, 101, pace, "")
		isGrown(t, 102, pace, "")
		isGrown(t, 999, pace, "")
		isGrown(t, 1000, pace, "")
		isGrown(t, 0, pace, "")
	}
	// The limits themselves are met.
	isGrown(t, 1, 1000, "0:1")
	isGrown(t, 100, 1, "0:1 50:2 66:3 75:4 80:5 83:6")
}

// TestGrowthByAPlainCount: all n at all paces.
func TestGrowthByAPlainCount(t *testing.T) {
	for n := -1; n <= 102; n++ {
		for pace := -1; pace <= 1002; pace++ {
			if got, want := impl.Growth(n, pace), slowGrowth(n, pace); !slices.Equal(got, want) {
				t.Errorf("Growth(%d, %d) = %v, want %v", n, pace, got, want)
			}
		}
	}
}

// TestGrowthEndsEarly: where an At isn't greater than the one ahead the plan ends, also where a later degree would come later again.
// That an At is beyond MaxTime never comes: 83 readings of a pace of 1000 are the most.
func TestGrowthEndsEarly(t *testing.T) {
	for _, pace := range []int{1, 2, 50, 1000} {
		at := func(k int) string { return strconv.Itoa(k * pace) }
		isGrown(t, 1, pace, "0:1")
		isGrown(t, 2, pace, "0:1 "+at(1)+":2")
		isGrown(t, 3, pace, "0:1 "+at(1)+":2 "+at(2)+":3")
		// The counts are 2, 2, 3, 3, 3: a step of Deg 4 would follow.
		isGrown(t, 4, pace, "0:1 "+at(2)+":2")
		// 2, 3, 3, 4, 4: one of Deg 5 would.
		isGrown(t, 5, pace, "0:1 "+at(2)+":2 "+at(3)+":3")
		// 3, 4, 4, 4, 5: one of Deg 6 would.
		isGrown(t, 6, pace, "0:1 "+at(3)+":2 "+at(4)+":3")
		// 5, 6, 7, 8, 8: it ends ahead of the last one.
		isGrown(t, 10, pace, "0:1 "+at(5)+":2 "+at(6)+":3 "+at(7)+":4 "+at(8)+":5")
	}
	early, again := 0, 0
	for n := 1; n <= 100; n++ {
		list := impl.Growth(n, 1)
		last := list[len(list)-1]
		if last.Deg == 6 {
			continue
		}
		early++
		if got := leastCount(n, last.Deg); got > last.At {
			t.Errorf("Growth(%d, 1) = %v ends ahead of %d", n, list, got)
		}
		if leastCount(n, 5) > last.At {
			again++
		}
		for _, s := range list {
			if s.At > 83 {
				t.Errorf("Growth(%d, 1) = %v", n, list)
			}
		}
	}
	if early == 0 || again == 0 {
		t.Errorf("%d plans end early, of %d a degree would come later again", early, again)
	}
}

// TestGrownPlansAreRight: each is a plan, begins with one, leaves no degree out, and goes by its pace.
func TestGrownPlansAreRight(t *testing.T) {
	for n := 1; n <= 100; n++ {
		slow := impl.Growth(n, 1)
		for _, pace := range []int{1, 2, 3, 10, 333, 1000} {
			list := impl.Growth(n, pace)
			isPlan(t, list, slowPlanText(list))
			if len(list) != len(slow) {
				t.Fatalf("Growth(%d, %d) = %v, and at pace 1 %v", n, pace, list, slow)
			}
			for i, s := range list {
				if s.Deg != i+1 || s.At != pace*slow[i].At {
					t.Errorf("step %d of Growth(%d, %d) is %v, and at pace 1 %v", i, n, pace, s, slow[i])
				}
			}
		}
	}
}

func TestPlanText(t *testing.T) {
	for _, c := range []struct {
		list []impl.Step
		want string
	}{
		{nil, ""}, {[]impl.Step{}, ""}, {plan(0), "0:1"}, {plan(0, 7), "0:1 7:2"}, {plan(0, 10, 200), "0:1 10:2 200:3"}, {[]impl.Step{step(0, 1), step(1000000, 6)}, "0:1 1000000:6"},
		{plan(0, 1, 10, 100, 1000, 10000), "0:1 1:2 10:3 100:4 1000:5 10000:6"},
		{plan(1), ""}, {plan(0, 0), ""}, {plan(0, 1000001), ""}, {[]impl.Step{step(0, 1), step(5, 7)}, ""}, {[]impl.Step{{}}, ""}, {[]impl.Step{step(0, 2)}, ""}, {plan(0, 1, 2, 3, 4, 5, 6), ""},
	} {
		if got := impl.PlanText(c.list); got != c.want {
			t.Errorf("PlanText(%v) = %q, want %q", c.list, got, c.want)
		}
	}
}

// TestDrawnPlans holds all that is told of drawn lists, of which many are plans but for one thing, against the slow rules.
func TestDrawnPlans(t *testing.T) {
	draw := rand.New(rand.NewSource(10))
	right := 0
	for range 20000 {
		var list []impl.Step
		at, deg := 0, 1
		for range draw.Intn(8) {
			list = append(list, step(at, deg))
			at += 1 + draw.Intn([]int{2, 10, 1000, 400000}[draw.Intn(4)])
			deg += 1 + draw.Intn(4)/3
		}
		if len(list) > 0 && draw.Intn(2) == 0 {
			wrong := &list[draw.Intn(len(list))]
			switch draw.Intn(3) {
			case 0:
				wrong.At += draw.Intn(21) - 10
			case 1:
				wrong.Deg += draw.Intn(5) - 2
			default:
				*wrong = list[draw.Intn(len(list))]
			}
		}
		isPlanOrNot(t, list)
		if slowPlanOk(list) {
			right++
		}
	}
	if right < 4000 || right > 16000 {
		t.Errorf("%d of 20000 lists are plans", right)
	}
}

// withStepRoom puts a list into a longer array, with steps of note ahead and behind, which would go on with it; it tells the list, and all of the array.
func withStepRoom(list []impl.Step) (part, all []impl.Step) {
	const ahead, behind = 3, 10
	all = slices.Repeat([]impl.Step{step(0, 1)}, ahead+len(list)+behind)
	copy(all[ahead:], list)
	for i := ahead + len(list); i < len(all); i++ {
		all[i] = step(900000+i, min(1+i-ahead, 6))
	}
	return all[ahead : ahead+len(list)], all
}

// TestPlansAreLeftAsTheyWere: nothing is written into a list, nor into the room behind it, and what stands there isn't taken for a part of it.
func TestPlansAreLeftAsTheyWere(t *testing.T) {
	for _, list := range append(manyPlans(), wrongPlans()...) {
		part, all := withStepRoom(list)
		was := slices.Clone(all)
		isPlanOrNot(t, part)
		if !slices.Equal(all, was) {
			t.Fatalf("%v became %v", was, all)
		}
		isPlanOrNot(t, slices.Clip(part))
	}
}

// TestPlanAnswersAreNewMemory: what is done to an answer is seen by no other one, neither one told ahead nor one told later.
func TestPlanAnswersAreNewMemory(t *testing.T) {
	for _, n := range []int{1, 2, 4, 5, 7, 10, 60, 100} {
		for _, pace := range []int{1, 10, 1000} {
			want := slowGrowth(n, pace)
			other := impl.Growth(n, pace)
			first := impl.Growth(n, pace)
			first = first[:cap(first)]
			for i := range first {
				first[i] = step(-3, -3)
			}
			next := impl.Growth(n, pace)
			if sharesRoom(other, first) || sharesRoom(first, next) || sharesRoom(other, next) {
				t.Errorf("Growth(%d, %d) tells the same memory twice", n, pace)
			}
			if !slices.Equal(other, want) || !slices.Equal(next, want) {
				t.Errorf("Growth(%d, %d) tells %v and %v, want %v", n, pace, other, next, want)
			}
			if first, next := impl.PlanText(want), impl.PlanText(want); sharesBytes(first, next) || sharesBytes(next, first) {
				t.Errorf("PlanText(%v) tells the same memory twice", want)
			}
		}
	}
}

// TestPlansThatChange: what was told of a list isn't kept; once it is another one, so is what is told.
func TestPlansThatChange(t *testing.T) {
	list := plan(0, 5, 9)
	text := impl.PlanText(list)
	isDegree(t, list, 5, 2)
	list[1] = step(6, 2)
	isDegree(t, list, 5, 1)
	isPlan(t, list, "0:1 6:2 9:3")
	list[0].Deg = 2
	notPlan(t, list)
	list[0].Deg = 1
	isPlan(t, list, "0:1 6:2 9:3")
	if text != "0:1 5:2 9:3" {
		t.Errorf("the first text became %q", text)
	}
}

// TestPlansAnswerAtAnyArguments: every function answers, whatever stands in its arguments, and the same when asked again.
func TestPlansAnswerAtAnyArguments(t *testing.T) {
	some := append([]int{0, 1, 2, 6, 7, 99, 100, 101, 999, 1000, 1001, 999999, 1000000, 1000001}, extremeInts...)
	for _, a := range some {
		for _, b := range some {
			s := step(a, b)
			for _, list := range [][]impl.Step{{s}, {s, s}, {step(0, 1), s}, {step(0, 1), s, step(b, a)}, {s, step(0, 1)}, {step(0, 1), step(5, 2), s}, {step(0, 1), s, step(1000000, 6)}} {
				isPlanOrNot(t, list)
				isPlanOrNot(t, list)
			}
			for range 2 {
				if got, want := impl.Growth(a, b), slowGrowth(a, b); !slices.Equal(got, want) {
					t.Errorf("Growth(%d, %d) = %v, want %v", a, b, got, want)
				}
			}
		}
	}
	ats := make([]int, 1000000)
	for i := range ats {
		ats[i] = i
	}
	notPlan(t, plan(ats...))
	notPlan(t, make([]impl.Step, 1000000))
	notPlan(t, slices.Repeat(plan(0, 1), 500000))
	if text := strings.Repeat(impl.PlanText(plan(0, 1)), 3); text != "0:1 1:20:1 1:20:1 1:2" {
		t.Errorf("asked behind long lists: %q", text)
	}
}
