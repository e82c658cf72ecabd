package tests

import (
	"fmt"
	"math"
	"math/rand"
	"slices"
	"strings"
	"testing"

	"loop.example/g00746/impl"
)

// slowStationOk tells whether a Station is right, without the functions of impl.
func slowStationOk(s impl.Station) bool {
	isId := func(n int) bool { return n > 0 && n < 21 }
	if !isId(s.Id) || s.Seq < 0 || s.Seq > 99 || s.Most < 1 || s.Most > 6 || len(s.Buf) > s.Most {
		return false
	}
	if s.Seq > 0 && (len(s.Own) != 1 || s.Own[0].Key != key(s.Id, s.Seq) || len(s.Own[0].Load) != 4) || s.Seq == 0 && len(s.Own) > 0 {
		return false
	}
	for i, x := range s.Buf {
		if !slowCodeOk(x) || len(x.Keys) == 0 || slices.ContainsFunc(s.Buf[i+1:], func(y impl.Code) bool { return sameCode(x, y) }) {
			return false
		}
	}
	var rising []int
	for id := range 21 {
		if isId(id) && id != s.Id && slices.Contains(s.Heard, id) {
			rising = append(rising, id)
		}
	}
	return slices.Equal(s.Heard, rising)
}

// slowSense tells what Sense does, without the functions of impl.
func slowSense(s impl.Station, load string) (impl.Station, bool) {
	s = copiedStation(s)
	if !slowStationOk(s) || !s.Alive || s.Seq == 99 || len(load) != 4 {
		return s, false
	}
	s.Seq++
	s.Own = []impl.Reading{reading(s.Id, s.Seq, load)}
	return s, true
}

// slowDraw tells the luck behind, and the place below n.
func slowDraw(luck, n int) (behind, at int) {
	behind = slowNext(luck)
	return behind, (behind >> 16) % n
}

// slowChoice tells the choice of a right Station that is Alive, at a degree.
func slowChoice(s impl.Station, deg int) []impl.Code {
	var choice []impl.Code
	if s.Seq > 0 {
		choice = append(choice, wordOf(s.Own))
	}
	for _, x := range s.Buf {
		if len(x.Keys) <= deg {
			choice = append(choice, x)
		}
	}
	return choice
}

// slowEmit tells what Emit does, without the functions of impl.
func slowEmit(s impl.Station, deg, luck int) (impl.Code, int) {
	if !slowStationOk(s) || !s.Alive || deg < 1 || deg > 6 || len(slowChoice(s, deg)) == 0 {
		return code(nil, noLoad), luck
	}
	choice := slowChoice(s, deg)
	behind, at := slowDraw(luck, len(choice))
	x := choice[at]
	if s.Seq > 0 && len(x.Keys) < deg && !slices.Contains(x.Keys, key(s.Id, s.Seq)) {
		x = slowSum(x, wordOf(s.Own))
	}
	return copied(x), behind
}

// slowHear tells what Hear does, without the functions of impl.
func slowHear(s impl.Station, x impl.Code, from, luck int) (impl.Station, int) {
	s = copiedStation(s)
	if !slowStationOk(s) || !s.Alive || !slowCodeOk(x) || len(x.Keys) == 0 || from < 1 || from > 20 || from == s.Id {
		return s, luck
	}
	if !slices.Contains(s.Heard, from) {
		s.Heard = append(s.Heard, from)
		slices.Sort(s.Heard)
	}
	if slices.ContainsFunc(s.Buf, func(y impl.Code) bool { return sameCode(x, y) }) {
		return s, luck
	}
	if len(s.Buf) < s.Most {
		s.Buf = append(s.Buf, copied(x))
		return s, luck
	}
	behind, at := slowDraw(luck, len(s.Buf))
	s.Buf[at] = copied(x)
	return s, behind
}

// copiedStation tells a Station in memory of its own.
func copiedStation(s impl.Station) impl.Station {
	s.Own = slices.Clone(s.Own)
	for i := range s.Own {
		s.Own[i].Load = strings.Clone(s.Own[i].Load)
	}
	buf := s.Buf
	s.Buf = nil
	for _, x := range buf {
		s.Buf = append(s.Buf, copied(x))
	}
	s.Heard = slices.Clone(s.Heard)
	return s
}

// sameStation tells whether two Stations are alike in all.
func sameStation(a, b impl.Station) bool {
	return a.Id == b.Id && a.Alive == b.Alive && a.Seq == b.Seq && a.Most == b.Most && slices.Equal(a.Own, b.Own) && slices.EqualFunc(a.Buf, b.Buf, sameCode) && slices.Equal(a.Heard, b.Heard)
}

func shownStation(s impl.Station) string {
	return fmt.Sprintf("(id %d, alive %v, seq %d, most %d, own %s, buf %s, heard %v of %d)", s.Id, s.Alive, s.Seq, s.Most, shownList(s.Own), shownWords(s.Buf), s.Heard[:min(len(s.Heard), 24)], len(s.Heard))
}

// isStationOk holds what StationOk tells of a Station, alive or dead, against what it should tell.
func isStationOk(t *testing.T, s impl.Station, want bool) {
	t.Helper()
	for _, s.Alive = range []bool{false, true} {
		if got := impl.StationOk(s); got != want || slowStationOk(s) != want {
			t.Errorf("StationOk = %v, want %v: %s", got, want, shownStation(s))
		}
	}
}

func isSensed(t *testing.T, s impl.Station, load string, want impl.Station, wantOk bool) {
	t.Helper()
	if got, ok := impl.Sense(s, load); ok != wantOk || !sameStation(got, want) {
		t.Errorf("Sense(%s, %.20q) = %s, %v, want %s, %v", shownStation(s), load, shownStation(got), ok, shownStation(want), wantOk)
	}
	if slow, ok := slowSense(s, load); ok != wantOk || !sameStation(slow, want) {
		t.Errorf("the slow rule tells %s, %v of %s and %.20q", shownStation(slow), ok, shownStation(s), load)
	}
}

func isEmitted(t *testing.T, s impl.Station, deg, luck int, want impl.Code, wantLuck int) {
	t.Helper()
	if got, behind := impl.Emit(s, deg, luck); behind != wantLuck || !sameCode(got, want) {
		t.Errorf("Emit(%s, %d, %d) = %s, %d, want %s, %d", shownStation(s), deg, luck, shownCode(got), behind, shownCode(want), wantLuck)
	}
	if slow, behind := slowEmit(s, deg, luck); behind != wantLuck || !sameCode(slow, want) {
		t.Errorf("the slow rule tells %s, %d of %s, %d and %d", shownCode(slow), behind, shownStation(s), deg, luck)
	}
}

// isEmittedRightly holds what Emit tells against the slow rule.
func isEmittedRightly(t *testing.T, s impl.Station, deg, luck int) {
	t.Helper()
	want, behind := slowEmit(s, deg, luck)
	isEmitted(t, s, deg, luck, want, behind)
}

// notEmitted demands that a Station passes nothing on, whatever the luck is, and that this stays.
func notEmitted(t *testing.T, s impl.Station, deg int) {
	t.Helper()
	for _, luck := range []int{0, 1, 7, lucks - 1, lucks, -1, math.MinInt64, math.MaxInt64} {
		isEmitted(t, s, deg, luck, code(nil, noLoad), luck)
	}
}

// isHeard holds what Hear tells against what it should tell, and demands that a right Station stays right.
func isHeard(t *testing.T, s impl.Station, x impl.Code, from, luck int, want impl.Station, wantLuck int) {
	t.Helper()
	got, behind := impl.Hear(s, x, from, luck)
	if behind != wantLuck || !sameStation(got, want) {
		t.Errorf("Hear(%s, %s, %d, %d) = %s, %d, want %s, %d", shownStation(s), shownCode(x), from, luck, shownStation(got), behind, shownStation(want), wantLuck)
	}
	if impl.StationOk(s) && !impl.StationOk(got) {
		t.Errorf("Hear(%s, %s, %d, %d) = %s, which isn't right", shownStation(s), shownCode(x), from, luck, shownStation(got))
	}
	if slow, behind := slowHear(s, x, from, luck); behind != wantLuck || !sameStation(slow, want) {
		t.Errorf("the slow rule tells %s, %d of %s, %s, %d and %d", shownStation(slow), behind, shownStation(s), shownCode(x), from, luck)
	}
}

// isHeardRightly holds what Hear tells against the slow rule, and tells it.
func isHeardRightly(t *testing.T, s impl.Station, x impl.Code, from, luck int) (impl.Station, int) {
	t.Helper()
	want, behind := slowHear(s, x, from, luck)
	isHeard(t, s, x, from, luck, want, behind)
	return want, behind
}

// notHeard demands that a Station stays as it was, whatever the luck is, and that this stays, too.
func notHeard(t *testing.T, s impl.Station, x impl.Code, from int) {
	t.Helper()
	for _, luck := range []int{0, 1, 7, lucks - 1, lucks, -1, math.MinInt64, math.MaxInt64} {
		isHeard(t, s, x, from, luck, s, luck)
	}
}

// fullStation is a right Station with something in each field: Buf is full, and Heard has the least and the greatest Id.
func fullStation() impl.Station {
	return impl.Station{Id: 3, Alive: true, Seq: 5, Most: 6, Own: []impl.Reading{reading(3, 5, "\x01\x02\x04\x08")}, Buf: waitingWords(6), Heard: []int{1, 2, 10, 20}}
}

// stationOf is a right Station of Id 3 that has read twice, with these in Buf, and no room besides.
func stationOf(buf ...impl.Code) impl.Station {
	return impl.Station{Id: 3, Alive: true, Seq: 2, Most: max(len(buf), 1), Own: []impl.Reading{reading(3, 2, "\x01\x02\x04\x08")}, Buf: buf}
}

// withoutOwn tells a Station as one that has read nothing.
func withoutOwn(s impl.Station) impl.Station {
	s.Seq, s.Own = 0, nil
	return s
}

// withId tells a Station under another Id, with its reading's Key as it should be then.
func withId(s impl.Station, id int) impl.Station {
	s.Id = id
	s.Own = slices.Clone(s.Own)
	for i := range s.Own {
		s.Own[i].Key.Node = id
	}
	return s
}

// dead tells a Station as a dead one.
func dead(s impl.Station) impl.Station {
	s.Alive = false
	return s
}

// risingIds lists 1 .. 20 without one of them.
func risingIds(without int) []int {
	var ids []int
	for id := 1; id <= 20; id++ {
		if id != without {
			ids = append(ids, id)
		}
	}
	return ids
}

// wrongStations are Stations that are Alive and aren't right, each by one thing alone.
func wrongStations() []impl.Station {
	full := fullStation()
	var wrong []impl.Station
	change := func(by func(s *impl.Station)) {
		s := copiedStation(full)
		by(&s)
		wrong = append(wrong, s)
	}
	for _, id := range []int{-1, 0, 21, math.MinInt64, math.MaxInt64} {
		change(func(s *impl.Station) { *s = withId(*s, id) })
	}
	for _, id := range []int{1, 10, 20} {
		change(func(s *impl.Station) { *s = withId(*s, id) })
	}
	for _, seq := range []int{-1, 100, math.MinInt64, math.MaxInt64} {
		change(func(s *impl.Station) { s.Seq, s.Own[0].Key.Seq = seq, seq })
		change(func(s *impl.Station) { s.Seq, s.Own = seq, nil })
	}
	for _, most := range []int{-1, 0, 5, 7, math.MinInt64, math.MaxInt64} {
		change(func(s *impl.Station) { s.Most = most })
		if most < 1 || most > 6 {
			change(func(s *impl.Station) { s.Most, s.Buf = most, nil })
		}
	}
	change(func(s *impl.Station) { s.Own = nil })
	change(func(s *impl.Station) { s.Seq = 0 })
	change(func(s *impl.Station) { s.Own = append(s.Own, reading(3, 6, "abcd")) })
	change(func(s *impl.Station) { s.Own[0].Key = key(3, 4) })
	change(func(s *impl.Station) { s.Own[0].Key = key(2, 5) })
	change(func(s *impl.Station) { s.Own[0].Load = "abc" })
	for _, x := range append(wrongWords()[:40], code(nil, noLoad), code([]impl.Key{}, noLoad), code(nil, "abcd"), waitingWords(1)[0]) {
		change(func(s *impl.Station) { s.Buf[5] = x })
		change(func(s *impl.Station) { s.Most, s.Buf = 2, []impl.Code{waitingWords(1)[0], x} })
	}
	for _, heard := range [][]int{{3}, {1, 3}, {0}, {21}, {0, 1}, {20, 21}, {2, 1}, {1, 1}, {1, 20, 2}, {-1}, {math.MaxInt64}, risingIds(0)} {
		change(func(s *impl.Station) { s.Heard = heard })
	}
	return append(wrong, impl.Station{Alive: true})
}

func TestMaxBuf(t *testing.T) {
	if impl.MaxBuf != 6 {
		t.Errorf("MaxBuf is %d", impl.MaxBuf)
	}
}

func TestStationOk(t *testing.T) {
	isStationOk(t, impl.Station{}, false)
	isStationOk(t, impl.Station{Id: 1, Most: 1}, true)
	isStationOk(t, impl.Station{Id: 1, Most: 1, Own: []impl.Reading{}, Buf: []impl.Code{}, Heard: []int{}}, true)
	isStationOk(t, fullStation(), true)
	isStationOk(t, stationOf(), true)
	for _, s := range wrongStations() {
		isStationOk(t, s, false)
	}
	for _, n := range append([]int{-21, -20, -3, -2, 3, 4, 5, 6, 7, 8, 18, 22, 40, 97, 101, 256, 259, 262}, nearLimits...) {
		inIds, inSeqs, inMosts := 1 <= n && n <= 20, 0 <= n && n <= 99, 1 <= n && n <= 6
		isStationOk(t, impl.Station{Id: n, Most: 1}, inIds)
		isStationOk(t, impl.Station{Id: 1, Most: n}, inMosts)
		isStationOk(t, impl.Station{Id: 1, Seq: n, Most: 1}, n == 0)
		isStationOk(t, impl.Station{Id: 1, Seq: n, Most: 1, Own: []impl.Reading{reading(1, n, "abcd")}}, inSeqs && n > 0)
		s := fullStation()
		s.Heard = nil
		isStationOk(t, withId(s, n), inIds)
		s.Most = n
		isStationOk(t, s, n == 6)
		s = fullStation()
		s.Seq, s.Own[0].Key.Seq = n, n
		isStationOk(t, s, inSeqs && n > 0)
	}
}

// TestStationOkOfOwn: none where Seq is 0, else one, of that Id and that Seq, of a Load of four bytes.
func TestStationOkOfOwn(t *testing.T) {
	for id := 1; id <= 20; id++ {
		for seq := 0; seq <= 99; seq++ {
			s := impl.Station{Id: id, Seq: seq, Most: 1}
			isStationOk(t, s, seq == 0)
			for _, k := range []impl.Key{key(id, seq), key(id, seq+1), key(id, seq-1), key(id+1, seq), key(id-1, seq), key(seq, id), key(id, 0), key(id, 1), key(1, 1)} {
				s.Own = []impl.Reading{{Key: k, Load: "abcd"}}
				isStationOk(t, s, seq > 0 && k == key(id, seq))
			}
		}
	}
	one := reading(3, 5, "abcd")
	with := func(seq int, own ...impl.Reading) impl.Station {
		s := fullStation()
		s.Seq, s.Own = seq, own
		return s
	}
	isStationOk(t, with(5, one), true)
	isStationOk(t, with(0), true)
	for _, other := range []impl.Reading{one, reading(3, 5, "wxyz"), reading(3, 4, "abcd"), reading(3, 6, "abcd"), reading(4, 5, "abcd"), {}} {
		isStationOk(t, with(5, one, other), false)
		isStationOk(t, with(5, other, one), false)
		isStationOk(t, with(0, one, other), false)
		isStationOk(t, with(0, other), false)
		isStationOk(t, with(6, other, other), false)
	}
	for _, load := range rightLoads {
		isStationOk(t, with(5, reading(3, 5, load)), true)
	}
	for _, load := range wrongLoads {
		isStationOk(t, with(5, reading(3, 5, load)), false)
		isStationOk(t, with(0, reading(3, 5, load)), false)
	}
	for _, r := range wrongReadings() {
		isStationOk(t, with(r.Key.Seq, r), false)
		isStationOk(t, impl.Station{Id: r.Key.Node, Seq: r.Key.Seq, Most: 1, Own: []impl.Reading{r}}, false)
	}
}

// TestStationOkOfHowManyCodes: at most Most stand in Buf, whatever Most is.
func TestStationOkOfHowManyCodes(t *testing.T) {
	for most := 1; most <= 6; most++ {
		for n := range 9 {
			isStationOk(t, impl.Station{Id: 1, Most: most, Buf: waitingWords(n)}, n <= most)
			s := fullStation()
			s.Most, s.Buf = most, waitingWords(n)
			isStationOk(t, s, n <= most)
			// What stands in the room behind is none of them.
			s.Buf = waitingWords(9)[:n]
			isStationOk(t, s, n <= most)
		}
	}
}

func TestStationOkOfCodes(t *testing.T) {
	with := func(x impl.Code, at int) impl.Station {
		s := fullStation()
		s.Buf = slices.Insert(waitingWords(4), at, x)
		return s
	}
	for at := range 5 {
		for _, x := range wrongWords() {
			isStationOk(t, with(x, at), false)
			isStationOk(t, impl.Station{Id: 1, Most: 1, Buf: []impl.Code{x}}, false)
		}
		isStationOk(t, with(code(nil, noLoad), at), false)
		isStationOk(t, with(code([]impl.Key{}, noLoad), at), false)
		for n := 1; n <= 8; n++ {
			isStationOk(t, with(wordOf(eightReadings[:n]), at), n <= 6)
			isStationOk(t, with(code(wordOf(eightReadings[8-n:]).Keys, noLoad), at), n <= 6)
		}
		// Of the station itself, too: its own reading, another Load of it, and others.
		isStationOk(t, with(word("3.5", "\x01\x02\x04\x08"), at), true)
		isStationOk(t, with(word("3.5", "abcd"), at), true)
		isStationOk(t, with(word("3.6", "abcd"), at), true)
		// The same Code twice, one behind the other or not; another Load, or a Key more or less, is another Code.
		for _, x := range waitingWords(4) {
			isStationOk(t, with(x, at), false)
			for i := range 32 {
				load := []byte(x.Load)
				load[i/8] ^= 1 << (i % 8)
				isStationOk(t, with(code(x.Keys, string(load)), at), true)
			}
			isStationOk(t, with(code(append(slices.Clone(x.Keys), key(20, 1)), x.Load), at), true)
			isStationOk(t, with(code(append([]impl.Key{key(1, 1)}, x.Keys...), x.Load), at), true)
			isStationOk(t, with(code(append([]impl.Key{key(1, 1)}, x.Keys[1:]...), x.Load), at), true)
			isStationOk(t, with(code(x.Keys[1:], x.Load), at), true)
			isStationOk(t, with(code(x.Keys[:1], x.Load), at), true)
		}
	}
	isStationOk(t, impl.Station{Id: 1, Most: 2, Buf: []impl.Code{word("1.1", noLoad), word("1.1", noLoad)}}, false)
	isStationOk(t, impl.Station{Id: 1, Most: 2, Buf: []impl.Code{word("1.1", noLoad), word("1.2", noLoad)}}, true)
	isStationOk(t, impl.Station{Id: 1, Most: 2, Buf: []impl.Code{word("1.1", noLoad), word("2.1", noLoad)}}, true)
}

// TestStationOkOfHeard goes through all lists of up to three numbers of some, and through those that have nearly all.
func TestStationOkOfHeard(t *testing.T) {
	for _, id := range []int{1, 2, 3, 19, 20} {
		s := withId(fullStation(), id)
		for _, heard := range listsOf([]int{-1, 0, 1, 2, 3, 4, 11, 19, 20, 21, 22}, 3) {
			s.Heard = heard
			isStationOk(t, s, slowStationOk(s))
		}
		for other := range 22 {
			s.Heard = []int{other}
			isStationOk(t, s, 1 <= other && other <= 20 && other != id)
			s.Heard = risingIds(other)
			isStationOk(t, s, other == id)
			s.Heard = slices.DeleteFunc(risingIds(id), func(n int) bool { return n == other })
			isStationOk(t, s, true)
		}
		for at := range 20 {
			for _, n := range append([]int{0, id, 21}, extremeInts...) {
				s.Heard = slices.Insert(risingIds(id), at, n)
				isStationOk(t, s, false)
			}
			if at < 19 {
				s.Heard = risingIds(id)
				s.Heard = slices.Insert(s.Heard, at, s.Heard[at])
				isStationOk(t, s, false)
			}
			if at < 18 {
				s.Heard = risingIds(id)
				s.Heard[at], s.Heard[at+1] = s.Heard[at+1], s.Heard[at]
				isStationOk(t, s, false)
			}
		}
	}
}

func TestNewStation(t *testing.T) {
	var some []int
	for n := -3; n <= 24; n++ {
		some = append(some, n)
	}
	some = append(append(some, nearLimits...), extremeInts...)
	for _, id := range some {
		for _, most := range some {
			var want impl.Station
			if 1 <= id && id <= 20 && 1 <= most && most <= 6 {
				want = impl.Station{Id: id, Alive: true, Most: most}
				isStationOk(t, want, true)
			}
			if got := impl.NewStation(id, most); !sameStation(got, want) {
				t.Errorf("NewStation(%d, %d) = %s", id, most, shownStation(got))
			}
		}
	}
}

func TestSense(t *testing.T) {
	s := impl.NewStation(7, 3)
	for seq := 1; seq <= 99; seq++ {
		load := rightLoads[seq%len(rightLoads)]
		want := impl.Station{Id: 7, Alive: true, Seq: seq, Most: 3, Own: []impl.Reading{reading(7, seq, load)}}
		isSensed(t, s, load, want, true)
		isStationOk(t, want, true)
		s, _ = impl.Sense(s, load)
		if !impl.StationOk(s) {
			t.Errorf("Sense tells %s, which isn't right", shownStation(s))
		}
	}
	// There are no more numbers.
	for _, load := range rightLoads {
		isSensed(t, s, load, s, false)
	}
	// What is kept besides stays: Buf, full or not, Heard, Id and Most.
	for n := range 7 {
		for _, heard := range [][]int{nil, {1}, {1, 2, 10, 20}, risingIds(3)} {
			s := fullStation()
			s.Buf, s.Heard = waitingWords(n), heard
			want := copiedStation(s)
			want.Seq, want.Own = 6, []impl.Reading{reading(3, 6, "wxyz")}
			isSensed(t, s, "wxyz", want, true)
			want.Seq, want.Own = 1, []impl.Reading{reading(3, 1, "wxyz")}
			isSensed(t, withoutOwn(s), "wxyz", want, true)
		}
	}
	// The same Load once more is another reading.
	again := fullStation()
	again.Seq, again.Own = 6, []impl.Reading{reading(3, 6, "\x01\x02\x04\x08")}
	isSensed(t, fullStation(), "\x01\x02\x04\x08", again, true)
	for id := 1; id <= 20; id++ {
		for most := 1; most <= 6; most++ {
			isSensed(t, impl.Station{Id: id, Alive: true, Most: most}, noLoad, impl.Station{Id: id, Alive: true, Seq: 1, Most: most, Own: []impl.Reading{reading(id, 1, noLoad)}}, true)
		}
	}
}

func TestSenseRefuses(t *testing.T) {
	for _, s := range []impl.Station{fullStation(), stationOf(), impl.NewStation(1, 1), impl.NewStation(20, 6)} {
		for _, load := range wrongLoads {
			isSensed(t, s, load, s, false)
			isSensed(t, dead(s), load, dead(s), false)
		}
		for _, load := range rightLoads {
			isSensed(t, dead(s), load, dead(s), false)
		}
	}
	for _, s := range wrongStations() {
		for _, load := range []string{"abcd", noLoad, "", "abc"} {
			isSensed(t, s, load, s, false)
			isSensed(t, dead(s), load, dead(s), false)
		}
	}
	last := fullStation()
	last.Seq, last.Own[0].Key.Seq = 98, 98
	isStationOk(t, last, true)
	if _, ok := impl.Sense(last, "abcd"); !ok {
		t.Error("the last reading isn't taken")
	}
	last.Seq, last.Own[0].Key.Seq = 99, 99
	isStationOk(t, last, true)
	isSensed(t, last, "abcd", last, false)
}

// TestEmit holds Emit against answers worked out apart. The places that the lucks draw of 1, 2, 3 and 4 are 0 0 0 0 of luck 0, 0 0 2 2 of 1, 0 1 2 3 of 3, 0 1 1 3 of 5 and 0 0 1 0 of 7.
func TestEmit(t *testing.T) {
	two, three := word("1.1,2.1", "\x10\x00\x00\x00"), word("1.1,2.1,4.1", "\x70\x00\x00\x00")
	s := stationOf(two, three, word("3.1", "\x00\x00\x00\x70"))
	own := word("3.2", "\x01\x02\x04\x08")
	// At degree 1 there are its own and the last one; the drawn one has as many Keys as may be.
	isEmitted(t, s, 1, 0, own, 12345)
	isEmitted(t, s, 1, 3, word("3.1", "\x00\x00\x00\x70"), 1163074432)
	// At degree 2 there are three; what has two Keys stays as it is, what has one gets another one.
	isEmitted(t, s, 2, 0, own, 12345)
	isEmitted(t, s, 2, 7, two, 1282168116)
	isEmitted(t, s, 2, 3, word("3.1,3.2", "\x01\x02\x04\x78"), 1163074432)
	// At degree 3 there are all four.
	isEmitted(t, s, 3, 7, own, 1282168116)
	isEmitted(t, s, 3, 1, three, 1103527590)
	isEmitted(t, s, 3, 5, word("3.1,3.2", "\x01\x02\x04\x78"), 1222621274)
	// Above it what has three Keys gets a fourth, at its place.
	isEmitted(t, s, 4, 1, word("1.1,2.1,3.2,4.1", "\x71\x02\x04\x08"), 1103527590)
	isEmitted(t, s, 6, 1, word("1.1,2.1,3.2,4.1", "\x71\x02\x04\x08"), 1103527590)
	isEmitted(t, s, 6, 0, own, 12345)
	// Without its own there are but three, and they stay as they are.
	s = withoutOwn(s)
	isEmitted(t, s, 1, 3, word("3.1", "\x00\x00\x00\x70"), 1163074432)
	isEmitted(t, s, 2, 0, two, 12345)
	isEmitted(t, s, 3, 7, three, 1282168116)
	isEmitted(t, s, 6, 7, three, 1282168116)
	isEmitted(t, s, 6, 3, word("3.1", "\x00\x00\x00\x70"), 1163074432)
}

// TestEmitOfItsKey: a word with the Key of Own stays as it is, whatever its Load is; one of the same station's Key of another Seq doesn't.
func TestEmitOfItsKey(t *testing.T) {
	for _, c := range []struct{ had, keys string }{
		{"3.2", "3.2"}, {"1.1,3.2", "1.1,3.2"}, {"3.2,4.1", "3.2,4.1"}, {"1.1,3.2,20.99", "1.1,3.2,20.99"}, {"3.1,3.2,3.3", "3.1,3.2,3.3"},
		{"3.1", "3.1,3.2"}, {"3.3", "3.2,3.3"}, {"2.2", "2.2,3.2"}, {"4.2", "3.2,4.2"}, {"2.3", "2.3,3.2"}, {"1.1,20.99", "1.1,3.2,20.99"}, {"3.1,3.3,3.99", "3.1,3.2,3.3,3.99"},
	} {
		for _, load := range []string{"\xf0\x00\x00\x00", "\x01\x02\x04\x08", noLoad} {
			had, want := word(c.had, load), word(c.keys, load)
			if c.had != c.keys {
				want.Load = slowOr(load, "\x01\x02\x04\x08")
			}
			// Of two, luck 3 draws the one behind.
			isEmitted(t, stationOf(had), 6, 3, want, 1163074432)
			isEmitted(t, stationOf(had), len(had.Keys), 3, had, 1163074432)
			isEmitted(t, stationOf(had), len(had.Keys)+1, 3, want, 1163074432)
			isEmitted(t, withoutOwn(stationOf(had)), 6, 3, had, 1163074432)
		}
	}
}

// TestEmitOfDegrees: words of each degree, at each degree, with and without the Key of Own.
func TestEmitOfDegrees(t *testing.T) {
	own := word("3.2", "\x01\x02\x04\x08")
	for n := 1; n <= 6; n++ {
		for _, with := range []bool{true, false} {
			var keys []impl.Key
			for i := range n {
				keys = append(keys, key(3, 2+i))
				if !with {
					keys[i] = key(5, 2+i)
				}
			}
			had := code(keys, "\x80\x40\x20\x10")
			s := stationOf(had)
			for deg := 1; deg <= 6; deg++ {
				want := had
				switch {
				case deg < n:
					// There is but its own, so that it is drawn by any luck.
					want = own
				case deg > n && !with:
					want = code(append([]impl.Key{key(3, 2)}, keys...), "\x81\x42\x24\x18")
				}
				isEmitted(t, s, deg, 3, want, 1163074432)
				isEmitted(t, s, deg, 0, own, 12345)
				if deg < n {
					notEmitted(t, withoutOwn(s), deg)
				} else {
					isEmitted(t, withoutOwn(s), deg, 3, had, 1163074432)
				}
			}
		}
	}
}

// TestEmitOfAFullBuf: of six and its own each is drawn, by some luck, and where some are too long the places are those of the others.
func TestEmitOfAFullBuf(t *testing.T) {
	s := stationOf(word("4.1,4.2,4.3", "aaaa"), word("5.1", "bbbb"), word("6.1,6.2", "cccc"), word("7.1", "dddd"), word("8.1,8.2,8.3,8.4", "eeee"), word("9.1,9.2", "ffff"))
	for deg := 1; deg <= 6; deg++ {
		for _, s := range []impl.Station{s, withoutOwn(s)} {
			choice := slowChoice(s, deg)
			drawn := make([]int, len(choice))
			for luck := range 200 {
				isEmittedRightly(t, s, deg, luck)
				_, at := slowDraw(luck, len(choice))
				drawn[at]++
				// What is told has just the Keys of the one that was drawn, but for those of its own.
				x, _ := impl.Emit(s, deg, luck)
				left := slices.DeleteFunc(slices.Clone(x.Keys), func(k impl.Key) bool { return k == key(3, 2) && choice[at].Keys[0] != k })
				if !slices.Equal(left, choice[at].Keys) {
					t.Errorf("Emit(%s, %d, %d) = %s", shownStation(s), deg, luck, shownCode(x))
				}
			}
			if slices.Min(drawn) == 0 {
				t.Errorf("of %d at degree %d were drawn %v", len(choice), deg, drawn)
			}
		}
	}
	counts := map[int]int{1: 3, 2: 5, 3: 6, 4: 7, 5: 7, 6: 7}
	for deg, count := range counts {
		if n := len(slowChoice(s, deg)); n != count {
			t.Errorf("at degree %d there are %d, want %d", deg, n, count)
		}
	}
}

// TestEmitOfItsOwnInBuf: where Buf has the word of its own, too, that stands in the choice twice.
func TestEmitOfItsOwnInBuf(t *testing.T) {
	s := stationOf(word("3.2", "\x01\x02\x04\x08"), word("9.1", "abcd"))
	isEmitted(t, s, 1, 7, word("3.2", "\x01\x02\x04\x08"), 1282168116)
	isEmitted(t, s, 1, 3, word("9.1", "abcd"), 1163074432)
	isEmitted(t, s, 2, 3, word("3.2,9.1", "\x60\x60\x67\x6c"), 1163074432)
}

func TestEmitRefuses(t *testing.T) {
	right := []impl.Station{fullStation(), stationOf(), stationOf(word("1.1", "abcd")), withoutOwn(fullStation())}
	for _, s := range right {
		for _, deg := range append([]int{-6, -2, -1, 0, 7, 8, 256, 257, 262, 1<<32 + 1, 1<<32 + 6}, extremeInts...) {
			notEmitted(t, s, deg)
		}
		for deg := -1; deg <= 8; deg++ {
			notEmitted(t, dead(s), deg)
		}
	}
	for _, s := range wrongStations() {
		for _, deg := range []int{-1, 0, 1, 2, 6, 7} {
			notEmitted(t, s, deg)
			notEmitted(t, dead(s), deg)
		}
	}
	// Nothing is there to be passed on, or nothing that is short enough.
	for deg := 1; deg <= 6; deg++ {
		notEmitted(t, impl.NewStation(3, 6), deg)
		notEmitted(t, impl.Station{Id: 20, Alive: true, Most: 1, Heard: []int{1}}, deg)
	}
	long := withoutOwn(stationOf(wordOf(eightReadings[:6]), wordOf(eightReadings[2:8]), wordOf(eightReadings[1:6])))
	for deg := 1; deg <= 4; deg++ {
		notEmitted(t, long, deg)
	}
	isEmitted(t, long, 5, 3, wordOf(eightReadings[1:6]), 1163074432)
}

// TestEmitOfLucks: lucks that are out of range draw as their lowest 31 bits do, and what is behind is a luck.
func TestEmitOfLucks(t *testing.T) {
	s := stationOf(word("1.1", "abcd"), word("2.1", "abcd"), word("4.1", "abcd"), word("5.1", "abcd"))
	for _, luck := range someLucks {
		for _, s := range []impl.Station{s, withoutOwn(s), stationOf(), fullStation()} {
			for deg := 1; deg <= 6; deg++ {
				isEmittedRightly(t, s, deg, luck)
				// Of one alone, too, the luck goes on.
				if _, behind := impl.Emit(s, deg, luck); len(slowChoice(s, deg)) > 0 && (behind != slowNext(luck) || !isLuck(behind)) {
					t.Errorf("Emit(%s, %d, %d) leaves %d", shownStation(s), deg, luck, behind)
				}
			}
		}
	}
	isEmitted(t, stationOf(), 1, -1, word("3.2", "\x01\x02\x04\x08"), 1043980748)
	isEmitted(t, stationOf(), 1, lucks, word("3.2", "\x01\x02\x04\x08"), 12345)
	isEmitted(t, s, 1, -1, word("5.1", "abcd"), 1043980748)
	isEmitted(t, s, 1, math.MinInt64, word("3.2", "\x01\x02\x04\x08"), 12345)
	isEmitted(t, s, 2, lucks+1, word("3.2,4.1", "\x60\x60\x67\x6c"), 1103527590)
}

// someWords are words of all degrees, with the Key 3.2 and without it, some of the same Keys.
var someWords = []impl.Code{
	word("3.2", "\x01\x02\x04\x08"), word("3.2", "abcd"), word("3.1", "wxyz"), word("20.99", noLoad), word("1.1,2.1", "abcd"), word("1.1,2.1", "wxyz"), word("1.1,3.2", "\x00\x00\xff\x00"),
	word("1.1,2.1,4.1", "abcd"), word("1.1,2.1,3.2,4.1", "defg"), word("1.1,1.2,1.3,1.4,1.5", "hijk"), word("1.1,1.2,1.3,3.2,4.1", "lmno"), word("1.1,1.2,1.3,3.3,4.1,5.1", "pqrs"),
}

// shortBufs lists all lists of up to three of some words, no two of which are the same.
func shortBufs() [][]impl.Code {
	places := make([]int, len(someWords))
	for i := range places {
		places[i] = i
	}
	var bufs [][]impl.Code
next:
	for _, list := range listsOf(places, 3) {
		var buf []impl.Code
		for i, at := range list {
			if slices.Contains(list[:i], at) {
				continue next
			}
			buf = append(buf, someWords[at])
		}
		bufs = append(bufs, buf)
	}
	return bufs
}

func TestEmitOfShortBufs(t *testing.T) {
	for _, buf := range shortBufs() {
		for deg := 1; deg <= 6; deg++ {
			for _, luck := range []int{0, 1, 3, 5, 7, 9} {
				isEmittedRightly(t, stationOf(buf...), deg, luck)
				isEmittedRightly(t, withoutOwn(stationOf(buf...)), deg, luck)
			}
		}
	}
}

// TestHear holds Hear against answers worked out apart.
func TestHear(t *testing.T) {
	a, b, c, d := word("1.1,2.1", "abcd"), word("4.1", "wxyz"), word("3.2", "abcd"), word("1.1,2.1", "wxyz")
	s := impl.NewStation(3, 3)
	with := func(heard []int, buf ...impl.Code) impl.Station {
		return impl.Station{Id: 3, Alive: true, Most: 3, Buf: buf, Heard: heard}
	}
	isHeard(t, s, a, 10, 7, with([]int{10}, a), 7)
	s = with([]int{10}, a)
	// The same Code once more, from the same one and from others.
	isHeard(t, s, a, 10, 7, s, 7)
	isHeard(t, s, a, 2, 7, with([]int{2, 10}, a), 7)
	isHeard(t, s, a, 20, 7, with([]int{10, 20}, a), 7)
	// Another one, from the same one and from others; one of the same Keys and another Load is another one.
	isHeard(t, s, b, 10, 7, with([]int{10}, a, b), 7)
	isHeard(t, s, b, 1, 7, with([]int{1, 10}, a, b), 7)
	isHeard(t, s, d, 11, 7, with([]int{10, 11}, a, d), 7)
	// With room for one, then with none.
	isHeard(t, with(nil, b, a), d, 4, 7, with([]int{4}, b, a, d), 7)
	s = with([]int{1, 5}, a, b, c)
	isHeard(t, s, c, 2, 7, with([]int{1, 2, 5}, a, b, c), 7)
	isHeard(t, s, a, 5, 7, s, 7)
	// Of three places luck 0 draws the first, 7 the second, 3 the last.
	isHeard(t, s, d, 2, 0, with([]int{1, 2, 5}, d, b, c), 12345)
	isHeard(t, s, d, 5, 7, with([]int{1, 5}, a, d, c), 1282168116)
	isHeard(t, s, d, 20, 3, with([]int{1, 5, 20}, a, b, d), 1163074432)
	// Where there is room for one alone it is the one that goes, and a place is drawn all the same.
	one := impl.Station{Id: 3, Alive: true, Most: 1, Buf: []impl.Code{a}}
	isHeard(t, one, b, 2, 7, impl.Station{Id: 3, Alive: true, Most: 1, Buf: []impl.Code{b}, Heard: []int{2}}, 1282168116)
	isHeard(t, one, a, 2, 7, impl.Station{Id: 3, Alive: true, Most: 1, Buf: []impl.Code{a}, Heard: []int{2}}, 7)
}

// TestHearOfEachPlace: of a full Buf each one goes by some luck, the others stay as they are, and a Code that is there already takes no place.
func TestHearOfEachPlace(t *testing.T) {
	for most := 1; most <= 6; most++ {
		for n := range most + 1 {
			s := fullStation()
			s.Most, s.Buf = most, waitingWords(n)
			drawn := make([]int, most)
			for luck := range 100 {
				next, behind := isHeardRightly(t, s, word("3.5", "abcd"), 4, luck)
				if n < most {
					if behind != luck || len(next.Buf) != n+1 {
						t.Errorf("of %d in room for %d became %s, luck %d behind %d", n, most, shownStation(next), behind, luck)
					}
					continue
				}
				for at := range next.Buf {
					if !sameCode(next.Buf[at], s.Buf[at]) {
						drawn[at]++
					}
				}
				if behind != slowNext(luck) || len(next.Buf) != n {
					t.Errorf("of %d in room for %d became %s, luck %d behind %d", n, most, shownStation(next), behind, luck)
				}
			}
			if n == most && slices.Min(drawn) == 0 {
				t.Errorf("of %d places were drawn %v", n, drawn)
			}
			for at, x := range s.Buf {
				next, behind := isHeardRightly(t, s, x, 4, 9)
				if behind != 9 || len(next.Buf) != n {
					t.Errorf("the Code at %d of %d once more leaves %s and %d", at, n, shownStation(next), behind)
				}
				// Nearly that Code is another one.
				isHeardRightly(t, s, code(x.Keys, noLoad), 4, 9)
				isHeardRightly(t, s, code(x.Keys, slowOr(x.Load, "\x00\x00\x00\x01")), 4, 9)
				isHeardRightly(t, s, code(x.Keys[1:], x.Load), 4, 9)
				isHeardRightly(t, s, code(x.Keys[:len(x.Keys)-1], x.Load), 4, 9)
				isHeardRightly(t, s, code(append([]impl.Key{key(1, 1)}, x.Keys[1:]...), x.Load), 4, 9)
			}
		}
	}
}

// TestHearFromEach: whoever it came from stands in Heard once, at the right place, be the Code new, there already, or without room.
func TestHearFromEach(t *testing.T) {
	for _, id := range []int{1, 2, 10, 19, 20} {
		for _, heard := range [][]int{nil, {3}, {3, 4}, {3, 7, 11, 18}, {4, 18}, risingIds(id), slices.DeleteFunc(risingIds(id), func(n int) bool { return n%3 == 0 })} {
			for _, most := range []int{1, 2} {
				s := impl.Station{Id: id, Alive: true, Most: most, Buf: waitingWords(1), Heard: heard}
				for from := -1; from <= 22; from++ {
					for _, x := range []impl.Code{waitingWords(1)[0], word("5.5", "abcd")} {
						next, _ := isHeardRightly(t, s, x, from, 5)
						if from < 1 || from > 20 || from == id {
							notHeard(t, s, x, from)
							continue
						}
						count := 0
						for _, n := range next.Heard {
							if n == from {
								count++
							}
						}
						if count != 1 || !slices.IsSorted(next.Heard) || len(next.Heard) < len(heard) || len(next.Heard) > len(heard)+1 {
							t.Errorf("from %d to %s: heard are %v", from, shownStation(s), next.Heard)
						}
					}
				}
			}
		}
	}
}

func TestHearRefuses(t *testing.T) {
	x := word("5.5", "abcd")
	for _, s := range []impl.Station{fullStation(), stationOf(), impl.NewStation(3, 6), stationOf(word("1.1", "abcd"), word("1.2", "abcd"))} {
		notHeard(t, dead(s), x, 4)
		notHeard(t, dead(s), x, 3)
		notHeard(t, dead(s), code(nil, noLoad), 4)
		for _, from := range append([]int{-20, -4, -2, -1, 0, 3, 21, 22, 256, 257, 260, 276, 1<<32 + 1, 1<<32 + 4}, extremeInts...) {
			notHeard(t, s, x, from)
			notHeard(t, dead(s), x, from)
		}
		for _, wrong := range append(wrongWords(), code(nil, noLoad), code([]impl.Key{}, noLoad), wordOf(eightReadings[:7])) {
			isHeard(t, s, wrong, 4, 7, s, 7)
			isHeard(t, s, wrong, 20, -1, s, -1)
			isHeard(t, s, wrong, 0, lucks, s, lucks)
		}
		for from := 1; from <= 20; from++ {
			if from != 3 {
				if next, _ := impl.Hear(s, x, from, 7); !slices.Contains(next.Heard, from) {
					t.Errorf("what came from %d isn't heard", from)
				}
			}
		}
	}
	for _, s := range wrongStations() {
		for _, from := range []int{1, 4, 20, 0} {
			isHeard(t, s, x, from, 7, s, 7)
			isHeard(t, dead(s), x, from, 7, dead(s), 7)
			isHeard(t, s, waitingWords(1)[0], from, -7, s, -7)
		}
	}
}

// TestHearOfLucks: lucks that are out of range draw as their lowest 31 bits do; where nothing is drawn they stay.
func TestHearOfLucks(t *testing.T) {
	full, roomy := fullStation(), fullStation()
	roomy.Buf = roomy.Buf[:5]
	for _, luck := range someLucks {
		if _, behind := isHeardRightly(t, full, word("5.5", "abcd"), 4, luck); behind != slowNext(luck) || !isLuck(behind) {
			t.Errorf("luck %d leaves %d", luck, behind)
		}
		for _, x := range full.Buf {
			if _, behind := isHeardRightly(t, full, x, 4, luck); behind != luck {
				t.Errorf("what is there already draws: luck %d leaves %d", luck, behind)
			}
		}
		if _, behind := isHeardRightly(t, roomy, word("5.5", "abcd"), 4, luck); behind != luck {
			t.Errorf("what has room draws: luck %d leaves %d", luck, behind)
		}
	}
}

func TestHearOfShortBufs(t *testing.T) {
	for i, buf := range shortBufs() {
		for most := max(len(buf), 1); most <= len(buf)+1; most++ {
			s := stationOf(buf...)
			s.Most = most
			for _, x := range someWords {
				isHeardRightly(t, s, x, 1+i%20, i)
				isHeardRightly(t, withoutOwn(s), x, 20-i%20, i)
			}
		}
	}
}

// isPassedOnRightly demands of a right Station of which all holds that what it passes on at any degree is right, no longer than that, and holds; of degree 0 only where there is no choice.
func isPassedOnRightly(t *testing.T, s impl.Station, truth []impl.Reading, luck int) {
	t.Helper()
	for deg := 1; deg <= 6; deg++ {
		x, _ := impl.Emit(s, deg, luck)
		isEmittedRightly(t, s, deg, luck)
		if !slowCodeOk(x) || len(x.Keys) > deg || (len(x.Keys) == 0) != (len(slowChoice(s, deg)) == 0) {
			t.Errorf("Emit(%s, %d, %d) = %s", shownStation(s), deg, luck, shownCode(x))
		}
		var own []impl.Reading
		for _, r := range truth {
			if slices.Contains(x.Keys, r.Key) {
				own = append(own, r)
			}
		}
		if !sameCode(x, wordOf(own)) || !impl.Holds(x, truth) {
			t.Errorf("Emit(%s, %d, %d) = %s, which doesn't hold", shownStation(s), deg, luck, shownCode(x))
		}
	}
}

// TestStationsAtWork lets stations read, hear what holds, and pass on: each stays right, keeps what it read last, and what it passes on holds; behind its death it does nothing.
func TestStationsAtWork(t *testing.T) {
	draw := rand.New(rand.NewSource(12))
	read, drawn, known := 0, 0, 0
	for round := range 300 {
		s := impl.NewStation(1+draw.Intn(20), 1+draw.Intn(6))
		others := drawnTruth(draw, 1+draw.Intn(12))
		others = slices.DeleteFunc(others, func(r impl.Reading) bool { return r.Key.Node == s.Id })
		truth := slices.Clone(others)
		luck := draw.Intn(lucks)
		last := ""
		for range 60 {
			if draw.Intn(3) == 0 {
				last = string([]byte{byte(draw.Intn(256)), 1, 2, byte(draw.Intn(256))})
				want, ok := slowSense(s, last)
				isSensed(t, s, last, want, ok)
				s = want
				truth = append(truth, s.Own...)
				slices.SortFunc(truth, slowOrder)
				read++
			} else if len(truth) > 0 {
				x := drawnWord(draw, truth, 1+round%6, 0)
				if !slices.ContainsFunc(s.Buf, func(y impl.Code) bool { return sameCode(x, y) }) && len(s.Buf) == s.Most {
					drawn++
				}
				if slices.ContainsFunc(x.Keys, func(k impl.Key) bool { return k.Node == s.Id }) {
					known++
				}
				from := 1 + draw.Intn(20)
				was := copiedStation(s)
				s, luck = isHeardRightly(t, s, x, from, luck)
				if s.Seq != was.Seq || !slices.Equal(s.Own, was.Own) || s.Id != was.Id || s.Most != was.Most || !s.Alive {
					t.Errorf("%s became %s by hearing", shownStation(was), shownStation(s))
				}
			}
			if !impl.StationOk(s) || s.Seq > 0 && s.Own[0] != reading(s.Id, s.Seq, last) {
				t.Errorf("a station became %s; it read %q last", shownStation(s), last)
			}
			isPassedOnRightly(t, s, truth, luck)
		}
		s = dead(s)
		isStationOk(t, s, true)
		isSensed(t, s, "abcd", s, false)
		for deg := 1; deg <= 6; deg++ {
			notEmitted(t, s, deg)
		}
		notHeard(t, s, word("5.5", "abcd"), 1+s.Id%20)
	}
	if read < 4000 || drawn < 1000 || known < 1000 {
		t.Errorf("%d were read, %d times a place was drawn, %d times a word had a Key of the station", read, drawn, known)
	}
}

// TestStationsAnswerAlone: what is told hangs on the arguments alone, whatever was asked ahead.
func TestStationsAnswerAlone(t *testing.T) {
	s, other := stationOf(someWords[2:6]...), fullStation()
	for range 3 {
		isEmitted(t, s, 2, 3, word("3.2,20.99", "\x01\x02\x04\x08"), 1163074432)
		impl.Emit(other, 2, 5)
		impl.Sense(other, "abcd")
		impl.Sense(s, "abcd")
		impl.Hear(other, someWords[8], 5, 5)
		impl.Hear(s, someWords[8], 5, 5)
		impl.Emit(dead(other), 0, 5)
		isHeard(t, dead(s), someWords[8], 5, 5, dead(s), 5)
		isEmitted(t, dead(s), 2, 3, code(nil, noLoad), 3)
	}
}

// withStationRoom puts the lists of a Station into longer arrays; it tells that Station, and what tells whether anything of it was written into.
func withStationRoom(s impl.Station) (impl.Station, func() bool) {
	own, allOwn := withReadingRoom(s.Own)
	buf, _, bufChanged := withWordRoom(s.Buf)
	allHeard := slices.Concat([]int{8, 8}, s.Heard, slices.Repeat([]int{9}, 25))
	ownWas, heardWas := slices.Clone(allOwn), slices.Clone(allHeard)
	s.Own, s.Buf, s.Heard = own, buf, allHeard[2:2+len(s.Heard)]
	return s, func() bool {
		return bufChanged() || !slices.Equal(allOwn, ownWas) || !slices.Equal(allHeard, heardWas)
	}
}

// spoilStation writes into all that an answer has, and into the room behind it.
func spoilStation(s impl.Station) {
	own, buf, heard := s.Own[:cap(s.Own)], s.Buf[:cap(s.Buf)], s.Heard[:cap(s.Heard)]
	for i := range own {
		own[i] = reading(-3, -3, "changed")
	}
	for i := range buf {
		spoil(buf[i])
		buf[i] = word("4.4", "changed")
	}
	for i := range heard {
		heard[i] = -3
	}
}

// stationsAndCodes are Stations, right and not, alive and dead, and what comes there: each way through the chapter is gone by some of these.
func stationsAndCodes() (stations []impl.Station, come []impl.Code) {
	roomy := fullStation()
	roomy.Buf = roomy.Buf[:4]
	stations = []impl.Station{{}, fullStation(), roomy, stationOf(), stationOf(someWords[:6]...), stationOf(someWords[6:]...), withoutOwn(stationOf(someWords[4:8]...)), impl.NewStation(3, 2), impl.NewStation(20, 6)}
	for _, s := range stations {
		stations = append(stations, dead(s))
	}
	stations = append(stations, wrongStations()...)
	come = slices.Concat(someWords, waitingWords(3), wrongWords()[:9], []impl.Code{code(nil, noLoad), word("5.5", "abcd"), word("5.5", "abc")})
	return stations, come
}

// TestStationsAreLeftAsTheyWere: nothing is written into a Station, a Code, or the room behind their lists, and what is done to an answer is seen by none.
func TestStationsAreLeftAsTheyWere(t *testing.T) {
	stations, come := stationsAndCodes()
	for _, s := range stations {
		roomy, changed := withStationRoom(s)
		for _, load := range []string{"abcd", "abc"} {
			want, ok := slowSense(s, load)
			first, _ := impl.Sense(roomy, load)
			spoilStation(first)
			isSensed(t, roomy, load, want, ok)
		}
		for _, luck := range []int{0, 1, 3, 5, 7} {
			for deg := range 8 {
				want, behind := slowEmit(s, deg, luck)
				first, _ := impl.Emit(roomy, deg, luck)
				spoil(first)
				isEmitted(t, roomy, deg, luck, want, behind)
			}
			for _, x := range come {
				words, _, comeChanged := withWordRoom([]impl.Code{x})
				for _, from := range []int{0, 2, 4} {
					want, behind := slowHear(s, x, from, luck)
					first, _ := impl.Hear(roomy, words[0], from, luck)
					spoilStation(first)
					isHeard(t, roomy, words[0], from, luck, want, behind)
				}
				if comeChanged() {
					t.Errorf("Hear(%s, %s) wrote into the Code", shownStation(s), shownCode(x))
				}
			}
		}
		impl.StationOk(roomy)
		if changed() {
			t.Errorf("%s was written into", shownStation(s))
		}
	}
}

// memoryOf is the lists and Loads of Stations and Codes.
type memoryOf struct {
	own   [][]impl.Reading
	buf   [][]impl.Code
	heard [][]int
	keys  [][]impl.Key
	loads []string
}

func (m *memoryOf) addCodes(list ...impl.Code) {
	for _, x := range list {
		m.keys = append(m.keys, x.Keys)
		m.loads = append(m.loads, x.Load)
	}
}

func (m *memoryOf) addStation(s impl.Station) {
	m.own, m.buf, m.heard = append(m.own, s.Own), append(m.buf, s.Buf), append(m.heard, s.Heard)
	for _, r := range s.Own {
		m.loads = append(m.loads, r.Load)
	}
	m.addCodes(s.Buf...)
}

// sharesAny tells whether something of one kind shares memory with something ahead of it.
func sharesAny[T any](list []T, shares func(a, b T) bool) bool {
	for i, b := range list {
		for _, a := range list[:i] {
			if shares(a, b) {
				return true
			}
		}
	}
	return false
}

// shared tells whether any two of its lists, or of its Loads, lie in the same memory.
func (m *memoryOf) shared() bool {
	loads := sharesAny(m.loads, func(a, b string) bool { return sharesBytes(a, b) || sharesBytes(b, a) })
	return loads || sharesAny(m.own, sharesRoom) || sharesAny(m.buf, sharesRoom) || sharesAny(m.heard, sharesRoom) || sharesAny(m.keys, sharesRoom)
}

// TestStationAnswersAreNewMemory: no list and no Load of an answer lies in an argument, in another one of it, or in an answer told ahead.
func TestStationAnswersAreNewMemory(t *testing.T) {
	stations, come := stationsAndCodes()
	for _, s := range stations {
		s = copiedStation(s)
		load := strings.Clone("abcd")
		var m memoryOf
		m.addStation(s)
		m.loads = append(m.loads, load)
		for _, load := range []string{load, load, load[:3]} {
			got, _ := impl.Sense(s, load)
			m.addStation(got)
		}
		for _, deg := range []int{0, 1, 2, 2, 6} {
			for _, luck := range []int{0, 1, 3} {
				got, _ := impl.Emit(s, deg, luck)
				m.addCodes(got)
			}
		}
		if m.shared() {
			t.Errorf("what Sense and Emit tell of %s shares memory", shownStation(s))
		}
		for _, x := range come {
			x = copied(x)
			var m memoryOf
			m.addStation(s)
			m.addCodes(x)
			for _, from := range []int{4, 4, 2, 0} {
				got, _ := impl.Hear(s, x, from, 7)
				m.addStation(got)
			}
			if m.shared() {
				t.Errorf("what Hear tells of %s and %s shares memory", shownStation(s), shownCode(x))
			}
		}
	}
}

// TestStationsThatWereToldStay: what is done with an answer isn't seen by it, nor by what was told ahead.
func TestStationsThatWereToldStay(t *testing.T) {
	stations, come := stationsAndCodes()
	for _, s := range stations[:18] {
		var answers, were []impl.Station
		add := func(s impl.Station) { answers, were = append(answers, s), append(were, copiedStation(s)) }
		for i, x := range come {
			first, luck := impl.Hear(s, x, 1+i%20, i)
			add(first)
			read, _ := impl.Sense(first, "wxyz")
			add(read)
			for j, y := range come {
				second, _ := impl.Hear(first, y, 1+j%20, luck)
				add(second)
				passed, _ := impl.Emit(second, 6, j)
				spoil(passed)
			}
		}
		for i, got := range answers {
			if !sameStation(got, were[i]) {
				t.Fatalf("answer %d of %s became %s", i, shownStation(s), shownStation(got))
			}
			spoilStation(got)
		}
	}
}

// isAnyStationAnswered asks all of a Station, and holds it against the slow rules.
func isAnyStationAnswered(t *testing.T, s impl.Station, n int) {
	t.Helper()
	isStationOk(t, s, slowStationOk(s))
	want, ok := slowSense(s, "abcd")
	isSensed(t, s, "abcd", want, ok)
	isEmittedRightly(t, s, n, 7)
	isEmittedRightly(t, s, 2, n)
	isHeardRightly(t, s, word("5.5", "abcd"), n, 7)
	isHeardRightly(t, s, word("5.5", "abcd"), 4, n)
}

// TestStationsAnswerAtAnyArguments: every function answers, whatever stands in its arguments, and the same when asked again.
func TestStationsAnswerAtAnyArguments(t *testing.T) {
	for _, n := range append(slices.Clone(nearLimits), someLucks...) {
		for _, m := range []int{0, 1, 3, 6, 7, 20, 99, -1, math.MinInt64, math.MaxInt64} {
			k := key(n, m)
			stations := []impl.Station{
				{Id: n, Alive: true, Most: m}, {Id: m, Alive: true, Seq: n, Most: 1}, {Id: 1, Alive: true, Seq: m, Most: n}, {Id: n, Alive: true, Seq: m, Most: 2, Own: []impl.Reading{{Key: k, Load: "abcd"}}},
				{Id: 3, Alive: true, Most: 2, Heard: []int{n, m}}, {Id: 3, Alive: true, Most: 2, Buf: []impl.Code{code([]impl.Key{k}, "abcd")}}, {Id: 3, Most: 2, Buf: []impl.Code{code([]impl.Key{key(1, 1), k}, noLoad)}},
				{Id: n, Alive: true, Seq: m, Most: n, Own: []impl.Reading{{Key: k}, {Key: k, Load: "abcd"}}, Buf: []impl.Code{{}, {}, {Keys: []impl.Key{k}}}, Heard: []int{m, n, m}},
			}
			for _, s := range stations {
				isAnyStationAnswered(t, s, n)
				isAnyStationAnswered(t, s, n)
			}
			impl.NewStation(n, m)
			isHeardRightly(t, fullStation(), code([]impl.Key{k}, "abcd"), 4, n)
		}
	}
	long := strings.Repeat("x", 1000000)
	for _, s := range []impl.Station{
		{Id: 3, Alive: true, Most: 6, Buf: slices.Repeat([]impl.Code{word("5.5", "abcd")}, 200000)}, {Id: 3, Alive: true, Most: math.MaxInt64, Buf: slices.Repeat([]impl.Code{word("5.5", "abcd")}, 200000)},
		{Id: 3, Alive: true, Most: 6, Buf: manyWords(1980)}, {Id: 3, Alive: true, Most: math.MaxInt64, Buf: manyWords(1980)},
		{Id: 3, Alive: true, Seq: 1, Most: 6, Own: slices.Repeat(allReadings(), 100)}, {Id: 3, Alive: true, Seq: 1, Most: 6, Own: []impl.Reading{reading(3, 1, long)}},
		{Id: 3, Alive: true, Most: 6, Heard: slices.Repeat(risingIds(3), 10000)}, {Id: 3, Alive: true, Most: 1, Buf: []impl.Code{code(allKeys(), "abcd")}}, {Id: 3, Alive: true, Most: 1, Buf: []impl.Code{word("5.5", long)}},
	} {
		isAnyStationAnswered(t, s, 1)
	}
	isSensed(t, fullStation(), long, fullStation(), false)
	notHeard(t, fullStation(), word("5.5", long), 4)
	notHeard(t, fullStation(), code(slices.Repeat(allKeys(), 50), "abcd"), 4)
}
