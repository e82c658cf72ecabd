package tests

import (
	"fmt"
	"math/rand"
	"slices"
	"strings"
	"testing"

	"loop.example/g00746/impl"
)

const mostCounted = 1000000000

// slowSinkOk tells whether a Sink is right, without the functions of impl.
func slowSinkOk(s impl.Sink) bool {
	if s.Most < 0 || s.Most > 12 || len(s.Wait) > s.Most || !slowReadingsOk(s.Known) {
		return false
	}
	for _, n := range []int{s.Same, s.Lost, s.Bad} {
		if n < 0 || n > mostCounted {
			return false
		}
	}
	for i, x := range s.Wait {
		if !slowCodeOk(x) || len(x.Keys) < 2 {
			return false
		}
		for _, r := range s.Known {
			if slices.Contains(x.Keys, r.Key) {
				return false
			}
		}
		for _, other := range s.Wait[:i] {
			if slices.Equal(x.Keys, other.Keys) {
				return false
			}
		}
	}
	return true
}

// slowTake tells what Take does, without the functions of impl: by plain lists, each gone through as the document says.
func slowTake(s impl.Sink, x impl.Code) (impl.Sink, int) {
	if !slowSinkOk(s) {
		return impl.Sink{}, impl.TkBad
	}
	s = copiedSink(s)
	if !slowCodeOk(x) || len(x.Keys) == 0 {
		return s, impl.TkBad
	}
	known := map[impl.Key]string{}
	for _, r := range s.Known {
		known[r.Key] = r.Load
	}
	one := func(counter *int) { *counter = min(*counter+1, mostCounted) }
	alike := func(same bool) (impl.Sink, int) {
		if same {
			one(&s.Same)
			return s, impl.TkSame
		}
		one(&s.Bad)
		return s, impl.TkOther
	}
	y := slowLeft(x, known)
	if len(y.Keys) == 0 {
		return alike(y.Load == noLoad)
	}
	if len(y.Keys) > 1 {
		for _, w := range s.Wait {
			if slices.Equal(w.Keys, y.Keys) {
				return alike(w.Load == y.Load)
			}
		}
		if len(s.Wait) >= s.Most {
			one(&s.Lost)
			return s, impl.TkFull
		}
		s.Wait = append(s.Wait, y)
		return s, impl.TkWait
	}
	for toLearn := []impl.Code{y}; len(toLearn) > 0; toLearn = toLearn[1:] {
		k, load := toLearn[0].Keys[0], toLearn[0].Load
		if was, there := known[k]; there {
			if was != load {
				one(&s.Bad)
			}
			continue
		}
		known[k] = load
		s.Known = append(s.Known, impl.Reading{Key: k, Load: load})
		var stay []impl.Code
		for _, w := range s.Wait {
			left := slowLeft(w, map[impl.Key]string{k: load})
			if len(left.Keys) == 1 {
				toLearn = append(toLearn, left)
				continue
			}
			ahead := slices.IndexFunc(stay, func(other impl.Code) bool { return slices.Equal(other.Keys, left.Keys) })
			if ahead < 0 {
				stay = append(stay, left)
			} else if stay[ahead].Load != left.Load {
				one(&s.Bad)
			}
		}
		s.Wait = stay
	}
	slices.SortFunc(s.Known, slowOrder)
	return s, impl.TkNew
}

// slowSinkText tells what SinkText does of a right Sink, without the functions of impl.
func slowSinkText(s impl.Sink) string {
	var known, wait []string
	for _, r := range s.Known {
		known = append(known, slowReadingText(r))
	}
	for _, x := range s.Wait {
		wait = append(wait, slowCodeText(x))
	}
	return fmt.Sprintf("%s | %s | %d %d %d", strings.Join(known, " "), strings.Join(wait, " "), s.Same, s.Lost, s.Bad)
}

// copiedSink tells a Sink in memory of its own.
func copiedSink(s impl.Sink) impl.Sink {
	s.Known = slices.Clone(s.Known)
	wait := s.Wait
	s.Wait = nil
	for _, x := range wait {
		s.Wait = append(s.Wait, copied(x))
	}
	return s
}

// sameSink tells whether two Sinks are alike in all.
func sameSink(a, b impl.Sink) bool {
	return a.Most == b.Most && a.Same == b.Same && a.Lost == b.Lost && a.Bad == b.Bad && slices.Equal(a.Known, b.Known) && slices.EqualFunc(a.Wait, b.Wait, sameCode)
}

func shownSink(s impl.Sink) string {
	return fmt.Sprintf("(most %d, known %s, wait %s, same %d, lost %d, bad %d)", s.Most, shownList(s.Known), shownWords(s.Wait), s.Same, s.Lost, s.Bad)
}

// isSinkOk holds what SinkOk tells against what it should tell.
func isSinkOk(t *testing.T, s impl.Sink, want bool) {
	t.Helper()
	if got := impl.SinkOk(s); got != want || slowSinkOk(s) != want {
		t.Errorf("SinkOk = %v, want %v: %s", got, want, shownSink(s))
	}
}

// isTaken holds what Take tells against what it should tell, and demands that a right Sink stays right.
func isTaken(t *testing.T, s impl.Sink, x impl.Code, want impl.Sink, wantCode int) {
	t.Helper()
	got, code := impl.Take(s, x)
	if code != wantCode || !sameSink(got, want) {
		t.Errorf("Take(%s, %s) = %s, %d, want %s, %d", shownSink(s), shownCode(x), shownSink(got), code, shownSink(want), wantCode)
	}
	if impl.SinkOk(s) && !impl.SinkOk(got) {
		t.Errorf("Take(%s, %s) = %s, which isn't right", shownSink(s), shownCode(x), shownSink(got))
	}
}

// isTakenRightly holds what Take tells against a plain count, and tells it.
func isTakenRightly(t *testing.T, s impl.Sink, x impl.Code) (impl.Sink, int) {
	t.Helper()
	want, code := slowTake(s, x)
	isTaken(t, s, x, want, code)
	isStillKnown(t, s, x)
	return want, code
}

// isStillKnown demands that all a right Sink knows is known behind a Code as it was.
func isStillKnown(t *testing.T, s impl.Sink, x impl.Code) {
	t.Helper()
	if !slowSinkOk(s) {
		return
	}
	next, _ := impl.Take(s, x)
	for _, r := range s.Known {
		if !slices.Contains(next.Known, r) {
			t.Errorf("Take(%s, %s) forgets %s", shownSink(s), shownCode(x), shown(r))
		}
	}
}

// allTaken tells a Sink behind a list of words that come one by one.
func allTaken(s impl.Sink, list ...impl.Code) impl.Sink {
	for _, x := range list {
		s, _ = impl.Take(s, x)
	}
	return s
}

// waitingWords are n right words of two Keys or more, of stations 14 to 19, no two with the same Keys.
func waitingWords(n int) []impl.Code {
	var words []impl.Code
	for i := range n {
		keys := []impl.Key{key(14, i+1), key(15, 1), key(16, i+1), key(17, 1), key(18, 99), key(19, 99)}
		words = append(words, code(keys[:2+i%5], string([]byte{byte(i), 0, 255, 1})))
	}
	return words
}

func TestSinkConstants(t *testing.T) {
	if impl.MaxWait != 12 {
		t.Errorf("MaxWait is %d", impl.MaxWait)
	}
	if codes := [...]int{impl.TkNew, impl.TkWait, impl.TkSame, impl.TkOther, impl.TkFull, impl.TkBad}; codes != [...]int{0, 1, 2, 3, 4, 5} {
		t.Errorf("the codes of Take are %v", codes)
	}
}

// fullSink is a right Sink with something in each field.
func fullSink() impl.Sink {
	return impl.Sink{Most: 12, Known: slices.Clone(someReadings), Wait: waitingWords(5), Same: 3, Lost: 4, Bad: 5}
}

// withCounts tells the three Sinks that have one counter of s put to n.
func withCounts(s impl.Sink, n int) []impl.Sink {
	same, lost, bad := s, s, s
	same.Same, lost.Lost, bad.Bad = n, n, n
	return []impl.Sink{same, lost, bad}
}

func TestSinkOk(t *testing.T) {
	isSinkOk(t, impl.Sink{}, true)
	isSinkOk(t, impl.Sink{Known: []impl.Reading{}, Wait: []impl.Code{}}, true)
	isSinkOk(t, fullSink(), true)
	isSinkOk(t, impl.Sink{Most: 12, Known: allReadings()}, true)
	isSinkOk(t, impl.Sink{Most: 12, Same: mostCounted, Lost: mostCounted, Bad: mostCounted}, true)
	for _, n := range append([]int{-3, -2, -1, 0, 1, 2, 3, 4, 5, 6, 7, 8, 9, 10, 11, 12, 13, 14, 24, 256, 268, 1<<32 + 1, 1<<32 + 12}, extremeInts...) {
		isSinkOk(t, impl.Sink{Most: n}, 0 <= n && n <= 12)
		s := fullSink()
		s.Most = n
		isSinkOk(t, s, 5 <= n && n <= 12)
	}
	for _, n := range append([]int{-2, -1, 0, 1, 999999999, mostCounted, mostCounted + 1, mostCounted + 2, 2 * mostCounted, 1<<32 - 1, 1 << 32, 1<<32 + 1}, extremeInts...) {
		for _, s := range append(withCounts(fullSink(), n), withCounts(impl.Sink{}, n)...) {
			isSinkOk(t, s, 0 <= n && n <= mostCounted)
		}
	}
}

func TestSinkOkOfKnown(t *testing.T) {
	for _, known := range wrongReadingLists() {
		s := fullSink()
		s.Known = known
		isSinkOk(t, s, false)
		isSinkOk(t, impl.Sink{Known: known}, false)
	}
	for _, known := range append(partsOf(someReadings), allReadings()[:1287], allReadings()[1881:]) {
		s := fullSink()
		s.Known = known
		isSinkOk(t, s, true)
		isSinkOk(t, impl.Sink{Known: known}, true)
	}
}

// TestSinkOkOfHowManyWait: at most Most wait, whatever Most is.
func TestSinkOkOfHowManyWait(t *testing.T) {
	for most := range 13 {
		for n := range 14 {
			isSinkOk(t, impl.Sink{Most: most, Wait: waitingWords(n)}, n <= most)
			isSinkOk(t, impl.Sink{Most: most, Known: someReadings, Wait: waitingWords(n)}, n <= most)
		}
	}
}

func TestSinkOkOfWait(t *testing.T) {
	with := func(x impl.Code, at int, known []impl.Reading) impl.Sink {
		return impl.Sink{Most: 12, Known: known, Wait: slices.Insert(waitingWords(4), at, x)}
	}
	for at := range 5 {
		for _, x := range wrongWords() {
			isSinkOk(t, with(x, at, nil), false)
			isSinkOk(t, impl.Sink{Most: 1, Wait: []impl.Code{x}}, false)
		}
		// Of no Key, and of one.
		isSinkOk(t, with(code(nil, noLoad), at, nil), false)
		isSinkOk(t, with(word("3.3", "abcd"), at, nil), false)
		isSinkOk(t, with(word("3.3", noLoad), at, nil), false)
		// Of two and up to six, with any Load.
		isSinkOk(t, with(word("3.3,4.4", "abcd"), at, nil), true)
		isSinkOk(t, with(word("3.3,4.4", noLoad), at, nil), true)
		isSinkOk(t, with(wordOf(eightReadings[:6]), at, nil), true)
		isSinkOk(t, with(wordOf(eightReadings[:7]), at, nil), false)
		// With a Key that is known, at whatever place it stands there, and in whatever word.
		for i := range 6 {
			isSinkOk(t, with(wordOf(eightReadings[:6]), at, eightReadings[i:i+1]), false)
			isSinkOk(t, with(wordOf(eightReadings[:6]), at, eightReadings[i:]), false)
			isSinkOk(t, with(wordOf(eightReadings[:6]), at, []impl.Reading{{Key: eightReadings[i].Key, Load: "abcd"}}), false)
		}
		isSinkOk(t, with(wordOf(eightReadings[:6]), at, eightReadings[6:]), true)
		isSinkOk(t, with(wordOf(eightReadings[:2]), at, eightReadings[2:]), true)
		isSinkOk(t, with(wordOf(eightReadings[6:]), at, eightReadings[:6]), true)
		// Two with the same Keys, one behind the other or not, with the same Load and with another; one of more Keys, or of fewer, is no such one.
		for _, x := range waitingWords(4) {
			isSinkOk(t, with(x, at, nil), false)
			isSinkOk(t, with(code(x.Keys, noLoad), at, nil), false)
			isSinkOk(t, with(code(append(slices.Clone(x.Keys), key(20, 1)), x.Load), at, nil), true)
			isSinkOk(t, with(code(append([]impl.Key{key(1, 1)}, x.Keys...), x.Load), at, nil), true)
			isSinkOk(t, with(code(append([]impl.Key{key(1, 1)}, x.Keys[1:]...), x.Load), at, nil), true)
			if len(x.Keys) > 2 {
				isSinkOk(t, with(code(x.Keys[1:], x.Load), at, nil), true)
			}
		}
	}
	isSinkOk(t, impl.Sink{Most: 2, Wait: []impl.Code{word("1.1,1.2", "abcd"), word("1.1,1.2", "abcd")}}, false)
	isSinkOk(t, impl.Sink{Most: 2, Wait: []impl.Code{word("1.1,1.2", "abcd"), word("1.1,1.2", "abce")}}, false)
	isSinkOk(t, impl.Sink{Most: 2, Wait: []impl.Code{word("1.1,1.2", "abcd"), word("1.1,1.3", "abcd")}}, true)
}

func TestNewSink(t *testing.T) {
	for most := -1; most <= 13; most++ {
		var want impl.Sink
		if 0 <= most && most <= 12 {
			want.Most = most
		}
		if got := impl.NewSink(most); !sameSink(got, want) || !impl.SinkOk(got) {
			t.Errorf("NewSink(%d) = %s", most, shownSink(got))
		}
	}
	for _, most := range append([]int{-13, -12, 14, 24, 256, 268, 1<<32 + 1, 1<<32 + 12}, extremeInts...) {
		want := impl.Sink{}
		if 0 <= most && most <= 12 {
			want.Most = most
		}
		if got := impl.NewSink(most); !sameSink(got, want) {
			t.Errorf("NewSink(%d) = %s", most, shownSink(got))
		}
	}
}

// wrongSinks are Sinks that aren't right, each by one thing alone.
func wrongSinks() []impl.Sink {
	var wrong []impl.Sink
	for _, n := range []int{-1, 13} {
		s := fullSink()
		s.Most = n
		wrong = append(wrong, s, impl.Sink{Most: n})
	}
	for _, n := range []int{-1, mostCounted + 1} {
		wrong = append(wrong, withCounts(fullSink(), n)...)
		wrong = append(wrong, withCounts(impl.Sink{}, n)...)
	}
	for _, known := range wrongReadingLists()[:40] {
		s := fullSink()
		s.Known = known
		wrong = append(wrong, s, impl.Sink{Most: 3, Known: known})
	}
	known := eightReadings[:1]
	for _, x := range append(wrongWords(), code(nil, noLoad), word("3.3", "abcd"), waitingWords(1)[0], code(waitingWords(1)[0].Keys, "abcd"), word("1.1,3.3", "abcd")) {
		wrong = append(wrong, impl.Sink{Most: 12, Known: known, Wait: append(waitingWords(2), x)})
	}
	return append(wrong, impl.Sink{Most: 2, Wait: waitingWords(3)}, impl.Sink{Wait: waitingWords(1)})
}

// TestTakeOfSinksThatAreNotRight: whatever the Code is, the zero Sink and TkBad are told.
func TestTakeOfSinksThatAreNotRight(t *testing.T) {
	for _, s := range wrongSinks() {
		isSinkOk(t, s, false)
		for _, x := range []impl.Code{word("5.5", "abcd"), word("1.1", "abcd"), word("5.5,6.6", "abcd"), waitingWords(1)[0], code(nil, noLoad), {}, word("5.5", "abc")} {
			isTaken(t, s, x, impl.Sink{}, impl.TkBad)
		}
	}
}

// TestTakeOfCodesThatAreNotRight: one that isn't right, or is of no Key, leaves the Sink as it was.
func TestTakeOfCodesThatAreNotRight(t *testing.T) {
	full := fullSink()
	full.Most = 5
	sinks := []impl.Sink{{}, {Most: 12}, fullSink(), full, {Most: 3, Known: allReadings()}, {Same: mostCounted, Lost: mostCounted, Bad: mostCounted}}
	for _, s := range sinks {
		for _, x := range append(wrongWords(), code(nil, noLoad), code([]impl.Key{}, noLoad), word("2.1,1.2", noLoad), word("5.5", "abc"), word("9.9,9.9", noLoad)) {
			isTaken(t, s, x, s, impl.TkBad)
		}
	}
}

// TestTakeOfWhatIsKnown: one whose Keys are all known tells whether its Load is that of what is known.
func TestTakeOfWhatIsKnown(t *testing.T) {
	for _, s := range []impl.Sink{{Known: eightReadings}, {Most: 12, Known: eightReadings, Wait: waitingWords(2)[1:], Same: 7, Lost: 8, Bad: 9}} {
		for _, part := range partsOf(eightReadings) {
			if len(part) == 0 || len(part) > 6 {
				continue
			}
			same, other := s, s
			same.Same++
			other.Bad++
			x := wordOf(part)
			isTaken(t, s, x, same, impl.TkSame)
			for i := range 32 {
				load := []byte(x.Load)
				load[i/8] ^= 1 << (i % 8)
				isTaken(t, s, code(x.Keys, string(load)), other, impl.TkOther)
			}
			if x.Load != noLoad {
				isTaken(t, s, code(x.Keys, noLoad), other, impl.TkOther)
			}
		}
	}
	// What is known may be all 0, or make it.
	s := impl.Sink{Known: []impl.Reading{reading(1, 1, noLoad), reading(2, 2, "abcd"), reading(3, 3, "abcd")}}
	isTaken(t, s, word("1.1", noLoad), impl.Sink{Known: s.Known, Same: 1}, impl.TkSame)
	isTaken(t, s, word("2.2,3.3", noLoad), impl.Sink{Known: s.Known, Same: 1}, impl.TkSame)
	isTaken(t, s, word("2.2", noLoad), impl.Sink{Known: s.Known, Bad: 1}, impl.TkOther)
	isTaken(t, s, word("1.1,2.2,3.3", "abcd"), impl.Sink{Known: s.Known, Bad: 1}, impl.TkOther)
	isTaken(t, s, word("1.1,2.2", "abcd"), impl.Sink{Known: s.Known, Same: 1}, impl.TkSame)
}

// TestTakeOfWhatWaits: one whose Keys wait already isn't put there again, though there may be no room.
func TestTakeOfWhatWaits(t *testing.T) {
	for n := 1; n <= 12; n++ {
		for _, most := range []int{n, 12} {
			s := impl.Sink{Most: most, Wait: waitingWords(n), Same: 1, Lost: 2, Bad: 3}
			known := s
			known.Known = eightReadings
			for _, s := range []impl.Sink{s, known} {
				same, other := s, s
				same.Same++
				other.Bad++
				for _, x := range s.Wait {
					isTaken(t, s, x, same, impl.TkSame)
					isTaken(t, s, code(x.Keys, noLoad), other, impl.TkOther)
					isTaken(t, s, code(x.Keys, slowOr(x.Load, "\x00\x00\x00\x80")), other, impl.TkOther)
				}
			}
			// It comes with Keys that are known, and without them waits already.
			x := s.Wait[n-1]
			if more := append([]impl.Key{key(1, 2)}, x.Keys...); len(more) <= 6 {
				same, other := known, known
				same.Same++
				other.Bad++
				isTaken(t, known, code(more, slowOr(x.Load, eightReadings[1].Load)), same, impl.TkSame)
				isTaken(t, known, code(more, x.Load), other, impl.TkOther)
			}
		}
	}
}

// TestTakeOfMoreThanMayWait: a new one waits behind the others, as long as there is room.
func TestTakeOfMoreThanMayWait(t *testing.T) {
	for most := range 13 {
		s := impl.NewSink(most)
		for n, x := range append(waitingWords(12), word("3.3,4.4", "abcd"), wordOf(eightReadings[:6]), word("3.3,4.4,5.5", noLoad)) {
			want := s
			if n < most {
				want.Wait = append(slices.Clone(s.Wait), x)
				isTaken(t, s, x, want, impl.TkWait)
			} else {
				want.Lost = n - most + 1
				isTaken(t, s, x, want, impl.TkFull)
			}
			s = want
			// One of a Key alone is learned, however many wait.
			learned := s
			learned.Known = []impl.Reading{reading(7, 7, "abcd")}
			isTaken(t, s, word("7.7", "abcd"), learned, impl.TkNew)
		}
		// One with the first Keys of one that waits, or with more, is a new one.
		if most == 12 {
			s.Wait = s.Wait[1:5]
			for _, x := range []impl.Code{code(s.Wait[2].Keys[:3], "abcd"), code(append(slices.Clone(s.Wait[1].Keys), key(20, 99)), "abcd"), code(s.Wait[2].Keys[1:], "abcd")} {
				want := s
				want.Wait = append(slices.Clone(s.Wait), x)
				isTaken(t, s, x, want, impl.TkWait)
			}
		}
	}
	// What comes is put there without what is known.
	a, b, c := eightReadings[0], eightReadings[3], eightReadings[7]
	s := impl.Sink{Most: 2, Known: []impl.Reading{b}, Wait: waitingWords(1)}
	want := impl.Sink{Most: 2, Known: []impl.Reading{b}, Wait: append(waitingWords(1), wordOf([]impl.Reading{a, c}))}
	isTaken(t, s, wordOf([]impl.Reading{a, b, c}), want, impl.TkWait)
	isTaken(t, s, wordOf([]impl.Reading{a, c}), want, impl.TkWait)
}

// TestTakeStopsCounting: each counter stays at 1000000000, and what else is done isn't held up by that.
func TestTakeStopsCounting(t *testing.T) {
	known := []impl.Reading{reading(1, 1, "abcd")}
	wait := []impl.Code{word("2.2,3.3", "abcd")}
	for _, n := range []int{0, 1, mostCounted - 2, mostCounted - 1, mostCounted} {
		for _, others := range []int{0, mostCounted} {
			s := impl.Sink{Most: 1, Known: known, Wait: wait, Same: others, Lost: others, Bad: others}
			more := min(n+1, mostCounted)
			same, lost, bad := s, s, s
			same.Same, lost.Lost, bad.Bad = n, n, n
			wantSame, wantLost, wantBad := s, s, s
			wantSame.Same, wantLost.Lost, wantBad.Bad = more, more, more
			isTaken(t, same, word("1.1", "abcd"), wantSame, impl.TkSame)
			isTaken(t, same, wait[0], wantSame, impl.TkSame)
			isTaken(t, lost, word("2.2,4.4", "abcd"), wantLost, impl.TkFull)
			isTaken(t, bad, word("1.1", "zzzz"), wantBad, impl.TkOther)
			isTaken(t, bad, word("2.2,3.3", "zzzz"), wantBad, impl.TkOther)
		}
		// Several may be counted by one that comes.
		a, b, c := word("2.2,3.3", "abcd"), word("1.1,2.2,3.3", "wxyz"), word("2.2,3.3,5.5", "0123")
		s := impl.Sink{Most: 12, Wait: []impl.Code{word("1.1,5.5", "abcd"), a, b, c, word("1.1,6.6", "abcd"), word("5.5,6.6", "abcd")}, Bad: n}
		want := impl.Sink{Most: 12, Known: []impl.Reading{reading(1, 1, "\x01\x02\x03\x04"), reading(5, 5, "````"), reading(6, 6, "````")}, Wait: []impl.Code{a}, Bad: min(n+3, mostCounted)}
		isTaken(t, s, word("1.1", "\x01\x02\x03\x04"), want, impl.TkNew)
	}
}

// TestTakeLearns: a Key that comes alone, or becomes so, is known, at its place.
func TestTakeLearns(t *testing.T) {
	s := impl.NewSink(0)
	for i, r := range []impl.Reading{eightReadings[4], eightReadings[7], eightReadings[0], eightReadings[2], eightReadings[3], eightReadings[1], eightReadings[6], eightReadings[5]} {
		want := s
		want.Known = append(slices.Clone(s.Known), r)
		slices.SortFunc(want.Known, slowOrder)
		isTaken(t, s, wordOf([]impl.Reading{r}), want, impl.TkNew)
		for j, k := range s.Known {
			if j < 5 {
				both := []impl.Reading{k, r}
				slices.SortFunc(both, slowOrder)
				isTaken(t, s, wordOf(both), want, impl.TkNew)
			}
		}
		s = want
		again := s
		again.Same++
		isTaken(t, s, wordOf([]impl.Reading{r}), again, impl.TkSame)
		if i == 7 && !slices.Equal(s.Known, eightReadings) {
			t.Errorf("known are %s", shownList(s.Known))
		}
	}
	// It may be all 0, and it may be the last Key that there is.
	isTaken(t, impl.Sink{}, word("20.99", noLoad), impl.Sink{Known: []impl.Reading{reading(20, 99, noLoad)}}, impl.TkNew)
	all := allReadings()
	for _, at := range []int{0, 1, 98, 99, 1000, 1979} {
		isTaken(t, impl.Sink{Known: slices.Delete(slices.Clone(all), at, at+1)}, wordOf(all[at:at+1]), impl.Sink{Known: all}, impl.TkNew)
		isTaken(t, impl.Sink{Known: slices.Delete(slices.Clone(all), at, at+1)}, wordOf(all[min(at, 1974):min(at, 1974)+6]), impl.Sink{Known: all}, impl.TkNew)
	}
	// What waits with that Key goes on without it, in its order; what waits without it stays as it is.
	a, b, c, d, e := eightReadings[0], eightReadings[1], eightReadings[2], eightReadings[3], eightReadings[4]
	of := func(list ...impl.Reading) impl.Code { return wordOf(list) }
	s = impl.Sink{Most: 12, Wait: []impl.Code{of(a, b, c), of(b, d), of(a, c, d, e), of(c, d), of(a, b, e)}, Same: 1, Lost: 2, Bad: 3}
	isTaken(t, s, of(a), impl.Sink{Most: 12, Known: []impl.Reading{a}, Wait: []impl.Code{of(b, c), of(b, d), of(c, d, e), of(c, d), of(b, e)}, Same: 1, Lost: 2, Bad: 3}, impl.TkNew)
	isTaken(t, s, of(c), impl.Sink{Most: 12, Known: []impl.Reading{a, b, c, d, e}, Same: 1, Lost: 2, Bad: 3}, impl.TkNew)
}

// TestTakeOfChains: words of two Keys in a row wait; one Key that is known at any place tells all of them.
func TestTakeOfChains(t *testing.T) {
	all := allReadings()
	for n := 2; n <= 13; n++ {
		readings := make([]impl.Reading, 0, n)
		for i := range n {
			readings = append(readings, all[(i*7+n)*20])
		}
		chain, closing := chainOf(readings)
		backward := slices.Clone(chain)
		slices.Reverse(backward)
		turned := append(slices.Clone(chain[n/2:]), chain[:n/2]...)
		for _, list := range [][]impl.Code{chain, backward, turned} {
			s := allTaken(impl.NewSink(12), list...)
			if !sameSink(s, impl.Sink{Most: 12, Wait: list}) {
				t.Errorf("a chain waits: %s", shownSink(s))
			}
			for _, r := range readings {
				isTaken(t, s, wordOf([]impl.Reading{r}), impl.Sink{Most: 12, Known: readings}, impl.TkNew)
			}
			// One with another Load at an end tells all of them otherwise, and nothing is bad.
			end := readings[n-1]
			end.Load = slowOr(end.Load, "abcd")
			next, _ := isTakenRightly(t, s, wordOf([]impl.Reading{end}))
			if len(next.Known) != n || next.Bad != 0 || next.Known[0].Load != slowOr(readings[0].Load, "abcd") {
				t.Errorf("told from its other end: %s", shownSink(next))
			}
			// In a ring a Key is learned twice, from both sides.
			if n > 2 && n < 13 {
				ring := allTaken(s, closing)
				isTaken(t, ring, wordOf(readings[:1]), impl.Sink{Most: 12, Known: readings}, impl.TkNew)
				odd := allTaken(s, code(closing.Keys, slowOr(closing.Load, "abcd")))
				next, _ := isTakenRightly(t, odd, wordOf(readings[:1]))
				if len(next.Known) != n || next.Bad != 1 || len(next.Wait) != 0 {
					t.Errorf("told from both sides: %s", shownSink(next))
				}
			}
		}
	}
	// One that becomes of one Key by what is known already is told at once, and tells the others.
	a, b, c, d := eightReadings[0], eightReadings[1], eightReadings[2], eightReadings[3]
	of := func(list ...impl.Reading) impl.Code { return wordOf(list) }
	s := impl.Sink{Most: 2, Known: []impl.Reading{a}, Wait: []impl.Code{of(b, c), of(c, d)}}
	isTaken(t, s, of(a, d), impl.Sink{Most: 2, Known: []impl.Reading{a, b, c, d}}, impl.TkNew)
	isTaken(t, s, of(a, b), impl.Sink{Most: 2, Known: []impl.Reading{a, b, c, d}}, impl.TkNew)
}

// TestTakeOfTwoThatBecomeTheSame: the one ahead stays, with its own Load, be it the one that became so or the one that was; the one behind goes.
func TestTakeOfTwoThatBecomeTheSame(t *testing.T) {
	a, b, c, d, e := eightReadings[0], eightReadings[1], eightReadings[2], eightReadings[3], eightReadings[4]
	of := func(list ...impl.Reading) impl.Code { return wordOf(list) }
	odd := func(x impl.Code) impl.Code { return code(x.Keys, slowOr(x.Load, "zzzz")) }
	type list = []impl.Code
	is := func(wait list, come impl.Reading, known []impl.Reading, left list, bad int) {
		t.Helper()
		s := impl.Sink{Most: len(wait), Wait: wait}
		isTaken(t, s, of(come), impl.Sink{Most: len(wait), Known: known, Wait: left, Bad: bad}, impl.TkNew)
		isTakenRightly(t, s, of(come))
	}
	just := []impl.Reading{a}
	// One behind the other, with the same Load and with another.
	is(list{of(b, c), of(a, b, c)}, a, just, list{of(b, c)}, 0)
	is(list{of(a, b, c), of(b, c)}, a, just, list{of(b, c)}, 0)
	is(list{of(b, c), odd(of(a, b, c))}, a, just, list{of(b, c)}, 1)
	is(list{odd(of(b, c)), of(a, b, c)}, a, just, list{odd(of(b, c))}, 1)
	is(list{of(a, b, c), odd(of(b, c))}, a, just, list{of(b, c)}, 1)
	is(list{odd(of(a, b, c)), of(b, c)}, a, just, list{odd(of(b, c))}, 1)
	is(list{odd(of(a, b, c)), odd(of(b, c))}, a, just, list{odd(of(b, c))}, 0)
	// With others ahead, between and behind, which stay in their order.
	is(list{of(b, d), of(a, b, c), of(a, d, e), of(b, c), of(c, e)}, a, just, list{of(b, d), of(b, c), of(d, e), of(c, e)}, 0)
	is(list{of(b, d), of(b, c), of(a, d, e), odd(of(a, b, c)), of(c, e)}, a, just, list{of(b, d), of(b, c), of(d, e), of(c, e)}, 1)
	// Several pairs, each counted for itself.
	is(list{of(b, c), of(a, b, d), of(a, b, c), of(b, d), of(a, c, d), of(c, d)}, a, just, list{of(b, c), of(b, d), of(c, d)}, 0)
	is(list{of(b, c), of(a, b, d), odd(of(a, b, c)), of(b, d), of(a, c, d), odd(of(c, d))}, a, just, list{of(b, c), of(b, d), of(c, d)}, 2)
	is(list{of(b, c), of(a, b, d), odd(of(a, b, c)), odd(of(b, d)), odd(of(a, c, d)), of(c, d)}, a, just, list{of(b, c), of(b, d), odd(of(c, d))}, 3)
	// Of more Keys, and of Keys behind and between the one that goes.
	is(list{of(b, c, d, e), of(a, b, c, d, e)}, a, just, list{of(b, c, d, e)}, 0)
	is(list{odd(of(a, b, c, d, e)), of(a, b, d, e)}, c, []impl.Reading{c}, list{odd(of(a, b, d, e))}, 1)
	is(list{odd(of(a, b, c, d)), of(a, b, c, d, e)}, e, []impl.Reading{e}, list{odd(of(a, b, c, d))}, 1)
	// Those that only share Keys don't become the same.
	is(list{of(a, b, c), of(b, c, d), of(a, b, d), of(a, b, c, d)}, a, just, list{of(b, c), of(b, c, d), of(b, d)}, 0)
	is(list{of(b, c), of(a, b, c, d), of(a, c, d)}, a, just, list{of(b, c), of(b, c, d), of(c, d)}, 0)
	// One that stayed is told in the end, by its own Load, and then the others as they were.
	s := impl.Sink{Most: 4, Wait: list{of(a, b, c), odd(of(b, c))}}
	s = allTaken(s, of(a), of(b))
	if want := (impl.Sink{Most: 4, Known: []impl.Reading{a, b, c}, Bad: 1}); !sameSink(s, want) {
		t.Errorf("behind all: %s", shownSink(s))
	}
	// It may become the same as others once more: three that were different are one.
	s = allTaken(impl.NewSink(12), of(a, b, c, d), odd(of(b, c, d)), of(c, d), of(a, c, d, e), of(d, e))
	s = allTaken(s, of(a))
	if want := (impl.Sink{Most: 12, Known: just, Wait: list{of(b, c, d), of(c, d), of(c, d, e), of(d, e)}, Bad: 1}); !sameSink(s, want) {
		t.Errorf("behind the first: %s", shownSink(s))
	}
	s = allTaken(s, of(b))
	if want := (impl.Sink{Most: 12, Known: []impl.Reading{a, b}, Wait: list{of(c, d), of(c, d, e), of(d, e)}, Bad: 1}); !sameSink(s, want) {
		t.Errorf("behind the second: %s", shownSink(s))
	}
	// What went leaves room.
	s.Most = 4
	isTaken(t, s, odd(of(c, e)), impl.Sink{Most: 4, Known: s.Known, Wait: append(slices.Clone(s.Wait), odd(of(c, e))), Bad: 1}, impl.TkWait)
	isTaken(t, s, odd(of(d, e)), impl.Sink{Most: 4, Known: s.Known, Wait: s.Wait, Bad: 2}, impl.TkOther)
	// Within one Take: by the second that is learned, with gaps of those that went by the first.
	is(list{of(a, b), of(a, c, d), of(b, c, d), of(d, e), of(b, d, e), odd(of(a, b, c, d))}, a, []impl.Reading{a, b}, list{of(c, d), of(d, e)}, 1)
	is(list{of(a, b), of(a, c, d), odd(of(b, c, d)), of(d, e), odd(of(b, d, e)), odd(of(a, b, c, d))}, a, []impl.Reading{a, b}, list{of(c, d), of(d, e)}, 2)
	is(list{of(a, b), of(a, c, d), odd(of(b, c, d)), of(d, e), odd(of(b, d, e)), of(a, b, c, d)}, a, []impl.Reading{a, b}, list{of(c, d), of(d, e)}, 3)
}

// TestTakeOfKeysLearnedTwice: the Load that was to be learned first counts, and the other one is told bad.
func TestTakeOfKeysLearnedTwice(t *testing.T) {
	a, b, c := eightReadings[0], eightReadings[1], eightReadings[2]
	of := func(list ...impl.Reading) impl.Code { return wordOf(list) }
	odd := func(x impl.Code) impl.Code { return code(x.Keys, slowOr(x.Load, "zzzz")) }
	type list = []impl.Code
	s := impl.Sink{Most: 5, Wait: list{of(a, b), of(a, c), of(b, c)}}
	isTaken(t, s, of(a), impl.Sink{Most: 5, Known: []impl.Reading{a, b, c}}, impl.TkNew)
	isTaken(t, s, of(b), impl.Sink{Most: 5, Known: []impl.Reading{a, b, c}}, impl.TkNew)
	isTaken(t, s, of(c), impl.Sink{Most: 5, Known: []impl.Reading{a, b, c}}, impl.TkNew)
	oddB, oddC := reading(1, 2, slowOr(b.Load, "zzzz")), reading(1, 10, slowOr(c.Load, "zzzz"))
	for i, x := range s.Wait {
		wait := slices.Clone(s.Wait)
		wait[i] = odd(x)
		// By what a tells, b and c are learned from the first two, whatever the third one says.
		want := impl.Sink{Most: 5, Known: []impl.Reading{a, b, c}, Bad: 1}
		switch i {
		case 0:
			want.Known[1] = oddB
		case 1:
			want.Known[2] = oddC
		}
		isTaken(t, impl.Sink{Most: 5, Wait: wait}, of(a), want, impl.TkNew)
		// The order in which they wait changes nothing here: b and c are both told by a.
		slices.Reverse(wait)
		isTaken(t, impl.Sink{Most: 5, Wait: wait}, of(a), want, impl.TkNew)
	}
	// One that comes to be of a Key alone, and is known by then: it goes, and no Key is known twice.
	s = impl.Sink{Most: 5, Wait: list{of(a, b), of(a, b, c), of(a, c)}}
	isTaken(t, s, of(a), impl.Sink{Most: 5, Known: []impl.Reading{a, b, c}}, impl.TkNew)
	s.Wait[1] = odd(s.Wait[1])
	isTaken(t, s, of(a), impl.Sink{Most: 5, Known: []impl.Reading{a, b, c}, Bad: 1}, impl.TkNew)
}

// TestTakeLearnsInOrder: what is to be learned later stands behind, and Wait is gone through as a whole for each; words that don't agree show it.
func TestTakeLearnsInOrder(t *testing.T) {
	of := func(sign byte, nodes ...int) impl.Code {
		x := code(nil, string([]byte{sign, 0, 0, 0}))
		for _, n := range nodes {
			x.Keys = append(x.Keys, key(n, 1))
		}
		return x
	}
	type list = []impl.Code
	for i, c := range []struct {
		wait list
		want string
	}{
		// 2 is learned ahead of 3, so that the last one tells 3, too late; the other way round it would tell 2.
		{list{of(1, 1, 2), of(2, 1, 3), of(4, 2, 3)}, "1.1=00000000 2.1=01000000 3.1=02000000 |  | 0 0 1"},
		{list{of(2, 1, 3), of(1, 1, 2), of(4, 2, 3)}, "1.1=00000000 2.1=01000000 3.1=02000000 |  | 0 0 1"},
		// 3 of the third one is to be learned ahead of that of the second one, which has to wait for 2.
		{list{of(1, 1, 2), of(8, 1, 2, 3), of(2, 1, 3)}, "1.1=00000000 2.1=01000000 3.1=02000000 |  | 0 0 1"},
		// 4 is told by 2 and by 3: 2 is learned first, as it stands ahead.
		{list{of(1, 1, 2), of(2, 1, 3), of(4, 3, 4), of(8, 2, 4)}, "1.1=00000000 2.1=01000000 3.1=02000000 4.1=09000000 |  | 0 0 1"},
		{list{of(2, 1, 3), of(1, 1, 2), of(4, 3, 4), of(8, 2, 4)}, "1.1=00000000 2.1=01000000 3.1=02000000 4.1=06000000 |  | 0 0 1"},
		// All that 1 tells stands ahead of all that 2 tells: 5 by 4 and not by 3, which is learned only then.
		{list{of(1, 1, 2), of(2, 2, 3), of(4, 1, 4), of(8, 3, 5), of(16, 4, 5)}, "1.1=00000000 2.1=01000000 3.1=03000000 4.1=04000000 5.1=14000000 |  | 0 0 1"},
		{list{of(2, 2, 3), of(1, 1, 2), of(8, 3, 5), of(16, 4, 5), of(4, 1, 4)}, "1.1=00000000 2.1=01000000 3.1=03000000 4.1=04000000 5.1=14000000 |  | 0 0 1"},
		// By 1 the second one becomes the same as the third, so that 3 is told by the second alone; 4 is told by 2 ahead of 3.
		{list{of(1, 1, 2), of(2, 1, 2, 3), of(4, 2, 3), of(8, 3, 4), of(16, 2, 4)}, "1.1=00000000 2.1=01000000 3.1=03000000 4.1=11000000 |  | 0 0 2"},
		// By 1 the first two become the same, so that the second, which had another Load, tells nothing when 4 is learned.
		{list{of(1, 1, 3, 4), of(2, 3, 4), of(4, 1, 2), of(8, 2, 4)}, "1.1=00000000 2.1=04000000 3.1=0d000000 4.1=0c000000 |  | 0 0 1"},
		{list{of(2, 3, 4), of(1, 1, 3, 4), of(4, 1, 2), of(8, 2, 4)}, "1.1=00000000 2.1=04000000 3.1=0e000000 4.1=0c000000 |  | 0 0 1"},
		// Two that become the same by two that are learned one behind the other: the first one stays.
		{list{of(1, 1, 3, 4), of(2, 2, 3, 4), of(4, 1, 2), of(8, 3, 4, 5)}, "1.1=00000000 2.1=04000000 | 3.1,4.1:01000000 3.1,4.1,5.1:08000000 | 0 0 1"},
		{list{of(2, 2, 3, 4), of(1, 1, 3, 4), of(4, 1, 2), of(8, 3, 4, 5)}, "1.1=00000000 2.1=04000000 | 3.1,4.1:06000000 3.1,4.1,5.1:08000000 | 0 0 1"},
	} {
		s := impl.Sink{Most: 12, Wait: c.wait}
		want, code := isTakenRightly(t, s, of(0, 1))
		if code != impl.TkNew || slowSinkText(want) != c.want {
			t.Errorf("%d: %s, want %s", i, slowSinkText(want), c.want)
		}
		if got, _ := impl.Take(s, of(0, 1)); impl.SinkText(got) != c.want {
			t.Errorf("%d: %s, want %s", i, impl.SinkText(got), c.want)
		}
	}
}

// takenInAllWays goes through all that can come, so many times one behind the other, from a Sink on.
func takenInAllWays(t *testing.T, s impl.Sink, come []impl.Code, times int) {
	t.Helper()
	if times == 0 || t.Failed() {
		return
	}
	for _, x := range come {
		next, _ := isTakenRightly(t, s, x)
		takenInAllWays(t, next, come, times-1)
	}
}

// TestTakeOfFewKeys goes through all lists of up to four words of three Keys with two Loads, and of up to three of four Keys.
func TestTakeOfFewKeys(t *testing.T) {
	wordsOf := func(keys ...impl.Key) []impl.Code {
		var words []impl.Code
		for _, part := range partsOf(keys) {
			if len(part) > 0 {
				words = append(words, code(part, noLoad), code(part, "\x01\x00\x00\x00"))
			}
		}
		return words
	}
	for _, most := range []int{0, 1, 2, 12} {
		takenInAllWays(t, impl.NewSink(most), wordsOf(key(1, 2), key(1, 10), key(2, 1)), 4)
		takenInAllWays(t, impl.NewSink(most), wordsOf(key(1, 2), key(1, 10), key(2, 1), key(10, 1)), 3)
	}
	takenInAllWays(t, impl.NewSink(12), append(wordsOf(key(1, 2), key(1, 10)), wrongWords()[0], code(nil, noLoad)), 4)
}

// TestTakeOfDrawnLists holds what comes of longer lists, that agree or do not, against a plain count.
func TestTakeOfDrawnLists(t *testing.T) {
	draw := rand.New(rand.NewSource(9))
	wrong := wrongWords()
	var codes [6]int
	merged, twice, wide := 0, 0, 0
	for round := range 3000 {
		truth := drawnTruth(draw, 1+draw.Intn(16))
		s := impl.NewSink(draw.Intn(13))
		if round%2 == 0 {
			s.Most = 12
		}
		if round%5 == 0 {
			s.Same, s.Lost, s.Bad = mostCounted-draw.Intn(3), mostCounted-draw.Intn(3), mostCounted-draw.Intn(3)
		}
		for range draw.Intn(40) {
			x := drawnWord(draw, truth, 1+round%6, round%4)
			if draw.Intn(20) == 0 {
				x = wrong[draw.Intn(len(wrong))]
			}
			next, code := isTakenRightly(t, s, x)
			codes[code]++
			if code == impl.TkNew {
				// How many that waited were neither learned nor are still there, but for this one.
				gone := len(s.Wait) - len(next.Wait) - (len(next.Known) - len(s.Known) - 1)
				merged += gone
				wide += min(max(next.Bad-s.Bad-1, 0), 1)
				twice += min(next.Bad-s.Bad, 1)
			}
			s = next
		}
	}
	if slices.Min(codes[:]) < 500 || merged < 500 || twice < 200 || wide < 30 {
		t.Errorf("codes %v; %d went, %d times not all agreed, %d times by more than one", codes, merged, twice, wide)
	}
}

// TestTakeOfFullWaits draws a right Sink in which many words of few Keys wait, and one Key that comes: much is learned, and becomes the same, at once.
func TestTakeOfFullWaits(t *testing.T) {
	draw := rand.New(rand.NewSource(99))
	learned, gone, bad := 0, 0, 0
	for round := range 4000 {
		truth := drawnTruth(draw, 4+draw.Intn(6))
		s := impl.Sink{Most: 12}
		for range 40 {
			x := drawnWord(draw, truth, 2+round%5, round%4)
			there := slices.ContainsFunc(s.Wait, func(w impl.Code) bool { return slices.Equal(w.Keys, x.Keys) })
			if len(x.Keys) > 1 && !there && len(s.Wait) < 12 {
				s.Wait = append(s.Wait, x)
			}
		}
		next, code := isTakenRightly(t, s, wordOf(truth[:1]))
		if code != impl.TkNew {
			t.Errorf("Take(%s) = %d", shownSink(s), code)
		}
		learned += len(next.Known)
		gone += len(s.Wait) - len(next.Wait) - len(next.Known) + 1
		bad += next.Bad
	}
	if learned < 8000 || gone < 8000 || bad < 2000 {
		t.Errorf("%d were learned, %d went, %d were bad", learned, gone, bad)
	}
}

// isPeeledByTaking demands of words that agree that a Sink by which they went, and which lost nothing, knows just what Peel tells of them, and that what waits is what Peel leaves.
// It tells whether nothing was lost.
func isPeeledByTaking(t *testing.T, list []impl.Code, told []impl.Reading) bool {
	t.Helper()
	s := allTaken(impl.NewSink(12), list...)
	if s.Bad != 0 || !impl.SinkOk(s) {
		t.Errorf("words agree, but the Sink is %s: %s", shownSink(s), shownWords(list))
	}
	for _, r := range s.Known {
		if !slices.Contains(told, r) {
			t.Errorf("known is %s, but Peel tells %s: %s", shown(r), shownList(told), shownWords(list))
		}
	}
	if s.Lost > 0 {
		return false
	}
	if !slices.Equal(s.Known, told) {
		t.Errorf("known are %s, but Peel tells %s: %s", shownList(s.Known), shownList(told), shownWords(list))
	}
	var left []impl.Code
	for _, x := range impl.Rest(list) {
		if !slices.ContainsFunc(left, func(y impl.Code) bool { return slices.Equal(x.Keys, y.Keys) }) {
			left = append(left, x)
		}
	}
	if !slices.EqualFunc(s.Wait, left, sameCode) {
		t.Errorf("what waits is %s, but what Peel leaves %s: %s", shownWords(s.Wait), shownWords(left), shownWords(list))
	}
	return true
}

// TestTakeKnowsWhatPeelTells: words that agree, and come one by one in any order, tell what Peel tells of their list.
func TestTakeKnowsWhatPeelTells(t *testing.T) {
	all := allReadings()
	of := func(places ...int) impl.Code {
		var own []impl.Reading
		for _, i := range places {
			own = append(own, all[i*90])
		}
		return wordOf(own)
	}
	type list = []impl.Code
	for _, words := range []list{
		nil, {of(1), of(1, 2), of(2, 3), of(3, 4), of(4, 5)}, {of(1, 2, 3, 4, 5), of(1, 2, 3, 4), of(1, 2, 3), of(1, 2), of(1)},
		{of(1, 2), of(2, 3), of(1, 3), of(3, 4), of(4)}, {of(1, 2), of(2, 3), of(1, 3), of(4, 5), of(4)}, {of(1), of(1), of(1, 2), of(1, 2), of(2)},
		{of(1, 2), of(2, 3), of(1, 2, 3), of(4), of(3, 4, 5)}, {of(1, 2), of(1, 3), of(1, 4), of(1, 5), of(5), word("1.2", "abc")}, {code(nil, noLoad), of(6), of(5, 6), word("2.1,1.1", noLoad), of(4, 5, 6, 7), of(4, 5)},
		{of(1, 2, 3), of(2, 3), of(1), of(2, 3, 4), of(4)}, {of(1, 2, 3), of(1, 2, 4), of(3, 4), of(1, 2), of(4), of(3)},
	} {
		told := impl.Peel(words)
		for _, order := range ordersOf(words) {
			if !isPeeledByTaking(t, order, told) {
				t.Errorf("something was lost: %s", shownWords(order))
			}
		}
	}
}

// TestTakeKnowsWhatPeelTellsOfDrawnLists: longer lists, of words that hold or only agree, each in several orders.
func TestTakeKnowsWhatPeelTellsOfDrawnLists(t *testing.T) {
	draw := rand.New(rand.NewSource(909))
	wrong := wrongWords()
	told, left, lost := 0, 0, 0
	for round := range 1500 {
		truth := drawnTruth(draw, 1+draw.Intn(24))
		var list []impl.Code
		for range draw.Intn(40) {
			x := drawnWord(draw, truth, 1+round%6, 0)
			if round%3 == 0 {
				x = drawnWord(draw, truth, 1+round%6, 1+round%4)
			}
			// Words needn't hold to agree; only up to 20 are asked for that.
			if round%3 != 0 || len(list) < 20 && impl.Agreed(append(slices.Clone(list), x)) {
				list = append(list, x)
			}
		}
		if round%4 == 0 {
			for range min(8, 40-len(list)) {
				list = slices.Insert(list, draw.Intn(len(list)+1), wrong[draw.Intn(len(wrong))])
			}
		}
		first := impl.Peel(list)
		for range 6 {
			if isPeeledByTaking(t, list, first) {
				told += len(first)
				left += min(len(impl.Rest(list)), 1)
			} else {
				lost++
			}
			draw.Shuffle(len(list), func(i, j int) { list[i], list[j] = list[j], list[i] })
		}
	}
	if told < 20000 || left < 1000 || lost < 500 || lost > 4500 {
		t.Errorf("%d readings were told, %d times something was left, %d times something was lost", told, left, lost)
	}
}

func TestSinkText(t *testing.T) {
	a, b := reading(1, 2, "abcd"), reading(10, 20, "\x00\xff\n|")
	x, y := word("3.1,3.2", noLoad), word("3.1,4.10,20.99", "\xfe=: ")
	for _, c := range []struct {
		s    impl.Sink
		want string
	}{
		{impl.Sink{}, " |  | 0 0 0"},
		{impl.Sink{Most: 12, Known: []impl.Reading{}, Wait: []impl.Code{}}, " |  | 0 0 0"},
		{impl.Sink{Same: 1, Lost: 20, Bad: 300}, " |  | 1 20 300"},
		{impl.Sink{Same: mostCounted, Lost: mostCounted, Bad: mostCounted}, " |  | 1000000000 1000000000 1000000000"},
		{impl.Sink{Known: []impl.Reading{a}}, "1.2=61626364 |  | 0 0 0"},
		{impl.Sink{Known: []impl.Reading{a, b}}, "1.2=61626364 10.20=00ff0a7c |  | 0 0 0"},
		{impl.Sink{Most: 1, Wait: []impl.Code{x}}, " | 3.1,3.2:00000000 | 0 0 0"},
		{impl.Sink{Most: 2, Wait: []impl.Code{y, x}}, " | 3.1,4.10,20.99:fe3d3a20 3.1,3.2:00000000 | 0 0 0"},
		{impl.Sink{Most: 2, Known: []impl.Reading{a}, Wait: []impl.Code{x}, Lost: 7}, "1.2=61626364 | 3.1,3.2:00000000 | 0 7 0"},
		{impl.Sink{Most: 3, Known: []impl.Reading{a, b}, Wait: []impl.Code{x, y}, Same: 10, Bad: 9}, "1.2=61626364 10.20=00ff0a7c | 3.1,3.2:00000000 3.1,4.10,20.99:fe3d3a20 | 10 0 9"},
		// It tells what stands there, though that be no right Sink.
		{impl.Sink{Most: -1, Same: -1, Lost: -20, Bad: mostCounted + 1}, " |  | -1 -20 1000000001"},
		{impl.Sink{Known: []impl.Reading{b, a}, Wait: []impl.Code{x, x, word("1.2", "abcd"), code(nil, noLoad)}}, "10.20=00ff0a7c 1.2=61626364 | 3.1,3.2:00000000 3.1,3.2:00000000 1.2:61626364 :00000000 | 0 0 0"},
		{impl.Sink{Known: []impl.Reading{a, {}, b}, Wait: []impl.Code{x, {}, y}}, "1.2=61626364  10.20=00ff0a7c | 3.1,3.2:00000000  3.1,4.10,20.99:fe3d3a20 | 0 0 0"},
	} {
		if got := impl.SinkText(c.s); got != c.want {
			t.Errorf("SinkText(%s) = %q, want %q", shownSink(c.s), got, c.want)
		}
	}
	for n := range 13 {
		for _, known := range append(partsOf(someReadings), allReadings()) {
			s := impl.Sink{Most: 12, Known: known, Wait: waitingWords(n), Same: n, Lost: n * n, Bad: 12 - n}
			if got := impl.SinkText(s); got != slowSinkText(s) {
				t.Errorf("SinkText(%s) = %q, want %q", shownSink(s), got, slowSinkText(s))
			}
		}
	}
}

// sinksAndCodes are Sinks, right and not, and what comes there: each code of Take is told of some of these.
func sinksAndCodes() (sinks []impl.Sink, come []impl.Code) {
	a, b, c, d := eightReadings[0], eightReadings[1], eightReadings[2], eightReadings[3]
	of := func(list ...impl.Reading) impl.Code { return wordOf(list) }
	sinks = []impl.Sink{
		{}, {Most: 12}, fullSink(), {Most: 5, Wait: waitingWords(5)},
		{Most: 6, Known: eightReadings[4:], Wait: []impl.Code{of(a, b), of(a, b, c), of(b, c), of(c, d), of(a, d), of(b, c, d)}},
		{Most: 6, Known: eightReadings[5:], Wait: []impl.Code{of(b, c), of(a, b, c), code(of(a, c, d).Keys, "abcd"), of(c, d)}, Bad: 3},
		{Most: 2, Known: eightReadings[1:], Same: mostCounted, Lost: mostCounted, Bad: mostCounted},
	}
	sinks = append(sinks, wrongSinks()[:30]...)
	come = []impl.Code{of(a), of(b), of(c), of(d), of(a, b), of(a, b, c), of(b, d), of(a, b, c, d), wordOf(eightReadings[2:8]), word("5.5", "abcd"), word("5.5,6.6", "wxyz"), code(of(a).Keys, "wxyz"), code(of(b, c).Keys, "wxyz"), code(nil, noLoad)}
	return sinks, append(append(come, waitingWords(2)...), wrongWords()[:12]...)
}

// withSinkRoom puts the lists of a Sink into longer arrays; it tells that Sink, and what tells whether anything of it was written into.
func withSinkRoom(s impl.Sink) (impl.Sink, func() bool) {
	known, allKnown := withReadingRoom(s.Known)
	wait, _, waitChanged := withWordRoom(s.Wait)
	was := slices.Clone(allKnown)
	s.Known, s.Wait = known, wait
	return s, func() bool { return waitChanged() || !slices.Equal(allKnown, was) }
}

// spoilSink writes into all that an answer has, and into the room behind it.
func spoilSink(s impl.Sink) {
	known := s.Known[:cap(s.Known)]
	for i := range known {
		known[i] = reading(-3, -3, "changed")
	}
	wait := s.Wait[:cap(s.Wait)]
	for i := range wait {
		spoil(wait[i])
		wait[i] = word("3.3", "changed")
	}
}

// TestSinksAreLeftAsTheyWere: nothing is written into a Sink, a Code, or the room behind their lists, and what is done to an answer is seen by none.
func TestSinksAreLeftAsTheyWere(t *testing.T) {
	sinks, come := sinksAndCodes()
	var codes [6]int
	for _, s := range sinks {
		roomy, changed := withSinkRoom(s)
		for _, x := range come {
			words, _, comeChanged := withWordRoom([]impl.Code{x})
			first, code := impl.Take(roomy, words[0])
			codes[code]++
			told := copiedSink(first)
			text := impl.SinkText(first)
			// Each Code that waits has Keys of its own.
			for i, w := range first.Wait {
				spoil(w)
				for j := i + 1; j < len(first.Wait); j++ {
					if !sameCode(first.Wait[j], told.Wait[j]) {
						t.Errorf("Codes %d and %d of Take(%s, %s) share Keys", i, j, shownSink(s), shownCode(x))
					}
				}
			}
			spoilSink(first)
			isTaken(t, roomy, words[0], told, code)
			isTaken(t, s, x, told, code)
			if got := impl.SinkText(told); got != text {
				t.Errorf("SinkText = %q, then %q", text, got)
			}
			if comeChanged() {
				t.Errorf("Take(%s, %s) wrote into the Code", shownSink(s), shownCode(x))
			}
		}
		impl.SinkOk(roomy)
		impl.SinkText(roomy)
		if changed() {
			t.Errorf("%s was written into", shownSink(s))
		}
	}
	if slices.Min(codes[:]) == 0 {
		t.Errorf("codes %v", codes)
	}
}

// TestSinksThatWereToldStay: what comes to a Sink twice, or to the one behind it, isn't seen by what was told ahead.
func TestSinksThatWereToldStay(t *testing.T) {
	sinks, come := sinksAndCodes()
	for _, s := range sinks {
		var answers, were []impl.Sink
		for _, x := range come {
			first, _ := impl.Take(s, x)
			answers, were = append(answers, first), append(were, copiedSink(first))
			for _, y := range come {
				second, _ := impl.Take(first, y)
				answers, were = append(answers, second), append(were, copiedSink(second))
			}
		}
		for i, got := range answers {
			if !sameSink(got, were[i]) {
				t.Fatalf("answer %d of %s became %s", i, shownSink(s), shownSink(got))
			}
			spoilSink(got)
		}
	}
}

// loadsOfSink tells all Loads of a Sink.
func loadsOfSink(s impl.Sink) []string {
	var loads []string
	for _, r := range s.Known {
		loads = append(loads, r.Load)
	}
	for _, x := range s.Wait {
		loads = append(loads, x.Load)
	}
	return loads
}

// TestSinkLoadsAreNewMemory: no Load of an answer lies in an argument, or in another one of it.
func TestSinkLoadsAreNewMemory(t *testing.T) {
	sinks, come := sinksAndCodes()
	for _, s := range sinks {
		own := copiedSink(s)
		for i := range own.Known {
			own.Known[i].Load = strings.Clone(own.Known[i].Load)
		}
		for _, x := range come {
			x = copied(x)
			got, _ := impl.Take(own, x)
			loads := loadsOfSink(got)
			for i, load := range loads {
				for _, there := range append(loadsOfSink(own), x.Load) {
					if sharesBytes(there, load) {
						t.Errorf("Load %d of Take(%s, %s) lies in an argument", i, shownSink(s), shownCode(x))
					}
				}
				for _, other := range loads[:i] {
					if sharesBytes(other, load) {
						t.Errorf("Load %d of Take(%s, %s) is another one's, too", i, shownSink(s), shownCode(x))
					}
				}
			}
		}
	}
}

// TestSinksAnswerAtAnyArguments: every function answers, whatever stands in its arguments, and the same when asked again.
func TestSinksAnswerAtAnyArguments(t *testing.T) {
	var some []impl.Code
	for _, node := range nearLimits {
		for _, seq := range nearLimits {
			some = append(some, code([]impl.Key{key(node, seq)}, "abcd"), code([]impl.Key{key(node, seq), key(seq, node)}, noLoad), code([]impl.Key{key(1, 1), key(node, seq)}, noLoad))
		}
	}
	some = append(some, wrongWords()...)
	some = append(some, code(allKeys(), "abcd"), code(slices.Repeat(allKeys(), 20), noLoad), code(someKeys[:1], strings.Repeat("x", 1000000)), code(nil, strings.Repeat("\x00", 1000000)))
	there := word("5.5,6.6", "abcd")
	for _, x := range some {
		sinks := []impl.Sink{{}, {Most: 2}, {Most: 3, Known: []impl.Reading{reading(1, 1, "abcd")}, Wait: []impl.Code{there}}, {Most: 2, Wait: []impl.Code{x}}, {Most: 12, Wait: []impl.Code{there, x}}, {Most: 12, Wait: slices.Repeat([]impl.Code{x}, 12)}}
		for _, k := range x.Keys[:min(len(x.Keys), 2)] {
			sinks = append(sinks, impl.Sink{Known: []impl.Reading{{Key: k, Load: x.Load}}}, impl.Sink{Most: 4, Known: []impl.Reading{{Key: k, Load: "wxyz"}}, Wait: []impl.Code{there}})
		}
		for _, s := range sinks {
			isSinkOk(t, s, slowSinkOk(s))
			isTakenRightly(t, s, x)
			isTakenRightly(t, s, there)
			if impl.SinkText(s) != impl.SinkText(s) {
				t.Errorf("asked again, another text: %s", shownSink(s))
			}
		}
	}
	for _, n := range append([]int{-1, 0, 1, 12, 13, mostCounted, mostCounted + 1}, extremeInts...) {
		for _, s := range append(withCounts(impl.Sink{Most: 1}, n), impl.Sink{Most: n}, impl.Sink{Most: n, Wait: []impl.Code{there}}, impl.Sink{Most: n, Same: n, Lost: n, Bad: n}) {
			isTakenRightly(t, s, there)
			isTakenRightly(t, s, word("5.5", "abcd"))
			if got, want := impl.SinkText(s), slowSinkText(s); got != want {
				t.Errorf("SinkText = %q, want %q", got, want)
			}
		}
		impl.NewSink(n)
	}
	long := impl.Sink{Most: 12, Known: slices.Repeat(allReadings(), 20), Wait: slices.Repeat([]impl.Code{there}, 100000)}
	isTaken(t, long, there, impl.Sink{}, impl.TkBad)
	if text := impl.SinkText(long); len(text) < 1000000 {
		t.Errorf("the text of much has %d bytes", len(text))
	}
	all := impl.Sink{Most: 12, Known: allReadings()}
	for at := 0; at < 1975; at += 25 {
		isTakenRightly(t, all, wordOf(all.Known[at:at+6]))
	}
}
