package tests

import (
	"math"
	"slices"
	"strings"
	"testing"

	"loop.example/g00180/impl"
)

func TestCouncilLimits(t *testing.T) {
	if impl.MaxVoices != 5 {
		t.Errorf("MaxVoices is %d; want 5", impl.MaxVoices)
	}
	kinds := [4]int{impl.EvPropose, impl.EvCarry, impl.EvLose, impl.EvTwice}
	if kinds != [4]int{1, 2, 3, 4} {
		t.Errorf("the Kinds of events are %v; want 1 to 4", kinds)
	}
}

// countsToTry are the edges of voices and Tries, and others.
func countsToTry() []int {
	return []int{math.MinInt, math.MinInt + 1, -5, -4, -1, 0, 1, 2, 3, 4, 5, 6, 7, 8, 80, 1000, math.MaxInt - 1, math.MaxInt}
}

func TestCouncilNewCounts(t *testing.T) {
	for _, voices := range countsToTry() {
		for _, tries := range countsToTry() {
			want := voices >= 1 && voices <= 5 && tries >= 1 && tries <= 4
			c, ok := impl.CouncilNew(voices, tries)
			byRule, okByRule := ruleCouncil(voices, tries)
			if ok != want || okByRule != want || !sameCouncil(c, byRule) {
				t.Fatalf("CouncilNew(%d, %d) = %v, %v; want %v, %v", voices, tries, c, ok, byRule, want)
			}
			if !want && (len(c.Voices) != 0 || len(c.Tries) != 0) || len(c.Notes) != 0 || len(c.Chosen) != 0 {
				t.Fatalf("CouncilNew(%d, %d) = %v", voices, tries, c)
			}
		}
	}
}

func TestCouncilNewFields(t *testing.T) {
	for voices := 1; voices <= 5; voices++ {
		for tries := 1; tries <= 4; tries++ {
			c, ok := impl.CouncilNew(voices, tries)
			if !ok || len(c.Voices) != voices || len(c.Tries) != tries || len(c.Notes) != 0 || len(c.Chosen) != 0 {
				t.Fatalf("CouncilNew(%d, %d) = %v, %v", voices, tries, c, ok)
			}
			for _, v := range c.Voices {
				if v != (voice{}) {
					t.Errorf("a new voice is %v", v)
				}
			}
			for at, a := range c.Tries {
				if !sameTry(a, try{Id: at + 1}) {
					t.Errorf("the new Try %d is %v", at+1, a)
				}
			}
		}
	}
}

func TestRunCouncilOfNoEvents(t *testing.T) {
	for _, voices := range countsToTry() {
		for _, tries := range countsToTry() {
			for _, events := range [][]happen{nil, {}} {
				want, wantOk := impl.CouncilNew(voices, tries)
				c, numbers, ok := impl.RunCouncil(voices, tries, events)
				if ok != wantOk || len(numbers) != 0 || !sameCouncil(c, want) {
					t.Fatalf("RunCouncil(%d, %d) of no events is %v, %v, %v", voices, tries, c, numbers, ok)
				}
			}
		}
	}
}

// A council that can't be is refused, whatever its events are.
func TestRunCouncilOfWrongCounts(t *testing.T) {
	for _, voices := range countsToTry() {
		for _, tries := range countsToTry() {
			if voices >= 1 && voices <= 5 && tries >= 1 && tries <= 4 {
				continue
			}
			wantNoRun(t, voices, tries, []happen{propose(1, "it")})
			wantNoRun(t, voices, tries, []happen{carryAt(0)})
			wantNoRun(t, voices, tries, slices.Repeat([]happen{propose(1, "it")}, 80))
		}
	}
}

func TestRunCouncilHowManyEvents(t *testing.T) {
	for _, e := range []happen{propose(1, "it"), carryAt(0), loseAt(3), twiceAt(7)} {
		for _, count := range []int{1, 79, 80} {
			_, numbers, ok := run(t, 3, 2, slices.Repeat([]happen{e}, count))
			if !ok || len(numbers) != count {
				t.Errorf("%d events of %v: %d numbers, %v", count, e, len(numbers), ok)
			}
		}
		for _, count := range []int{81, 82, 160, 1000} {
			wantNoRun(t, 3, 2, slices.Repeat([]happen{e}, count))
		}
	}
}

// wrongHappens are events that are not right where there are so many Tries, each by one thing alone.
func wrongHappens(tries int) []happen {
	events := []happen{}
	for _, kind := range []int{math.MinInt, -1, 0, 5, 6, 257, math.MaxInt} {
		events = append(events, happen{Kind: kind, Id: 1}, happen{Kind: kind, Id: 1, Value: "v"})
	}
	for kind := 1; kind <= 4; kind++ {
		value := strings.Repeat("v", max(2-kind, 0))
		for _, id := range []int{math.MinInt, -1, 0, tries + 1, tries + 2, 1000, math.MaxInt} {
			events = append(events, happen{Kind: kind, Id: id, Value: value})
		}
		for _, at := range []int{-1, -2, math.MinInt} {
			events = append(events, happen{Kind: kind, Id: tries, At: at, Value: value})
		}
	}
	for _, length := range []int{0, 41, 42, 80, 1000} {
		events = append(events, propose(1, long(length)))
	}
	for kind := 2; kind <= 4; kind++ {
		for _, value := range []string{"v", "\x00", long(40), long(41)} {
			events = append(events, happen{Kind: kind, Id: 1, Value: value})
		}
	}
	return append(events, happen{}, propose(1, strings.Repeat("é", 20)+"e"))
}

// rightHappens are events at the edges of what is right.
func rightHappens(tries int) []happen {
	events := []happen{}
	for _, at := range []int{0, 1, 2, 1000, math.MaxInt} {
		for _, id := range []int{1, tries} {
			for kind := 2; kind <= 4; kind++ {
				events = append(events, happen{Kind: kind, Id: id, At: at})
			}
			for _, value := range []string{"v", "\x00", " ", long(39), long(40), strings.Repeat("é", 20)} {
				events = append(events, happen{Kind: 1, Id: id, At: at, Value: value})
			}
		}
	}
	return events
}

func TestRunCouncilEventsThatAreNotRight(t *testing.T) {
	for tries := 1; tries <= 4; tries++ {
		for _, wrong := range wrongHappens(tries) {
			if ruleHappenRight(wrong, tries) {
				t.Fatalf("by the rule %v is right where there are %d Tries", wrong, tries)
			}
			wantNoRun(t, 3, tries, []happen{wrong})
			for _, count := range []int{2, 9, 80} {
				for _, place := range []int{0, 1, count / 2, count - 1} {
					events := slices.Repeat([]happen{propose(1, "it"), carryAt(2)}, count)[:count]
					events[place] = wrong
					wantNoRun(t, 3, tries, events)
				}
			}
		}
	}
}

func TestRunCouncilEventsAtTheEdges(t *testing.T) {
	for tries := 1; tries <= 4; tries++ {
		for voices := 1; voices <= 5; voices++ {
			for _, right := range rightHappens(tries) {
				for _, events := range [][]happen{{right}, {propose(1, "it"), right}, {right, carryAt(1), right}} {
					if _, _, ok := run(t, voices, tries, events); !ok {
						t.Fatalf("RunCouncil(%d, %d, %v) is false", voices, tries, events)
					}
				}
			}
		}
	}
}

// The Id of an event that is no proposal is looked at for nothing else, nor is At of a proposal.
func TestRunCouncilFieldsThatDoNotCount(t *testing.T) {
	want, wantNumbers, _ := run(t, 3, 4, []happen{propose(3, "it"), carryAt(1), twiceAt(0), loseAt(2), carryAt(0)})
	for id := 1; id <= 4; id++ {
		for _, at := range []int{0, 1, 5, math.MaxInt} {
			events := []happen{{Kind: 1, Id: 3, At: at, Value: "it"}, {Kind: 2, Id: id, At: 1}, {Kind: 4, Id: id}, {Kind: 3, Id: id, At: 2}, {Kind: 2, Id: id}}
			got, numbers, ok := run(t, 3, 4, events)
			if !ok || !sameCouncil(got, want) || !slices.Equal(numbers, wantNumbers) {
				t.Errorf("%v makes %v, %v, %v; want %v, %v", events, got, numbers, ok, want, wantNumbers)
			}
		}
	}
}

func TestProposeForTheFirstTime(t *testing.T) {
	s := newScene(t, 2, 4)
	s.do(t, propose(3, "it"), 0)
	s.wantNow(t, council{
		Voices: []voice{{}, {}},
		Tries:  []try{{Id: 1}, {Id: 2}, {Id: 3, Ballot: 3, Value: "it"}, {Id: 4}},
		Notes:  []note{askPromise(3, 1, 3), askPromise(3, 2, 3)},
	})
	s.do(t, propose(1, "other"), 0)
	s.wantNow(t, council{
		Voices: []voice{{}, {}},
		Tries:  []try{{Id: 1, Ballot: 1, Value: "other"}, {Id: 2}, {Id: 3, Ballot: 3, Value: "it"}, {Id: 4}},
		Notes:  []note{askPromise(3, 1, 3), askPromise(3, 2, 3), askPromise(1, 1, 1), askPromise(1, 2, 1)},
	})
	for voices := 1; voices <= 5; voices++ {
		for id := 1; id <= 4; id++ {
			s := newScene(t, voices, 4)
			s.do(t, propose(id, long(40)), 0)
			s.wantTry(t, try{Id: id, Ballot: id, Value: long(40)})
			if len(s.now.Notes) != voices || s.now.Notes[voices-1] != askPromise(id, voices, id) {
				t.Errorf("the notes to %d voices are %v", voices, s.now.Notes)
			}
		}
	}
}

// A Try that is proposed anew forgets what it was told, be it Asked or not; notes stay where they are.
func TestProposeAgain(t *testing.T) {
	s := newScene(t, 3, 2)
	s.do(t, propose(2, "it"), 0)
	s.promise(t, 2, 1)
	s.wantTry(t, try{Id: 2, Ballot: 2, Value: "it", Promises: []note{tellPromise(1, 2, 2, 0, "")}})
	s.do(t, propose(2, "anew"), 0)
	s.wantNow(t, council{
		Voices: []voice{voiceOf(2, 0, ""), {}, {}},
		Tries:  []try{{Id: 1}, {Id: 2, Ballot: 12, Value: "anew"}},
		Notes:  []note{askPromise(2, 2, 2), askPromise(2, 3, 2), askPromise(2, 1, 12), askPromise(2, 2, 12), askPromise(2, 3, 12)},
	})
	s.promise(t, 2, 3)
	s.promise(t, 2, 1)
	s.carry(t, s.take(t, 2, 3))
	s.wantTry(t, try{
		Id: 2, Ballot: 12, Value: "anew", Asked: true, Takers: []int{3},
		Promises: []note{tellPromise(3, 2, 12, 0, ""), tellPromise(1, 2, 12, 0, "")},
	})
	s.do(t, propose(2, "third"), 0)
	s.wantNow(t, council{
		Voices: []voice{voiceOf(12, 0, ""), {}, voiceOf(12, 12, "anew")},
		Tries:  []try{{Id: 1}, {Id: 2, Ballot: 22, Value: "third"}},
		Notes: []note{
			askPromise(2, 2, 2), askPromise(2, 3, 2), askPromise(2, 2, 12), askTake(2, 1, 12, "anew"), askTake(2, 2, 12, "anew"),
			askPromise(2, 1, 22), askPromise(2, 2, 22), askPromise(2, 3, 22),
		},
	})
	s.do(t, propose(1, "other"), 0)
	s.wantTry(t, try{Id: 1, Ballot: 1, Value: "other"})
	s.wantTry(t, try{Id: 2, Ballot: 22, Value: "third"})
}

// 80 proposals are all that events reach; the ballot is far below MaxBallot then.
func TestProposeAsOftenAsMayBe(t *testing.T) {
	for id := 1; id <= 4; id++ {
		for voices := 1; voices <= 5; voices++ {
			c, numbers, ok := run(t, voices, 4, slices.Repeat([]happen{propose(id, "it")}, 80))
			if !ok || slices.Max(numbers) != 0 || c.Tries[id-1].Ballot != id+790 || len(c.Notes) != 80*voices {
				t.Fatalf("80 proposals of %d: %v, %v, %v", id, c.Tries[id-1], numbers, ok)
			}
			for at, m := range c.Notes {
				if want := askPromise(id, at%voices+1, id+at/voices*10); m != want {
					t.Fatalf("the note %d is %v; want %v", at, m, want)
				}
			}
		}
	}
}

func TestEventsOfNoNotes(t *testing.T) {
	for _, e := range []happen{carryAt(0), loseAt(0), twiceAt(0), carryAt(1), loseAt(5), twiceAt(math.MaxInt)} {
		s := newScene(t, 2, 2)
		want, _ := impl.CouncilNew(2, 2)
		s.do(t, e, 1)
		s.wantNow(t, want)
		s.do(t, e, 1)
		s.do(t, propose(1, "it"), 0)
		s.lose(t, askPromise(1, 1, 1), askPromise(1, 2, 1))
		want.Tries[0] = try{Id: 1, Ballot: 1, Value: "it"}
		s.wantNow(t, want)
		s.do(t, e, 1)
		s.wantNow(t, want)
	}
}

// placesToTry are numbers of At, and the place among five that each one means.
func placesToTry() map[int]int {
	return map[int]int{0: 0, 1: 1, 2: 2, 3: 3, 4: 4, 5: 0, 6: 1, 9: 4, 10: 0, 12: 2, 1003: 3, math.MaxInt: 2, math.MaxInt - 1: 1}
}

func TestLoseAtEachPlace(t *testing.T) {
	for at, place := range placesToTry() {
		s := newScene(t, 5, 1)
		s.do(t, propose(1, "it"), 0)
		want := cloneCouncil(s.now)
		want.Notes = []note{}
		for to := 1; to <= 5; to++ {
			if to != place+1 {
				want.Notes = append(want.Notes, askPromise(1, to, 1))
			}
		}
		s.do(t, loseAt(at), 0)
		s.wantNow(t, want)
	}
}

func TestTwiceAtEachPlace(t *testing.T) {
	for at, place := range placesToTry() {
		s := newScene(t, 5, 1)
		s.do(t, propose(1, "it"), 0)
		want := cloneCouncil(s.now)
		want.Notes = append(want.Notes, askPromise(1, place+1, 1))
		s.do(t, twiceAt(at), 0)
		s.wantNow(t, want)
		// There are six now, and the last one may be told once more.
		want.Notes = append(want.Notes, askPromise(1, place+1, 1))
		s.do(t, twiceAt(5), 0)
		s.wantNow(t, want)
	}
}

func TestCarryAtEachPlace(t *testing.T) {
	for at, place := range placesToTry() {
		s := newScene(t, 5, 1)
		s.do(t, propose(1, "it"), 0)
		want := cloneCouncil(s.now)
		want.Notes = []note{}
		for to := 1; to <= 5; to++ {
			if to != place+1 {
				want.Notes = append(want.Notes, askPromise(1, to, 1))
			}
		}
		want.Notes = append(want.Notes, tellPromise(place+1, 1, 1, 0, ""))
		want.Voices[place] = voiceOf(1, 0, "")
		s.do(t, carryAt(at), 0)
		s.wantNow(t, want)
	}
}

// A whole decision of three voices, one event at a time.
func TestCarryUntilChosen(t *testing.T) {
	s := newScene(t, 3, 1)
	s.do(t, propose(1, "it"), 0)
	s.do(t, carryAt(1), 0)
	now := council{
		Voices: []voice{{}, voiceOf(1, 0, ""), {}},
		Tries:  []try{{Id: 1, Ballot: 1, Value: "it"}},
		Notes:  []note{askPromise(1, 1, 1), askPromise(1, 3, 1), tellPromise(2, 1, 1, 0, "")},
	}
	s.wantNow(t, now)
	s.do(t, carryAt(2), 0)
	now.Notes = []note{askPromise(1, 1, 1), askPromise(1, 3, 1)}
	now.Tries = []try{{Id: 1, Ballot: 1, Value: "it", Promises: []note{tellPromise(2, 1, 1, 0, "")}}}
	s.wantNow(t, now)
	s.do(t, carryAt(0), 0)
	now.Voices[0] = voiceOf(1, 0, "")
	now.Notes = []note{askPromise(1, 3, 1), tellPromise(1, 1, 1, 0, "")}
	s.wantNow(t, now)
	s.do(t, carryAt(1), 0)
	now.Notes = []note{askPromise(1, 3, 1), askTake(1, 1, 1, "it"), askTake(1, 2, 1, "it"), askTake(1, 3, 1, "it")}
	now.Tries = []try{{Id: 1, Ballot: 1, Value: "it", Asked: true, Promises: []note{tellPromise(2, 1, 1, 0, ""), tellPromise(1, 1, 1, 0, "")}}}
	s.wantNow(t, now)
	// A voice that promised nothing takes it as well.
	s.do(t, carryAt(3), 0)
	now.Voices[2] = voiceOf(1, 1, "it")
	now.Notes = []note{askPromise(1, 3, 1), askTake(1, 1, 1, "it"), askTake(1, 2, 1, "it"), tellTaken(3, 1, 1, "it")}
	s.wantNow(t, now)
	s.do(t, carryAt(3), 0)
	now.Notes = now.Notes[:3]
	now.Tries[0].Takers = []int{3}
	s.wantNow(t, now)
	s.do(t, carryAt(1), 0)
	now.Voices[0] = voiceOf(1, 1, "it")
	now.Notes = []note{askPromise(1, 3, 1), askTake(1, 2, 1, "it"), tellTaken(1, 1, 1, "it")}
	s.wantNow(t, now)
	s.do(t, carryAt(2), 0)
	now.Notes = now.Notes[:2]
	now.Tries[0].Takers, now.Tries[0].Chosen, now.Chosen = []int{3, 1}, true, []string{"it"}
	s.wantNow(t, now)
	// What is left comes late: the question for a promise is not heeded, the third taker changes nothing that is chosen.
	s.do(t, carryAt(0), 1)
	now.Notes = now.Notes[1:]
	s.wantNow(t, now)
	s.do(t, carryAt(0), 0)
	now.Voices[1] = voiceOf(1, 1, "it")
	now.Notes = []note{tellTaken(2, 1, 1, "it")}
	s.wantNow(t, now)
	s.do(t, carryAt(0), 0)
	now.Notes = nil
	now.Tries[0].Takers = []int{3, 1, 2}
	s.wantNow(t, now)
	s.do(t, carryAt(0), 1)
	s.wantNow(t, now)
}

// How many promises lead to the question, and how many takers to what is chosen, for each number of voices.
func TestMostOfEachCouncil(t *testing.T) {
	for voices, most := range map[int]int{1: 1, 2: 2, 3: 2, 4: 3, 5: 3} {
		s := newScene(t, voices, 1)
		s.do(t, propose(1, "it"), 0)
		for to := 1; to <= most; to++ {
			if s.now.Tries[0].Asked {
				t.Fatalf("of %d voices it is Asked by %d promises", voices, to-1)
			}
			s.promise(t, 1, to)
		}
		if a := s.now.Tries[0]; !a.Asked || len(a.Promises) != most || len(s.now.Notes) != voices-most+voices {
			t.Fatalf("of %d voices %v has %d promises, and there are %v", voices, a, most, s.now.Notes)
		}
		for to := 1; to <= voices; to++ {
			if chosen := to > most; s.now.Tries[0].Chosen != chosen || len(s.now.Chosen) != 0 != chosen {
				t.Fatalf("of %d voices %d took it, and that it is chosen is %v", voices, to-1, !chosen)
			}
			s.carry(t, s.take(t, 1, to))
		}
		s.wantChosen(t, "it")
		if !s.now.Tries[0].Chosen || len(s.now.Tries[0].Takers) != voices {
			t.Fatalf("of %d voices all took it, and the Try is %v", voices, s.now.Tries[0])
		}
	}
}

// Drawn lives of each council, held against the rules after each event.
func TestRunCouncilByRule(t *testing.T) {
	for seed := range 120 {
		voices, tries := 1+seed%5, 1+seed/5%4
		events := drawnHappens(tries, 80, seed)
		for count := range events {
			run(t, voices, tries, events[:count])
		}
		run(t, voices, tries, events)
	}
}

// Every life of few events, of few voices and two Tries.
func TestRunCouncilEachLife(t *testing.T) {
	events := []happen{propose(1, "a"), propose(2, "b"), carryAt(0), carryAt(1), loseAt(0), twiceAt(1)}
	for voices := 1; voices <= 3; voices++ {
		eachPick(6, len(events), func(pick []int) {
			life := make([]happen, len(pick))
			for at, one := range pick {
				life[at] = events[one]
			}
			run(t, voices, 2, life)
		})
	}
}

func TestOneChosen(t *testing.T) {
	for _, one := range [][]string{nil, {}, {"a"}, {""}, {"a", "a"}, {"", ""}, {"a", "a", "a", "a"}, {long(40), long(40)}, slices.Repeat([]string{"it"}, 80)} {
		if !impl.OneChosen(council{Chosen: one}) {
			t.Errorf("OneChosen of %q is false", one)
		}
	}
	for _, two := range [][]string{{"a", "b"}, {"", "a"}, {"a", ""}, {"a", "A"}, {"a", "ab"}, {"ab", "a"}, {"a", "a\x00"}, {"a", "b", "a"}, {"a", "b", "b", "b"}, {"a", "b", "c"}, {long(40), long(39)}} {
		if impl.OneChosen(council{Chosen: two}) {
			t.Errorf("OneChosen of %q is true", two)
		}
	}
	for count := 2; count <= 20; count++ {
		for place := range count {
			list := slices.Repeat([]string{"it"}, count)
			list[place] = "other"
			if impl.OneChosen(council{Chosen: list}) {
				t.Errorf("OneChosen of %q is true", list)
			}
		}
	}
}

// Nothing else of a council counts for it, be it such as no events make.
func TestOneChosenLooksAtChosenAlone(t *testing.T) {
	c := council{
		Voices: []voice{voiceOf(1, 1, "a"), voiceOf(-1, 7, "b")},
		Tries:  []try{{Id: 1, Value: "a", Chosen: true}, {Id: 9, Value: "b", Chosen: true}},
		Notes:  []note{tellTaken(1, 1, 1, "c")},
	}
	if !impl.OneChosen(c) {
		t.Error("nothing is chosen, and OneChosen is false")
	}
	c.Chosen = []string{"d", "d"}
	if !impl.OneChosen(c) {
		t.Error("one value is chosen, and OneChosen is false")
	}
	c = council{Tries: []try{{Id: 1, Value: "a", Chosen: true}}, Chosen: []string{"a", "b"}}
	if impl.OneChosen(c) {
		t.Error("two values are chosen, and OneChosen is true")
	}
}
