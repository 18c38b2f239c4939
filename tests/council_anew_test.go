package tests

import (
	"slices"
	"strconv"
	"testing"

	"loop.example/g00180/impl"
)

// beginAnew wants a Try to be as at its beginning, but for its Ballot and Value, and all else to stay as it is.
func (s *scene) beginAnew(t *testing.T, id int, value string) {
	t.Helper()
	want := cloneCouncil(s.now)
	ballot := want.Tries[id-1].Ballot + 10
	want.Tries[id-1] = try{Id: id, Ballot: ballot, Value: value}
	for to := 1; to <= s.voices; to++ {
		want.Notes = append(want.Notes, askPromise(id, to, ballot))
	}
	s.do(t, propose(id, value), 0)
	s.wantNow(t, want)
}

// wantOthers wants all Tries but one to be as they were.
func (s *scene) wantOthers(t *testing.T, id int, before council) {
	t.Helper()
	for at, a := range s.now.Tries {
		if at != id-1 && !sameTry(a, before.Tries[at]) {
			t.Fatalf("by %v the Try %d is %v; it was %v", s.events, at+1, a, before.Tries[at])
		}
	}
}

// wantUndecided wants a Try not to be Chosen, nothing to be chosen since, and the others to be as they were.
func (s *scene) wantUndecided(t *testing.T, id int, before council) {
	t.Helper()
	if s.now.Tries[id-1].Chosen {
		t.Fatalf("by %v the Try is Chosen: %v", s.events, s.now.Tries[id-1])
	}
	s.wantChosen(t, before.Chosen...)
	s.wantOthers(t, id, before)
}

// askMost carries a Try's notes until it is Asked; the first voice that promises is the one at the place first.
func (s *scene) askMost(t *testing.T, id, first int) {
	t.Helper()
	before := s.now
	for count := range impl.MostOf(s.voices) {
		s.promise(t, id, (first+count)%s.voices+1)
		s.wantUndecided(t, id, before)
	}
	if a := s.now.Tries[id-1]; !a.Asked {
		t.Fatalf("by %v the Try is not Asked: %v", s.events, a)
	}
}

// decide carries a Try's notes until most voices took its Value; it is not Chosen until then.
func (s *scene) decide(t *testing.T, id, first int) {
	t.Helper()
	before := s.now
	s.askMost(t, id, first)
	want := s.now.Tries[id-1]
	for count := range impl.MostOf(s.voices) {
		voice := (first+1+count)%s.voices + 1
		told := s.take(t, id, voice)
		s.wantUndecided(t, id, before)
		s.wantTry(t, want)
		want.Takers = append(want.Takers, voice)
		want.Chosen = len(want.Takers) == impl.MostOf(s.voices)
		s.carry(t, told)
		s.wantTry(t, want)
	}
	s.wantOthers(t, id, before)
	s.wantChosen(t, append(slices.Clone(before.Chosen), want.Value)...)
	wantOneValue(t, s.now, s.events)
}

// One voice that takes all that it is asked for: six events, and four more.
func TestChosenByOneVoiceBeginsAnew(t *testing.T) {
	events := append([]happen{propose(1, "a")}, slices.Repeat([]happen{carryAt(0)}, 4)...)
	events = append(events, propose(1, "b"))
	c, numbers, ok := run(t, 1, 1, events)
	want := council{
		Voices: []voice{voiceOf(1, 1, "a")},
		Tries:  []try{{Id: 1, Ballot: 11, Value: "b"}},
		Notes:  []note{askPromise(1, 1, 11)},
		Chosen: []string{"a"},
	}
	if !ok || !slices.Equal(numbers, make([]int, 6)) || !sameCouncil(c, want) {
		t.Fatalf("begun anew it is %v, %v, %v; want %v", c, numbers, ok, want)
	}
	events = append(events, slices.Repeat([]happen{carryAt(0)}, 4)...)
	c, numbers, ok = run(t, 1, 1, events)
	want = council{
		Voices: []voice{voiceOf(11, 11, "a")},
		Tries:  []try{{Id: 1, Ballot: 11, Value: "a", Promises: []note{tellPromise(1, 1, 11, 1, "a")}, Asked: true, Takers: []int{1}, Chosen: true}},
		Chosen: []string{"a", "a"},
	}
	if !ok || !slices.Equal(numbers, make([]int, 10)) || !sameCouncil(c, want) {
		t.Fatalf("chosen again it is %v, %v, %v; want %v", c, numbers, ok, want)
	}
}

// A Try alone that is chosen, and begins anew as often as events reach, each time chosen again.
func TestChosenBeginsAnewAlone(t *testing.T) {
	for voices := 1; voices <= impl.MaxVoices; voices++ {
		for first := range voices {
			s := newScene(t, voices, 1)
			s.do(t, propose(1, "it"), 0)
			s.decide(t, 1, 0)
			for round := 1; round <= 5; round++ {
				s.beginAnew(t, 1, "anew "+strconv.Itoa(round))
				s.decide(t, 1, first*round)
			}
			s.wantChosen(t, slices.Repeat([]string{"it"}, 6)...)
		}
	}
}

// A Try that begins anew several times ahead of anything that is carried, or with a few promises or takers between.
func TestChosenBeginsAnewUndecided(t *testing.T) {
	for voices := 1; voices <= impl.MaxVoices; voices++ {
		s := newScene(t, voices, 1)
		s.do(t, propose(1, "it"), 0)
		s.decide(t, 1, 0)
		s.beginAnew(t, 1, "second")
		s.beginAnew(t, 1, "third")
		s.promise(t, 1, voices)
		s.beginAnew(t, 1, "fourth")
		s.askMost(t, 1, 1)
		for count := range impl.MostOf(voices) - 1 {
			s.carry(t, s.take(t, 1, count+1))
		}
		s.beginAnew(t, 1, "fifth")
		s.wantChosen(t, "it")
		s.decide(t, 1, 2)
		s.wantChosen(t, "it", "it")
		s.beginAnew(t, 1, "sixth")
		s.wantChosen(t, "it", "it")
	}
}

// beside lets a Try come as far as it may without being Chosen: not begun, promised by one voice, or taken by all but one of most.
func (s *scene) beside(t *testing.T, id, far int) {
	t.Helper()
	if far == 0 {
		return
	}
	s.do(t, propose(id, "beside "+strconv.Itoa(id)), 0)
	if far == 1 {
		s.carry(t, askPromise(id, s.voices, id))
		return
	}
	s.askMost(t, id, id)
	for count := range impl.MostOf(s.voices) - 1 {
		s.carry(t, s.take(t, id, count+1))
	}
}

// Of four Tries each set is Chosen; each one of it begins anew twice, and the others stay as they are.
func TestChosenBeginsAnewBesideOthers(t *testing.T) {
	for _, voices := range []int{1, 3, impl.MaxVoices} {
		for chosen := range 1 << 4 {
			begin := newScene(t, voices, 4)
			for id := 1; id <= 4; id++ {
				if chosen>>(id-1)&1 == 0 {
					begin.beside(t, id, (id+chosen)%3)
					continue
				}
				begin.do(t, propose(id, "it "+strconv.Itoa(id)), 0)
				begin.decide(t, id, id)
			}
			for id := 1; id <= 4; id++ {
				if !begin.now.Tries[id-1].Chosen {
					continue
				}
				s := begin.branch()
				s.beginAnew(t, id, "anew")
				s.decide(t, id, 0)
				s.beginAnew(t, id, "once more")
				s.decide(t, id, voices-1)
			}
		}
	}
}

// Two Tries that are both Chosen begin anew together; each is Chosen again by its own takers alone.
func TestTwoChosenBeginAnew(t *testing.T) {
	for voices := 1; voices <= impl.MaxVoices; voices++ {
		s := newScene(t, voices, 3)
		for _, id := range []int{1, 3} {
			s.do(t, propose(id, "it"), 0)
			s.decide(t, id, 0)
		}
		s.beginAnew(t, 1, "first")
		s.beginAnew(t, 3, "third")
		s.decide(t, 1, 1)
		s.decide(t, 3, 2)
		s.wantChosen(t, "it", "it", "it", "it")
		s.beginAnew(t, 1, "anew")
		s.do(t, propose(2, "second"), 0)
		s.lose(t, s.now.Notes[len(s.now.Notes)-voices:]...)
		s.wantTry(t, try{Id: 1, Ballot: 21, Value: "anew"})
		s.decide(t, 1, 0)
	}
}

// What another Try has chosen meanwhile does not make it Chosen.
func TestChosenBeginsAnewAndAnotherIsChosen(t *testing.T) {
	for voices := 1; voices <= impl.MaxVoices; voices++ {
		s := newScene(t, voices, 2)
		s.do(t, propose(1, "it"), 0)
		s.decide(t, 1, 0)
		s.beginAnew(t, 1, "anew")
		s.do(t, propose(2, "other"), 0)
		s.beginAnew(t, 2, "another")
		s.decide(t, 2, 1)
		s.wantTry(t, try{Id: 1, Ballot: 11, Value: "anew"})
		s.wantChosen(t, "it", "it")
		for to := 1; to <= impl.MostOf(voices); to++ {
			s.carryUnfit(t, askPromise(1, (to%voices)+1, 11))
		}
		s.wantTry(t, try{Id: 1, Ballot: 11, Value: "anew"})
	}
}

// Takers of the elder ballot that are told late, or again, do not make it Chosen in the new one.
func TestElderTakersOfOneThatBeganAnew(t *testing.T) {
	s := newScene(t, 5, 1)
	s.do(t, propose(1, "it"), 0)
	s.askMost(t, 1, 0)
	elder := []note{}
	for to := 1; to <= 5; to++ {
		told := s.take(t, 1, to)
		s.twice(t, told)
		s.twice(t, told)
		elder = append(elder, told)
	}
	s.carry(t, elder[:3]...)
	s.wantChosen(t, "it")
	s.beginAnew(t, 1, "anew")
	began := s.now
	for _, told := range elder {
		s.carryUnfit(t, told)
	}
	s.wantUndecided(t, 1, began)
	s.askMost(t, 1, 2)
	for _, told := range elder {
		s.carryUnfit(t, told)
	}
	s.carry(t, s.take(t, 1, 5))
	s.carryUnfit(t, elder[3])
	s.carry(t, s.take(t, 1, 4))
	s.carryUnfit(t, elder[4])
	s.wantUndecided(t, 1, began)
	s.carry(t, s.take(t, 1, 1))
	s.wantChosen(t, "it", "it")
	if a := s.now.Tries[0]; !a.Chosen || !slices.Equal(a.Takers, []int{5, 4, 1}) {
		t.Fatalf("chosen again the Try is %v", a)
	}
}

// Where all notes of the new ballot are lost it is not Chosen, and what was chosen stays.
func TestChosenBeginsAnewAndNotesAreLost(t *testing.T) {
	for voices := 1; voices <= impl.MaxVoices; voices++ {
		s := newScene(t, voices, 1)
		s.do(t, propose(1, "it"), 0)
		s.decide(t, 1, 0)
		s.beginAnew(t, 1, "anew")
		for len(s.now.Notes) > 0 {
			s.do(t, loseAt(0), 0)
		}
		s.do(t, carryAt(0), 1)
		s.wantTry(t, try{Id: 1, Ballot: 11, Value: "anew"})
		s.wantChosen(t, "it")
	}
}

// In a drawn life a Try is Chosen just when most voices took in the Ballot that it is in; nothing but its own proposal ends that.
func TestChosenIsOfTheBallotItIsIn(t *testing.T) {
	anew, again := 0, 0
	for seed := range 400 {
		voices, tries := 1+seed%5, 1+seed/5%4
		events := drawnHappens(tries, 80, seed*19+2)
		before, _ := impl.CouncilNew(voices, tries)
		for count, e := range events {
			c, _, ok := impl.RunCouncil(voices, tries, events[:count+1])
			if !ok {
				t.Fatalf("RunCouncil(%d, %d, %v) is false", voices, tries, events[:count+1])
			}
			for at, a := range c.Tries {
				was := before.Tries[at].Chosen
				if a.Chosen != (len(a.Takers) >= impl.MostOf(voices)) {
					t.Fatalf("by %v of %d voices the Try is %v", events[:count+1], voices, a)
				}
				if began := e.Kind == impl.EvPropose && e.Id == a.Id; was && a.Chosen == began {
					t.Fatalf("by %v a Try that was Chosen is %v", events[:count+1], a)
				}
				if was && !a.Chosen {
					anew++
				}
				if !was && a.Chosen && len(before.Chosen) > 0 {
					again++
				}
			}
			before = c
		}
	}
	if anew < 80 || again < 80 {
		t.Fatalf("%d times a Try that was Chosen began anew, %d times one was Chosen behind another", anew, again)
	}
}
