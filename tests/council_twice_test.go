package tests

import (
	"slices"
	"testing"
)

// A voice gives a promise once; asked again for it, it tells nothing.
func TestAskPromiseTwice(t *testing.T) {
	s := newScene(t, 3, 1)
	s.do(t, propose(1, "it"), 0)
	m := askPromise(1, 2, 1)
	s.twice(t, m)
	s.twice(t, m)
	s.carry(t, m)
	s.carryUnfit(t, m)
	s.carry(t, tellPromise(2, 1, 1, 0, ""))
	s.carryUnfit(t, m)
	s.wantTry(t, try{Id: 1, Ballot: 1, Value: "it", Promises: []note{tellPromise(2, 1, 1, 0, "")}})
}

// A question of an elder ballot is not heeded by a voice that promised the next one; by another it is.
func TestAskPromiseOfAnElderBallot(t *testing.T) {
	s := newScene(t, 2, 1)
	s.do(t, propose(1, "it"), 0)
	elder := askPromise(1, 1, 1)
	s.twice(t, elder)
	s.twice(t, askPromise(1, 2, 1))
	s.do(t, propose(1, "anew"), 0)
	s.promise(t, 1, 1)
	s.carryUnfit(t, elder)
	s.carryUnfit(t, elder)
	s.carry(t, askPromise(1, 2, 1))
	s.carryUnfit(t, tellPromise(2, 1, 1, 0, ""))
	s.carryUnfit(t, askPromise(1, 2, 1))
	s.promise(t, 1, 2)
	s.wantTry(t, try{
		Id: 1, Ballot: 11, Value: "anew", Asked: true,
		Promises: []note{tellPromise(1, 1, 11, 0, ""), tellPromise(2, 1, 11, 0, "")},
	})
}

// What two Tries ask for: the lesser ballot comes too late to the voice that promised the greater one.
func TestAskPromiseOfAnotherTry(t *testing.T) {
	s := newScene(t, 1, 2)
	s.do(t, propose(1, "a"), 0)
	s.do(t, propose(2, "b"), 0)
	s.carry(t, askPromise(2, 1, 2))
	s.carryUnfit(t, askPromise(1, 1, 1))
	s.carry(t, tellPromise(1, 2, 2, 0, ""))
	s.do(t, propose(1, "c"), 0)
	s.carry(t, askPromise(1, 1, 11))
	s.carryUnfit(t, askTake(2, 1, 2, "b"))
	s.carry(t, tellPromise(1, 1, 11, 0, ""))
	s.carry(t, s.take(t, 1, 1))
	s.wantChosen(t, "c")
}

// A promise that is told twice counts once, ahead of the question for the value.
func TestTellPromiseTwice(t *testing.T) {
	s := newScene(t, 5, 1)
	s.do(t, propose(1, "it"), 0)
	told := tellPromise(4, 1, 1, 0, "")
	s.carry(t, askPromise(1, 4, 1))
	s.twice(t, told)
	s.twice(t, told)
	s.twice(t, told)
	s.carry(t, told)
	s.carryUnfit(t, told)
	s.carryUnfit(t, told)
	s.wantTry(t, try{Id: 1, Ballot: 1, Value: "it", Promises: []note{told}})
	s.promise(t, 1, 2)
	s.carryUnfit(t, told)
	s.wantTry(t, try{Id: 1, Ballot: 1, Value: "it", Promises: []note{told, tellPromise(2, 1, 1, 0, "")}})
}

// Where it is Asked already, no promise counts any more: neither one that is told again nor a new one.
func TestTellPromiseWhenItIsAsked(t *testing.T) {
	s := newScene(t, 5, 1)
	s.do(t, propose(1, "it"), 0)
	for to := 1; to <= 5; to++ {
		s.carry(t, askPromise(1, to, 1))
	}
	for from := 1; from <= 5; from++ {
		s.twice(t, tellPromise(from, 1, 1, 0, ""))
	}
	s.carry(t, tellPromise(5, 1, 1, 0, ""), tellPromise(1, 1, 1, 0, ""), tellPromise(3, 1, 1, 0, ""))
	asked := try{
		Id: 1, Ballot: 1, Value: "it", Asked: true,
		Promises: []note{tellPromise(5, 1, 1, 0, ""), tellPromise(1, 1, 1, 0, ""), tellPromise(3, 1, 1, 0, "")},
	}
	s.wantTry(t, asked)
	for _, from := range []int{1, 2, 2, 3, 4, 4, 5} {
		s.carryUnfit(t, tellPromise(from, 1, 1, 0, ""))
	}
	s.wantTry(t, asked)
	want := []note{}
	for to := 1; to <= 5; to++ {
		want = append(want, askTake(1, to, 1, "it"))
	}
	if !slices.Equal(s.now.Notes, want) {
		t.Fatalf("the notes are %v; want %v", s.now.Notes, want)
	}
	// Nor when it is chosen.
	s.do(t, propose(1, "anew"), 0)
	for to := 1; to <= 5; to++ {
		s.carry(t, askPromise(1, to, 11))
	}
	s.carry(t, tellPromise(1, 1, 11, 0, ""), tellPromise(2, 1, 11, 0, ""), tellPromise(3, 1, 11, 0, ""))
	for to := 1; to <= 4; to++ {
		s.carry(t, s.take(t, 1, to))
	}
	s.carryUnfit(t, tellPromise(5, 1, 11, 0, ""))
	s.carryUnfit(t, tellPromise(4, 1, 11, 0, ""))
	s.wantChosen(t, "anew")
}

// What is told of another ballot counts neither ahead of the question nor behind it.
func TestTellPromiseOfAnotherBallot(t *testing.T) {
	s := newScene(t, 3, 1)
	s.do(t, propose(1, "it"), 0)
	for to := 1; to <= 3; to++ {
		s.carry(t, askPromise(1, to, 1))
		s.twice(t, tellPromise(to, 1, 1, 0, ""))
	}
	s.carry(t, tellPromise(1, 1, 1, 0, ""))
	s.do(t, propose(1, "anew"), 0)
	for _, from := range []int{1, 2, 3} {
		s.carryUnfit(t, tellPromise(from, 1, 1, 0, ""))
	}
	s.wantTry(t, try{Id: 1, Ballot: 11, Value: "anew"})
	s.promise(t, 1, 2)
	s.carryUnfit(t, tellPromise(3, 1, 1, 0, ""))
	s.promise(t, 1, 3)
	s.carryUnfit(t, tellPromise(2, 1, 1, 0, ""))
	s.wantTry(t, try{
		Id: 1, Ballot: 11, Value: "anew", Asked: true,
		Promises: []note{tellPromise(2, 1, 11, 0, ""), tellPromise(3, 1, 11, 0, "")},
	})
}

// A voice that is asked twice to take the same takes it twice, and tells it twice; it is one taker.
func TestAskTakeTwice(t *testing.T) {
	s := newScene(t, 3, 1)
	s.do(t, propose(1, "it"), 0)
	s.promise(t, 1, 1)
	s.promise(t, 1, 2)
	m, told := askTake(1, 2, 1, "it"), tellTaken(2, 1, 1, "it")
	s.twice(t, m)
	s.twice(t, m)
	s.carry(t, m)
	took := cloneCouncil(s.now)
	s.carry(t, m)
	took.Notes = append(slices.Delete(took.Notes, slices.Index(took.Notes, m), slices.Index(took.Notes, m)+1), told)
	s.wantNow(t, took)
	s.carry(t, told)
	s.carryUnfit(t, told)
	s.carry(t, m)
	s.carryUnfit(t, told)
	s.wantTry(t, try{
		Id: 1, Ballot: 1, Value: "it", Asked: true, Takers: []int{2},
		Promises: []note{tellPromise(1, 1, 1, 0, ""), tellPromise(2, 1, 1, 0, "")},
	})
	s.wantChosen(t)
}

// What an elder ballot asks for is not taken by a voice that promised the next one, be it told once or twice.
func TestAskTakeOfAnElderBallot(t *testing.T) {
	s := newScene(t, 3, 1)
	s.do(t, propose(1, "it"), 0)
	s.promise(t, 1, 1)
	s.promise(t, 1, 2)
	for to := 1; to <= 3; to++ {
		s.twice(t, askTake(1, to, 1, "it"))
	}
	s.do(t, propose(1, "anew"), 0)
	s.promise(t, 1, 1)
	s.carryUnfit(t, askTake(1, 1, 1, "it"))
	s.carryUnfit(t, askTake(1, 1, 1, "it"))
	// The voice 2 promised nothing greater yet: it takes what it is asked for, but the Try is beyond that.
	s.carry(t, askTake(1, 2, 1, "it"))
	s.carryUnfit(t, tellTaken(2, 1, 1, "it"))
	s.promise(t, 1, 2)
	s.wantTry(t, try{
		Id: 1, Ballot: 11, Value: "it", Asked: true,
		Promises: []note{tellPromise(1, 1, 11, 0, ""), tellPromise(2, 1, 11, 1, "it")},
	})
	s.carryUnfit(t, askTake(1, 2, 1, "it"))
	s.carry(t, s.take(t, 1, 3))
	s.carryUnfit(t, askTake(1, 3, 1, "it"))
	s.wantChosen(t)
}

// Takers are counted once each, in the order in which they told it.
func TestTellTakenTwice(t *testing.T) {
	s := newScene(t, 5, 1)
	s.do(t, propose(1, "it"), 0)
	for _, to := range []int{1, 2, 3} {
		s.promise(t, 1, to)
	}
	for _, from := range []int{4, 1} {
		told := s.take(t, 1, from)
		s.twice(t, told)
		s.twice(t, told)
		s.carry(t, told)
		s.carryUnfit(t, told)
	}
	s.carryUnfit(t, tellTaken(4, 1, 1, "it"))
	if takers := s.now.Tries[0].Takers; !slices.Equal(takers, []int{4, 1}) {
		t.Fatalf("the takers are %v", takers)
	}
	s.wantChosen(t)
	last := s.take(t, 1, 5)
	s.twice(t, last)
	s.carry(t, last)
	s.wantChosen(t, "it")
	s.carryUnfit(t, last)
	s.carryUnfit(t, tellTaken(1, 1, 1, "it"))
	s.wantChosen(t, "it")
}

// What was taken in an elder ballot makes no taker of a greater one.
func TestTellTakenOfAnotherBallot(t *testing.T) {
	s := newScene(t, 3, 1)
	s.do(t, propose(1, "it"), 0)
	s.promise(t, 1, 1)
	s.promise(t, 1, 2)
	elder := []note{}
	for to := 1; to <= 3; to++ {
		told := s.take(t, 1, to)
		s.twice(t, told)
		elder = append(elder, told)
	}
	s.carry(t, elder[0])
	s.do(t, propose(1, "anew"), 0)
	for _, told := range elder {
		s.carryUnfit(t, told)
	}
	s.promise(t, 1, 3)
	s.promise(t, 1, 1)
	s.carryUnfit(t, elder[1])
	s.carry(t, s.take(t, 1, 2))
	s.carryUnfit(t, elder[2])
	s.wantTry(t, try{
		Id: 1, Ballot: 11, Value: "it", Asked: true, Takers: []int{2},
		Promises: []note{tellPromise(3, 1, 11, 1, "it"), tellPromise(1, 1, 11, 1, "it")},
	})
	s.wantChosen(t)
}

// Takers beyond MostOf are put behind the others, and nothing is chosen by them once more.
func TestTakersBeyondMost(t *testing.T) {
	s := newScene(t, 5, 2)
	s.do(t, propose(2, "it"), 0)
	for _, to := range []int{1, 2, 3} {
		s.promise(t, 2, to)
	}
	takers := []int{5, 3, 1, 2, 4}
	for count, chosen := range [][]string{nil, nil, {"it"}, {"it"}, {"it"}} {
		s.carry(t, s.take(t, 2, takers[count]))
		s.wantChosen(t, chosen...)
		if a := s.now.Tries[1]; !slices.Equal(a.Takers, takers[:count+1]) || a.Chosen != (chosen != nil) {
			t.Fatalf("with the takers %v the Try is %v", takers[:count+1], a)
		}
	}
}

// chosenOnce is a scene in which the Try 1 of two was chosen by the voices 1 and 2 of three.
func chosenOnce(t *testing.T) *scene {
	t.Helper()
	s := newScene(t, 3, 2)
	s.do(t, propose(1, "it"), 0)
	s.promise(t, 1, 1)
	s.promise(t, 1, 2)
	s.carry(t, s.take(t, 1, 1))
	s.carry(t, s.take(t, 1, 2))
	s.wantChosen(t, "it")
	return s
}

// A Try that was Chosen and is proposed anew is not, until it is chosen again with the same Value.
func TestChosenAndProposedAnew(t *testing.T) {
	s := chosenOnce(t)
	s.do(t, propose(1, "anew"), 0)
	s.wantTry(t, try{Id: 1, Ballot: 11, Value: "anew"})
	s.wantChosen(t, "it")
	s.promise(t, 1, 3)
	s.wantTry(t, try{Id: 1, Ballot: 11, Value: "anew", Promises: []note{tellPromise(3, 1, 11, 0, "")}})
	s.promise(t, 1, 2)
	again := try{
		Id: 1, Ballot: 11, Value: "it", Asked: true,
		Promises: []note{tellPromise(3, 1, 11, 0, ""), tellPromise(2, 1, 11, 1, "it")},
	}
	s.wantTry(t, again)
	s.carry(t, s.take(t, 1, 3))
	again.Takers = []int{3}
	s.wantTry(t, again)
	s.wantChosen(t, "it")
	s.carry(t, s.take(t, 1, 2))
	again.Takers, again.Chosen = []int{3, 2}, true
	s.wantTry(t, again)
	s.wantChosen(t, "it", "it")
	s.carry(t, s.take(t, 1, 1))
	s.wantChosen(t, "it", "it")
}

// Another Try that comes behind it is chosen with the same Value.
func TestChosenByAnotherTry(t *testing.T) {
	for _, pair := range [][2]int{{1, 2}, {1, 3}, {2, 3}, {3, 1}} {
		s := chosenOnce(t)
		s.do(t, propose(2, "other"), 0)
		s.promise(t, 2, pair[0])
		s.promise(t, 2, pair[1])
		if a := s.now.Tries[1]; !a.Asked || a.Value != "it" || a.Chosen {
			t.Fatalf("by the voices %v the Try is %v", pair, a)
		}
		s.carry(t, s.take(t, 2, 3))
		s.carry(t, s.take(t, 2, 1))
		s.wantChosen(t, "it", "it")
		if !s.now.Tries[0].Chosen || !s.now.Tries[1].Chosen {
			t.Fatalf("the Tries are %v", s.now.Tries)
		}
	}
}

// What one voice took goes ahead of a Try's own Value, where its promise is among those that count; else it does not.
func TestTakenByOneVoiceGoesAhead(t *testing.T) {
	begin := newScene(t, 3, 2)
	begin.do(t, propose(1, "a"), 0)
	begin.promise(t, 1, 1)
	begin.promise(t, 1, 2)
	begin.take(t, 1, 1)
	for _, test := range []struct {
		first, second int
		want          string
	}{{1, 2, "a"}, {2, 1, "a"}, {1, 3, "a"}, {3, 1, "a"}, {2, 3, "b"}, {3, 2, "b"}} {
		s := begin.branch()
		s.do(t, propose(2, "b"), 0)
		s.promise(t, 2, test.first)
		if a := s.now.Tries[1]; a.Value != "b" || a.Asked {
			t.Fatalf("by the voice %d alone the Try is %v", test.first, a)
		}
		s.promise(t, 2, test.second)
		if a := s.now.Tries[1]; a.Value != test.want || !a.Asked {
			t.Fatalf("by the voices %d and %d the Try is %v; want the Value %q", test.first, test.second, a, test.want)
		}
		for to := 1; to <= 3; to++ {
			s.place(t, askTake(2, to, 2, test.want))
		}
		s.carry(t, s.take(t, 2, 3))
		s.carry(t, s.take(t, 2, 2))
		s.wantChosen(t, test.want)
	}
}

// Of what was taken in two ballots, that of the greater one goes ahead, whoever tells it first.
func TestTakenInTheGreaterBallotGoesAhead(t *testing.T) {
	begin := newScene(t, 5, 4)
	begin.do(t, propose(1, "a"), 0)
	for _, to := range []int{1, 2, 3} {
		begin.promise(t, 1, to)
	}
	begin.take(t, 1, 1)
	begin.do(t, propose(2, "b"), 0)
	for _, to := range []int{2, 3, 4} {
		begin.promise(t, 2, to)
	}
	begin.take(t, 2, 4)
	eachPick(3, 5, func(pick []int) {
		if pick[0] == pick[1] || pick[0] == pick[2] || pick[1] == pick[2] {
			return
		}
		s := begin.branch()
		s.do(t, propose(4, "c"), 0)
		for _, at := range pick {
			s.promise(t, 4, at+1)
		}
		want := "c"
		switch {
		case slices.Contains(pick, 3):
			want = "b"
		case slices.Contains(pick, 0):
			want = "a"
		}
		if a := s.now.Tries[3]; a.Value != want || !a.Asked {
			t.Fatalf("by the voices at %v the Try is %v; want the Value %q", pick, a, want)
		}
	})
}

// Notes that are lost are as if they had not been told, and others may stand for them.
func TestLostNotes(t *testing.T) {
	s := newScene(t, 3, 1)
	s.do(t, propose(1, "it"), 0)
	s.lose(t, askPromise(1, 1, 1))
	s.carry(t, askPromise(1, 2, 1))
	s.twice(t, tellPromise(2, 1, 1, 0, ""))
	s.lose(t, tellPromise(2, 1, 1, 0, ""))
	s.carry(t, tellPromise(2, 1, 1, 0, ""))
	s.promise(t, 1, 3)
	s.lose(t, askTake(1, 3, 1, "it"))
	s.lose(t, s.take(t, 1, 2))
	s.carry(t, s.take(t, 1, 1))
	s.wantNow(t, council{
		Voices: []voice{voiceOf(1, 1, "it"), voiceOf(1, 1, "it"), voiceOf(1, 0, "")},
		Tries: []try{{
			Id: 1, Ballot: 1, Value: "it", Asked: true, Takers: []int{1},
			Promises: []note{tellPromise(2, 1, 1, 0, ""), tellPromise(3, 1, 1, 0, "")},
		}},
	})
	s.do(t, propose(1, "anew"), 0)
	s.promise(t, 1, 3)
	s.promise(t, 1, 2)
	s.carry(t, s.take(t, 1, 3))
	s.carry(t, s.take(t, 1, 2))
	s.wantChosen(t, "it")
}
