package tests

import (
	"slices"
	"strconv"
	"strings"
	"testing"

	"loop.example/g00180/impl"
)

type (
	happen  = impl.Happen
	council = impl.Council
	try     = impl.Try
)

func propose(id int, value string) happen {
	return happen{Kind: impl.EvPropose, Id: id, Value: value}
}

func carryAt(at int) happen { return happen{Kind: impl.EvCarry, Id: 1, At: at} }
func loseAt(at int) happen  { return happen{Kind: impl.EvLose, Id: 1, At: at} }
func twiceAt(at int) happen { return happen{Kind: impl.EvTwice, Id: 1, At: at} }

// The four Kinds of notes between a Try and a voice.
func askPromise(id, voice, ballot int) note {
	return note{Kind: 1, From: id, To: voice, Ballot: ballot}
}

func tellPromise(voice, id, ballot, taken int, value string) note {
	return note{Kind: 2, From: voice, To: id, Ballot: ballot, Taken: taken, Value: value}
}

func askTake(id, voice, ballot int, value string) note {
	return note{Kind: 3, From: id, To: voice, Ballot: ballot, Value: value}
}

func tellTaken(voice, id, ballot int, value string) note {
	return note{Kind: 4, From: voice, To: id, Ballot: ballot, Value: value}
}

func sameTry(a, b try) bool {
	return a.Id == b.Id && a.Ballot == b.Ballot && a.Value == b.Value && slices.Equal(a.Promises, b.Promises) &&
		a.Asked == b.Asked && slices.Equal(a.Takers, b.Takers) && a.Chosen == b.Chosen
}

// sameCouncil takes an empty list and none as the same.
func sameCouncil(a, b council) bool {
	return slices.Equal(a.Voices, b.Voices) && slices.EqualFunc(a.Tries, b.Tries, sameTry) &&
		slices.Equal(a.Notes, b.Notes) && slices.Equal(a.Chosen, b.Chosen)
}

func cloneCouncil(c council) council {
	tries := make([]try, len(c.Tries))
	for at, a := range c.Tries {
		a.Promises, a.Takers = slices.Clone(a.Promises), slices.Clone(a.Takers)
		tries[at] = a
	}
	return council{Voices: slices.Clone(c.Voices), Tries: tries, Notes: slices.Clone(c.Notes), Chosen: slices.Clone(c.Chosen)}
}

// ruleCouncil is a council of which nothing is known but how many are in it.
func ruleCouncil(voices, tries int) (council, bool) {
	c := council{}
	for range min(voices, 6) {
		c.Voices = append(c.Voices, voice{})
	}
	for id := 1; id <= min(tries, 5); id++ {
		c.Tries = append(c.Tries, try{Id: id})
	}
	if count := [2]int{len(c.Voices), len(c.Tries)}; count[0]%6 == 0 || count[1]%5 == 0 {
		return council{}, false
	}
	return c, true
}

// ruleHappenRight is the rule of a right event, by what is wrong.
func ruleHappenRight(e happen, tries int) bool {
	switch {
	case e.Kind < 1, e.Kind > 4, e.Id < 1, e.Id > tries, e.At < 0:
		return false
	case e.Kind == 1 && e.Value == "", e.Kind == 1 && len(e.Value) > 40:
		return false
	case e.Kind != 1 && e.Value != "":
		return false
	}
	return true
}

// ruleHappen is what becomes of a council by a right event; the one before stays.
func ruleHappen(before council, e happen) (council, int) {
	c := cloneCouncil(before)
	if e.Kind == 1 {
		return rulePropose(c, e)
	}
	if len(c.Notes) == 0 {
		return before, 1
	}
	place := e.At % len(c.Notes)
	m := c.Notes[place]
	if e.Kind == 4 {
		c.Notes = append(c.Notes, m)
		return c, 0
	}
	c.Notes = append(c.Notes[:place], c.Notes[place+1:]...)
	if e.Kind == 3 {
		return c, 0
	}
	return ruleCarry(c, m)
}

func rulePropose(c council, e happen) (council, int) {
	t := c.Tries[e.Id-1]
	if t.Ballot == 0 {
		t.Ballot = e.Id - 10
	}
	if t.Ballot > 9990 {
		return c, 1
	}
	c.Tries[e.Id-1] = try{Id: e.Id, Ballot: t.Ballot + 10, Value: e.Value}
	for at := range c.Voices {
		c.Notes = append(c.Notes, askPromise(e.Id, at+1, t.Ballot+10))
	}
	return c, 0
}

// ruleCarry is what becomes of a council, from which the note is taken, by what comes to its To.
func ruleCarry(c council, m note) (council, int) {
	if m.Kind%2 == 1 {
		heard, told, ok := ruleHear(c.Voices[m.To-1], m)
		if !ok {
			return c, 1
		}
		c.Voices[m.To-1] = heard
		c.Notes = append(c.Notes, told)
		return c, 0
	}
	t := &c.Tries[m.To-1]
	most := map[int]int{1: 1, 2: 2, 3: 2, 4: 3, 5: 3}[len(c.Voices)]
	told := slices.ContainsFunc(t.Promises, func(other note) bool { return other.From == m.From })
	switch {
	case m.Ballot != t.Ballot:
		return c, 1
	case m.Kind == 2 && (t.Asked || told), m.Kind == 4 && slices.Contains(t.Takers, m.From):
		return c, 1
	case m.Kind == 2:
		t.Promises = append(t.Promises, m)
		if len(t.Promises) == most {
			t.Asked, t.Value = true, rulePick(t.Promises, t.Value)
			for at := range c.Voices {
				c.Notes = append(c.Notes, askTake(t.Id, at+1, t.Ballot, t.Value))
			}
		}
	default:
		t.Takers = append(t.Takers, m.From)
		if len(t.Takers) == most {
			t.Chosen = true
			c.Chosen = append(c.Chosen, t.Value)
		}
	}
	return c, 0
}

// ruleRun is RunCouncil by the rules.
func ruleRun(voices, tries int, events []happen) (council, []int, bool) {
	c, ok := ruleCouncil(voices, tries)
	if !ok || len(events) > 80 {
		return council{}, nil, false
	}
	numbers := []int{}
	for _, e := range events {
		if !ruleHappenRight(e, tries) {
			return council{}, nil, false
		}
	}
	for _, e := range events {
		next, number := ruleHappen(c, e)
		c, numbers = next, append(numbers, number)
	}
	return c, numbers, true
}

// run holds RunCouncil against the rules.
func run(t *testing.T, voices, tries int, events []happen) (council, []int, bool) {
	t.Helper()
	got, numbers, ok := impl.RunCouncil(voices, tries, events)
	want, wantNumbers, wantOk := ruleRun(voices, tries, events)
	if !sameCouncil(got, want) || !slices.Equal(numbers, wantNumbers) || ok != wantOk {
		t.Fatalf("RunCouncil(%d, %d, %v) = %v, %v, %v; want %v, %v, %v", voices, tries, events, got, numbers, ok, want, wantNumbers, wantOk)
	}
	return got, numbers, ok
}

// wantNoRun wants a false, and all zero.
func wantNoRun(t *testing.T, voices, tries int, events []happen) {
	t.Helper()
	c, numbers, ok := impl.RunCouncil(voices, tries, events)
	if !sameCouncil(c, council{}) || len(numbers) != 0 || ok {
		t.Fatalf("RunCouncil(%d, %d, %v) = %v, %v, %v; want nothing, false", voices, tries, events, c, numbers, ok)
	}
}

// scene is a council to which one event happens after the other.
type scene struct {
	voices int
	tries  int
	events []happen
	now    council
}

func newScene(t *testing.T, voices, tries int) *scene {
	t.Helper()
	s := &scene{voices: voices, tries: tries}
	s.now, _, _ = run(t, voices, tries, nil)
	return s
}

// branch is a scene that goes on alone from here.
func (s *scene) branch() *scene {
	return &scene{voices: s.voices, tries: s.tries, events: slices.Clone(s.events), now: cloneCouncil(s.now)}
}

// do lets an event happen, and wants its number.
func (s *scene) do(t *testing.T, e happen, number int) {
	t.Helper()
	s.events = append(s.events, e)
	now, numbers, ok := run(t, s.voices, s.tries, s.events)
	if last := len(s.events) - 1; !ok || len(numbers) != last+1 || numbers[last] != number {
		t.Fatalf("the last of %v has the numbers %v, %v; want %d", s.events, numbers, ok, number)
	}
	s.now = now
}

// place is where a note stands among the others.
func (s *scene) place(t *testing.T, m note) int {
	t.Helper()
	place := slices.Index(s.now.Notes, m)
	if place < 0 {
		t.Fatalf("%v is not among %v", m, s.now.Notes)
	}
	return place
}

// carry wants each of these notes to be among the others, and to fit.
func (s *scene) carry(t *testing.T, notes ...note) {
	t.Helper()
	for _, m := range notes {
		s.do(t, carryAt(s.place(t, m)), 0)
	}
}

// carryUnfit wants a note that comes too late, or again, to change nothing but that it is taken away.
func (s *scene) carryUnfit(t *testing.T, m note) {
	t.Helper()
	want := cloneCouncil(s.now)
	place := s.place(t, m)
	want.Notes = slices.Delete(want.Notes, place, place+1)
	s.do(t, carryAt(place), 1)
	s.wantNow(t, want)
}

func (s *scene) twice(t *testing.T, m note) {
	t.Helper()
	want := append(slices.Clone(s.now.Notes), m)
	s.do(t, twiceAt(s.place(t, m)), 0)
	if !slices.Equal(s.now.Notes, want) {
		t.Fatalf("%v put once more behind the others makes %v; want %v", m, s.now.Notes, want)
	}
}

func (s *scene) lose(t *testing.T, notes ...note) {
	t.Helper()
	for _, m := range notes {
		s.do(t, loseAt(s.place(t, m)), 0)
	}
}

func (s *scene) wantNow(t *testing.T, want council) {
	t.Helper()
	if !sameCouncil(s.now, want) {
		t.Fatalf("by %v the council is\n%v; want\n%v", s.events, s.now, want)
	}
}

func (s *scene) wantTry(t *testing.T, want try) {
	t.Helper()
	if got := s.now.Tries[want.Id-1]; !sameTry(got, want) {
		t.Fatalf("by %v the Try is\n%v; want\n%v", s.events, got, want)
	}
}

func (s *scene) wantChosen(t *testing.T, want ...string) {
	t.Helper()
	if !slices.Equal(s.now.Chosen, want) {
		t.Fatalf("by %v these are chosen: %q; want %q", s.events, s.now.Chosen, want)
	}
}

// promise brings a Try's question to a voice, and the answer back.
func (s *scene) promise(t *testing.T, id, voice int) {
	t.Helper()
	m := askPromise(id, voice, s.now.Tries[id-1].Ballot)
	v := s.now.Voices[voice-1]
	s.carry(t, m, tellPromise(voice, id, m.Ballot, v.Taken, v.Value))
}

// take lets a voice take a Try's Value; what it tells is not carried yet.
func (s *scene) take(t *testing.T, id, voice int) note {
	t.Helper()
	now := s.now.Tries[id-1]
	s.carry(t, askTake(id, voice, now.Ballot, now.Value))
	return tellTaken(voice, id, now.Ballot, now.Value)
}

// drawnHappens are events of a council: carried mostly, the rest by how bad the way of the notes is.
func drawnHappens(tries, count, seed int) []happen {
	events := make([]happen, count)
	bad := 1 + seed%4
	for at, number := range drawnNumbers(count, seed+1) {
		drawn := uint64(number)
		e := happen{Id: 1 + int(drawn>>8%uint64(tries)), At: int(drawn >> 16 % 40)}
		if drawn>>22%16 == 0 {
			e.At = int(drawn >> 1)
		}
		switch kind := int(drawn>>32) % 40; {
		case at == 0, kind < 1+bad/2:
			e.Kind, e.Value = impl.EvPropose, drawnValue(at, drawn)
		case kind < 1+2*bad:
			e.Kind = impl.EvLose
		case kind < 3+4*bad:
			e.Kind = impl.EvTwice
		default:
			e.Kind = impl.EvCarry
		}
		events[at] = e
	}
	return events
}

// drawnValue is of 1 to 40 bytes, and mostly unlike all others of its list.
func drawnValue(at int, drawn uint64) string {
	switch drawn >> 40 % 8 {
	case 0:
		return "same"
	case 1:
		return string([]byte{byte(at)})
	case 2:
		return strings.Repeat(string(rune('a'+at%26)), 40)
	}
	return "value " + strconv.Itoa(at)
}
