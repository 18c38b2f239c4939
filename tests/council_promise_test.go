package tests

import (
	"slices"
	"testing"

	"loop.example/g00180/impl"
)

// decided is what most of all voices took in one ballot, as it is seen from outside, event by event.
type decided struct {
	took   map[int]map[int]string
	values []string
}

// look notes what each voice has taken by now.
func (d *decided) look(t *testing.T, c council) {
	t.Helper()
	for at, v := range c.Voices {
		if v.Taken == 0 {
			continue
		}
		if d.took[v.Taken] == nil {
			d.took[v.Taken] = map[int]string{}
		}
		d.took[v.Taken][at] = v.Value
		for _, value := range d.took[v.Taken] {
			if value != v.Value {
				t.Fatalf("in the ballot %d both %q and %q are taken", v.Taken, value, v.Value)
			}
		}
		if 2*len(d.took[v.Taken]) > len(c.Voices) && !slices.Contains(d.values, v.Value) {
			d.values = append(d.values, v.Value)
		}
	}
	if len(d.values) > 1 {
		t.Fatalf("most voices took %q", d.values)
	}
}

// wantOneValue wants all that is chosen to be the same, and one of what was proposed.
func wantOneValue(t *testing.T, c council, events []happen) {
	t.Helper()
	if !impl.OneChosen(c) {
		t.Fatalf("by %v OneChosen is false of %q", events, c.Chosen)
	}
	proposed := map[string]int{}
	for _, e := range events {
		if e.Kind == impl.EvPropose {
			proposed[e.Value]++
		}
	}
	for _, value := range c.Chosen {
		if value != c.Chosen[0] || proposed[value] == 0 {
			t.Fatalf("by %v these are chosen: %q", events, c.Chosen)
		}
	}
}

// noteChosen notes the Tries that are Chosen, since those that begin anew are not any more.
func noteChosen(chosen map[int]int, c council) {
	for _, a := range c.Tries {
		if a.Chosen {
			chosen[a.Id]++
		}
	}
}

// wantLife holds a life against the promise after each of its events; how many Tries were Chosen in it is told, too.
func wantLife(t *testing.T, voices, tries int, events []happen) (council, int) {
	t.Helper()
	d := decided{took: map[int]map[int]string{}}
	before := council{}
	chosen := map[int]int{}
	for count := range len(events) + 1 {
		c, numbers, ok := impl.RunCouncil(voices, tries, events[:count])
		if !ok || len(numbers) != count {
			t.Fatalf("RunCouncil(%d, %d, %v) = %v, %v", voices, tries, events[:count], numbers, ok)
		}
		d.look(t, c)
		wantOneValue(t, c, events[:count])
		if len(c.Chosen) < len(before.Chosen) || !slices.Equal(c.Chosen[:len(before.Chosen)], before.Chosen) {
			t.Fatalf("by %v what was chosen is undone: %q", events[:count], c.Chosen)
		}
		if len(c.Chosen) > 0 && !slices.Equal(d.values, c.Chosen[:1]) {
			t.Fatalf("by %v %q is chosen, but most voices took %q", events[:count], c.Chosen, d.values)
		}
		noteChosen(chosen, c)
		before = c
	}
	return before, len(chosen)
}

func TestPromise12DrawnLives(t *testing.T) {
	once, often, byTwo := 0, 0, 0
	for seed := range 400 {
		voices, tries := 1+seed%5, 1+seed/5%4
		c, chosen := wantLife(t, voices, tries, drawnHappens(tries, 80, seed*31))
		once += min(len(c.Chosen), 1)
		often += min(len(c.Chosen)/2, 1)
		byTwo += min(chosen/2, 1)
	}
	if once < 150 || often < 60 || byTwo < 25 {
		t.Fatalf("in %d lives something is chosen, in %d more than once, in %d by two Tries", once, often, byTwo)
	}
}

// More lives, looked at when they are over.
func TestPromise12ManyLives(t *testing.T) {
	chosen := 0
	for seed := range 20000 {
		voices, tries := 1+seed%5, 1+seed/5%4
		events := drawnHappens(tries, 80, seed*17+5)
		c, _, ok := impl.RunCouncil(voices, tries, events)
		if !ok {
			t.Fatalf("RunCouncil(%d, %d, %v) is false", voices, tries, events)
		}
		wantOneValue(t, c, events)
		chosen += min(len(c.Chosen), 1)
	}
	if chosen < 8000 {
		t.Fatalf("in %d lives something is chosen", chosen)
	}
}

// rivals are events of Tries that go at it by turns: each time one asks few voices, and few take what it asks for.
func rivals(voices, tries, seed int) []happen {
	c, _ := impl.CouncilNew(voices, tries)
	events := []happen{}
	for at, number := range drawnNumbers(80, seed) {
		drawn := uint64(number)
		e := happen{Kind: impl.EvPropose, Id: 1 + int(drawn%uint64(tries)), Value: drawnValue(at, drawn)}
		if count := len(c.Notes); count > 0 && drawn>>8%16 > 0 {
			// The last notes are carried ahead of the others, so that elder ones come late.
			last := c.Notes[count-1]
			e = happen{Kind: impl.EvCarry, Id: 1, At: count - 1 - int(drawn>>16%uint64(min(count, voices)))}
			if drawn>>24%8 == 0 || at%7 == 6 && last.Kind == impl.AskTake {
				e.Kind = impl.EvTwice
			}
			if drawn>>32%8 == 0 {
				e.At = int(drawn >> 40 % uint64(count))
			}
		}
		events = append(events, e)
		c, _ = ruleHappen(c, e)
	}
	return events
}

func TestPromise12Rivals(t *testing.T) {
	once, byTwo, late := 0, 0, 0
	for seed := range 400 {
		voices, tries := 1+seed%5, 2+seed/5%3
		c, chosen := wantLife(t, voices, tries, rivals(voices, tries, seed*13+1))
		once += min(len(c.Chosen), 1)
		byTwo += min(chosen/2, 1)
		late += len(c.Notes)
	}
	if once < 200 || byTwo < 60 || late < 1000 {
		t.Fatalf("in %d lives something is chosen, in %d by two Tries; %d notes are left", once, byTwo, late)
	}
}

// Every way in which a second Try may come behind a first one that got as far as may be: what is chosen is one value.
func TestPromise12SecondBehindFirst(t *testing.T) {
	for voices := 1; voices <= 5; voices++ {
		most := impl.MostOf(voices)
		for took := 0; took <= voices; took++ {
			for first := range voices {
				s := newScene(t, voices, 2)
				s.do(t, propose(1, "first"), 0)
				for to := 1; to <= most; to++ {
					s.promise(t, 1, to)
				}
				for count := range took {
					s.carry(t, s.take(t, 1, (first+count)%voices+1))
				}
				s.do(t, propose(2, "second"), 0)
				for count := range most {
					s.promise(t, 2, voices-count)
				}
				for count := range most {
					s.carry(t, s.take(t, 2, count+1))
				}
				wantOneValue(t, s.now, s.events)
				if last := s.now.Chosen[len(s.now.Chosen)-1]; took >= most && last != "first" || took == 0 && last != "second" {
					t.Fatalf("of %d voices %d took the first, and %q are chosen", voices, took, s.now.Chosen)
				}
			}
		}
	}
}

// One proposer alone, whose notes are all carried in the order in which they were put.
func TestPromise12OneAlone(t *testing.T) {
	for voices := 1; voices <= 5; voices++ {
		for tries := 1; tries <= 4; tries++ {
			for id := 1; id <= tries; id++ {
				for _, value := range []string{"v", "it", long(40)} {
					events := append([]happen{propose(id, value)}, slices.Repeat([]happen{{Kind: impl.EvCarry, Id: tries}}, 4*voices)...)
					c, numbers, ok := run(t, voices, tries, events)
					if !ok || !slices.Equal(c.Chosen, []string{value}) || !c.Tries[id-1].Chosen || len(c.Notes) != 0 {
						t.Fatalf("of %d voices %v is chosen by %v, %v, %v", voices, c.Chosen, events, numbers, ok)
					}
					for _, v := range c.Voices {
						if v != voiceOf(id, id, value) {
							t.Fatalf("a voice is %v", v)
						}
					}
				}
			}
		}
	}
}

// One proposer alone, whose notes are all carried, in any order, some of them twice.
func TestPromise12OneAloneInAnyOrder(t *testing.T) {
	for seed := range 1500 {
		voices, tries := 1+seed%5, 1+seed/5%4
		id := 1 + seed%tries
		events := []happen{propose(id, "it")}
		c, _ := ruleRunOf(t, voices, tries, events)
		for at, number := range drawnNumbers(79, seed+1) {
			drawn := uint64(number)
			if len(c.Notes) == 0 {
				break
			}
			e := happen{Kind: impl.EvCarry, Id: 1, At: int(drawn >> 2 % 1000)}
			if at < 30 && drawn%4 == 0 {
				e.Kind = impl.EvTwice
			}
			events = append(events, e)
			c, _ = ruleHappen(c, e)
		}
		got, _, ok := impl.RunCouncil(voices, tries, events)
		if !ok || !slices.Equal(got.Chosen, []string{"it"}) || len(got.Notes) != 0 {
			t.Fatalf("of %d voices %q is chosen by %v, %v; the notes %v are left", voices, got.Chosen, events, ok, got.Notes)
		}
	}
}

// ruleRunOf is a council after right events, by the rules.
func ruleRunOf(t *testing.T, voices, tries int, events []happen) (council, []int) {
	t.Helper()
	c, numbers, ok := ruleRun(voices, tries, events)
	if !ok {
		t.Fatalf("by the rule %v are not right", events)
	}
	return c, numbers
}

// One proposer that is asked anew as often as its notes are lost has a value chosen at last: the one that it came with then.
func TestPromise12LostAndAnew(t *testing.T) {
	for voices := 1; voices <= 5; voices++ {
		events := []happen{}
		for _, value := range []string{"a", "b", "c"} {
			events = append(events, propose(1, value))
			events = append(events, slices.Repeat([]happen{loseAt(0)}, voices)...)
		}
		events = append(events, propose(1, "d"))
		events = append(events, slices.Repeat([]happen{carryAt(0)}, 4*voices)...)
		c, _, ok := run(t, voices, 1, events)
		if !ok || !slices.Equal(c.Chosen, []string{"d"}) || c.Tries[0].Ballot != 31 {
			t.Fatalf("of %d voices these are chosen: %q, by %v", voices, c.Chosen, c.Tries)
		}
	}
}
