package tests

import (
	"slices"
	"strings"
	"testing"

	"loop.example/g00180/impl"
)

// withSpareHappens are the same events with room behind them, filled with such as are not right.
func withSpareHappens(events []happen) []happen {
	whole := append(slices.Clone(events), slices.Repeat([]happen{{Kind: 9, Id: -1, At: -1, Value: "spare"}}, 10)...)
	return whole[:len(events)]
}

// livesToKeep are events of a council of five voices and four Tries, right ones and others.
func livesToKeep() [][]happen {
	lives := [][]happen{nil, {propose(1, "it")}, {carryAt(0)}, {propose(1, "")}, {propose(9, "it")}, slices.Repeat([]happen{propose(1, "it")}, 81)}
	for seed := range 60 {
		lives = append(lives, drawnHappens(4, 80-seed, seed))
	}
	return lives
}

// councilLists are writers into each list of an answer, and into the room behind it.
func councilLists(c council, numbers []int) map[string]func() {
	lists := map[string]func(){
		"Voices":  func() { fill(c.Voices, voiceOf(-9, -9, "written")) },
		"Notes":   func() { fill(c.Notes, ask(-9, -9, "written")) },
		"Chosen":  func() { fill(c.Chosen, "written") },
		"numbers": func() { fill(numbers, -9) },
	}
	for at := range c.Tries {
		name := "of Try " + string(rune('1'+at))
		promises, takers := c.Tries[at].Promises, c.Tries[at].Takers
		lists["Promises "+name] = func() { fill(promises, ask(-9, -9, "written")) }
		lists["Takers "+name] = func() { fill(takers, -9) }
	}
	return lists
}

func TestRunCouncilArgumentsStay(t *testing.T) {
	for _, events := range livesToKeep() {
		have := withSpareHappens(events)
		before := slices.Clone(wholeOf(have))
		first, numbers, ok := impl.RunCouncil(5, 4, have)
		if want, wantNumbers, wantOk := ruleRun(5, 4, events); !sameCouncil(first, want) || !slices.Equal(numbers, wantNumbers) || ok != wantOk {
			t.Fatalf("RunCouncil of %v looks at what is behind its events", events)
		}
		for _, write := range councilLists(first, numbers) {
			write()
		}
		if !slices.Equal(wholeOf(have), before) {
			t.Fatalf("RunCouncil of %v changed its events, or the room behind them", events)
		}
	}
}

// What is written into one list of an answer changes no other one, and no other answer.
func TestRunCouncilAnswersAreNewMemory(t *testing.T) {
	for _, events := range livesToKeep() {
		want, wantNumbers, _ := ruleRun(5, 4, events)
		other, otherNumbers, _ := impl.RunCouncil(5, 4, events)
		names := councilLists(other, otherNumbers)
		for name := range names {
			first, numbers, _ := impl.RunCouncil(5, 4, events)
			councilLists(first, numbers)[name]()
			if !sameButOne(name, first, want, numbers, wantNumbers) {
				t.Fatalf("by %v the list %s shares memory with another one", events, name)
			}
			if !sameCouncil(other, want) || !slices.Equal(otherNumbers, wantNumbers) {
				t.Fatalf("by %v the lists %s of two answers share memory", events, name)
			}
		}
	}
}

// sameButOne holds two answers against each other, but for the list of this name.
func sameButOne(name string, got, want council, numbers, wantNumbers []int) bool {
	got, want = cloneCouncil(got), cloneCouncil(want)
	switch name {
	case "Voices":
		want.Voices = got.Voices
	case "Notes":
		want.Notes = got.Notes
	case "Chosen":
		want.Chosen = got.Chosen
	case "numbers":
		wantNumbers = numbers
	}
	for at := range got.Tries {
		if strings.HasSuffix(name, "of Try "+string(rune('1'+at))) {
			if strings.HasPrefix(name, "Promises") {
				want.Tries[at].Promises = got.Tries[at].Promises
			} else {
				want.Tries[at].Takers = got.Tries[at].Takers
			}
		}
	}
	return sameCouncil(got, want) && slices.Equal(numbers, wantNumbers)
}

// councilTexts are all texts of a council.
func councilTexts(c council) []string {
	texts := slices.Clone(c.Chosen)
	for _, v := range c.Voices {
		texts = append(texts, v.Value)
	}
	notes := slices.Clone(c.Notes)
	for _, a := range c.Tries {
		texts = append(texts, a.Value)
		notes = append(notes, a.Promises...)
	}
	for _, m := range notes {
		texts = append(texts, m.Value)
	}
	// Those of one byte stand in no memory of their own.
	return slices.DeleteFunc(texts, func(text string) bool { return len(text) < 2 })
}

// No text of an answer stands in the memory of an event's Value, or of another text.
func TestRunCouncilTextsAreNewMemory(t *testing.T) {
	many := 0
	for _, events := range livesToKeep() {
		given := []string{}
		have := slices.Clone(events)
		for at, e := range have {
			have[at].Value = strings.Clone(e.Value)
			given = append(given, have[at].Value)
		}
		c, _, _ := impl.RunCouncil(5, 4, have)
		other, _, _ := impl.RunCouncil(5, 4, have)
		given = append(given, councilTexts(other)...)
		texts := councilTexts(c)
		for at, text := range texts {
			if sharesAny(text, given) || sharesAny(text, texts[:at]) {
				t.Fatalf("by %v the text %q is in other memory", events, text)
			}
		}
		many += len(texts)
	}
	if many < 300 {
		t.Fatalf("%d texts were looked at", many)
	}
}

func TestCouncilNewAnswersAreNewMemory(t *testing.T) {
	for voices := 0; voices <= 6; voices++ {
		for tries := 0; tries <= 5; tries++ {
			want, _ := ruleCouncil(voices, tries)
			first, _ := impl.CouncilNew(voices, tries)
			second, _ := impl.CouncilNew(voices, tries)
			for _, write := range councilLists(first, nil) {
				write()
			}
			fill(first.Tries, try{Id: -9, Value: "written"})
			if third, _ := impl.CouncilNew(voices, tries); !sameCouncil(second, want) || !sameCouncil(third, want) {
				t.Fatalf("two answers of CouncilNew(%d, %d) share memory", voices, tries)
			}
			if ran, _, _ := impl.RunCouncil(voices, tries, nil); !sameCouncil(ran, want) {
				t.Fatalf("RunCouncil(%d, %d) begins with what was written elsewhere", voices, tries)
			}
		}
	}
}

func TestOneChosenArgumentsStay(t *testing.T) {
	for _, chosen := range [][]string{nil, {"a"}, {"a", "a"}, {"a", "b"}, {"b", "a", "a"}} {
		have := council{Chosen: withSpareTexts(chosen)}
		before := slices.Clone(wholeOf(have.Chosen))
		want := len(slices.Compact(slices.Clone(chosen))) < 2
		if got := impl.OneChosen(have); got != want {
			t.Errorf("OneChosen of %q is %v, by what is behind it", chosen, got)
		}
		if !slices.Equal(wholeOf(have.Chosen), before) {
			t.Errorf("OneChosen changed %q, or the room behind it", chosen)
		}
	}
}

// The same is answered again, whatever was asked between: nothing is kept.
func TestCouncilsAreAnsweredAgain(t *testing.T) {
	lives := livesToKeep()
	for round := range 3 {
		for at := range lives {
			events := lives[(at*7+round)%len(lives)]
			c, numbers, ok := impl.RunCouncil(5, 4, events)
			if want, wantNumbers, wantOk := ruleRun(5, 4, events); !sameCouncil(c, want) || !slices.Equal(numbers, wantNumbers) || ok != wantOk {
				t.Fatalf("RunCouncil of %v is answered another way", events)
			}
		}
	}
}
