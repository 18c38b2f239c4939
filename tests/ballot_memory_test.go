package tests

import (
	"slices"
	"strings"
	"testing"

	"loop.example/g00180/impl"
)

// withSpareNotes are the same notes with room behind them, filled with such as would be picked ahead of them.
func withSpareNotes(notes []note) []note {
	whole := append(slices.Clone(notes), slices.Repeat([]note{promised(999999, "spare")}, 10)...)
	return whole[:len(notes)]
}

func TestPickValueArgumentsStay(t *testing.T) {
	lists := [][]note{nil, {}, {promised(0, "x")}, {promised(3, "x")}, {promised(3, "x"), promised(5, "y"), promised(5, "z")}, {tell(4, 1, 8, "x"), promised(1, "")}}
	for seed := range 30 {
		lists = append(lists, drawnNotes(seed, seed))
	}
	for _, list := range lists {
		have := withSpareNotes(list)
		before := slices.Clone(wholeOf(have))
		if got, want := impl.PickValue(have, "own"), rulePick(list, "own"); got != want {
			t.Fatalf("PickValue(%v) looks at what is behind its notes: %q; want %q", list, got, want)
		}
		if !slices.Equal(wholeOf(have), before) {
			t.Fatalf("PickValue(%v) changed its notes, or the room behind them", list)
		}
	}
}

func TestPickedValuesAreNewTexts(t *testing.T) {
	own, first, second := strings.Repeat("own ", 3), strings.Repeat("first ", 3), strings.Repeat("second ", 3)
	given := []string{own, first, second}
	for _, list := range [][]note{nil, {promised(0, first)}, {promised(2, first), promised(3, second)}, {promised(3, first), promised(3, second)}} {
		got, again := impl.PickValue(list, own), impl.PickValue(list, own)
		if got != rulePick(list, own) || len(got) < 2 {
			t.Fatalf("PickValue(%v) = %q", list, got)
		}
		if sharesAny(got, given) || shares(got, again) {
			t.Errorf("the text picked of %v is in other memory", list)
		}
	}
}

// The texts of a voice that heard a note, and of what it tells, are new, those of one that did not, too.
func TestHeardTextsAreNewMemory(t *testing.T) {
	had, other := strings.Repeat("had ", 4), strings.Repeat("other ", 4)
	for _, v := range []voice{voiceOf(5, 3, had), voiceOf(5, 5, had), voiceOf(5, 0, had), voiceOf(-1, 3, had), voiceOf(5, 3, strings.Repeat(had, 30))} {
		for _, kind := range []int{0, 1, 2, 3, 4, 5} {
			for _, ballot := range []int{0, 4, 5, 6, 10001} {
				m := ask(kind, ballot, other)
				given := []string{v.Value, other}
				next, told, ok := impl.HearNote(v, m)
				if wantVoice, wantNote, wantOk := ruleHear(v, m); next != wantVoice || told != wantNote || ok != wantOk {
					t.Fatalf("HearNote(%v, %v) = %v, %v, %v", v, m, next, told, ok)
				}
				if sharesAny(next.Value, given) || sharesAny(told.Value, append(given, next.Value)) {
					t.Errorf("a text of HearNote(%v, %v) is in other memory", v, m)
				}
			}
		}
	}
}

// The same is answered again, whatever was asked between: nothing is kept.
func TestBallotsAreAnsweredAgain(t *testing.T) {
	type answer struct {
		next voice
		told note
		ok   bool
	}
	voices, notes := rightVoices(), notesToTry()
	var first []answer
	for round := range 2 {
		for at := range 5000 {
			next, told, ok := impl.HearNote(voices[at*7%len(voices)], notes[at*31%len(notes)])
			got := answer{next: next, told: told, ok: ok}
			if round == 0 {
				first = append(first, got)
			} else if got != first[at] {
				t.Fatalf("HearNote(%v, %v) is answered another way the second time", voices[at*7%len(voices)], notes[at*31%len(notes)])
			}
		}
	}
}
