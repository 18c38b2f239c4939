package tests

import (
	"strings"
	"testing"

	"loop.example/g00180/impl"
)

// voiceLife is a voice that hears one note after the other, and what it told so far.
type voiceLife struct {
	voice    voice
	promised int
	taken    int
	value    string
	heard    int
}

func newVoiceLife(v voice) *voiceLife {
	return &voiceLife{voice: v, promised: v.Promised, taken: v.Taken, value: v.Value}
}

// hear tells a note to the voice, and holds what becomes of it against all that it told before.
func (l *voiceLife) hear(t *testing.T, m note) bool {
	t.Helper()
	before := l.voice
	next, told, ok := impl.HearNote(before, m)
	if !impl.VoiceOk(next) || !ruleVoiceRight(next) {
		t.Fatalf("%v hears %v, and %v is not right", before, m, next)
	}
	if next.Promised < before.Promised || next.Taken < before.Taken {
		t.Fatalf("%v hears %v, and falls to %v", before, m, next)
	}
	if !ok {
		if next != before || told != (note{}) {
			t.Fatalf("%v does not heed %v, yet it is %v and tells %v", before, m, next, told)
		}
		return false
	}
	l.heard++
	l.told(t, m, told)
	if want := voiceOf(l.promised, l.taken, l.value); next != want {
		t.Fatalf("%v told %v, and is %v; want %v", before, told, next, want)
	}
	l.voice = next
	return true
}

// told notes what the voice tells, unless it breaks what it told before.
func (l *voiceLife) told(t *testing.T, m, told note) {
	t.Helper()
	if told.From != m.To || told.To != m.From || told.Ballot != m.Ballot || told.Kind != m.Kind+1 {
		t.Fatalf("%v is answered by %v", m, told)
	}
	switch told.Kind {
	case impl.TellPromise:
		if told.Ballot <= l.promised || told.Taken != l.taken || told.Value != l.value {
			t.Fatalf("%v promises %v", l.voice, told)
		}
	case impl.TellTaken:
		if told.Ballot < l.promised || told.Value != m.Value {
			t.Fatalf("%v takes by %v", l.voice, told)
		}
		l.taken, l.value = told.Ballot, told.Value
	default:
		t.Fatalf("%v tells %v", l.voice, told)
	}
	l.promised = told.Ballot
}

// drawnNote is a note that is near to what a voice promised, or of any ballot, and sometimes wrong.
func drawnNote(number int, promised int) note {
	drawn := uint64(number)
	kind := []int{1, 3, 1, 3, 1, 3, 3, 2, 4, 0, 5}[drawn%11]
	ballot := promised - 3 + int(drawn>>8%7)
	switch drawn >> 16 % 60 {
	case 0:
		ballot = int(drawn >> 24 % 10003)
	case 1:
		ballot = -1
	case 2:
		ballot = impl.MaxBallot + 1
	}
	value := strings.Repeat(string(rune('a'+drawn>>40%26)), int(drawn>>48%42))
	return note{Kind: kind, From: int(drawn >> 20 % 9), To: int(drawn >> 30 % 9), Ballot: ballot, Taken: int(drawn>>12%20) - 5, Value: value}
}

// Many voices hear many notes, each of them near to what it promised, and some of them again.
func TestPromise11DrawnLives(t *testing.T) {
	for seed := range 120 {
		begin := []voice{{}, voiceOf(4, 0, ""), voiceOf(9, 9, "x"), voiceOf(50, 7, ""), voiceOf(9900, 3, long(40)), voiceOf(9999, 9999, "y")}[seed%6]
		l := newVoiceLife(begin)
		notes := []note{}
		for at, number := range drawnNumbers(500, seed+1) {
			m := drawnNote(number, l.voice.Promised)
			if at%5 == 4 {
				m = notes[int(uint64(number)>>33)%len(notes)]
			}
			if at%7 == 6 {
				m = notes[len(notes)-1]
			}
			notes = append(notes, m)
			l.hear(t, m)
		}
		if l.heard < 3 || seed%6 < 4 && l.heard < 30 {
			t.Fatalf("the voice %d, which began as %v, heeded %d notes", seed, begin, l.heard)
		}
	}
}

// fewNotes are questions of three ballots, in one of them with two unlike values.
func fewNotes() []note {
	return []note{
		ask(1, 1, ""), ask(3, 1, "a"), ask(1, 2, ""), ask(3, 2, "b"), ask(3, 2, "c"), ask(1, 3, ""), ask(3, 3, "d"),
	}
}

// Each order of few notes, each of them any number of times.
func TestPromise11EachLife(t *testing.T) {
	notes := fewNotes()
	eachPick(6, len(notes), func(pick []int) {
		l := newVoiceLife(voice{})
		for _, at := range pick {
			l.hear(t, notes[at])
		}
		if l.heard == 0 {
			t.Fatalf("the voice heeded none of %v", pick)
		}
	})
}

// Each note told twice, and all of them once more from the last to the first, make the voice promise no other ballot.
func TestPromise11ToldTwice(t *testing.T) {
	notes := fewNotes()
	eachPick(4, len(notes), func(pick []int) {
		l := newVoiceLife(voice{})
		for _, at := range pick {
			took := l.hear(t, notes[at])
			after := l.voice
			again := l.hear(t, notes[at])
			if again != (took && notes[at].Kind == impl.AskTake) || l.voice != after {
				t.Fatalf("%v is heard again by %v: %v, %v", notes[at], after, again, l.voice)
			}
		}
		last := l.voice
		for place := range pick {
			l.hear(t, notes[pick[len(pick)-1-place]])
			if l.voice.Promised != last.Promised {
				t.Fatalf("%v promises what was told before: %v", last, l.voice)
			}
		}
	})
}

// Whatever is promised or taken, nothing below it is promised or taken any more; the next one is.
func TestPromise11NothingBelowThePromise(t *testing.T) {
	for _, ballot := range []int{1, 2, 3, 100, 5000, 9999, 10000} {
		for _, kind := range []int{impl.AskPromise, impl.AskTake} {
			l := newVoiceLife(voice{})
			if !l.hear(t, ask(kind, ballot, "x")) {
				t.Fatalf("a new voice does not heed the ballot %d", ballot)
			}
			for below := 0; below < ballot; below++ {
				if l.hear(t, ask(impl.AskPromise, below, "y")) || l.hear(t, ask(impl.AskTake, below, "y")) {
					t.Fatalf("%v heeds the ballot %d", l.voice, below)
				}
			}
			if !l.hear(t, ask(impl.AskTake, ballot, "z")) || l.hear(t, ask(impl.AskPromise, ballot, "")) {
				t.Fatalf("the ballot %d is not taken, or promised again", ballot)
			}
			if next := l.hear(t, ask(impl.AskPromise, ballot+1, "")); next != (ballot < impl.MaxBallot) {
				t.Fatalf("that %v promises the ballot %d is %v", l.voice, ballot+1, next)
			}
		}
	}
}

// A voice goes through all ballots, promised and taken in turn, up to the last one.
func TestPromise11AllBallots(t *testing.T) {
	l := newVoiceLife(voice{})
	for ballot := 1; ballot <= impl.MaxBallot; ballot++ {
		value := strings.Repeat("v", ballot%41)
		if !l.hear(t, ask(impl.AskPromise, ballot, "")) || l.voice.Taken != ballot-1 {
			t.Fatalf("%v does not promise the ballot %d", l.voice, ballot)
		}
		if l.hear(t, ask(impl.AskTake, ballot-1, "late")) {
			t.Fatalf("%v takes what comes late", l.voice)
		}
		if !l.hear(t, ask(impl.AskTake, ballot, value)) || l.voice.Taken != ballot {
			t.Fatalf("%v does not take in the ballot %d", l.voice, ballot)
		}
	}
	if l.hear(t, ask(impl.AskPromise, impl.MaxBallot+1, "")) || l.hear(t, ask(impl.AskTake, impl.MaxBallot+1, "x")) {
		t.Fatalf("%v heeds what is above the last ballot", l.voice)
	}
	if l.heard != 2*impl.MaxBallot {
		t.Fatalf("%d notes were heeded", l.heard)
	}
}

// A voice that is told by others takes nothing from it.
func TestPromise11WhatIsToldChangesNothing(t *testing.T) {
	for _, v := range rightVoices() {
		l := newVoiceLife(v)
		for _, kind := range []int{impl.TellPromise, impl.TellTaken, 0, 5, -1} {
			for _, ballot := range []int{1, v.Promised, v.Promised + 1, impl.MaxBallot} {
				if l.hear(t, note{Kind: kind, From: 1, To: 2, Ballot: ballot, Taken: ballot, Value: "x"}) {
					t.Fatalf("%v heeds a note of the Kind %d", v, kind)
				}
			}
		}
	}
}
