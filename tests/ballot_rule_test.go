package tests

import (
	"math"
	"strings"

	"loop.example/g00180/impl"
)

type (
	voice = impl.Voice
	note  = impl.Note
)

func voiceOf(promised, taken int, value string) voice {
	return voice{Promised: promised, Taken: taken, Value: value}
}

// ask is a note of any Kind, from 7 to 2; what is told of it goes from 2 to 7.
func ask(kind, ballot int, value string) note {
	return note{Kind: kind, From: 7, To: 2, Ballot: ballot, Value: value}
}

func tell(kind, ballot, taken int, value string) note {
	return note{Kind: kind, From: 2, To: 7, Ballot: ballot, Taken: taken, Value: value}
}

// promised is a TellPromise that tells what was taken.
func promised(taken int, value string) note {
	return tell(impl.TellPromise, 9, taken, value)
}

// long is a text of so many bytes.
func long(length int) string { return strings.Repeat("v", length) }

// ruleVoiceRight is the rule of a right voice, by what is wrong.
func ruleVoiceRight(v voice) bool {
	switch {
	case v.Promised < 0, v.Promised > 10000, v.Taken < 0, v.Taken > 10000:
		return false
	case v.Taken > v.Promised, len(v.Value) > 40:
		return false
	case v.Taken == 0 && len(v.Value) != 0:
		return false
	}
	return true
}

// ruleHear is HearNote by the least ballot that is heeded, of the Kinds that have one.
func ruleHear(v voice, m note) (voice, note, bool) {
	least, asks := map[int]int{1: v.Promised + 1, 3: max(v.Promised, 1)}[m.Kind]
	if !ruleVoiceRight(v) || !asks || m.Ballot < least || m.Ballot > 10000 || len(m.Value) > 40 {
		return v, note{}, false
	}
	told := note{Kind: m.Kind + 1, From: m.To, To: m.From, Ballot: m.Ballot}
	if m.Kind == 1 {
		told.Taken, told.Value = v.Taken, v.Value
		return voiceOf(m.Ballot, v.Taken, v.Value), told, true
	}
	told.Value = m.Value
	return voiceOf(m.Ballot, m.Ballot, m.Value), told, true
}

// rulePick is PickValue from the last note to the first one, so that the last one that counts is the first of several.
func rulePick(list []note, own string) string {
	greatest, value := 1, own
	for at := len(list) - 1; at >= 0; at-- {
		if m := list[at]; m.Kind == 2 && m.Taken >= greatest {
			greatest, value = m.Taken, m.Value
		}
	}
	return value
}

// ballotsToTry are the edges, and some between.
func ballotsToTry() []int {
	return []int{math.MinInt, math.MinInt + 1, -10000, -1, 0, 1, 2, 3, 4, 5000, 9998, 9999, 10000, 10001, 10002, math.MaxInt - 1, math.MaxInt}
}

// kindsToTry are the four, and others about them.
func kindsToTry() []int {
	return []int{math.MinInt, -4, -3, -2, -1, 0, 1, 2, 3, 4, 5, 6, 7, 8, 257, 259, math.MaxInt}
}

func valuesToTry() []string {
	return []string{"", "a", "\x00", long(39), long(40), long(41), long(1000)}
}

// voicesToTry are voices of each kind, right ones and others.
func voicesToTry() []voice {
	voices := []voice{}
	for _, promised := range ballotsToTry() {
		for _, taken := range ballotsToTry() {
			for _, value := range valuesToTry() {
				voices = append(voices, voiceOf(promised, taken, value))
			}
		}
	}
	return voices
}

func rightVoices() []voice {
	voices := []voice{}
	for _, v := range voicesToTry() {
		if ruleVoiceRight(v) {
			voices = append(voices, v)
		}
	}
	return voices
}

// notesToTry are notes of each Kind, with every ballot and value, from and to any number.
func notesToTry() []note {
	notes := []note{}
	others := append(drawnNumbers(90, 11), math.MinInt, -1, 0, 1, 2, math.MaxInt)
	for _, kind := range kindsToTry() {
		for _, ballot := range ballotsToTry() {
			for _, value := range valuesToTry() {
				at := len(notes)
				notes = append(notes, note{
					Kind: kind, From: others[at%len(others)], To: others[at*5%len(others)],
					Ballot: ballot, Taken: others[at*7%len(others)], Value: value,
				})
			}
		}
	}
	return notes
}

// drawnNotes are lists of notes that mostly tell of promises, with few unlike numbers of Taken.
func drawnNotes(count, seed int) []note {
	notes := make([]note, count)
	for at, number := range drawnNumbers(count, seed) {
		drawn := uint64(number)
		kind := []int{2, 2, 2, 2, 1, 3, 4, 5}[drawn%8]
		notes[at] = note{Kind: kind, From: at, To: 1, Ballot: int(drawn / 8 % 5), Taken: int(drawn/64%7) - 2, Value: strings.Repeat("pick"[at%4:at%4+1], at%6)}
	}
	return notes
}
