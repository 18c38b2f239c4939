package tests

import (
	"math"
	"strings"
	"testing"

	"loop.example/g00180/impl"
)

func wantVoiceOk(t *testing.T, v voice, want bool) {
	t.Helper()
	if ruleVoiceRight(v) != want {
		t.Fatalf("by the rule it is %v that %v is right", !want, v)
	}
	if got := impl.VoiceOk(v); got != want {
		t.Errorf("VoiceOk(%v) = %v; want %v", v, got, want)
	}
}

// wantHeard holds what becomes of a voice, and what it tells, against what is wanted.
func wantHeard(t *testing.T, v voice, m note, wantVoice voice, wantNote note) {
	t.Helper()
	next, told, ok := impl.HearNote(v, m)
	if next != wantVoice || told != wantNote || !ok {
		t.Errorf("HearNote(%v, %v) = %v, %v, %v; want %v, %v, true", v, m, next, told, ok, wantVoice, wantNote)
	}
}

// wantUnheard wants the voice as it is, and a note without anything.
func wantUnheard(t *testing.T, v voice, m note) {
	t.Helper()
	next, told, ok := impl.HearNote(v, m)
	if next != v || told != (note{}) || ok {
		t.Errorf("HearNote(%v, %v) = %v, %v, %v; want the voice as it is, nothing, false", v, m, next, told, ok)
	}
}

func wantHeardByRule(t *testing.T, v voice, m note) {
	t.Helper()
	next, told, ok := impl.HearNote(v, m)
	wantVoice, wantNote, wantOk := ruleHear(v, m)
	if next != wantVoice || told != wantNote || ok != wantOk {
		t.Fatalf("HearNote(%v, %v) = %v, %v, %v; want %v, %v, %v", v, m, next, told, ok, wantVoice, wantNote, wantOk)
	}
}

func wantPick(t *testing.T, list []note, own, want string) {
	t.Helper()
	if by := rulePick(list, own); by != want {
		t.Fatalf("by the rule the value of %v is %q, not %q", list, by, want)
	}
	if got := impl.PickValue(list, own); got != want {
		t.Errorf("PickValue(%v, %q) = %q; want %q", list, own, got, want)
	}
}

func TestBallotLimits(t *testing.T) {
	if impl.MaxBallot != 10000 {
		t.Errorf("MaxBallot is %d; want 10000", impl.MaxBallot)
	}
	kinds := [4]int{impl.AskPromise, impl.TellPromise, impl.AskTake, impl.TellTaken}
	if kinds != [4]int{1, 2, 3, 4} {
		t.Errorf("the Kinds are %v; want 1 to 4", kinds)
	}
}

func TestVoiceOkPromised(t *testing.T) {
	for promised, want := range map[int]bool{0: true, 1: true, 9999: true, 10000: true, 10001: false, -1: false, -10000: false, math.MinInt: false, math.MaxInt: false} {
		wantVoiceOk(t, voiceOf(promised, 0, ""), want)
		wantVoiceOk(t, voiceOf(promised, 0, "v"), false)
	}
}

func TestVoiceOkTaken(t *testing.T) {
	for _, promised := range []int{0, 1, 2, 9999, 10000} {
		for _, value := range []string{"", "v", long(40)} {
			wantVoiceOk(t, voiceOf(promised, promised, value), promised > 0 || value == "")
			wantVoiceOk(t, voiceOf(promised, promised+1, value), false)
			wantVoiceOk(t, voiceOf(promised, promised-1, value), promised > 1 || promised == 1 && value == "")
			for _, taken := range []int{-1, -promised, math.MinInt, math.MaxInt, 10001} {
				wantVoiceOk(t, voiceOf(promised, taken, value), taken == 0 && value == "")
			}
		}
	}
}

// Neither is right where both are past the limit, or below 0, though Taken is at most Promised.
func TestVoiceOkBothOut(t *testing.T) {
	for _, number := range []int{10001, 10002, math.MaxInt, -1, -2, math.MinInt} {
		for _, value := range []string{"", "v"} {
			wantVoiceOk(t, voiceOf(number, number, value), false)
		}
	}
	wantVoiceOk(t, voiceOf(10001, 10000, "v"), false)
	wantVoiceOk(t, voiceOf(10001, 1, "v"), false)
	wantVoiceOk(t, voiceOf(-1, -2, ""), false)
}

func TestVoiceOkValue(t *testing.T) {
	for length, want := range map[int]bool{0: true, 1: true, 39: true, 40: true, 41: false, 80: false, 10000: false} {
		for _, promised := range []int{1, 2, 10000} {
			wantVoiceOk(t, voiceOf(promised, 1, long(length)), want)
			wantVoiceOk(t, voiceOf(promised, promised, long(length)), want)
			wantVoiceOk(t, voiceOf(promised, 0, long(length)), length == 0)
		}
	}
	wantVoiceOk(t, voice{}, true)
	wantVoiceOk(t, voiceOf(0, 0, "\x00"), false)
	// The bytes count, not the letters.
	wantVoiceOk(t, voiceOf(3, 3, strings.Repeat("é", 20)), true)
	wantVoiceOk(t, voiceOf(3, 3, strings.Repeat("é", 20)+"e"), false)
	wantVoiceOk(t, voiceOf(3, 3, strings.Repeat("\xff", 40)), true)
}

func TestVoiceOkByRule(t *testing.T) {
	right := 0
	for _, v := range voicesToTry() {
		want := ruleVoiceRight(v)
		wantVoiceOk(t, v, want)
		if want {
			right++
		}
	}
	if right < 100 {
		t.Fatalf("%d voices are right", right)
	}
}

func TestAskPromiseKnown(t *testing.T) {
	wantHeard(t, voice{}, ask(1, 1, ""), voiceOf(1, 0, ""), tell(2, 1, 0, ""))
	wantHeard(t, voice{}, ask(1, 10000, ""), voiceOf(10000, 0, ""), tell(2, 10000, 0, ""))
	had := voiceOf(5, 0, "")
	wantUnheard(t, had, ask(1, 4, ""))
	wantUnheard(t, had, ask(1, 5, ""))
	wantHeard(t, had, ask(1, 6, ""), voiceOf(6, 0, ""), tell(2, 6, 0, ""))
	took := voiceOf(5, 3, "x")
	wantUnheard(t, took, ask(1, 3, ""))
	wantUnheard(t, took, ask(1, 4, ""))
	wantUnheard(t, took, ask(1, 5, ""))
	wantHeard(t, took, ask(1, 6, ""), voiceOf(6, 3, "x"), tell(2, 6, 3, "x"))
	// What a question for a promise carries is neither taken nor told.
	wantHeard(t, took, ask(1, 9999, "other"), voiceOf(9999, 3, "x"), tell(2, 9999, 3, "x"))
	wantHeard(t, voice{}, ask(1, 2, "other"), voiceOf(2, 0, ""), tell(2, 2, 0, ""))
}

func TestAskTakeKnown(t *testing.T) {
	wantHeard(t, voice{}, ask(3, 1, "x"), voiceOf(1, 1, "x"), tell(4, 1, 0, "x"))
	wantHeard(t, voice{}, ask(3, 10000, ""), voiceOf(10000, 10000, ""), tell(4, 10000, 0, ""))
	had := voiceOf(5, 0, "")
	wantUnheard(t, had, ask(3, 4, "x"))
	wantHeard(t, had, ask(3, 5, "x"), voiceOf(5, 5, "x"), tell(4, 5, 0, "x"))
	wantHeard(t, had, ask(3, 6, "x"), voiceOf(6, 6, "x"), tell(4, 6, 0, "x"))
	took := voiceOf(5, 3, "x")
	wantUnheard(t, took, ask(3, 3, "x"))
	wantUnheard(t, took, ask(3, 4, "y"))
	wantHeard(t, took, ask(3, 5, "y"), voiceOf(5, 5, "y"), tell(4, 5, 0, "y"))
	wantHeard(t, took, ask(3, 6, ""), voiceOf(6, 6, ""), tell(4, 6, 0, ""))
}

// A ballot that is the same is promised once, and taken as often as it comes.
func TestSameBallotAgain(t *testing.T) {
	for _, ballot := range []int{1, 2, 77, 9999, 10000} {
		v, _, ok := impl.HearNote(voice{}, ask(1, ballot, ""))
		if !ok {
			t.Fatalf("the ballot %d is not promised", ballot)
		}
		wantUnheard(t, v, ask(1, ballot, ""))
		took := voiceOf(ballot, ballot, "x")
		wantHeard(t, v, ask(3, ballot, "x"), took, tell(4, ballot, 0, "x"))
		wantHeard(t, took, ask(3, ballot, "x"), took, tell(4, ballot, 0, "x"))
		wantHeard(t, took, ask(3, ballot, "y"), voiceOf(ballot, ballot, "y"), tell(4, ballot, 0, "y"))
		wantUnheard(t, took, ask(1, ballot, ""))
		wantUnheard(t, took, ask(1, ballot, "x"))
	}
}

func TestHearNoteEachKindAboutPromised(t *testing.T) {
	for _, kind := range kindsToTry() {
		for _, v := range []voice{voiceOf(1, 0, ""), voiceOf(5, 0, ""), voiceOf(5, 2, "x"), voiceOf(5, 5, "x"), voiceOf(10000, 0, ""), voiceOf(9999, 9999, ""), voiceOf(10000, 10000, "x")} {
			for _, ballot := range []int{v.Promised - 1, v.Promised, v.Promised + 1} {
				m := ask(kind, ballot, "y")
				fits := ballot >= 1 && ballot <= 10000
				switch {
				case kind == 1 && fits && ballot == v.Promised+1:
					wantHeard(t, v, m, voiceOf(ballot, v.Taken, v.Value), tell(2, ballot, v.Taken, v.Value))
				case kind == 3 && fits && ballot >= v.Promised:
					wantHeard(t, v, m, voiceOf(ballot, ballot, "y"), tell(4, ballot, 0, "y"))
				default:
					wantUnheard(t, v, m)
				}
			}
		}
	}
}

func TestHearNoteBallotLimits(t *testing.T) {
	for _, kind := range kindsToTry() {
		for _, ballot := range []int{0, -1, -10000, math.MinInt, 10001, 10002, math.MaxInt} {
			wantUnheard(t, voice{}, ask(kind, ballot, ""))
			wantUnheard(t, voice{}, ask(kind, ballot, "x"))
			wantUnheard(t, voiceOf(10000, 0, ""), ask(kind, ballot, "x"))
			wantUnheard(t, voiceOf(10000, 10000, "y"), ask(kind, ballot, "x"))
		}
	}
	wantUnheard(t, voiceOf(10000, 4, "y"), ask(1, 10000, ""))
	wantHeard(t, voiceOf(10000, 4, "y"), ask(3, 10000, "x"), voiceOf(10000, 10000, "x"), tell(4, 10000, 0, "x"))
	wantHeard(t, voiceOf(9999, 4, "y"), ask(1, 10000, ""), voiceOf(10000, 4, "y"), tell(2, 10000, 4, "y"))
	wantUnheard(t, voiceOf(10000, 4, "y"), ask(3, 9999, "x"))
}

func TestHearNoteValueLengths(t *testing.T) {
	for _, length := range []int{0, 1, 39, 40} {
		value := long(length)
		wantHeard(t, voiceOf(5, 3, "y"), ask(3, 6, value), voiceOf(6, 6, value), tell(4, 6, 0, value))
		wantHeard(t, voiceOf(5, 3, "y"), ask(1, 6, value), voiceOf(6, 3, "y"), tell(2, 6, 3, "y"))
		if length > 0 {
			wantHeard(t, voiceOf(5, 3, value), ask(1, 6, ""), voiceOf(6, 3, value), tell(2, 6, 3, value))
		}
	}
	for _, length := range []int{41, 42, 80, 10000} {
		for _, kind := range kindsToTry() {
			wantUnheard(t, voiceOf(5, 3, "y"), ask(kind, 6, long(length)))
			wantUnheard(t, voice{}, ask(kind, 1, long(length)))
		}
	}
	wantHeard(t, voice{}, ask(3, 1, strings.Repeat("é", 20)), voiceOf(1, 1, strings.Repeat("é", 20)), tell(4, 1, 0, strings.Repeat("é", 20)))
	wantUnheard(t, voice{}, ask(3, 1, strings.Repeat("é", 21)))
}

// A voice that is not right is as it is, whatever it hears.
func TestHearNoteOfWrongVoices(t *testing.T) {
	wrong := 0
	for _, v := range voicesToTry() {
		if ruleVoiceRight(v) {
			continue
		}
		wrong++
		for _, kind := range []int{0, 1, 2, 3, 4, 5} {
			for _, ballot := range []int{0, 1, 2, 5000, 10000, 10001} {
				wantUnheard(t, v, ask(kind, ballot, "x"))
			}
		}
	}
	if wrong < 100 {
		t.Fatalf("%d voices are wrong", wrong)
	}
}

// Neither From, To nor Taken of a note is looked at: the first two are turned about, the last is left.
func TestHearNoteFromAndToOfAnyNumber(t *testing.T) {
	numbers := append(drawnNumbers(20, 3), math.MinInt, -1, 0, 1, 2, 5, 6, 10000, 10001, math.MaxInt)
	for _, from := range numbers {
		for _, to := range numbers {
			for _, taken := range []int{from, to, 0, 3, 4, 6, 7, -1, math.MaxInt} {
				m := note{Kind: impl.AskPromise, From: from, To: to, Ballot: 6, Taken: taken, Value: "x"}
				wantHeard(t, voiceOf(5, 3, "y"), m, voiceOf(6, 3, "y"), note{Kind: impl.TellPromise, From: to, To: from, Ballot: 6, Taken: 3, Value: "y"})
				m.Kind = impl.AskTake
				wantHeard(t, voiceOf(5, 3, "y"), m, voiceOf(6, 6, "x"), note{Kind: impl.TellTaken, From: to, To: from, Ballot: 6, Value: "x"})
				m.Ballot = 4
				wantUnheard(t, voiceOf(5, 3, "y"), m)
			}
		}
	}
}

func TestHearNoteByRule(t *testing.T) {
	notes := notesToTry()
	for at, v := range rightVoices() {
		for _, m := range notes {
			wantHeardByRule(t, v, m)
		}
		m := notes[at*131%len(notes)]
		for _, other := range voicesToTry() {
			wantHeardByRule(t, other, m)
		}
	}
}

// Each note of small numbers, to each small voice.
func TestHearNoteOfSmallNumbers(t *testing.T) {
	for promised := -1; promised <= 6; promised++ {
		for taken := -1; taken <= 7; taken++ {
			for kind := -1; kind <= 6; kind++ {
				for ballot := -1; ballot <= 8; ballot++ {
					for _, value := range []string{"", "x", long(40), long(41)} {
						wantHeardByRule(t, voiceOf(promised, taken, ""), ask(kind, ballot, value))
						wantHeardByRule(t, voiceOf(promised, taken, "y"), ask(kind, ballot, value))
					}
				}
			}
		}
	}
}

func TestPickValueOfNone(t *testing.T) {
	for _, own := range []string{"", "own", "\x00", long(40), long(41), long(1000)} {
		wantPick(t, nil, own, own)
		wantPick(t, []note{}, own, own)
		wantPick(t, []note{promised(0, "x")}, own, own)
		wantPick(t, []note{promised(-1, "x"), promised(math.MinInt, "y"), promised(0, "")}, own, own)
		wantPick(t, []note{{}}, own, own)
	}
}

func TestPickValueOfOtherKinds(t *testing.T) {
	others := []note{}
	for _, kind := range kindsToTry() {
		if kind == impl.TellPromise {
			continue
		}
		m := tell(kind, 9, 8, "x")
		wantPick(t, []note{m}, "own", "own")
		wantPick(t, []note{m, promised(3, "y")}, "own", "y")
		wantPick(t, []note{promised(3, "y"), m}, "own", "y")
		others = append(others, m)
	}
	wantPick(t, others, "own", "own")
	wantPick(t, append(others, promised(1, "y")), "own", "y")
	wantPick(t, append(others, promised(0, "y")), "own", "own")
}

func TestPickValueOfTheGreatest(t *testing.T) {
	wantPick(t, []note{promised(1, "x")}, "own", "x")
	wantPick(t, []note{promised(3, "x"), promised(5, "y"), promised(4, "z")}, "own", "y")
	wantPick(t, []note{promised(5, "x"), promised(3, "y"), promised(4, "z")}, "own", "x")
	wantPick(t, []note{promised(3, "x"), promised(4, "y"), promised(5, "z")}, "own", "z")
	wantPick(t, []note{promised(0, "x"), promised(1, "y"), promised(-4, "z")}, "own", "y")
	// Nothing else of a note is looked at: neither its Ballot nor what its Taken may be at most.
	wantPick(t, []note{promised(10001, "x"), promised(10000, "y")}, "own", "x")
	wantPick(t, []note{promised(10000, "x"), promised(math.MaxInt, long(50))}, "own", long(50))
	wantPick(t, []note{{Kind: 2, Ballot: 1, Taken: 4, Value: "x"}, {Kind: 2, Ballot: 9, Taken: 2, Value: "y"}}, "own", "x")
	wantPick(t, []note{{Kind: 2, Ballot: math.MinInt, Taken: 4, Value: "x"}}, "own", "x")
	// Nor are they counted: what most of them tell is not more than what one of them tells.
	wantPick(t, []note{promised(2, "x"), promised(2, "x"), promised(3, "y")}, "own", "y")
}

func TestPickValueOfTheFirstOfSeveral(t *testing.T) {
	wantPick(t, []note{promised(3, "x"), promised(3, "y")}, "own", "x")
	wantPick(t, []note{promised(3, "y"), promised(3, "x"), promised(3, "x")}, "own", "y")
	wantPick(t, []note{promised(2, "w"), promised(3, "x"), promised(1, "v"), promised(3, "y")}, "own", "x")
	wantPick(t, []note{tell(4, 9, 3, "w"), promised(3, "x"), promised(3, "")}, "own", "x")
	wantPick(t, []note{promised(math.MaxInt, "x"), promised(math.MaxInt, "y")}, "own", "x")
}

// An empty Value that was taken goes ahead of what is proposed, and of a lesser one.
func TestPickValueOfEmptyValues(t *testing.T) {
	wantPick(t, []note{promised(1, "")}, "own", "")
	wantPick(t, []note{promised(3, ""), promised(3, "y")}, "own", "")
	wantPick(t, []note{promised(2, "x"), promised(3, ""), promised(1, "z")}, "own", "")
	wantPick(t, []note{promised(3, "x"), promised(3, "")}, "own", "x")
	wantPick(t, []note{promised(0, ""), promised(0, "x")}, "own", "own")
}

func TestPickValueByRule(t *testing.T) {
	for count := range 14 {
		for seed := 1; seed <= 300; seed++ {
			list := drawnNotes(count, seed)
			wantPick(t, list, "own", rulePick(list, "own"))
		}
	}
}

// What one voice promises leads to the value that it took, and no other.
func TestPickValueOfWhatIsHeard(t *testing.T) {
	for _, v := range rightVoices() {
		if v.Promised == impl.MaxBallot {
			continue
		}
		_, told, ok := impl.HearNote(v, ask(impl.AskPromise, v.Promised+1, ""))
		if !ok {
			t.Fatalf("%v does not promise a greater ballot", v)
		}
		want := v.Value
		if v.Taken == 0 {
			want = "own"
		}
		wantPick(t, []note{told}, "own", want)
	}
}

func TestMostOf(t *testing.T) {
	for n, want := range map[int]int{
		0: 1, 1: 1, 2: 2, 3: 2, 4: 3, 5: 3, 6: 4, 7: 4, 8: 5, 9: 5, 10: 6, 11: 6, 100: 51, 101: 51, 10000: 5001, 10001: 5001,
		-1: 0, -2: 0, -3: 0, -4: 0, -100: 0, math.MinInt: 0, math.MinInt + 1: 0,
		math.MaxInt - 1: 4611686018427387904, math.MaxInt: 4611686018427387904,
	} {
		if got := impl.MostOf(n); got != want {
			t.Errorf("MostOf(%d) = %d; want %d", n, got, want)
		}
	}
}

// The least number of which two parts have one in common.
func TestMostOfIsTheLeastThatMeets(t *testing.T) {
	for n := 1; n <= 2000; n++ {
		if most := impl.MostOf(n); most > n || 2*most <= n || 2*(most-1) > n {
			t.Errorf("MostOf(%d) = %d", n, most)
		}
	}
	for _, n := range drawnNumbers(500, 5) {
		want := 0
		if n >= 0 {
			want = int(uint64(n)>>1) + 1
		}
		if got := impl.MostOf(n); got != want {
			t.Errorf("MostOf(%d) = %d; want %d", n, got, want)
		}
	}
}
