package tests

import (
	"math"
	"slices"
	"strconv"
	"strings"
	"testing"

	"loop.example/g00180/impl"
)

// sketchOf has these Adds, counts of 0, and others where they are told.
func sketchOf(adds int, at map[int]int) impl.Sketch {
	counts := make([]int, 48)
	for place, count := range at {
		counts[place] = count
	}
	return impl.Sketch{Counts: counts, Adds: adds}
}

// evenSketch has these Adds, and the same count everywhere.
func evenSketch(adds, count int) impl.Sketch {
	return impl.Sketch{Counts: slices.Repeat([]int{count}, 48), Adds: adds}
}

// sameSketch holds two sketches against each other, an empty list being as good as nil.
func sameSketch(a, b impl.Sketch) bool {
	return a.Adds == b.Adds && slices.Equal(a.Counts, b.Counts)
}

// The chapter's rules, word by word.

func ruleSketchRight(s impl.Sketch) bool {
	for _, count := range s.Counts {
		if count < 0 || count > 15 {
			return false
		}
	}
	return len(s.Counts) == 48 && s.Adds >= 0 && s.Adds <= 99
}

// ruleCounts are the places of the counts of a key, row by row.
func ruleCounts(key string) []int {
	return []int{ruleHash(key, 0) % 16, 16 + ruleHash(key, 1)%16, 32 + ruleHash(key, 2)%16}
}

func ruleHalves(counts []int) []int {
	var out []int
	for _, count := range counts {
		out = append(out, count/2)
	}
	return out
}

func ruleCount(s impl.Sketch, key string) impl.Sketch {
	out := impl.Sketch{Counts: slices.Clone(s.Counts), Adds: s.Adds}
	if !ruleSketchRight(s) {
		return out
	}
	for _, at := range ruleCounts(key) {
		if out.Counts[at] < 15 {
			out.Counts[at]++
		}
	}
	out.Adds++
	if out.Adds == 100 {
		out = impl.Sketch{Counts: ruleHalves(out.Counts)}
	}
	return out
}

func ruleGuess(s impl.Sketch, key string) int {
	if !ruleSketchRight(s) {
		return 0
	}
	at := ruleCounts(key)
	return min(s.Counts[at[0]], s.Counts[at[1]], s.Counts[at[2]])
}

// count counts a key, and holds the answer against the rule.
func count(t *testing.T, s impl.Sketch, key string) impl.Sketch {
	t.Helper()
	got, want := impl.CountKey(s, key), ruleCount(s, key)
	if !sameSketch(got, want) {
		t.Fatalf("CountKey(%v, %q) = %v; want %v", s, key, got, want)
	}
	return got
}

func guess(t *testing.T, s impl.Sketch, key string) int {
	t.Helper()
	got, want := impl.GuessKey(s, key), ruleGuess(s, key)
	if got != want {
		t.Fatalf("GuessKey(%v, %q) = %d; want %d", s, key, got, want)
	}
	return got
}

func halve(t *testing.T, s impl.Sketch) impl.Sketch {
	t.Helper()
	got, want := impl.HalveAll(s), s
	if ruleSketchRight(s) {
		want = impl.Sketch{Counts: ruleHalves(s.Counts), Adds: s.Adds}
	}
	if !sameSketch(got, want) {
		t.Fatalf("HalveAll(%v) = %v; want %v", s, got, want)
	}
	return got
}

func wantRightSketch(t *testing.T, what string, s impl.Sketch) {
	t.Helper()
	if !ruleSketchRight(s) || !impl.SketchOk(s) {
		t.Fatalf("%s: %v is not right", what, s)
	}
	for _, key := range sketchKeys() {
		count(t, s, key)
		guess(t, s, key)
	}
	halve(t, s)
}

// wantWrongSketch asks for the answers that each function has for a sketch that is not right.
func wantWrongSketch(t *testing.T, what string, s impl.Sketch) {
	t.Helper()
	if impl.SketchOk(s) {
		t.Errorf("%s: %v is right", what, s)
	}
	if got := impl.HalveAll(s); !sameSketch(got, s) {
		t.Errorf("%s: HalveAll(%v) = %v; want it as it is", what, s, got)
	}
	for _, key := range sketchKeys() {
		if got := impl.CountKey(s, key); !sameSketch(got, s) {
			t.Errorf("%s: CountKey(%v, %q) = %v; want it as it is", what, s, key, got)
		}
		if got := impl.GuessKey(s, key); got != 0 {
			t.Errorf("%s: GuessKey(%v, %q) = %d; want 0", what, s, key, got)
		}
	}
}

// sketchKeys are keys of each kind, also such as no entry may have.
func sketchKeys() []string {
	return []string{
		"", "a", "b", "key", "\x00", "\xff", "\x80\xff", "é", "twelve bytes", "thirteen here",
		strings.Repeat("\xfe", 12), strings.Repeat("x", 13), strings.Repeat("long ", 5000),
	}
}

func TestLimitsOfSketches(t *testing.T) {
	if impl.Rows != 3 || impl.Width != 16 {
		t.Errorf("Rows, Width = %d, %d; want 3, 16", impl.Rows, impl.Width)
	}
}

func TestSketchNew(t *testing.T) {
	s := impl.SketchNew()
	if !sameSketch(s, sketchOf(0, nil)) {
		t.Fatalf("SketchNew() = %v; want 48 counts of 0, Adds 0", s)
	}
	wantRightSketch(t, "new", s)
	for _, key := range sketchKeys() {
		if got := impl.GuessKey(s, key); got != 0 {
			t.Errorf("GuessKey of a new one and %q = %d; want 0", key, got)
		}
	}
}

func TestSketchOkNumberOfCounts(t *testing.T) {
	wantWrongSketch(t, "the zero value", impl.Sketch{})
	for size := range 150 {
		for _, n := range []int{0, 1, 15} {
			s := impl.Sketch{Counts: slices.Repeat([]int{n}, size), Adds: n}
			if size == 48 {
				wantRightSketch(t, "48 counts", s)
			} else {
				wantWrongSketch(t, strconv.Itoa(size)+" counts", s)
			}
		}
	}
	// The room behind the counts is none of them.
	wantWrongSketch(t, "47 of 48 counts", impl.Sketch{Counts: make([]int, 47, 48)})
	wantRightSketch(t, "48 of 49 counts", impl.Sketch{Counts: append(make([]int, 48), 16)[:48]})
}

func TestSketchOkCounts(t *testing.T) {
	for place := range 48 {
		for number := range 16 {
			wantRightSketch(t, "a count in 0 .. 15", sketchOf(3, map[int]int{place: number}))
		}
		for _, number := range []int{-1, -2, -16, 16, 17, 31, 255, 256, 1 << 32, math.MinInt, math.MaxInt} {
			wantWrongSketch(t, "a count outside of 0 .. 15", sketchOf(3, map[int]int{place: number}))
			full := evenSketch(3, 15)
			full.Counts[place] = number
			wantWrongSketch(t, "a count outside of 0 .. 15 among full ones", full)
		}
	}
}

func TestSketchOkAdds(t *testing.T) {
	for adds := range 100 {
		wantRightSketch(t, "Adds in 0 .. 99", evenSketch(adds, adds%16))
	}
	for _, adds := range []int{-1, -2, -100, 100, 101, 199, 200, 256, 1 << 32, math.MinInt, math.MaxInt} {
		wantWrongSketch(t, "Adds outside of 0 .. 99", evenSketch(adds, 0))
		wantWrongSketch(t, "Adds outside of 0 .. 99", evenSketch(adds, 15))
	}
}

// Each row has its own place for a key: these were worked out apart from this program.
func TestCountKeyPlaces(t *testing.T) {
	for key, places := range map[string][3]int{
		"": {9, 10, 11}, "a": {0, 9, 14}, "b": {9, 0, 3}, "key": {9, 9, 12}, "\x00": {3, 14, 9},
		"\xff": {5, 0, 3}, "\x80\xff": {9, 11, 3}, "é": {12, 8, 6},
		"twelve bytes": {5, 4, 6}, "thirteen here": {5, 10, 9},
	} {
		want := sketchOf(1, map[int]int{places[0]: 1, 16 + places[1]: 1, 32 + places[2]: 1})
		if got := impl.CountKey(impl.SketchNew(), key); !sameSketch(got, want) {
			t.Errorf("CountKey of a new one and %q = %v; want %v", key, got, want)
		}
		for row, place := range places {
			s := evenSketch(0, 9)
			s.Counts[16*row+place] = 4
			if got := impl.GuessKey(s, key); got != 4 {
				t.Errorf("GuessKey of %q with 4 in row %d = %d; want 4", key, row, got)
			}
		}
	}
}

func TestCountKeyOfManyKeys(t *testing.T) {
	taken := make([]bool, 48)
	for n := range 2000 {
		key := "k" + strconv.Itoa(n)
		s := count(t, impl.SketchNew(), key)
		if got := guess(t, s, key); got != 1 {
			t.Fatalf("%q is guessed %d behind one count; want 1", key, got)
		}
		for place, number := range s.Counts {
			taken[place] = taken[place] || number == 1
		}
	}
	if slices.Contains(taken, false) {
		t.Errorf("no key of 2000 is counted somewhere: %v", taken)
	}
}

// Keys that no entry may have are counted as all others are.
func TestCountKeyOfEachLength(t *testing.T) {
	for _, length := range []int{0, 1, 2, 11, 12, 13, 20, 600, 601, 20000, 20001, 100000} {
		for _, b := range []string{"x", "\x00", "\x7f", "\x80", "\xff"} {
			key := strings.Repeat(b, length)
			s := impl.SketchNew()
			for times := 1; times <= 3; times++ {
				s = count(t, s, key)
				if got := guess(t, s, key); got != times {
					t.Errorf("%d times %q, counted %d times, is guessed %d", length, b, times, got)
				}
			}
		}
	}
}

// Counts of 15 stay while the other rows of a key go on; all are half of that behind it.
func TestCountsThatAreFull(t *testing.T) {
	for _, key := range sketchKeys() {
		at := ruleCounts(key)
		eachPick(3, 4, func(pick []int) {
			for _, adds := range []int{0, 50, 98, 99} {
				have := sketchOf(adds, map[int]int{at[0]: 12 + pick[0], at[1]: 12 + pick[1], at[2]: 12 + pick[2]})
				want := sketchOf(adds+1, map[int]int{
					at[0]: min(13+pick[0], 15), at[1]: min(13+pick[1], 15), at[2]: min(13+pick[2], 15),
				})
				if adds == 99 {
					want = impl.Sketch{Counts: ruleHalves(want.Counts)}
				}
				got := count(t, have, key)
				if !sameSketch(got, want) || !impl.SketchOk(got) {
					t.Fatalf("CountKey(%v, %q) = %v; want %v", have, key, got, want)
				}
				guess(t, got, key)
				guess(t, halve(t, got), key)
			}
		})
	}
}

// A key that is full in one row has the guess of the others, until these are full, too.
func TestFullInOneRowAlone(t *testing.T) {
	for row := range 3 {
		s := sketchOf(0, map[int]int{ruleCounts("a")[row]: 15})
		for times := 1; times <= 40; times++ {
			s = count(t, s, "a")
			if got := guess(t, s, "a"); got != min(times, 15) {
				t.Fatalf("row %d full at first, counted %d times: guessed %d", row, times, got)
			}
			if s.Counts[ruleCounts("a")[row]] != 15 {
				t.Fatalf("the full count of row %d is none any more: %v", row, s)
			}
		}
	}
}

func TestFullInAllRows(t *testing.T) {
	s := impl.SketchNew()
	for times := 1; times <= 99; times++ {
		s = count(t, s, "a")
		if got := guess(t, s, "a"); got != min(times, 15) || s.Adds != times {
			t.Fatalf("counted %d times: guessed %d, Adds %d", times, got, s.Adds)
		}
	}
	want := 15
	for _, half := range []int{7, 3, 1, 0, 0} {
		s = halve(t, s)
		if got := guess(t, s, "a"); got != half || s.Adds != 99 {
			t.Fatalf("%d halved is guessed %d, Adds %d; want %d, 99", want, got, s.Adds, half)
		}
		want = half
	}
	full := evenSketch(99, 15)
	if got := impl.CountKey(full, "a"); !sameSketch(got, evenSketch(0, 7)) {
		t.Errorf("CountKey(%v, a) = %v; want all counts 7, Adds 0", full, got)
	}
}

// The key is counted ahead of the halving: an odd count of it makes one more than without it.
func TestHundredthCount(t *testing.T) {
	for number := range 16 {
		for _, key := range sketchKeys() {
			s := count(t, evenSketch(98, number), key)
			if s.Adds != 99 {
				t.Fatalf("Adds behind 98 are %d; want 99", s.Adds)
			}
			want := evenSketch(0, number/2)
			for _, at := range ruleCounts(key) {
				want.Counts[at] = min(number+1, 15) / 2
			}
			if got := impl.CountKey(evenSketch(99, number), key); !sameSketch(got, want) {
				t.Errorf("CountKey(%v, %q) = %v; want %v", evenSketch(99, number), key, got, want)
			}
			if got := count(t, want, key); got.Adds != 1 {
				t.Errorf("Adds behind 0 are %d; want 1", got.Adds)
			}
		}
	}
}

// Adds go round by hundreds, whichever keys are counted.
func TestAddsGoRound(t *testing.T) {
	s := impl.SketchNew()
	for n := 1; n <= 450; n++ {
		s = count(t, s, "k"+strconv.Itoa(n*n%37))
		if s.Adds != n%100 {
			t.Fatalf("Adds behind %d counts are %d; want %d", n, s.Adds, n%100)
		}
		if !impl.SketchOk(s) {
			t.Fatalf("behind %d counts %v is not right", n, s)
		}
	}
}

// All counts are half (down); Adds are as they were, for nothing is said of them.
func TestHalveAll(t *testing.T) {
	for adds := range 100 {
		s := sketchOf(adds, nil)
		for place := range s.Counts {
			s.Counts[place] = (place + adds) % 16
		}
		got := impl.HalveAll(s)
		for place := range 48 {
			if want := (place + adds) % 16 / 2; got.Counts[place] != want {
				t.Fatalf("HalveAll(%v): count %d is %d; want %d", s, place, got.Counts[place], want)
			}
		}
		if got.Adds != adds || len(got.Counts) != 48 {
			t.Errorf("HalveAll(%v) = %v", s, got)
		}
	}
}

func TestGuessIsTheLeastOfItsRows(t *testing.T) {
	for _, key := range sketchKeys() {
		at := ruleCounts(key)
		eachPick(3, 16, func(pick []int) {
			for _, other := range []int{0, 15} {
				s := evenSketch(7, other)
				for row := range at {
					s.Counts[at[row]] = pick[row]
				}
				if got := impl.GuessKey(s, key); got != min(pick[0], pick[1], pick[2]) {
					t.Fatalf("GuessKey of %q with %v, others %d, = %d", key, pick, other, got)
				}
			}
		})
	}
}

// sketchesToKeep are right ones, and some that are not, each in its own way.
func sketchesToKeep() []impl.Sketch {
	return []impl.Sketch{
		evenSketch(0, 0), evenSketch(5, 3), evenSketch(99, 15), evenSketch(98, 15), sketchOf(99, map[int]int{0: 1, 47: 14}),
		{}, {Counts: []int{}}, {Counts: make([]int, 47), Adds: 1}, {Counts: make([]int, 49), Adds: 1},
		evenSketch(100, 2), evenSketch(-1, 2), evenSketch(1, 16), evenSketch(1, -1), {Counts: []int{3}, Adds: 7},
	}
}

// eachSketch calls every function that answers with a sketch, and hands its answer on.
func eachSketch(s impl.Sketch, back func(string, impl.Sketch)) {
	back("HalveAll", impl.HalveAll(s))
	for _, key := range sketchKeys() {
		back("CountKey", impl.CountKey(s, key))
		impl.GuessKey(s, key)
	}
	impl.SketchOk(s)
}

func TestSketchArgumentsStay(t *testing.T) {
	for _, s := range sketchesToKeep() {
		size := len(s.Counts)
		all := append(slices.Clone(s.Counts), 77, 5, -9)
		before := slices.Clone(all)
		given := impl.Sketch{Counts: all[:size], Adds: s.Adds}
		eachSketch(given, func(what string, got impl.Sketch) {
			if !slices.Equal(all, before) {
				t.Fatalf("%s: the argument %v has become %v", what, before, all)
			}
			// Nothing that is written into an answer, or behind it, comes to the argument.
			for i := range got.Counts[:cap(got.Counts)] {
				got.Counts[:cap(got.Counts)][i] = 1000
			}
			if !slices.Equal(all, before) {
				t.Fatalf("%s of %v shares memory with its argument", what, s)
			}
		})
	}
}

// An answer stays what it was, whatever is written into what was handed in, and whatever is asked later.
func TestSketchAnswersStay(t *testing.T) {
	for _, s := range sketchesToKeep() {
		given := impl.Sketch{Counts: slices.Clone(s.Counts), Adds: s.Adds}
		var answers, copies []impl.Sketch
		eachSketch(given, func(_ string, got impl.Sketch) {
			answers = append(answers, got)
			copies = append(copies, impl.Sketch{Counts: slices.Clone(got.Counts), Adds: got.Adds})
		})
		for i := range given.Counts {
			given.Counts[i] = 1000
		}
		for i := range answers {
			if !sameSketch(answers[i], copies[i]) {
				t.Fatalf("the answer %v has become %v", copies[i], answers[i])
			}
		}
	}
	one, other := impl.SketchNew(), impl.SketchNew()
	one.Counts[0] = 9
	if !sameSketch(other, impl.SketchNew()) || !sameSketch(other, sketchOf(0, nil)) {
		t.Error("two answers of SketchNew share counts")
	}
}
