package tests

import (
	"strconv"
	"testing"

	"loop.example/g00180/impl"
)

// sketchLife is a sketch and how often each key was counted into it since all were halved.
type sketchLife struct {
	sketch  impl.Sketch
	keys    []string
	counted map[string]int
	halved  bool
}

func newSketchLife(keys []string) *sketchLife {
	return &sketchLife{sketch: impl.SketchNew(), keys: keys, counted: map[string]int{}}
}

// guesses are those of all keys of the life.
func (l *sketchLife) guesses(s impl.Sketch) map[string]int {
	out := map[string]int{}
	for _, key := range l.keys {
		out[key] = impl.GuessKey(s, key)
	}
	return out
}

// count counts a key, and holds each guess against what it was.
func (l *sketchLife) count(t *testing.T, key string) {
	t.Helper()
	before, adds := l.guesses(l.sketch), l.sketch.Adds
	l.sketch = impl.CountKey(l.sketch, key)
	if adds == 99 {
		l.hundredth(t, key, before)
		return
	}
	l.counted[key]++
	if l.sketch.Adds != adds+1 {
		t.Fatalf("Adds of %d are %d behind one more", adds, l.sketch.Adds)
	}
	after := l.guesses(l.sketch)
	for _, other := range l.keys {
		if after[other] < before[other] || after[other] > min(before[other]+1, 15) {
			t.Fatalf("%q is guessed %d, and %d when %q is counted", other, before[other], after[other], key)
		}
	}
	if after[key] != min(before[key]+1, 15) {
		t.Fatalf("%q is guessed %d, and %d when it is counted", key, before[key], after[key])
	}
	l.check(t)
}

// hundredth holds each guess behind the hundredth count against half of what it was.
func (l *sketchLife) hundredth(t *testing.T, key string, before map[string]int) {
	t.Helper()
	l.counted, l.halved = map[string]int{}, true
	if l.sketch.Adds != 0 {
		t.Fatalf("Adds behind the hundredth count are %d; want 0", l.sketch.Adds)
	}
	after := l.guesses(l.sketch)
	for _, other := range l.keys {
		// One that shares counts with the key may be guessed one more by it, ahead of the halving.
		if after[other] < before[other]/2 || after[other] > min(before[other]+1, 15)/2 {
			t.Fatalf("%q is guessed %d, and %d behind the hundredth count", other, before[other], after[other])
		}
	}
	if after[key] != min(before[key]+1, 15)/2 {
		t.Fatalf("%q is guessed %d, and %d when it is counted as the hundredth", key, before[key], after[key])
	}
	l.check(t)
}

// halve halves all, and asks for half of each guess.
func (l *sketchLife) halve(t *testing.T) {
	t.Helper()
	before := l.guesses(l.sketch)
	l.sketch = impl.HalveAll(l.sketch)
	l.counted, l.halved = map[string]int{}, true
	after := l.guesses(l.sketch)
	for _, key := range l.keys {
		if after[key] != before[key]/2 {
			t.Fatalf("%q is guessed %d, and %d when all are halved", key, before[key], after[key])
		}
	}
	l.check(t)
}

// check asks that no guess is less than what was counted, nor any more than 15.
func (l *sketchLife) check(t *testing.T) {
	t.Helper()
	if !impl.SketchOk(l.sketch) {
		t.Fatalf("%v is not right", l.sketch)
	}
	for _, key := range l.keys {
		got := impl.GuessKey(l.sketch, key)
		if got < min(l.counted[key], 15) || got > 15 {
			t.Fatalf("%q was counted %d times, and is guessed %d", key, l.counted[key], got)
		}
		if !l.halved && got > l.sketch.Adds {
			t.Fatalf("%q is guessed %d, where %d keys were counted in all", key, got, l.sketch.Adds)
		}
	}
}

// sketchNames are so many keys, one of none and one longer than an entry's among them.
func sketchNames(count int) []string {
	names := []string{"", "a key that is longer", "\xff\x80"}
	for n := range count {
		names = append(names, "k"+strconv.Itoa(n))
	}
	return names[:count]
}

func TestPromise5OneKey(t *testing.T) {
	for _, key := range sketchNames(40) {
		l := newSketchLife([]string{key})
		for times := 1; times <= 99; times++ {
			l.count(t, key)
			// Alone, it is guessed as it was counted.
			if got := impl.GuessKey(l.sketch, key); got != min(times, 15) {
				t.Fatalf("%q alone, counted %d times, is guessed %d", key, times, got)
			}
		}
		l.count(t, key)
		if got := impl.GuessKey(l.sketch, key); got != 7 {
			t.Fatalf("%q alone, counted a hundred times, is guessed %d; want 7", key, got)
		}
	}
}

// Many keys in turn, so that counts are shared by several of them.
func TestPromise5ManyKeys(t *testing.T) {
	for _, many := range []int{2, 3, 7, 20, 60, 99, 150} {
		l := newSketchLife(sketchNames(many))
		for n := range 330 {
			l.count(t, l.keys[n%many])
		}
	}
}

// Keys one behind the other, each as often as there is room for.
func TestPromise5OneAfterTheOther(t *testing.T) {
	for _, times := range []int{1, 2, 14, 15, 16, 40} {
		l := newSketchLife(sketchNames(8))
		for _, key := range l.keys {
			for range times {
				l.count(t, key)
			}
		}
	}
}

// Each guess is half, and half again, until none is left; then it is counted anew.
func TestPromise5HalvedAgain(t *testing.T) {
	for n := range 99 {
		l := newSketchLife(sketchNames(9))
		for step := range n {
			l.count(t, l.keys[step*step%9])
		}
		for range 4 {
			l.halve(t)
		}
		for key, got := range l.guesses(l.sketch) {
			if got != 0 {
				t.Fatalf("%q is guessed %d when all are halved four times", key, got)
			}
		}
		l.count(t, l.keys[n%9])
		l.count(t, l.keys[n%9])
		l.halve(t)
	}
}

// Keys that share all their counts, or those of some rows, never make each other's guess less.
func TestPromise5SharedCounts(t *testing.T) {
	// Beside a: in no row, in each alone, in each two, in all three.
	keys := []string{"a", "k0", "k5", "k1", "k6", "k26", "k467", "k820", "k4849"}
	alike := func(key string) string {
		out := ""
		for row, at := range ruleCounts(key) {
			if at == ruleCounts("a")[row] {
				out += strconv.Itoa(row)
			}
		}
		return out
	}
	for n, want := range []string{"012", "", "0", "1", "2", "01", "02", "12", "012"} {
		if got := alike(keys[n]); got != want {
			t.Fatalf("%q shares the rows %q with a; want %q", keys[n], got, want)
		}
	}
	for _, other := range keys[1:] {
		l := newSketchLife(keys)
		for n := range 60 {
			l.count(t, other)
			if n%4 == 0 {
				l.count(t, "a")
			}
		}
		if got := impl.GuessKey(l.sketch, other); got != 15 {
			t.Errorf("%q, counted 60 times, is guessed %d; want 15", other, got)
		}
		l.halve(t)
		l.count(t, "a")
	}
}

// The hundredth count does what a count and a halving do.
func TestPromise5HundredthIsHalved(t *testing.T) {
	l := newSketchLife(sketchNames(30))
	for n := range 99 {
		l.count(t, l.keys[n*7%30])
	}
	for _, key := range l.keys {
		earlier := impl.Sketch{Counts: l.sketch.Counts, Adds: 10}
		want := impl.HalveAll(impl.CountKey(earlier, key))
		want.Adds = 0
		if got := impl.CountKey(l.sketch, key); !sameSketch(got, want) {
			t.Errorf("CountKey(%v, %q) = %v; want %v", l.sketch, key, got, want)
		}
	}
}

func TestPromise5DrawnLives(t *testing.T) {
	for seed := range 60 {
		l := newSketchLife(sketchNames(2 + seed%25))
		drawn := seed*7919 + 3
		for range 320 {
			drawn = (drawn*1103515245 + 12345) % 2147483648
			pick := drawn / 65536
			if pick%40 == 0 && seed%3 > 0 {
				l.halve(t)
				continue
			}
			// The lesser numbers come more often: some keys are full while others are seldom.
			many := len(l.keys)
			l.count(t, l.keys[pick/40%many*(pick/1600%many)/many])
		}
	}
}
