package tests

import (
	"strings"
	"testing"

	"loop.example/g00180/impl"
)

// nearsToWantFrom are new ones, such as have entries, and full ones; where a text that were
// counted would be marked, would be counted, or would halve all counts and clear the Door.
func nearsToWantFrom(t *testing.T) []impl.Near {
	t.Helper()
	nears := nearsToTry()
	for size := 2; size <= 24; size++ {
		kept := newNear(t, size)
		nears = append(nears, kept)
		for _, key := range []string{"twelve bytes", "k", "\x00"} {
			kept, _, _ = impl.KeepKey(kept, key, "val")
			nears = append(nears, kept)
		}
	}
	for _, n := range nears {
		for _, adds := range []int{0, 98, 99} {
			n.Sketch, n.Door = evenSketch(adds, 7), impl.Door{Bits: 1<<32 - 1}
			nears = append(nears, n)
		}
	}
	return nears
}

// noKeys are texts that no entry may have as its Key: the empty one, and those of more than 12 bytes,
// also where their beginning is a key that is there.
func noKeys() []string {
	texts := []string{"", "twelve bytes.", "twelve bytes\x00", "k" + strings.Repeat("\x00", 12)}
	for _, b := range []string{"k", "\x00", "\x80", "\xff", " "} {
		for _, length := range []int{13, 14, 20, 21, 24, 64, 100, 268, 20000, 20001} {
			texts = append(texts, strings.Repeat(b, length))
		}
	}
	return texts
}

// A text that is no key is not wanted: every part is as it was, however often it is asked for.
func TestWantKeyOfNoKey(t *testing.T) {
	texts := noKeys()
	for i, n := range nearsToWantFrom(t) {
		for j, text := range texts {
			// The longest ones take their time: they go round among the near entries.
			if len(text) > 1000 && (i+j)%25 != 0 {
				continue
			}
			got := n
			for time := range 3 {
				next, val, ok := impl.WantKey(got, text)
				if !sameNear(next, n) || val != "" || ok {
					t.Fatalf("WantKey(%v, %d bytes %.20q), time %d, = %v, %q, %v; want it as it is, empty, false",
						n, len(text), text, time+1, next, val, ok)
				}
				got = next
			}
		}
	}
}

// The lengths about both edges: keys are counted, be they there or not; texts of 0 and of 13 bytes are not.
func TestWantKeyLengths(t *testing.T) {
	for _, n := range nearsToWantFrom(t) {
		for _, b := range []string{"k", "\x00", "\xff"} {
			for _, length := range []int{0, 1, 2, 11, 12, 13, 14, 600} {
				text := strings.Repeat(b, length)
				got, _, _ := want(t, n, text)
				counted := !sameSketch(got.Sketch, n.Sketch) || got.Door != n.Door
				if counted != (length >= 1 && length <= 12) {
					t.Fatalf("WantKey(%v, %d bytes %.20q) = %v: counted is %v", n, length, text, got, counted)
				}
			}
		}
	}
}

// The shortest keys and the longest ones are there once they are kept; a byte less or more is another text.
func TestWantKeyOfLimitsKept(t *testing.T) {
	for size := 2; size <= 24; size++ {
		for _, length := range []int{1, 12} {
			key := strings.Repeat("k", length)
			n, _, _ := keep(t, newNear(t, size), key, "val")
			if _, val, ok := want(t, n, key); val != "val" || !ok {
				t.Errorf("size %d: kept with %d bytes, it is wanted as %q, %v", size, length, val, ok)
			}
			for _, other := range []string{key[1:], key + "k", key + "\x00"} {
				if _, val, ok := want(t, n, other); val != "" || ok {
					t.Errorf("size %d: kept with %d bytes, %q is wanted as %q, %v", size, length, other, val, ok)
				}
			}
		}
	}
}

// Two slots, new, and a text of 13 bytes: no bit of the Door is set, and no count is made, the second time neither.
func TestWantKeyOfThirteenBytesAtNew(t *testing.T) {
	n := newNear(t, 2)
	for time := range 2 {
		got, val, ok := impl.WantKey(n, "kkkkkkkkkkkkk")
		if got.Door.Bits != 0 || !sameSketch(got.Sketch, sketchOf(0, nil)) || val != "" || ok {
			t.Errorf("time %d: %v, %v, %q, %v", time+1, got.Door, got.Sketch, val, ok)
		}
		n = got
	}
	if got, _, ok := impl.WantKey(n, "kkkkkkkkkkkk"); got.Door != ruleMark(impl.Door{}, "kkkkkkkkkkkk") || ok {
		t.Errorf("a key of 12 bytes makes %v, %v", got.Door, ok)
	}
}

// By themselves, counts and Door take any text, also such as is no key.
func TestNoKeysAreCountedByThemselves(t *testing.T) {
	for _, text := range noKeys() {
		if s := impl.CountKey(impl.SketchNew(), text); s.Adds != 1 || impl.GuessKey(s, text) != 1 {
			t.Errorf("CountKey of %d bytes %.20q makes %v", len(text), text, s)
		}
		if d := impl.MarkKey(impl.Door{}, text); d.Bits == 0 || !impl.SeenKey(d, text) {
			t.Errorf("MarkKey of %d bytes %.20q makes %v", len(text), text, d)
		}
	}
}

// A life in which texts that are no keys are wanted between all its steps goes on as it does without them.
func TestPromise8NoKeysBetween(t *testing.T) {
	texts := []string{"", "kkkkkkkkkkkkk", "thirteen here", strings.Repeat("k", 100)}
	for size := 2; size <= 24; size++ {
		names := nearNames(size + 4)
		plain, mixed := newNear(t, size), newNear(t, size)
		for step := range 130 {
			key := names[step*step%len(names)]
			for _, text := range texts {
				mixed, _, _ = impl.WantKey(mixed, text)
			}
			if step%3 == 0 {
				plain, _, _ = impl.WantKey(plain, key)
				mixed, _, _ = impl.WantKey(mixed, key)
			} else {
				plain, _, _ = impl.KeepKey(plain, key, "val")
				mixed, _, _ = impl.KeepKey(mixed, key, "val")
			}
			if !sameNear(plain, mixed) {
				t.Fatalf("size %d, step %d: %v with no keys between, %v without", size, step, mixed, plain)
			}
		}
	}
}
