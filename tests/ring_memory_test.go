package tests

import (
	"math"
	"slices"
	"testing"

	"loop.example/g00180/impl"
)

// withSpareSpots is the same ring with room behind its spots, filled with such as are no part of it.
func withSpareSpots(r impl.Ring) impl.Ring {
	whole := append(slices.Clone(r.Spots), slices.Repeat([]spot{spotAt(77, 7)}, 30)...)
	return impl.Ring{Spots: whole[:len(r.Spots)]}
}

// withSpareTexts are the same keys with room behind them.
func withSpareTexts(keys []string) []string {
	whole := append(slices.Clone(keys), slices.Repeat([]string{"spare"}, 30)...)
	return whole[:len(keys)]
}

// wholeOf is a list up to the end of the room behind it.
func wholeOf[T any](list []T) []T { return list[:cap(list)] }

// fill writes into each place of a list, of the room behind it, too.
func fill[T any](list []T, one T) {
	for at := range wholeOf(list) {
		wholeOf(list)[at] = one
	}
}

// ringsToKeep are right ones, and such as are not.
func ringsToKeep(key string) []impl.Ring {
	rings := append(ringsToBreak(), drawnRings(key, 40)...)
	for _, w := range wrongRings(key) {
		rings = append(rings, w.ring)
	}
	return rings
}

// ringKept is a ring with room behind its spots, and what they were.
type ringKept struct {
	ring   impl.Ring
	before []spot
}

func keepRing(r impl.Ring) ringKept {
	given := withSpareSpots(r)
	return ringKept{ring: given, before: slices.Clone(wholeOf(given.Spots))}
}

func (k ringKept) wantSame(t *testing.T, what string) {
	t.Helper()
	if !slices.Equal(wholeOf(k.ring.Spots), k.before) {
		t.Fatalf("%s changed its ring %v, or the room behind it", what, k.before)
	}
}

func TestRingOfArgumentsStay(t *testing.T) {
	for _, nodes := range [][]int{nil, {}, {1}, {2, 5}, {1, 2, 3, 4, 5, 6}, {2, 1}, {3, 3}, {6, 5, 4, 3, 2, 1}, {1, 2, 3, 4, 5, 6, 7}, {0, 4}} {
		have := withSpareNumbers(nodes)
		before := slices.Clone(wholeOf(have))
		first, ok := impl.RingOf(have)
		second, _ := impl.RingOf(have)
		want := slices.Clone(second.Spots)
		if alone, okAlone := impl.RingOf(nodes); ok != okAlone || !sameRing(first, alone) {
			t.Errorf("RingOf(%v) looks at what is behind its nodes", nodes)
		}
		fill(first.Spots, spotAt(-9, -9))
		if !slices.Equal(wholeOf(have), before) {
			t.Fatalf("RingOf(%v) changed its nodes, or the room behind them", nodes)
		}
		if third, _ := impl.RingOf(have); !slices.Equal(second.Spots, want) || !slices.Equal(third.Spots, want) {
			t.Fatalf("two answers of RingOf(%v) share memory", nodes)
		}
	}
}

// Nothing is written into a ring, and nothing behind its spots is looked at.
func TestRingArgumentsStay(t *testing.T) {
	for _, key := range []string{"", "key"} {
		for _, r := range ringsToKeep(key) {
			kept := keepRing(r)
			if impl.RingOk(kept.ring) != impl.RingOk(r) {
				t.Errorf("RingOk(%v) looks at what is behind the spots", r)
			}
			kept.wantSame(t, "RingOk")
			if impl.HomeOf(kept.ring, key) != impl.HomeOf(r, key) {
				t.Errorf("HomeOf(%v) looks at what is behind the spots", r)
			}
			kept.wantSame(t, "HomeOf")
			if !slices.Equal(impl.NodesOf(kept.ring), impl.NodesOf(r)) {
				t.Errorf("NodesOf(%v) looks at what is behind the spots", r)
			}
			kept.wantSame(t, "NodesOf")
			for _, n := range []int{math.MinInt, -1, 0, 1, 2, 3, 6, 7, math.MaxInt} {
				if !slices.Equal(impl.HomesOf(kept.ring, key, n), impl.HomesOf(r, key, n)) {
					t.Errorf("HomesOf(%v, %q, %d) looks at what is behind the spots", r, key, n)
				}
				kept.wantSame(t, "HomesOf")
			}
		}
	}
}

// What is written into an answer of a ring, and behind it, changes neither the ring nor another answer.
func TestRingAnswersAreNewMemory(t *testing.T) {
	for _, r := range ringsToKeep("key") {
		kept := keepRing(r)
		answers := map[string]func() []int{"NodesOf": func() []int { return impl.NodesOf(kept.ring) }}
		for name, n := range map[string]int{"no homes": 0, "a home": 1, "two homes": 2, "all homes": math.MaxInt, "less than none": -1} {
			answers[name] = func() []int { return impl.HomesOf(kept.ring, "key", n) }
		}
		for name, answer := range answers {
			first, second := answer(), answer()
			want := slices.Clone(second)
			fill(first, -9)
			kept.wantSame(t, name)
			if !slices.Equal(second, want) || !slices.Equal(answer(), want) {
				t.Fatalf("%s: two answers of %v share memory", name, r)
			}
		}
	}
}

func TestMovedKeysArgumentsStay(t *testing.T) {
	keys := ringKeys()
	rings := ringsToKeep("key")
	for at := range rings {
		a, b := keepRing(rings[at]), keepRing(rings[at*7%len(rings)])
		for _, some := range [][]string{nil, {"key"}, {"key", "key", "a"}, keys, drawnKeys(50)} {
			have := withSpareTexts(some)
			before := slices.Clone(wholeOf(have))
			first, second := impl.MovedKeys(a.ring, b.ring, have), impl.MovedKeys(a.ring, b.ring, have)
			want := slices.Clone(second)
			if !slices.Equal(first, ruleMoved(a.ring, b.ring, some)) {
				t.Fatalf("MovedKeys of %d keys looks at what is behind them", len(some))
			}
			fill(first, "written")
			if !slices.Equal(wholeOf(have), before) {
				t.Fatalf("MovedKeys changed its %d keys, or the room behind them", len(some))
			}
			if !slices.Equal(second, want) || !slices.Equal(impl.MovedKeys(a.ring, b.ring, have), want) {
				t.Fatalf("two answers of MovedKeys of %d keys share memory", len(some))
			}
			a.wantSame(t, "MovedKeys")
			b.wantSame(t, "MovedKeys")
		}
	}
}

// The texts of the keys that move are new, too.
func TestMovedKeysAreNewTexts(t *testing.T) {
	keys := append(ringKeys(), "key", "key")
	got := impl.MovedKeys(mustRing(t, []int{1, 2, 4}), impl.Ring{}, keys)
	if len(got) != len(keys) {
		t.Fatalf("%d of %d keys move", len(got), len(keys))
	}
	for at, key := range got {
		if sharesAny(key, keys) || sharesAny(key, got[:at]) {
			t.Errorf("the text %.20q is that of a key", key)
		}
	}
}
