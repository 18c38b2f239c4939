package tests

import (
	"slices"
	"testing"

	"loop.example/g00180/impl"
)

// moved asks for the keys that move from one ring to another, and holds them against the rule.
func moved(t *testing.T, a, b impl.Ring, keys []string) []string {
	t.Helper()
	got, want := impl.MovedKeys(a, b, keys), ruleMoved(a, b, keys)
	if !slices.Equal(got, want) {
		t.Fatalf("MovedKeys(%v, %v) of %d keys = %.200q; want %.200q", a, b, len(keys), got, want)
	}
	return got
}

func TestMovedKeysOfNoKeys(t *testing.T) {
	one, other := mustRing(t, []int{1, 2}), mustRing(t, []int{3})
	for _, rings := range [][2]impl.Ring{{one, other}, {one, one}, {one, {}}, {{}, one}, {{}, {}}} {
		for _, keys := range [][]string{nil, {}, make([]string, 0, 4)} {
			if got := impl.MovedKeys(rings[0], rings[1], keys); len(got) != 0 {
				t.Errorf("MovedKeys(%v, %v, none) = %q", rings[0], rings[1], got)
			}
		}
	}
}

func TestMovedKeysKnown(t *testing.T) {
	all, less := mustRing(t, []int{1, 2, 3, 4, 5, 6}), mustRing(t, []int{1, 2, 3, 5, 6})
	edges := edgeKeys()
	four, six, two := edges[707013708], edges[2322036083], edges[3054905758]
	for _, c := range []struct{ keys, want []string }{
		{[]string{four}, []string{four}},
		{[]string{six}, nil},
		{[]string{four, four}, []string{four, four}},
		{[]string{six, four, two, four, six, "b"}, []string{four, four, "b"}},
		{[]string{"b", "key", "a", "", four}, []string{"b", four}},
	} {
		if got := moved(t, all, less, c.keys); !slices.Equal(got, c.want) {
			t.Errorf("MovedKeys of %q = %q; want %q", c.keys, got, c.want)
		}
		if got := moved(t, less, all, c.keys); !slices.Equal(got, c.want) {
			t.Errorf("MovedKeys of %q back = %q; want %q", c.keys, got, c.want)
		}
	}
}

// From a ring to the same none moves; to one of no spots, whose home is 0, all do.
func TestMovedKeysToTheSameAndToNone(t *testing.T) {
	keys := append(ringKeys(), ringKeys()[:20]...)
	for at, r := range rightRings() {
		if got := moved(t, r, mustRing(t, nodeSets()[at]), keys); len(got) != 0 {
			t.Errorf("of %v to the same %d keys move", r, len(got))
		}
		if at%20 == 0 {
			if out, in := moved(t, r, impl.Ring{}, keys), moved(t, impl.Ring{}, r, keys); len(out) != len(keys) || len(in) != len(keys) {
				t.Errorf("from %v to no spots %d of %d keys move, and %d back", r, len(out), len(keys), len(in))
			}
		}
	}
	if got := moved(t, impl.Ring{}, impl.Ring{}, keys); len(got) != 0 {
		t.Errorf("from no spots to no spots %d keys move", len(got))
	}
}

// A Node of 0 is as good a home as that of a ring of no spots.
func TestMovedKeysToNodeNought(t *testing.T) {
	keys := ringKeys()
	if got := moved(t, ringWith(spotAt(5, 0)), impl.Ring{}, keys); len(got) != 0 {
		t.Errorf("from the node 0 to no spots %d keys move", len(got))
	}
	if got := moved(t, ringWith(spotAt(5, 0)), ringWith(spotAt(7, 0), spotAt(3, 0)), keys); len(got) != 0 {
		t.Errorf("from the node 0 to itself %d keys move", len(got))
	}
}

// What counts is the home alone: other spots of the same node move nothing.
func TestMovedKeysByHomesAlone(t *testing.T) {
	keys := ringKeys()
	one, other := ringWith(spotAt(5, 3), spotAt(9, 3)), ringWith(spotAt(-1, 3))
	if got := moved(t, one, other, keys); len(got) != 0 {
		t.Errorf("%d keys move within a node", len(got))
	}
	h := fnvHash("key")
	up, down := ringWith(spotAt(h, 2), spotAt(h, 7)), ringWith(spotAt(h, 7), spotAt(h, 2))
	if got := moved(t, up, down, []string{"key", "key"}); len(got) != 2 {
		t.Errorf("where the first one at a place is another, %q move", got)
	}
}

// Each key once more behind all of them moves once more, in the order of the keys.
func TestMovedKeysInOrder(t *testing.T) {
	keys := append(ringKeys(), drawnKeys(300)...)
	back := slices.Clone(keys)
	slices.Reverse(back)
	sets := nodeSets()
	for n := range 200 {
		a, b := mustRing(t, sets[n*7%len(sets)]), mustRing(t, sets[n*31%len(sets)])
		got := moved(t, a, b, keys)
		if twice := moved(t, a, b, slices.Concat(keys, keys)); !slices.Equal(twice, slices.Concat(got, got)) {
			t.Fatalf("from %v to %v other keys move when all come twice", a, b)
		}
		again := moved(t, a, b, back)
		slices.Reverse(again)
		if !slices.Equal(again, got) {
			t.Fatalf("from %v to %v other keys move when they come backward", a, b)
		}
		if other := moved(t, b, a, keys); !slices.Equal(other, got) {
			t.Fatalf("from %v to %v other keys move than back", a, b)
		}
	}
}

func TestMovedKeysOfWrongRings(t *testing.T) {
	for _, key := range []string{"", "key", edgeKeys()[0], edgeKeys()[4294967295]} {
		keys := append([]string{key, key}, ringKeys()...)
		wrong := wrongRings(key)
		for _, a := range wrong {
			for _, b := range wrong {
				moved(t, a.ring, b.ring, keys[:40])
			}
			moved(t, a.ring, rightRings()[400], keys)
			moved(t, rightRings()[400], a.ring, keys)
		}
	}
}
