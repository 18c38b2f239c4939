package tests

import (
	"fmt"
	"math"
	"slices"
	"strings"
	"testing"

	"loop.example/g00180/impl"
)

// mustRing is RingOf of nodes that a ring may have, held against the rule.
func mustRing(t *testing.T, nodes []int) impl.Ring {
	t.Helper()
	r, ok := impl.RingOf(nodes)
	if want := ringOfAny(nodes, 4); !ok || !sameRing(r, want) {
		t.Fatalf("RingOf(%v) = %v, %v; want %v, true", nodes, r, ok, want)
	}
	return r
}

func wantNoRing(t *testing.T, nodes []int) {
	t.Helper()
	if r, ok := impl.RingOf(nodes); ok || len(r.Spots) != 0 {
		t.Errorf("RingOf(%v) = %v, %v; want no spots, false", nodes, r, ok)
	}
}

func wantRingOk(t *testing.T, what string, r impl.Ring, want bool) {
	t.Helper()
	if ruleRingRight(r) != want {
		t.Fatalf("%s: by the rule it is %v that %v is right", what, !want, r)
	}
	if got := impl.RingOk(r); got != want {
		t.Errorf("%s: RingOk(%v) = %v; want %v", what, r, got, want)
	}
}

// wantHomes holds HomeOf and HomesOf of a key against what is wanted of all nodes.
func wantHomes(t *testing.T, r impl.Ring, key string, want []int) {
	t.Helper()
	if got := impl.HomeOf(r, key); got != append(want, 0)[0] {
		t.Fatalf("HomeOf(%v, %.20q) = %d; want the first of %v", r, key, got, want)
	}
	for _, n := range []int{math.MinInt, -1, 0, 1, 2, len(want) - 1, len(want), len(want) + 1, 7, 1000, math.MaxInt} {
		first := want[:min(max(n, 0), len(want))]
		if got := impl.HomesOf(r, key, n); !slices.Equal(got, first) {
			t.Fatalf("HomesOf(%v, %.20q, %d) = %v; want %v", r, key, n, got, first)
		}
	}
}

// wantRingByRule holds all that a ring, right or not, answers of itself and a key against the rules.
func wantRingByRule(t *testing.T, r impl.Ring, key string) {
	t.Helper()
	if got, want := impl.NodesOf(r), ruleNodes(r); !slices.Equal(got, want) {
		t.Fatalf("NodesOf(%v) = %v; want %v", r, got, want)
	}
	if got, want := impl.RingOk(r), ruleRingRight(r); got != want {
		t.Fatalf("RingOk(%v) = %v; want %v", r, got, want)
	}
	if got, want := impl.HomeOf(r, key), ruleHome(r, key); got != want {
		t.Fatalf("HomeOf(%v, %.20q) = %d; want %d", r, key, got, want)
	}
	wantHomes(t, r, key, ruleHomes(r, key, math.MaxInt))
}

func TestRingLimits(t *testing.T) {
	if impl.MaxNodes != 6 || impl.Spots != 4 {
		t.Errorf("MaxNodes %d, Spots %d; want 6, 4", impl.MaxNodes, impl.Spots)
	}
}

func TestRingOfKnown(t *testing.T) {
	one, _ := impl.RingOf([]int{1})
	if want := ringWith(spotAt(3795791119, 1), spotAt(3812570108, 1), spotAt(3829347945, 1), spotAt(3846125270, 1)); !sameRing(one, want) {
		t.Errorf("RingOf([1]) = %v; want %v", one, want)
	}
	two, _ := impl.RingOf([]int{2, 5})
	if want := ringWith(
		spotAt(3054905758, 2), spotAt(3068155516, 5), spotAt(3071677965, 2), spotAt(3084932559, 5),
		spotAt(3088456376, 2), spotAt(3101711138, 5), spotAt(3105234263, 2), spotAt(3118488757, 5),
	); !sameRing(two, want) {
		t.Errorf("RingOf([2 5]) = %v; want %v", two, want)
	}
	six, _ := impl.RingOf([]int{4, 5, 6, 7, 8, 9})
	nodes := []int{}
	for _, s := range six.Spots {
		nodes = append(nodes, s.Node)
	}
	if want := []int{4, 4, 4, 4, 8, 8, 8, 8, 7, 7, 7, 7, 6, 6, 6, 6, 5, 5, 5, 5, 9, 9, 9, 9}; !slices.Equal(nodes, want) {
		t.Errorf("RingOf([4 5 6 7 8 9]) has the nodes %v; want %v", nodes, want)
	}
}

// Of each set: four spots a node, each where the rule has it, ascending by At, then Node.
func TestRingOfEachSet(t *testing.T) {
	sets := nodeSets()
	if len(sets) != 465 {
		t.Fatalf("%d sets of one to six; want 465", len(sets))
	}
	for _, set := range sets {
		r := mustRing(t, set)
		if len(r.Spots) != 4*len(set) {
			t.Errorf("RingOf(%v) has %d spots; want %d", set, len(r.Spots), 4*len(set))
		}
		for at, s := range r.Spots[1:] {
			before := r.Spots[at]
			if s.At < before.At || s.At == before.At && s.Node <= before.Node {
				t.Errorf("RingOf(%v) has %v behind %v", set, s, before)
			}
		}
		for _, node := range set {
			count := 0
			for _, s := range r.Spots {
				if s.Node == node && slices.Contains(nodeSpots(node, 4), s) {
					count++
				}
			}
			if count != 4 {
				t.Errorf("RingOf(%v) has %d spots of %d; want 4", set, count, node)
			}
		}
		if got := impl.NodesOf(r); !slices.Equal(got, set) {
			t.Errorf("NodesOf(RingOf(%v)) = %v", set, got)
		}
	}
}

func TestRingOfWrongNodes(t *testing.T) {
	for _, nodes := range [][]int{
		nil, {}, {0}, {10}, {-1}, {-9}, {11}, {100}, {math.MinInt}, {math.MaxInt}, {4294967297}, {-4294967295}, {257},
		{2, 1}, {1, 1}, {9, 9}, {9, 1}, {0, 1}, {-1, 1}, {9, 10}, {1, 10}, {1, 4294967298}, {math.MinInt, 1}, {9, math.MaxInt},
		{1, 2, 2}, {1, 1, 2}, {1, 3, 2}, {2, 1, 3}, {3, 2, 1}, {1, 2, 1}, {1, 2, 0}, {1, 2, -3}, {7, 8, 9, 10},
		{1, 2, 3, 4, 5, 5}, {1, 2, 3, 4, 6, 5}, {2, 1, 3, 4, 5, 6}, {0, 1, 2, 3, 4, 5}, {5, 6, 7, 8, 9, 10}, {6, 5, 4, 3, 2, 1},
		{1, 2, 3, 4, 5, 6, 7}, {3, 4, 5, 6, 7, 8, 9}, {1, 2, 3, 4, 5, 6, 6}, {1, 1, 1, 1, 1, 1, 1}, {0, 1, 2, 3, 4, 5, 6},
		{1, 2, 3, 4, 5, 6, 7, 8}, {1, 2, 3, 4, 5, 6, 7, 8, 9}, make([]int, 5000),
	} {
		wantNoRing(t, nodes)
	}
}

// All sets of more than six are refused, be they ever so right else.
func TestRingOfTooMany(t *testing.T) {
	for bits := range 512 {
		set := []int{}
		for node := 1; node <= 9; node++ {
			if hasBit(bits, node-1) {
				set = append(set, node)
			}
		}
		if len(set) > 6 {
			wantNoRing(t, set)
		}
	}
}

// Of two and three numbers about 1 .. 9: just those that ascend there make a ring.
func TestRingOfSmallLists(t *testing.T) {
	fits := func(node int) bool { return node >= 1 && node <= 9 }
	for a := -2; a <= 12; a++ {
		for b := -2; b <= 12; b++ {
			if two := []int{a, b}; fits(a) && fits(b) && a < b {
				mustRing(t, two)
			} else {
				wantNoRing(t, two)
			}
			for c := -2; c <= 12; c++ {
				if three := []int{a, b, c}; fits(a) && fits(b) && fits(c) && a < b && b < c {
					mustRing(t, three)
				} else {
					wantNoRing(t, three)
				}
			}
		}
	}
}

func TestRingOkOfRightRings(t *testing.T) {
	for at, set := range nodeSets() {
		wantRingOk(t, "made by the rule", rightRings()[at], true)
		wantRingOk(t, "RingOf", mustRing(t, set), true)
	}
}

func TestRingOkOfNoSpots(t *testing.T) {
	wantRingOk(t, "nil", impl.Ring{}, false)
	wantRingOk(t, "empty", impl.Ring{Spots: []spot{}}, false)
	wantRingOk(t, "empty with room", impl.Ring{Spots: make([]spot, 0, 8)}, false)
}

// ringsToBreak are right rings of each number of nodes.
func ringsToBreak() []impl.Ring {
	sets := [][]int{{1}, {9}, {2, 5}, {3, 4}, {2, 5, 7}, {1, 2, 5, 8}, {1, 3, 5, 7, 9}, {1, 2, 3, 4, 5, 6}, {2, 4, 5, 6, 8, 9}}
	rings := []impl.Ring{}
	for _, set := range sets {
		rings = append(rings, ringOfAny(set, 4))
	}
	return rings
}

func TestRingOkOfOtherOrders(t *testing.T) {
	for _, r := range ringsToBreak() {
		size := len(r.Spots)
		for i := range size {
			for j := range i {
				swapped := slices.Clone(r.Spots)
				swapped[i], swapped[j] = swapped[j], swapped[i]
				wantRingOk(t, fmt.Sprintf("%d and %d changed", i, j), ringWith(swapped...), false)
			}
			if i > 0 {
				wantRingOk(t, fmt.Sprintf("from %d on", i), ringWith(slices.Concat(r.Spots[i:], r.Spots[:i])...), false)
			}
		}
		back := slices.Clone(r.Spots)
		slices.Reverse(back)
		wantRingOk(t, "backward", ringWith(back...), false)
		byNode := slices.Clone(r.Spots)
		slices.SortStableFunc(byNode, func(a, b spot) int { return a.Node - b.Node })
		wantRingOk(t, "by node", ringWith(byNode...), ruleRingRight(ringWith(byNode...)))
	}
}

func TestRingOkWithOneMoreOrLess(t *testing.T) {
	for _, r := range ringsToBreak() {
		for place := range len(r.Spots) + 1 {
			if place < len(r.Spots) {
				wantRingOk(t, "one less", ringWith(slices.Delete(slices.Clone(r.Spots), place, place+1)...), false)
				twice := slices.Insert(slices.Clone(r.Spots), place, r.Spots[place])
				wantRingOk(t, "one twice", ringWith(twice...), false)
				instead := slices.Clone(r.Spots)
				instead[place] = instead[(place+1)%len(instead)]
				wantRingOk(t, "one twice, one less", ringWith(instead...), false)
			}
			for _, s := range []spot{{}, r.Spots[0], spotAt(r.Spots[0].At, 7), spotAt(5, r.Spots[0].Node), spotAt(4294967295, 9)} {
				wantRingOk(t, "one more", ringWith(slices.Insert(slices.Clone(r.Spots), place, s)...), false)
			}
		}
		wantRingOk(t, "all twice", ringWith(slices.Concat(r.Spots, r.Spots)...), false)
		wantRingOk(t, "half", ringWith(r.Spots[:len(r.Spots)/2]...), ruleRingRight(ringWith(r.Spots[:len(r.Spots)/2]...)))
	}
}

func TestRingOkWithOneTurned(t *testing.T) {
	for _, r := range ringsToBreak() {
		for place, s := range r.Spots {
			for _, at := range []int{s.At - 1, s.At + 1, s.At - 4294967296, s.At + 4294967296, -s.At, 0, -1, math.MinInt, math.MaxInt, r.Spots[0].At + 7} {
				turned := slices.Clone(r.Spots)
				turned[place].At = at
				wantRingOk(t, "an At turned", ringWith(turned...), false)
			}
			for _, node := range []int{-1, 0, 1, 2, 3, 4, 5, 6, 7, 8, 9, 10, 4294967296 + s.Node, -s.Node, math.MinInt, math.MaxInt} {
				turned := slices.Clone(r.Spots)
				turned[place].Node = node
				wantRingOk(t, "a Node turned", ringWith(turned...), node == s.Node)
			}
		}
	}
}

// Made by the rule, but of nodes that a ring may not have, too many, or with fewer or more spots each.
func TestRingOkOfWrongNodes(t *testing.T) {
	for _, nodes := range [][]int{{0}, {10}, {-1}, {0, 1}, {9, 10}, {math.MaxInt}, {1, 2, 3, 4, 5, 6, 7}, {1, 2, 3, 4, 5, 6, 7, 8, 9}, {1, 1}} {
		wantRingOk(t, "wrong nodes", ringOfAny(nodes, 4), false)
	}
	for _, set := range [][]int{{1}, {2, 5}, {1, 2, 3, 4, 5, 6}} {
		for _, count := range []int{1, 2, 3, 5, 8} {
			wantRingOk(t, "another number of spots", ringOfAny(set, count), false)
		}
	}
	renamed := ringOfAny([]int{1, 2}, 4)
	for at := range renamed.Spots {
		renamed.Spots[at].Node += 2
	}
	wantRingOk(t, "all renamed", renamed, false)
}

func TestRingOkOfWrongRings(t *testing.T) {
	for _, w := range wrongRings("key") {
		wantRingOk(t, w.why, w.ring, false)
	}
}

func TestNodesOfWrongRings(t *testing.T) {
	for _, c := range []struct {
		ring impl.Ring
		want []int
	}{
		{impl.Ring{}, nil},
		{ringWith(spotAt(5, 3)), []int{3}},
		{ringWith(spotAt(5, 3), spotAt(5, 3)), []int{3}},
		{ringWith(spotAt(9, 3), spotAt(5, 1), spotAt(7, 3), spotAt(5, 2)), []int{1, 2, 3}},
		{ringWith(spotAt(1, 0), spotAt(2, -4), spotAt(3, 0)), []int{-4, 0}},
		{ringWith(spotAt(1, math.MaxInt), spotAt(2, 10), spotAt(3, math.MinInt)), []int{math.MinInt, 10, math.MaxInt}},
		{ringOfAny([]int{1, 2, 3, 4, 5, 6, 7, 8, 9}, 4), []int{1, 2, 3, 4, 5, 6, 7, 8, 9}},
	} {
		if got := impl.NodesOf(c.ring); !slices.Equal(got, c.want) {
			t.Errorf("NodesOf(%v) = %v; want %v", c.ring, got, c.want)
		}
	}
}

func TestHomesKnown(t *testing.T) {
	six, four := mustRing(t, []int{1, 2, 3, 4, 5, 6}), mustRing(t, []int{3, 7, 8, 9})
	for key, want := range map[string][2][]int{
		"":     {{6, 2, 5, 3, 1, 4}, {7, 3, 9, 8}},
		"a":    {{1, 4, 6, 2, 5, 3}, {8, 7, 3, 9}},
		"b":    {{4, 6, 2, 5, 3, 1}, {8, 7, 3, 9}},
		"key":  {{6, 2, 5, 3, 1, 4}, {7, 3, 9, 8}},
		"hall": {{3, 1, 4, 6, 2, 5}, {3, 9, 8, 7}},
		"7":    {{6, 2, 5, 3, 1, 4}, {8, 7, 3, 9}},
	} {
		wantHomes(t, six, key, want[0])
		wantHomes(t, four, key, want[1])
	}
}

// At the At of a spot and one below it the key comes to this spot, one above it to the next one, above the last one to the first one.
func TestHomeOfAtTheEdges(t *testing.T) {
	edges := edgeKeys()
	for _, r := range rightRings() {
		for place, s := range r.Spots {
			next := r.Spots[(place+1)%len(r.Spots)]
			for _, c := range []struct{ hash, home int }{{s.At - 1, s.Node}, {s.At, s.Node}, {s.At + 1, next.Node}} {
				key := edges[c.hash]
				if fnvHash(key) != c.hash || impl.HashOf(key, 0) != c.hash {
					t.Fatalf("HashOf(%q) = %d; want %d", key, impl.HashOf(key, 0), c.hash)
				}
				if got := impl.HomeOf(r, key); got != c.home {
					t.Fatalf("HomeOf(%v, %q) = %d; want %d, for its number is %d", r, key, got, c.home, c.hash)
				}
			}
		}
		for _, hash := range []int{0, 1, 4294967294, 4294967295} {
			if got := impl.HomeOf(r, edges[hash]); got != r.Spots[0].Node {
				t.Fatalf("HomeOf(%v) of a key with the number %d = %d; want %d, the first one", r, hash, got, r.Spots[0].Node)
			}
		}
	}
}

// In right rings the homes are the nodes by how far their next spot is, up and around.
func TestHomesOfRightRings(t *testing.T) {
	keys := ringKeys()
	for at, set := range nodeSets() {
		r := mustRing(t, set)
		for n, key := range keys {
			wantHomes(t, r, key, ruleHomes(r, key, 6))
			if (at+n)%11 == 0 {
				wantHomes(t, r, key, nearestNodes(set, key))
			}
		}
	}
}

// Each node is told once, though four spots of it are on the way; the way goes on past the last spot.
func TestHomesOfGoAround(t *testing.T) {
	r := mustRing(t, []int{2, 4, 5, 9})
	for hash, want := range map[int][]int{
		0:              {4, 2, 5, 9},
		757343749:      {4, 2, 5, 9},
		757343749 + 1:  {2, 5, 9, 4},
		3054905758:     {2, 5, 9, 4},
		3054905758 + 1: {5, 2, 9, 4},
		3105234263 + 1: {5, 9, 4, 2},
		3118488757 + 1: {9, 4, 2, 5},
		3690886927:     {9, 4, 2, 5},
		3690886927 + 1: {4, 2, 5, 9},
		4294967295:     {4, 2, 5, 9},
	} {
		wantHomes(t, r, edgeKeys()[hash], want)
	}
}

// Where spots stand at one place, or in no order, the first one in the list counts.
func TestHomesOfWrongRingsKnown(t *testing.T) {
	key := "some key"
	h := fnvHash(key)
	for _, c := range []struct {
		ring impl.Ring
		want []int
	}{
		{impl.Ring{}, nil},
		{ringWith(spotAt(h, 3)), []int{3}},
		{ringWith(spotAt(h+1, 3)), []int{3}},
		{ringWith(spotAt(h-1, 3)), []int{3}},
		{ringWith(spotAt(h, 3), spotAt(h, 3)), []int{3}},
		{ringWith(spotAt(h, 7), spotAt(h, 2)), []int{7, 2}},
		{ringWith(spotAt(h, 2), spotAt(h, 7)), []int{2, 7}},
		{ringWith(spotAt(h-1, 7), spotAt(h-1, 2)), []int{7, 2}},
		{ringWith(spotAt(h-1, 7), spotAt(h, 2), spotAt(h, 9), spotAt(h, 2), spotAt(h+1, 1)), []int{2, 9, 1, 7}},
		{ringWith(spotAt(h+9, 4), spotAt(h, 6), spotAt(h+1, 5)), []int{4, 6, 5}},
		{ringWith(spotAt(h-9, 4), spotAt(h+5, 6), spotAt(h-1, 5), spotAt(h, 4)), []int{6, 5, 4}},
		{ringWith(spotAt(h-1, 4), spotAt(h-7, 6), spotAt(h-3, 5)), []int{4, 6, 5}},
		{ringWith(spotAt(math.MinInt, 4), spotAt(-1, 6), spotAt(math.MaxInt, 5)), []int{5, 4, 6}},
		{ringWith(spotAt(-1, 4), spotAt(math.MinInt, 6)), []int{4, 6}},
		{ringWith(spotAt(h, 0), spotAt(h, -3), spotAt(h+1, math.MinInt), spotAt(h-5, math.MaxInt)), []int{0, -3, math.MinInt, math.MaxInt}},
		{ringWith(spotAt(h-1, 0), spotAt(h, 0)), []int{0}},
	} {
		wantHomes(t, c.ring, key, c.want)
	}
}

func TestWrongRingsByRule(t *testing.T) {
	for _, key := range ringKeys() {
		for _, w := range wrongRings(key) {
			wantRingByRule(t, w.ring, key)
		}
	}
}

func TestDrawnRingsByRule(t *testing.T) {
	for _, key := range []string{"", "key", strings.Repeat("long", 5000), edgeKeys()[4294967295], edgeKeys()[0]} {
		for _, r := range drawnRings(key, 1500) {
			wantRingByRule(t, r, key)
		}
	}
}

// Of a ring of many spots all nodes are told, each once.
func TestHomesOfManySpots(t *testing.T) {
	r := impl.Ring{}
	for n := range 20000 {
		r.Spots = append(r.Spots, spotAt(n*200000, n%3000))
	}
	for _, key := range []string{"", "key", edgeKeys()[4294967295]} {
		wantHomes(t, r, key, ruleHomes(r, key, math.MaxInt))
	}
}
