package tests

import (
	"math"
	"slices"
	"testing"

	"loop.example/g00180/impl"
)

// ringWithout is a ring of the same nodes but one.
func ringWithout(t *testing.T, set []int, node int) impl.Ring {
	t.Helper()
	return mustRing(t, slices.DeleteFunc(slices.Clone(set), func(other int) bool { return other == node }))
}

// eachGone goes through all sets of two nodes and more, and each node of them that may go.
func eachGone(t *testing.T, back func(set []int, whole, less impl.Ring, node int)) {
	t.Helper()
	for _, set := range nodeSets() {
		whole := mustRing(t, set)
		for _, node := range set {
			if len(set) > 1 {
				back(set, whole, ringWithout(t, set, node), node)
			}
		}
	}
}

// When a node goes, just the keys whose home it was move, each to one that stays; when it comes back, they move to it alone.
func TestPromise10KeysMoveFromAndToTheNodeAlone(t *testing.T) {
	keys := append(ringKeys(), drawnKeys(300)...)
	eachGone(t, func(set []int, whole, less impl.Ring, node int) {
		count := 0
		for _, key := range keys {
			with, without := impl.HomeOf(whole, key), impl.HomeOf(less, key)
			if with != node && without != with {
				t.Fatalf("%v without %d: the key %.20q moves from %d to %d", set, node, key, with, without)
			}
			if without == node || !slices.Contains(set, without) {
				t.Fatalf("%v without %d: the key %.20q has the home %d", set, node, key, without)
			}
			if with == node {
				count++
			}
		}
		if count == 0 || count == len(keys) {
			t.Fatalf("%v: %d of %d keys have the home %d", set, count, len(keys), node)
		}
	})
}

func TestPromise10MovedKeysAreThoseOfTheNode(t *testing.T) {
	keys := append(ringKeys(), drawnKeys(200)...)
	eachGone(t, func(set []int, whole, less impl.Ring, node int) {
		want := []string{}
		for _, key := range keys {
			if impl.HomeOf(whole, key) == node {
				want = append(want, key)
			}
		}
		if got := impl.MovedKeys(whole, less, keys); !slices.Equal(got, want) {
			t.Fatalf("%v without %d: %d keys move; want the %d whose home it was", set, node, len(got), len(want))
		}
		back := impl.MovedKeys(less, whole, keys)
		if !slices.Equal(back, want) {
			t.Fatalf("%v when %d comes: %d keys move; want %d", set, node, len(back), len(want))
		}
		for _, key := range back {
			if home := impl.HomeOf(whole, key); home != node {
				t.Fatalf("%v when %d comes: the key %.20q moves to %d", set, node, key, home)
			}
		}
	})
}

// withoutNode are the homes but one, in order.
func withoutNode(homes []int, node int) []int {
	return slices.DeleteFunc(slices.Clone(homes), func(other int) bool { return other == node })
}

// The homes without the node that went are the others, in order, and one more where there is one.
func TestPromise10HomesAreTheOthersAndOneMore(t *testing.T) {
	keys := append(ringKeys(), drawnKeys(20)...)
	eachGone(t, func(set []int, whole, less impl.Ring, node int) {
		for _, key := range keys {
			for n := 1; n <= len(set); n++ {
				had, has := impl.HomesOf(whole, key, n), impl.HomesOf(less, key, n)
				others := withoutNode(had, node)
				if len(had) != n || len(has) != min(n, len(set)-1) || !slices.Equal(has[:len(others)], others) {
					t.Fatalf("%v without %d: the key %.20q has %v; it had %v", set, node, key, has, had)
				}
				if more := has[len(others):]; len(more) > 1 || len(more) == 1 && (more[0] == node || slices.Contains(had, more[0])) {
					t.Fatalf("%v without %d: the key %.20q has %v; it had %v", set, node, key, has, had)
				}
				if all := withoutNode(impl.HomesOf(whole, key, math.MaxInt), node); !slices.Equal(has, all[:len(has)]) {
					t.Fatalf("%v without %d: the key %.20q has %v; want the first of %v", set, node, key, has, all)
				}
			}
		}
	})
}

// A key whose home goes comes to the second of its homes.
func TestPromise10TheNextHomeTakesOver(t *testing.T) {
	for _, set := range nodeSets() {
		if len(set) < 2 {
			continue
		}
		whole := mustRing(t, set)
		for _, key := range append(ringKeys(), drawnKeys(100)...) {
			homes := impl.HomesOf(whole, key, 2)
			if got := impl.HomeOf(ringWithout(t, set, homes[0]), key); got != homes[1] {
				t.Fatalf("%v: the homes of %.20q are %v; without the first it is %d", set, key, homes, got)
			}
		}
	}
}

// ringLife is a ring whose nodes come and go, and where each key was laid last.
type ringLife struct {
	nodes []int
	ring  impl.Ring
	keys  []string
	homes map[string]int
}

// newRingLife begins with one node, which has all keys, each of them once.
func newRingLife(t *testing.T, node int, keys []string) *ringLife {
	keys = slices.Compact(sortedKeys(keys))
	l := &ringLife{nodes: []int{node}, ring: mustRing(t, []int{node}), keys: keys, homes: map[string]int{}}
	for _, key := range keys {
		l.homes[key] = node
	}
	return l
}

// step lets a node come, or go where it is there; with no room for it, or as the last one, it stays as it is.
func (l *ringLife) step(t *testing.T, node int) {
	t.Helper()
	next := withoutNode(l.nodes, node)
	goes := len(next) < len(l.nodes)
	if !goes {
		next = append(next, node)
		slices.Sort(next)
	}
	if len(next) == 0 || len(next) > 6 {
		wantNoRing(t, next)
		return
	}
	ring := mustRing(t, next)
	for _, key := range impl.MovedKeys(l.ring, ring, l.keys) {
		home := impl.HomeOf(ring, key)
		if goes && l.homes[key] != node || !goes && home != node || !slices.Contains(next, home) {
			t.Fatalf("from %v to %v the key %.20q moves from %d to %d", l.nodes, next, key, l.homes[key], home)
		}
		l.homes[key] = home
	}
	l.nodes, l.ring = next, ring
	for _, key := range l.keys {
		if got := impl.HomeOf(ring, key); got != l.homes[key] {
			t.Fatalf("the key %.20q was laid to %d, and did not move; its home in %v is %d", key, l.homes[key], next, got)
		}
	}
}

func TestPromise10DrawnLives(t *testing.T) {
	keys := append(ringKeys(), drawnKeys(150)...)
	for first := 1; first <= 9; first++ {
		l := newRingLife(t, first, keys)
		for _, number := range drawnNumbers(150, first) {
			l.step(t, int(uint64(number)%9)+1)
		}
	}
}

// All nodes come, one after the other, and go in the same order and the other one.
func TestPromise10AllComeAndGo(t *testing.T) {
	keys := append(ringKeys(), drawnKeys(150)...)
	for _, come := range [][]int{{1, 2, 3, 4, 5, 6}, {9, 8, 7, 6, 5, 4}, {5, 2, 9, 1, 7, 3}, {2, 5, 6, 7, 4, 8}} {
		last := slices.Clone(come)
		slices.Reverse(last)
		for _, leave := range [][]int{come[:5], last[:5]} {
			l := newRingLife(t, come[0], keys)
			for _, node := range slices.Concat(come[1:], leave) {
				l.step(t, node)
			}
			if len(l.nodes) != 1 {
				t.Fatalf("%v are left", l.nodes)
			}
			for _, key := range keys {
				if l.homes[key] != l.nodes[0] {
					t.Fatalf("the key %.20q is at %d; %d alone is left", key, l.homes[key], l.nodes[0])
				}
			}
		}
	}
}
