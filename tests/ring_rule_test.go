package tests

import (
	"fmt"
	"hash/fnv"
	"maps"
	"math"
	"slices"
	"sync"

	"loop.example/g00180/impl"
)

// This file has the chapter's rules for rings, computed another way than the program does, and what the tests of rings are held at.

type spot = impl.Spot

func spotAt(at, node int) spot { return spot{At: at, Node: node} }

func ringWith(spots ...spot) impl.Ring { return impl.Ring{Spots: spots} }

// sameRing holds two rings against each other, an empty list being as good as nil.
func sameRing(a, b impl.Ring) bool { return slices.Equal(a.Spots, b.Spots) }

// fnvHash is HashOf with 0 as seed: the library's sum, and its upper half over its lower one.
func fnvHash(key string) int {
	sum := fnv.New32a()
	sum.Write([]byte(key))
	number := sum.Sum32()
	return int(number ^ number/65536)
}

// nodeSpots are so many spots of a node, be it one that a ring may have or not.
func nodeSpots(node, count int) []spot {
	spots := []spot{}
	for number := range count {
		spots = append(spots, spot{At: fnvHash(fmt.Sprintf("%d-%d", node, number)), Node: node})
	}
	return spots
}

// ringOfAny is a ring of any nodes with so many spots each: the least of all that are left comes next.
func ringOfAny(nodes []int, count int) impl.Ring {
	left := []spot{}
	for _, node := range nodes {
		left = append(left, nodeSpots(node, count)...)
	}
	r := impl.Ring{}
	for len(left) > 0 {
		least := 0
		for at, s := range left {
			if s.At < left[least].At || s.At == left[least].At && s.Node < left[least].Node {
				least = at
			}
		}
		r.Spots = append(r.Spots, left[least])
		left = slices.Delete(left, least, least+1)
	}
	return r
}

// nodeSets are all sets of 1 .. 9 of one to six.
func nodeSets() [][]int {
	sets := [][]int{}
	for bits := 1; bits < 512; bits++ {
		set := []int{}
		for node := 1; node <= 9; node++ {
			if hasBit(bits, node-1) {
				set = append(set, node)
			}
		}
		if len(set) <= 6 {
			sets = append(sets, set)
		}
	}
	return sets
}

// rightRings are the rings of all these sets, as the rule makes them.
var rightRings = sync.OnceValue(func() []impl.Ring {
	rings := []impl.Ring{}
	for _, set := range nodeSets() {
		rings = append(rings, ringOfAny(set, 4))
	}
	return rings
})

// ruleRingRight looks for a ring among all that there are.
func ruleRingRight(r impl.Ring) bool {
	return slices.ContainsFunc(rightRings(), func(other impl.Ring) bool { return sameRing(r, other) })
}

func ruleNodes(r impl.Ring) []int {
	nodes := []int{}
	for _, s := range r.Spots {
		nodes = append(nodes, s.Node)
	}
	slices.Sort(nodes)
	return slices.Compact(nodes)
}

// ruleAround are the spots of a ring, right or not, from the one that a key comes to on.
func ruleAround(r impl.Ring, key string) []spot {
	first := slices.IndexFunc(r.Spots, func(s spot) bool { return s.At >= fnvHash(key) })
	first = max(first, 0)
	return slices.Concat(r.Spots[first:], r.Spots[:first])
}

func ruleHome(r impl.Ring, key string) int {
	around := append(ruleAround(r, key), spot{})
	return around[0].Node
}

func ruleHomes(r impl.Ring, key string, n int) []int {
	homes := []int{}
	for _, s := range ruleAround(r, key) {
		if !slices.Contains(homes, s.Node) {
			homes = append(homes, s.Node)
		}
	}
	return homes[:min(max(n, 0), len(homes))]
}

func ruleMoved(a, b impl.Ring, keys []string) []string {
	return slices.DeleteFunc(slices.Clone(keys), func(key string) bool { return ruleHome(a, key) == ruleHome(b, key) })
}

// nearestNodes are the nodes of a set, that one first whose spot is the next one up from the key, around past 2^32.
func nearestNodes(set []int, key string) []int {
	far := func(node int) int {
		least := math.MaxInt
		for _, s := range nodeSpots(node, 4) {
			least = min(least, (s.At-fnvHash(key)+4294967296)%4294967296)
		}
		return least
	}
	return slices.SortedFunc(slices.Values(set), func(a, b int) int { return far(a) - far(b) })
}

// factorBack takes a product with 16777619 back, modulo 2^32.
const factorBack uint32 = 899433627

// sumsOfTwo are the sums of all keys of two bytes.
var sumsOfTwo = sync.OnceValue(func() map[uint32]string {
	sums := map[uint32]string{}
	for n := range 65536 {
		key := string([]byte{byte(n / 256), byte(n)})
		sum := fnv.New32a()
		sum.Write([]byte(key))
		sums[sum.Sum32()] = key
	}
	return sums
})

// keyHashed is a key of five bytes with this HashOf: three of them are taken back from it, until two lead there.
func keyHashed(hash int) string {
	last := uint32(hash) ^ uint32(hash)/65536
	for n := range 1 << 24 {
		tail := []byte{byte(n / 65536), byte(n / 256), byte(n)}
		sum := last
		for _, b := range slices.Backward(tail) {
			sum = sum*factorBack ^ uint32(b)
		}
		if head, ok := sumsOfTwo()[sum]; ok {
			return head + string(tail)
		}
	}
	panic(fmt.Sprintf("no key of five bytes has the number %d", hash))
}

// edgeKeys are by their HashOf: just the At of each spot of each node, one below and one above it, the least and the greatest.
var edgeKeys = sync.OnceValue(func() map[int]string {
	keys := map[int]string{}
	for _, hash := range []int{0, 1, 4294967294, 4294967295} {
		keys[hash] = keyHashed(hash)
	}
	for node := 1; node <= 9; node++ {
		for _, s := range nodeSpots(node, 4) {
			for _, hash := range []int{s.At - 1, s.At, s.At + 1} {
				keys[hash] = keyHashed(hash)
			}
		}
	}
	return keys
})

// drawnKeys are so many, no two alike.
func drawnKeys(count int) []string {
	keys := []string{}
	for n := range count {
		keys = append(keys, fmt.Sprintf("key %d", n*7919))
	}
	return keys
}

// ringKeys are keys at all edges, the empty one, long ones, such as are no words, and drawn ones.
func ringKeys() []string {
	keys := []string{
		"", " ", "a", "key", "twelve bytes", "thirteen here", "\x00", "\x00\x00", "\xff", "\xc3(", "1-0", "9-3",
		string(make([]byte, 300)), fmt.Sprintf("%020001d", 7),
	}
	for _, hash := range slices.Sorted(maps.Keys(edgeKeys())) {
		keys = append(keys, edgeKeys()[hash])
	}
	return append(keys, drawnKeys(60)...)
}

// wrongRing is one that is not right, and why.
type wrongRing struct {
	why  string
	ring impl.Ring
}

// wrongRings are rings that are not right, with spots about the number of this key.
func wrongRings(key string) []wrongRing {
	h := fnvHash(key)
	right := ringOfAny([]int{1, 2, 5, 8}, 4).Spots
	back := slices.Clone(right)
	slices.Reverse(back)
	around := slices.Concat(right[5:], right[:5])
	many := []spot{}
	for n := range 600 {
		many = append(many, spot{At: (h + n*n*90001) % 4294967296, Node: n*n%173 - 20})
	}
	return []wrongRing{
		{"no spots", ringWith()},
		{"one spot", ringWith(spotAt(h, 3))},
		{"one spot below", ringWith(spotAt(h-1, 3))},
		{"one place, one node", ringWith(spotAt(h, 3), spotAt(h, 3), spotAt(h, 3))},
		{"one place, nodes up", ringWith(spotAt(h, 2), spotAt(h, 5), spotAt(h, 7))},
		{"one place, nodes down", ringWith(spotAt(h, 7), spotAt(h, 5), spotAt(h, 2))},
		{"one place, nodes again", ringWith(spotAt(h, 7), spotAt(h, 2), spotAt(h, 7), spotAt(h, 1), spotAt(h, 2))},
		{"one place below", ringWith(spotAt(h-1, 7), spotAt(h-1, 5), spotAt(h-1, 7))},
		{"two places", ringWith(spotAt(h-1, 7), spotAt(h-1, 5), spotAt(h, 9), spotAt(h, 4), spotAt(h, 9))},
		{"greater ahead", ringWith(spotAt(h+9, 4), spotAt(h, 6), spotAt(h+2, 4), spotAt(h-5, 1))},
		{"less ahead", ringWith(spotAt(h-9, 4), spotAt(h-20, 6), spotAt(h+30, 2), spotAt(h, 1), spotAt(h+1, 6))},
		{"backward", ringWith(back...)},
		{"around", ringWith(around...)},
		{"all below", ringWith(spotAt(-1, 4), spotAt(-5, 6), spotAt(math.MinInt, 2))},
		{"all above", ringWith(spotAt(4294967296, 4), spotAt(math.MaxInt, 6), spotAt(4294967297, 2))},
		{"far on both sides", ringWith(spotAt(math.MinInt, 8), spotAt(-4294967296, 6), spotAt(math.MaxInt, 2), spotAt(4294967296, 9))},
		{"nodes 0 and below", ringWith(spotAt(h-1, -4), spotAt(h, 0), spotAt(h+1, -1), spotAt(h+2, math.MinInt))},
		{"node 0 alone", ringWith(spotAt(h, 0), spotAt(h+1, 0))},
		{"great nodes", ringWith(spotAt(h, 10), spotAt(h+1, math.MaxInt), spotAt(h+2, 4294967298), spotAt(h+3, 2))},
		{"seven nodes", ringOfAny([]int{1, 2, 3, 4, 5, 6, 7}, 4)},
		{"a spot less", ringWith(right[1:]...)},
		{"many", ringWith(many...)},
	}
}

// drawnRings are so many of few spots about the number of this key, in any order, some at one place.
func drawnRings(key string, count int) []impl.Ring {
	h := fnvHash(key)
	rings := []impl.Ring{}
	for n, number := range drawnNumbers(count, 21) {
		r := impl.Ring{}
		rest := uint64(number)
		for range n % 8 {
			r.Spots = append(r.Spots, spot{At: h + int(rest%7) - 4, Node: int(rest/7%6) - 1})
			rest /= 42
		}
		rings = append(rings, r)
	}
	return rings
}
