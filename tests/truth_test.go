package tests

import (
	"math"
	"slices"
	"testing"

	"loop.example/g00180/impl"
)

func wantStamp(t *testing.T, c called, want int) {
	t.Helper()
	if byRule := ruleStamp(c); byRule != want {
		t.Fatalf("by the rule the Stamp of %+v is %d; want %d", c, byRule, want)
	}
	if got := impl.Stamp(c); got != want {
		t.Errorf("Stamp(%+v) = %d; want %d", c, got, want)
	}
}

func TestStamp(t *testing.T) {
	if impl.MaxEpoch != 9 {
		t.Fatalf("MaxEpoch is %d", impl.MaxEpoch)
	}
	for epoch, first := range map[int]int{0: 0, 1: 1000, 2: 2000, 8: 8000, 9: 9000} {
		for _, num := range []int{0, 1, 2, 12, 899, 900, 901, 998, 999} {
			wantStamp(t, called{Epoch: epoch, Num: num}, first+num)
		}
		for _, num := range []int{math.MinInt, -1000, -999, -2, -1, 1000, 1001, 1999, 2000, math.MaxInt} {
			wantStamp(t, called{Epoch: epoch, Num: num}, 0)
		}
	}
	for _, epoch := range []int{math.MinInt, -1000, -2, -1, 10, 11, 1000, math.MaxInt, math.MaxInt/1000 + 1} {
		for _, num := range []int{math.MinInt, -1000, -1, 0, 1, 500, 999, 1000, math.MaxInt} {
			wantStamp(t, called{Epoch: epoch, Num: num}, 0)
		}
	}
	wantStamp(t, called{}, 0)
}

// Nothing else of a call counts.
func TestStampOfAnyCall(t *testing.T) {
	for _, n := range []int{math.MinInt, -1, 0, 1, 2, 3, 70, 5001, math.MaxInt} {
		c := called{Op: n, Key: long(30), Val: long(30), When: n, Done: n, Ver: n, Epoch: 4, Num: 7, Got: long(30)}
		wantStamp(t, c, 4007)
		c.Num = 1000
		wantStamp(t, c, 0)
	}
}

// wantInTime asks of the calls in each order of the list, with any Op, Key, Ver and so on, which do not count.
func wantInTime(t *testing.T, what string, want bool, list ...called) {
	t.Helper()
	eachOrder(list, func(order []called) {
		for op := range 4 {
			other := slices.Clone(order)
			for at := range other {
				other[at].Op, other[at].Key, other[at].Ver, other[at].Got = op, string(rune('a'+op*at)), 100*op, long(op)
			}
			if got := impl.InTime(other); got != want || ruleInTime(other) != want {
				t.Fatalf("%s: InTime(%+v) = %v, by the rule %v; want %v", what, other, got, ruleInTime(other), want)
			}
		}
	})
}

func TestInTimeOfNoneAndOne(t *testing.T) {
	wantInTime(t, "none", true)
	if !impl.InTime([]called{}) || !impl.InTime(nil) {
		t.Errorf("InTime of no calls is false")
	}
	for _, when := range []int{math.MinInt, -1, 0, 3, 70, math.MaxInt} {
		for _, done := range []int{math.MinInt, -2, -1, 0, 3, 70, math.MaxInt} {
			wantInTime(t, "one", true, stamped(when, done, 1, 1))
			wantInTime(t, "one without a Stamp", true, stamped(when, done, 10, -1))
		}
	}
}

// withStamp is the same call with the Stamp of another one.
func withStamp(c, other called) called {
	c.Epoch, c.Num = other.Epoch, other.Num
	return c
}

// Done ahead of the When of the other one, at it, behind it; each with a lesser, the same and a greater Stamp.
func TestInTimeOfTwo(t *testing.T) {
	stamps := [][2]called{
		{stamped(0, 0, 0, 0), stamped(0, 0, 0, 1)}, {stamped(0, 0, 1, 1), stamped(0, 0, 1, 2)}, {stamped(0, 0, 1, 9), stamped(0, 0, 2, 1)},
		{stamped(0, 0, 3, 999), stamped(0, 0, 4, 0)}, {stamped(0, 0, 0, 5), stamped(0, 0, 9, 999)},
	}
	for _, done := range []int{0, 5, 70, math.MaxInt - 2} {
		for _, pair := range stamps {
			lesser, greater := pair[0], pair[1]
			for _, when := range []int{done + 1, done + 2} {
				first, second := stamped(done, done, 0, 0), stamped(when, when, 0, 0)
				wantInTime(t, "ahead, lesser", true, withStamp(first, lesser), withStamp(second, greater))
				wantInTime(t, "ahead, greater", false, withStamp(first, greater), withStamp(second, lesser))
				wantInTime(t, "ahead, the same", false, withStamp(first, lesser), withStamp(second, lesser))
			}
			for _, when := range []int{done, done - 1, 0, -1, math.MinInt} {
				first, second := stamped(0, done, 0, 0), stamped(when, done+1, 0, 0)
				wantInTime(t, "at it or behind it, lesser", true, withStamp(first, lesser), withStamp(second, greater))
				wantInTime(t, "at it or behind it, greater", true, withStamp(first, greater), withStamp(second, lesser))
				wantInTime(t, "at it or behind it, the same", false, withStamp(first, greater), withStamp(second, greater))
			}
		}
	}
}

// Two of which each is done ahead of the When of the other one fit no order.
func TestInTimeOfTwoAheadOfEachOther(t *testing.T) {
	wantInTime(t, "each ahead", false, stamped(5, 3, 1, 1), stamped(4, 2, 1, 2))
	wantInTime(t, "each ahead", false, stamped(math.MaxInt, 0, 1, 1), stamped(math.MaxInt, 0, 9, 2))
}

// Of a call that is not done nothing counts: not its Stamp, nor when it was.
func TestInTimeOfCallsThatAreNotDone(t *testing.T) {
	for _, done := range []int{-1, -2, -70, math.MinInt} {
		for _, when := range []int{math.MinInt, -1, 0, 4, 5, 6, 70, math.MaxInt} {
			for _, num := range []int{0, 1, 2, 3, 1000} {
				wantInTime(t, "one is not done", true, stamped(when, done, 1, num), stamped(3, 5, 1, 2))
				wantInTime(t, "one of three is not done", true, stamped(3, 5, 1, 2), stamped(when, done, 1, num), stamped(6, 7, 1, 3))
				wantInTime(t, "one of three is not done", false, stamped(3, 5, 1, 3), stamped(when, done, 1, num), stamped(6, 7, 1, 2))
			}
			wantInTime(t, "both are not done", true, stamped(when, done, 1, 2), stamped(3, -1, 1, 2))
			wantInTime(t, "both are not done", true, stamped(when, done, 0, 0), stamped(3, -1, 0, 0))
		}
	}
	// Done at the place 0 is done.
	wantInTime(t, "done at 0", false, stamped(0, 0, 1, 2), stamped(1, 1, 1, 1))
	wantInTime(t, "done at 0", false, stamped(0, 0, 1, 2), stamped(0, 5, 1, 2))
}

// A Stamp that is 0 because Epoch or Num is out of bounds is one like any other.
func TestInTimeOfStampsThatAreNone(t *testing.T) {
	none := [][2]int{{-1, 1}, {10, 1}, {1, -1}, {1, 1000}, {math.MinInt, 5}, {math.MaxInt, 5}, {2, math.MinInt}, {2, math.MaxInt}, {-1, 1000}, {0, 0}}
	for _, a := range none {
		for _, b := range none {
			wantInTime(t, "both are 0", false, stamped(0, 5, a[0], a[1]), stamped(0, 5, b[0], b[1]))
			wantInTime(t, "both are 0", false, stamped(0, 1, a[0], a[1]), stamped(2, 3, b[0], b[1]))
		}
		wantInTime(t, "the first is 0", true, stamped(0, 1, a[0], a[1]), stamped(2, 3, 0, 1))
		wantInTime(t, "the second is 0", false, stamped(0, 1, 0, 1), stamped(2, 3, a[0], a[1]))
		wantInTime(t, "at once", true, stamped(0, 2, 0, 1), stamped(2, 3, a[0], a[1]))
	}
}

// Two of few whens, dones and Stamps: each of them.
func TestInTimeEachTwo(t *testing.T) {
	held := 0
	eachPick(6, 4, func(pick []int) {
		list := []called{stamped(pick[0], pick[1]-1, 1, pick[2]), stamped(pick[3], pick[4]-1, 1, pick[5])}
		got := impl.InTime(list)
		if got != ruleInTime(list) {
			t.Fatalf("InTime(%+v) = %v", list, got)
		}
		if got {
			held++
		}
	})
	if held < 1000 || held > 3000 {
		t.Errorf("%d of 4096 are in time", held)
	}
}

// inOrder are so many calls, one behind the other, over two Epochs.
func inOrder(count int) []called {
	var list []called
	for at := range count {
		list = append(list, stamped(2*at, 2*at+1, 1+at/40, 1+at%40))
	}
	return list
}

// Two that change their Stamps, or have one, wherever they stand among many.
func TestInTimeOfMany(t *testing.T) {
	for _, count := range []int{3, 20, 70, 300} {
		list := inOrder(count)
		if !impl.InTime(list) || !ruleInTime(list) {
			t.Fatalf("%d in order are not in time", count)
		}
		for _, first := range []int{0, 1, count / 2, count - 2} {
			for _, second := range []int{first + 1, count - 1} {
				swapped, alike := slices.Clone(list), slices.Clone(list)
				swapped[first], swapped[second] = withStamp(list[first], list[second]), withStamp(list[second], list[first])
				alike[second] = withStamp(list[second], list[first])
				for _, other := range [][]called{swapped, alike} {
					backwards := slices.Clone(other)
					slices.Reverse(backwards)
					if impl.InTime(other) || ruleInTime(other) || impl.InTime(backwards) {
						t.Errorf("of %d the one at %d and that at %d have wrong Stamps, and are in time", count, first, second)
					}
				}
			}
		}
		slices.Reverse(list)
		if !impl.InTime(list) {
			t.Errorf("%d in order are not in time from behind", count)
		}
	}
}

// wantReads asks of the calls in each order of the list.
func wantReads(t *testing.T, what string, want bool, list ...called) {
	t.Helper()
	eachOrder(list, func(order []called) {
		if got := impl.Reads(order); got != want || ruleReads(order) != want {
			t.Fatalf("%s: Reads(%+v) = %v, by the rule %v; want %v", what, order, got, ruleReads(order), want)
		}
	})
}

func TestReadsOfNothing(t *testing.T) {
	wantReads(t, "no calls", true)
	wantReads(t, "nothing is got", true, doneGet("k", "", 1002, 0))
	wantReads(t, "nothing is got, at no Stamp", true, doneGet("k", "", 0, 0))
	wantReads(t, "a Val is got with Ver 0", false, doneGet("k", "x", 1002, 0))
	for _, put := range []called{donePut("k", "x", 1001, 0), donePut("k", "x", 1001, 1001), notDone(donePut("k", "x", 0, 0))} {
		wantReads(t, "a Val that was put is got with Ver 0", false, doneGet("k", "x", 1002, 0), put)
		wantReads(t, "nothing is got, though it was put", true, doneGet("k", "", 1002, 0), put)
	}
}

// With a Ver, a Val comes from a put of its Key that is not done, or is done with that Ver.
func TestReadsOfAVal(t *testing.T) {
	for _, val := range []string{"", "x", long(20), long(21), "\x00\xff"} {
		get := doneGet("k", val, 1002, 1001)
		wantReads(t, "no put at all", false, get)
		wantReads(t, "a put that is not done", true, get, notDone(donePut("k", val, 0, 0)))
		wantReads(t, "a put with this Ver", true, get, donePut("k", val, 1001, 1001))
		for _, ver := range []int{math.MinInt, -1001, -1, 0, 1, 1000, 1002, 2001, math.MaxInt} {
			wantReads(t, "a put with another Ver", false, get, donePut("k", val, 1001, ver))
			wantReads(t, "one with another Ver, one with this", true, get, donePut("k", val, 1001, ver), donePut("k", val, 1001, 1001))
			wantReads(t, "one with another Ver, one not done", true, get, donePut("k", val, 1001, ver), notDone(donePut("k", val, 0, 0)))
		}
		for _, key := range []string{"", "l", "kk", "K", "k "} {
			wantReads(t, "a put of another Key", false, get, donePut(key, val, 1001, 1001), notDone(donePut(key, val, 0, 0)))
		}
		for _, other := range []string{val + " ", "y" + val, long(19)} {
			wantReads(t, "a put of another Val", false, get, donePut("k", other, 1001, 1001), notDone(donePut("k", other, 0, 0)))
		}
		wantReads(t, "its Key and its Val are put, but not together", false, get, donePut("k", "other", 1001, 1001), donePut("other", val, 1001, 1001))
		wantReads(t, "another get got it", false, get, doneGet("k", val, 1001, 1001))
		wantReads(t, "another get has the Val", false, get, called{Op: 2, Key: "k", Val: val, Done: -1}, called{Op: 2, Key: "k", Val: val, Done: 3, Ver: 1001, Epoch: 1, Num: 3, Got: val})
	}
}

// Of a put that is not done no number counts, however it is not done.
func TestReadsOfPutsThatAreNotDone(t *testing.T) {
	get := doneGet("k", "x", 1002, 1001)
	for _, n := range []int{math.MinInt, -2, -1} {
		for _, other := range []int{math.MinInt, -1, 0, 5, 1001, math.MaxInt} {
			put := called{Op: 1, Key: "k", Val: "x", When: other, Done: n, Ver: other, Epoch: other, Num: other, Got: "y"}
			wantReads(t, "a put that is not done", true, get, put)
		}
	}
	// One that is done at the place 0 is done.
	put := donePut("k", "x", 1001, 1000)
	put.Done = 0
	wantReads(t, "a put that is done at 0", false, get, put)
}

// Ver below, at and above the Stamp of the get, be the put done or not.
func TestReadsOfAVerAboveTheStamp(t *testing.T) {
	for _, stamp := range []int{1, 999, 1000, 1002, 5900, 9999} {
		for ver, want := range map[int]bool{math.MinInt: true, -1: true, stamp - 1: true, stamp: true, stamp + 1: false, 10000: false, math.MaxInt: false} {
			if ver == 0 {
				continue
			}
			wantReads(t, "of a put that is done", want, doneGet("k", "x", stamp, ver), donePut("k", "x", 1001, ver))
			wantReads(t, "of a put that is not done", want, doneGet("k", "x", stamp, ver), notDone(donePut("k", "x", 0, 0)))
		}
	}
	for _, odd := range [][2]int{{-1, 5}, {10, 5}, {1, -1}, {1, 1000}, {0, 0}} {
		get := doneGet("k", "x", 0, 1)
		get.Epoch, get.Num = odd[0], odd[1]
		wantReads(t, "of no Stamp", false, get, donePut("k", "x", 1001, 1), notDone(donePut("k", "x", 0, 0)))
		get.Ver, get.Got = 0, ""
		wantReads(t, "nothing, of no Stamp", true, get)
		get.Ver, get.Got = -1, "x"
		wantReads(t, "with a Ver below 0, of no Stamp", true, get, donePut("k", "x", 1001, -1))
	}
}

// What is no get, or is not done, may have anything.
func TestReadsOfWhatIsNotRead(t *testing.T) {
	wrong := []called{doneGet("k", "x", 1002, 0), doneGet("k", "x", 1002, 1001), doneGet("k", "", 1002, 1001), doneGet("k", "x", 1002, 5000)}
	for _, c := range wrong {
		wantReads(t, "a get that is done", false, c)
		c.Done = 0
		wantReads(t, "a get that is done at 0", false, c)
		for _, done := range []int{-1, -2, math.MinInt} {
			c.Done = done
			wantReads(t, "a get that is not done", true, c)
		}
		for _, op := range []int{math.MinInt, -2, -1, 0, 1, 3, 4, 258, math.MaxInt} {
			c.Op, c.Done = op, 70
			wantReads(t, "what is no get", true, c)
		}
	}
	for _, op := range []int{math.MinInt, -1, 0, 2, 3, 257, math.MaxInt} {
		put := donePut("k", "x", 1001, 1001)
		put.Op = op
		wantReads(t, "what is no put", false, doneGet("k", "x", 1002, 1001), put)
		put.Done = -1
		wantReads(t, "what is no put, and not done", false, doneGet("k", "x", 1002, 1001), put)
	}
}

// One of several gets is wrong, at each place.
func TestReadsOfSeveral(t *testing.T) {
	puts := []called{donePut("a", "x", 1001, 1001), donePut("b", "y", 1002, 1002), notDone(donePut("a", "z", 0, 0))}
	right := []called{doneGet("a", "x", 1003, 1001), doneGet("b", "y", 1004, 1002), doneGet("a", "z", 1006, 1005), doneGet("c", "", 1007, 0)}
	wantReads(t, "all are right", true, append(slices.Clone(puts), right...)...)
	for _, wrong := range []called{doneGet("b", "x", 1008, 1001), doneGet("a", "x", 1008, 1002), doneGet("a", "x", 1000, 1001), doneGet("c", "", 1008, 1001)} {
		wantReads(t, "one is wrong", false, append(slices.Clone(puts), right[0], right[1], wrong)...)
		wantReads(t, "one is wrong", false, append([]called{wrong}, puts...)...)
	}
}

// wantFresh asks of the calls in each order of the list.
func wantFresh(t *testing.T, what string, want bool, list ...called) {
	t.Helper()
	eachOrder(list, func(order []called) {
		if got := impl.Fresh(order); got != want || ruleFresh(order) != want {
			t.Fatalf("%s: Fresh(%+v) = %v, by the rule %v; want %v", what, order, got, ruleFresh(order), want)
		}
	})
}

// A put, or a get, with a lesser Stamp, the same, a greater one; with a lesser Ver, the same, a greater one.
func TestFreshOfTwo(t *testing.T) {
	for _, stamp := range []int{1, 1002, 2000, 9998} {
		for _, ver := range []int{math.MinInt + 1, -1, 0, 1, 1001, 2000, math.MaxInt - 1} {
			get := doneGet("k", "x", stamp, ver)
			for _, other := range []int{stamp - 1, stamp, stamp + 1} {
				for _, its := range []int{ver - 1, ver, ver + 1} {
					want := other >= stamp || its <= ver
					wantFresh(t, "a put", want, get, donePut("k", "y", other, its))
					// Of two gets the one with the greater Stamp must know of the other one.
					want = want && (other <= stamp || ver <= its)
					wantFresh(t, "a get", want, get, doneGet("k", "y", other, its))
				}
			}
		}
	}
}

func TestFreshOfNoneAndOne(t *testing.T) {
	wantFresh(t, "none", true)
	for _, c := range []called{doneGet("k", "x", 0, 0), doneGet("k", "x", 1001, 9999), donePut("k", "x", 1001, 0), donePut("", "", 0, -5), {}} {
		wantFresh(t, "one", true, c)
		wantFresh(t, "one that is not done", true, notDone(c))
	}
}

// Other Keys, calls that are not done, and what is neither put nor get: of no weight.
func TestFreshOfWhatDoesNotCount(t *testing.T) {
	get, put := doneGet("k", "x", 1005, 1001), donePut("k", "y", 1004, 1002)
	read := doneGet("k", "y", 1004, 1002)
	wantFresh(t, "a newer put", false, get, put)
	wantFresh(t, "a newer get", false, get, read)
	for _, key := range []string{"", "l", "kk", "K", "k "} {
		for _, c := range []called{put, read} {
			c.Key = key
			wantFresh(t, "of another Key", true, get, c)
			wantFresh(t, "of another Key, and one of this", false, get, c, put)
		}
	}
	for _, done := range []int{-1, -2, math.MinInt} {
		for _, c := range []called{put, read} {
			c.Done = done
			wantFresh(t, "that is not done", true, get, c)
		}
		late := get
		late.Done = done
		wantFresh(t, "a get that is not done", true, late, put, read)
	}
	for _, c := range []called{put, read} {
		c.Done = 0
		wantFresh(t, "that is done at 0", false, get, c)
		early := get
		early.Done = 0
		wantFresh(t, "a get that is done at 0", false, early, c)
	}
	for _, op := range []int{math.MinInt, -2, -1, 0, 3, 4, 257, 258, math.MaxInt} {
		c, late := put, get
		c.Op, late.Op = op, op
		wantFresh(t, "of another Op", true, get, c)
		wantFresh(t, "nor must it know", true, late, put, read)
		wantFresh(t, "of another Op, and a get", false, get, c, read)
	}
	// A put must know of nothing.
	wantFresh(t, "a put behind a newer one", true, put, donePut("k", "x", 1005, 1001))
	wantFresh(t, "a put behind a newer get", true, read, donePut("k", "x", 1005, 1001))
}

// By the Stamp a call is behind another one, not by its place, its When, its Done or its Ver.
func TestFreshIsByStamp(t *testing.T) {
	for _, whens := range [][4]int{{0, 1, 2, 3}, {2, 3, 0, 1}, {0, 3, 0, 3}, {math.MinInt, 0, math.MaxInt, math.MaxInt}} {
		get, put := doneGet("k", "x", 1005, 1001), donePut("k", "y", 1004, 1002)
		get.When, get.Done, put.When, put.Done = whens[0], whens[1], whens[2], whens[3]
		wantFresh(t, "a newer put", false, get, put)
		put.Num = 6
		wantFresh(t, "a put behind it", true, get, put)
		// A Stamp that is out of bounds is 0: below all others.
		put.Num = 1000
		wantFresh(t, "a newer put without a Stamp", false, get, put)
		get.Epoch = -1
		wantFresh(t, "both without a Stamp", true, get, put)
	}
}

// One get of several is older than what was there, wherever it stands among many.
func TestFreshOfMany(t *testing.T) {
	for _, count := range []int{3, 20, 70, 300} {
		var list []called
		for at := range count {
			list = append(list, doneGet("k", "", 1001+at, at/2))
		}
		if !impl.Fresh(list) || !ruleFresh(list) {
			t.Fatalf("%d that are ever newer are not fresh", count)
		}
		for _, at := range []int{1, 2, count / 2, count - 1} {
			other := slices.Clone(list)
			other[at].Ver = other[at-1].Ver - 1
			if impl.Fresh(other) || ruleFresh(other) {
				t.Errorf("of %d the one at %d is older than the one ahead of it, and fresh", count, at)
			}
			slices.Reverse(other)
			if impl.Fresh(other) {
				t.Errorf("of %d the one at %d is older, and fresh from behind", count, at)
			}
		}
	}
}
