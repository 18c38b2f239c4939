package tests

import (
	"math"
	"slices"
	"strconv"
	"testing"

	"loop.example/g00180/impl"
)

// wantJumps goes with a number from one place to a thousand: it stays where it is, or goes to the new place.
func wantJumps(t *testing.T, number int) {
	t.Helper()
	place := impl.Jump(number, 1)
	if place != 0 {
		t.Fatalf("Jump(%d, 1) = %d; want 0", number, place)
	}
	for n := 1; n < 1000; n++ {
		next := impl.Jump(number, n+1)
		if next != place && next != n {
			t.Fatalf("Jump(%d, %d) = %d, among one more %d; want the same or %d", number, n, place, next, n)
		}
		if next < 0 || next > n {
			t.Fatalf("Jump(%d, %d) = %d; want one of 0 .. %d", number, n+1, next, n)
		}
		place = next
	}
	for _, n := range []int{1001, 1002, 5000, math.MaxInt} {
		if got := impl.Jump(number, n); got != place {
			t.Fatalf("Jump(%d, %d) = %d; want %d, as among 1000", number, n, got, place)
		}
	}
}

func TestPromise9EdgesJumpToNewPlacesAlone(t *testing.T) {
	for _, number := range jumpNumbers() {
		wantJumps(t, number)
	}
}

func TestPromise9ManyJumpToNewPlacesAlone(t *testing.T) {
	for _, number := range drawnNumbers(2000, 8) {
		wantJumps(t, number)
	}
	for number := range 1000 {
		wantJumps(t, number)
		wantJumps(t, -1-number)
	}
}

func TestPromise9KeysJumpToNewPlacesAlone(t *testing.T) {
	for n := range 500 {
		wantJumps(t, impl.HashOf("key "+strconv.Itoa(n), n%3))
	}
}

// Numbers whose first jump comes exactly to each place, or just short of it.
func TestPromise9JumpsAtTheEdgesOfPlaces(t *testing.T) {
	for place := 1; place <= 1001; place++ {
		wantJumps(t, withDivisor(2147483648/place, place))
		if place > 1 {
			wantJumps(t, withDivisor(2147483648/place+1, place))
		}
	}
}

// A place that is there keeps what it has, but for what the new one gets.
func TestPromise9SpreadsGiveToTheNewPlaceAlone(t *testing.T) {
	list := append(drawnNumbers(3000, 9), jumpNumbers()...)
	counts := impl.Spread(list, 1)
	for n := 1; n < 1000; n++ {
		next, given := impl.Spread(list, n+1), 0
		if len(next) != n+1 {
			t.Fatalf("Spread among %d has %d counts", n+1, len(next))
		}
		for place, count := range counts {
			if next[place] > count {
				t.Fatalf("place %d has %d among %d, and %d among one more", place, count, n, next[place])
			}
			given += count - next[place]
		}
		if next[n] != given {
			t.Fatalf("place %d, the new one, gets %d, where the others give %d", n, next[n], given)
		}
		counts = next
	}
}

// manyNumbers are lists of so many, each of another kind.
func manyNumbers(count int) map[string][]int {
	out := map[string][]int{"drawn": drawnNumbers(count, 10)}
	for number := range count {
		out["from 0"] = append(out["from 0"], number)
		out["from -1"] = append(out["from -1"], -1-number)
		out["from the least"] = append(out["from the least"], math.MinInt+number)
		out["from the greatest"] = append(out["from the greatest"], math.MaxInt-number)
		out["by thousands"] = append(out["by thousands"], 1000*number)
		out["of keys"] = append(out["of keys"], impl.HashOf("k"+strconv.Itoa(number), 0))
	}
	return out
}

// Thirty numbers a place: each gets some, and none the most of them.
func TestPromise9EachPlaceGetsSome(t *testing.T) {
	for kind, list := range manyNumbers(30000) {
		for _, n := range []int{1, 2, 3, 4, 5, 6, 7, 10, 16, 50, 100, 256, 500, 999, 1000} {
			counts := impl.Spread(list, n)
			if least := slices.Min(counts); least < 1 {
				t.Errorf("%s, among %d: place %d gets none", kind, n, slices.Index(counts, least))
			}
			// Their share, and as much as chance takes from it or adds.
			share := float64(len(list)) / float64(n)
			slack := 6 * math.Sqrt(share)
			for place, count := range counts {
				if off := math.Abs(float64(count) - share); n > 1 && off > slack {
					t.Errorf("%s, among %d: place %d gets %d; its share is %.0f", kind, n, place, count, share)
				}
			}
		}
	}
}

// Of few places each gets some of few numbers, among every n.
func TestPromise9EachPlaceOfEachNumberOfPlaces(t *testing.T) {
	list := drawnNumbers(20000, 11)
	for n := 1; n <= 1000; n++ {
		counts := impl.Spread(list, n)
		if place := slices.Index(counts, 0); place >= 0 {
			t.Errorf("among %d place %d gets none of %d numbers", n, place, len(list))
		}
	}
}

// The new place gets its share of the numbers, so that little is moved: more than none, and not all.
func TestPromise9LittleIsMoved(t *testing.T) {
	list := drawnNumbers(30000, 12)
	for _, n := range []int{1, 2, 3, 9, 50, 99, 500, 999} {
		moved := 0
		for _, number := range list {
			if impl.Jump(number, n) != impl.Jump(number, n+1) {
				moved++
			}
		}
		share := len(list) / (n + 1)
		if moved < share/2 || moved > 2*share {
			t.Errorf("of %d numbers %d move from %d places to one more; their share is %d", len(list), moved, n, share)
		}
	}
}
