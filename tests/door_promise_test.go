package tests

import (
	"testing"

	"loop.example/g00180/impl"
)

// doorLife is a door and the keys that were marked at it.
type doorLife struct {
	door   impl.Door
	marked map[string]bool
}

func newDoorLife() *doorLife {
	return &doorLife{marked: map[string]bool{}}
}

// mark marks a key: it is seen, and all that were; a second time nothing changes.
func (l *doorLife) mark(t *testing.T, key string) {
	t.Helper()
	before, saw := l.door, impl.SeenKey(l.door, key)
	l.door = impl.MarkKey(l.door, key)
	l.marked[key] = true
	if !impl.DoorOk(l.door) {
		t.Fatalf("%v is not right, %.20q marked at %v", l.door, key, before)
	}
	if saw && l.door != before {
		t.Fatalf("%v has become %v by %.20q, which was seen", before, l.door, key)
	}
	if again := impl.MarkKey(l.door, key); again != l.door {
		t.Fatalf("%v has become %v by %.20q, which was marked", l.door, again, key)
	}
	l.check(t)
}

// check asks that every key which was marked is seen.
func (l *doorLife) check(t *testing.T) {
	t.Helper()
	for key := range l.marked {
		if !impl.SeenKey(l.door, key) {
			t.Fatalf("%.20q was marked, and is not seen by %v", key, l.door)
		}
	}
}

func TestPromise6EmptyDoor(t *testing.T) {
	if !impl.DoorOk(impl.Door{}) {
		t.Error("an empty door is not right")
	}
	for _, key := range append(doorKeys(), sketchNames(3000)...) {
		if impl.SeenKey(impl.Door{}, key) {
			t.Errorf("%.20q is seen by an empty door", key)
		}
	}
}

func TestPromise6OneKey(t *testing.T) {
	for _, key := range append(doorKeys(), sketchNames(3000)...) {
		l := newDoorLife()
		l.mark(t, key)
		l.mark(t, key)
	}
}

// Many keys in turn, up to so many that no bit is left.
func TestPromise6ManyKeys(t *testing.T) {
	for _, many := range []int{2, 3, 7, 20, 150, 400} {
		for _, order := range orders(many) {
			l := newDoorLife()
			names := sketchNames(many)
			for _, n := range order {
				l.mark(t, names[n])
			}
			for _, n := range order {
				l.mark(t, names[n])
			}
			if many == 400 && l.door.Bits != 4294967295 {
				t.Errorf("400 keys marked make %v; want all bits", l.door)
			}
		}
	}
}

// In each order, keys that share bits, or have one alone, make the same door.
func TestPromise6EachOrder(t *testing.T) {
	// By their bits: 27 and 8, both of them again, one of them, none of them, one alone.
	keys := []string{"a", "k653", "k4", "k21", "b", "k439"}
	ends := map[impl.Door]int{}
	eachPick(len(keys), len(keys), func(pick []int) {
		l := newDoorLife()
		for _, n := range pick {
			l.mark(t, keys[n])
		}
		if len(l.marked) == len(keys) {
			ends[l.door]++
		}
	})
	if len(ends) != 1 {
		t.Errorf("the same keys in another order make other doors: %v", ends)
	}
}

// A key that was seen stays seen, whatever is marked behind it, be it marked itself or not.
func TestPromise6StaysSeen(t *testing.T) {
	names := append(doorKeys(), sketchNames(60)...)
	for start := range names {
		d, was := impl.Door{}, map[string]bool{}
		for step := range 40 {
			d = impl.MarkKey(d, names[(start+step*7)%len(names)])
			for _, key := range names {
				now := impl.SeenKey(d, key)
				if was[key] && !now {
					t.Fatalf("%.20q was seen, and is not by %v", key, d)
				}
				was[key] = now
			}
		}
	}
}

// What is marked at any right door is seen there, and its bits are set alone.
func TestPromise6DrawnDoors(t *testing.T) {
	drawn := 5
	for range 3000 {
		drawn = (drawn*1103515245 + 12345) % 2147483648
		d := impl.Door{Bits: drawn * 37 % 4294967296}
		for _, key := range sketchNames(20) {
			seen(t, d, key)
			if got := mark(t, d, key); !impl.SeenKey(got, key) {
				t.Fatalf("%q is not seen by %v, where it was marked", key, got)
			}
		}
	}
}

func TestPromise6DrawnLives(t *testing.T) {
	names := append(doorKeys(), sketchNames(200)...)
	for seed := range 100 {
		l := newDoorLife()
		drawn := seed*7919 + 3
		for range 5 + seed%40 {
			drawn = (drawn*1103515245 + 12345) % 2147483648
			key := names[drawn/65536%len(names)]
			want := ruleSeen(l.door, key)
			if got := impl.SeenKey(l.door, key); got != want {
				t.Fatalf("SeenKey(%v, %.20q) = %v; want %v", l.door, key, got, want)
			}
			l.mark(t, key)
		}
	}
}
