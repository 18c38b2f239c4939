package tests

import (
	"slices"
	"testing"

	"loop.example/g00180/impl"
)

// queueLife is a queue, and when each of its keys was wanted last: by that alone its order is told.
type queueLife struct {
	queue  impl.Queue
	wanted map[string]int
	now    int
}

func newQueueLife(most int) *queueLife {
	return &queueLife{queue: impl.Queue{Most: most}, wanted: map[string]int{}}
}

// order are the keys, the one that was wanted last ahead.
func (l *queueLife) order() []string {
	var keys []string
	for key := range l.wanted {
		keys = append(keys, key)
	}
	slices.SortFunc(keys, func(one, other string) int { return l.wanted[other] - l.wanted[one] })
	return keys
}

// want notes that a key was wanted just now.
func (l *queueLife) want(key string) {
	l.now++
	l.wanted[key] = l.now
}

// push pushes a key; when there was no room, the one that was wanted least lately is told.
func (l *queueLife) push(t *testing.T, key string) bool {
	t.Helper()
	_, there := l.wanted[key]
	wantOk := !there && ruleKey(key) && l.queue.Most > 0
	before, wantLeft := l.queue, ""
	if wantOk && len(l.wanted) == l.queue.Most {
		wantLeft = l.order()[l.queue.Most-1]
	}
	got, left, ok := impl.Push(l.queue, key)
	if ok != wantOk || left != wantLeft {
		t.Fatalf("Push(%v, %.20q) = %v, %q, %v; want %q, %v", before, key, got, left, ok, wantLeft, wantOk)
	}
	if ok {
		delete(l.wanted, left)
		l.want(key)
		l.queue = got
	}
	l.check(t)
	return ok
}

// touch touches a key: it is ahead, and the others are as they were among themselves.
func (l *queueLife) touch(t *testing.T, key string) bool {
	t.Helper()
	_, there := l.wanted[key]
	got, ok := impl.Touch(l.queue, key)
	if ok != there {
		t.Fatalf("Touch(%v, %.20q) = %v, %v; want %v", l.queue, key, got, ok, there)
	}
	if ok {
		l.want(key)
		l.queue = got
	}
	l.check(t)
	return ok
}

// drop drops a key: it is gone, and the others are as they were among themselves.
func (l *queueLife) drop(t *testing.T, key string) bool {
	t.Helper()
	_, there := l.wanted[key]
	got, ok := impl.Drop(l.queue, key)
	if ok != there {
		t.Fatalf("Drop(%v, %.20q) = %v, %v; want %v", l.queue, key, got, ok, there)
	}
	if ok {
		delete(l.wanted, key)
		l.queue = got
		if impl.HasKey(l.queue, key) {
			t.Fatalf("%q was dropped, and is there: %v", key, l.queue)
		}
	}
	l.check(t)
	return ok
}

// check asks that the keys stand in the order in which they were wanted.
func (l *queueLife) check(t *testing.T) {
	t.Helper()
	if order := l.order(); !slices.Equal(l.queue.Keys, order) {
		t.Fatalf("the keys are %q; they were wanted in the order %q", l.queue.Keys, order)
	}
	if !impl.QueueOk(l.queue) {
		t.Fatalf("%v is not right", l.queue)
	}
	for key := range l.wanted {
		if !impl.HasKey(l.queue, key) {
			t.Fatalf("%q is not there: %v", key, l.queue)
		}
	}
}

// More keys than there is room for: the last ones are there.
func TestPromise7PushedInTurn(t *testing.T) {
	for most := range 25 {
		l := newQueueLife(most)
		for n, key := range queueNames(60) {
			if l.push(t, key) != (most > 0) {
				t.Fatalf("the push of %q into %v", key, l.queue)
			}
			if want := min(n+1, most); len(l.queue.Keys) != want || l.queue.Most != most {
				t.Fatalf("%d pushes into Most %d make %v; want %d keys", n+1, most, l.queue, want)
			}
		}
	}
}

// All keys are touched, in one order and another: the last one touched is ahead.
func TestPromise7TouchedInTurn(t *testing.T) {
	for most := 1; most <= 24; most++ {
		names := queueNames(most)
		for _, order := range orders(most) {
			l := newQueueLife(most)
			for _, key := range names {
				l.push(t, key)
			}
			for range 2 {
				for _, n := range order {
					if !l.touch(t, names[n]) || l.queue.Keys[0] != names[n] {
						t.Fatalf("%q was touched, and is not ahead: %v", names[n], l.queue)
					}
				}
			}
			for i, n := range order {
				if l.queue.Keys[most-1-i] != names[n] {
					t.Fatalf("touched in the order %v, the keys are %q", order, l.queue.Keys)
				}
			}
		}
	}
}

// All keys are dropped, in one order and another, until none is left; then they are pushed anew.
func TestPromise7DroppedInTurn(t *testing.T) {
	for most := 1; most <= 24; most++ {
		names := queueNames(most)
		for _, order := range orders(most) {
			l := newQueueLife(most)
			for range 2 {
				for _, key := range names {
					l.push(t, key)
				}
				for _, n := range order {
					if !l.drop(t, names[n]) || l.drop(t, names[n]) || l.touch(t, names[n]) {
						t.Fatalf("%q was dropped: %v", names[n], l.queue)
					}
				}
				if len(l.queue.Keys) != 0 || l.queue.Most != most {
					t.Fatalf("all keys were dropped: %v", l.queue)
				}
			}
		}
	}
}

// A key that is touched again and again is never left out, whatever is pushed.
func TestPromise7OftenWantedStays(t *testing.T) {
	for most := 2; most <= 24; most++ {
		l := newQueueLife(most)
		l.push(t, "often")
		for n, key := range queueNames(80) {
			l.push(t, key)
			if n%(most-1) == 0 && !l.touch(t, "often") {
				t.Fatalf("often was touched each %d keys, and is left out of %v", most-1, l.queue)
			}
		}
	}
}

// What is refused leaves the order as it was.
func TestPromise7RefusedChangesNothing(t *testing.T) {
	for most := range 25 {
		l := newQueueLife(most)
		for _, key := range queueNames(most) {
			l.push(t, key)
		}
		for _, key := range queueNames(most) {
			if l.push(t, key) {
				t.Fatalf("%q was there, and is pushed: %v", key, l.queue)
			}
		}
		for _, key := range []string{"", "thirteen here", "not there"} {
			if l.touch(t, key) || l.drop(t, key) {
				t.Fatalf("%q is not there, and is touched or dropped: %v", key, l.queue)
			}
		}
		if l.push(t, "") || l.push(t, "thirteen here") {
			t.Fatalf("a key that is none is pushed: %v", l.queue)
		}
	}
}

// Every life of four steps, each a push, touch or drop of one of four keys, behind two pushes or none.
func TestPromise7EachLife(t *testing.T) {
	names := []string{"a", "b", "ab", "twelve bytes"}
	for most := range 4 {
		for _, first := range []int{0, 2} {
			eachPick(4, 3*len(names), func(pick []int) {
				l := newQueueLife(most)
				for _, key := range names[:first] {
					l.push(t, key)
				}
				for _, n := range pick {
					l.step(t, n%3, names[n/3])
				}
			})
		}
	}
}

// step is a push, a touch or a drop.
func (l *queueLife) step(t *testing.T, kind int, key string) {
	t.Helper()
	switch kind {
	case 0:
		l.push(t, key)
	case 1:
		l.touch(t, key)
	default:
		l.drop(t, key)
	}
}

func TestPromise7DrawnLives(t *testing.T) {
	names := append(queueNames(30), "", "thirteen here")
	for seed := range 150 {
		l := newQueueLife(seed % 25)
		drawn := seed*7919 + 3
		for range 200 {
			drawn = (drawn*1103515245 + 12345) % 2147483648
			pick := drawn / 65536
			// Pushes and touches come more often than drops, so that the queue is full at times.
			l.step(t, []int{0, 0, 0, 1, 1, 1, 2}[pick%7], names[pick/7%len(names)])
		}
	}
}
