package tests

import (
	"maps"
	"slices"
	"strconv"
	"strings"
	"testing"

	"loop.example/g00180/impl"
)

// nearLife is near entries, and what was kept last under each key that was not let go or forgotten since.
type nearLife struct {
	near  impl.Near
	kept  map[string]string
	names []string
}

// newNearLife begins with none; after each step every one of the names is asked for.
func newNearLife(t *testing.T, size int, names []string) *nearLife {
	t.Helper()
	return &nearLife{near: newNear(t, size), kept: map[string]string{}, names: names}
}

// branch is the same life, to go on in another way.
func (l *nearLife) branch() *nearLife {
	return &nearLife{near: l.near, kept: maps.Clone(l.kept), names: l.names}
}

// keep keeps an entry; what is let go for it was there, and there was no room for both.
func (l *nearLife) keep(t *testing.T, key, val string) (string, bool) {
	t.Helper()
	_, there := l.kept[key]
	before := l.near
	wantOk := ruleKey(key) && len(val) <= 20
	got, gone, ok := impl.KeepKey(before, key, val)
	if ok != wantOk {
		t.Fatalf("KeepKey(%v, %.20q, %.20q) is %v; want %v", before, key, val, ok, wantOk)
	}
	if !ok {
		return "", false
	}
	room := len(before.Window.Keys) < before.Window.Most || len(before.Trial.Keys) < before.Trial.Most
	if (gone == "") != (there || room) {
		t.Fatalf("KeepKey(%v, %q) lets go of %q", before, key, gone)
	}
	if _, was := l.kept[gone]; gone != "" && !was {
		t.Fatalf("KeepKey(%v, %q) lets go of %q, which was not there", before, key, gone)
	}
	l.kept[key] = val
	delete(l.kept, gone)
	l.near = got
	l.check(t)
	return gone, true
}

// want wants a key: what was kept last is told, or that it is not there.
func (l *nearLife) want(t *testing.T, key string) bool {
	t.Helper()
	wantVal, there := l.kept[key]
	got, val, ok := impl.WantKey(l.near, key)
	if val != wantVal || ok != there {
		t.Fatalf("WantKey(%v, %.20q) = %q, %v; want %q, %v", l.near, key, val, ok, wantVal, there)
	}
	l.near = got
	l.check(t)
	return ok
}

func (l *nearLife) forget(t *testing.T, key string) bool {
	t.Helper()
	_, there := l.kept[key]
	got, ok := impl.ForgetKey(l.near, key)
	if ok != there {
		t.Fatalf("ForgetKey(%v, %.20q) is %v; want %v", l.near, key, ok, there)
	}
	if ok {
		delete(l.kept, key)
		l.near = got
	}
	l.check(t)
	return ok
}

// check asks that near entries are right, and that they have just what was kept.
func (l *nearLife) check(t *testing.T) {
	t.Helper()
	if !impl.NearOk(l.near) || !ruleNearRight(l.near) {
		t.Fatalf("%v is not right", l.near)
	}
	if size := impl.SizeOf(l.near); size != len(l.kept) || size > len(l.near.Arena.Slots) {
		t.Fatalf("SizeOf(%v) = %d; %d are kept", l.near, size, len(l.kept))
	}
	for _, key := range l.names {
		wantVal, there := l.kept[key]
		// The answer is another value: l.near stays as it is.
		if _, val, ok := impl.WantKey(l.near, key); val != wantVal || ok != there {
			t.Fatalf("%q is %q, %v in %v; want %q, %v", key, val, ok, l.near, wantVal, there)
		}
	}
}

// step is a key kept, wanted or forgotten.
func (l *nearLife) step(t *testing.T, kind int, key, val string) {
	t.Helper()
	switch kind {
	case 0:
		l.keep(t, key, val)
	case 1:
		l.want(t, key)
	default:
		l.forget(t, key)
	}
}

// More keys than there is room for, one after the other: each is there when it was kept, and so are those not let go.
func TestPromise8KeptInTurn(t *testing.T) {
	for size := 2; size <= 24; size++ {
		names := nearNames(3*size + 10)
		l := newNearLife(t, size, names)
		for i, key := range names {
			if gone, ok := l.keep(t, key, strconv.Itoa(i)); !ok || gone == key {
				t.Fatalf("size %d: the key %q is not kept: %v", size, key, l.near)
			}
			if _, there := l.kept[key]; !there {
				t.Fatalf("size %d: %q was kept, and is not there", size, key)
			}
		}
	}
}

// Each key is kept and wanted at once, so that all three queues are filled; then kept anew, with other vals.
func TestPromise8KeptAnew(t *testing.T) {
	for size := 2; size <= 24; size++ {
		names := nearNames(size)
		l := newNearLife(t, size, names[:min(size, 9)])
		for round := range 3 {
			for i, key := range names {
				l.keep(t, key, key+" "+strconv.Itoa(round))
				l.want(t, key)
				l.want(t, names[(i+size-1)%size])
				l.want(t, names[i/2])
			}
		}
		if s := ruleShape(size); len(l.near.Safe.Keys) != s.safe {
			t.Errorf("size %d: all was wanted again and again, and Safe has %q", size, l.near.Safe.Keys)
		}
	}
}

// All is forgotten, in one order and another, and kept again.
func TestPromise8ForgottenInTurn(t *testing.T) {
	for size := 2; size <= 24; size++ {
		names := nearNames(size)
		for _, order := range orders(size) {
			l := newNearLife(t, size, names[:min(size, 6)])
			for round := range 2 {
				for _, key := range names {
					l.keep(t, key, strconv.Itoa(round))
					l.want(t, key)
				}
				for _, n := range order {
					_, there := l.kept[names[n]]
					if l.forget(t, names[n]) != there || l.forget(t, names[n]) || l.want(t, names[n]) {
						t.Fatalf("size %d: %q was forgotten: %v", size, names[n], l.near)
					}
				}
				if len(l.kept) != 0 || impl.SizeOf(l.near) != 0 {
					t.Fatalf("size %d: all was forgotten: %v", size, l.near)
				}
			}
		}
	}
}

// A key that came to Safe and is wanted again and again stays, whatever else is kept.
func TestPromise8OftenWantedStays(t *testing.T) {
	for size := 3; size <= 24; size++ {
		l := newNearLife(t, size, []string{"often"})
		l.keep(t, "often", "wanted")
		for _, key := range nearNames(120) {
			if !l.want(t, "often") {
				t.Fatalf("size %d: often is let go: %v", size, l.near)
			}
			l.keep(t, key, "val")
		}
	}
}

// What is refused changes nothing.
func TestPromise8RefusedChangesNothing(t *testing.T) {
	for size := 2; size <= 24; size++ {
		names := nearNames(size)
		l := newNearLife(t, size, append(names, "", "thirteen here"))
		for _, key := range names {
			l.keep(t, key, key)
			before := l.near
			for _, other := range []string{"", "thirteen here", strings.Repeat("x", 600)} {
				if _, ok := l.keep(t, other, "val"); ok || l.forget(t, other) || l.want(t, other) {
					t.Fatalf("size %d: %.20q is kept, forgotten or there", size, other)
				}
			}
			if _, ok := l.keep(t, key, strings.Repeat("v", 21)); ok {
				t.Fatalf("size %d: a val too long is kept", size)
			}
			if !sameNear(l.near, before) {
				t.Fatalf("size %d: %v is %v behind what was refused", size, before, l.near)
			}
		}
	}
}

// each goes through every life of so many steps from here on, each a key kept, wanted or forgotten.
func (l *nearLife) each(t *testing.T, steps int) {
	t.Helper()
	if steps == 0 {
		return
	}
	for _, key := range l.names {
		for kind := range 3 {
			other := l.branch()
			other.step(t, kind, key, strconv.Itoa(steps))
			other.each(t, steps-1)
		}
	}
}

// Every life of four steps with three keys, and of three with five; begun with none, and with more than there is room for.
func TestPromise8EachLife(t *testing.T) {
	for size := 2; size <= 5; size++ {
		for _, begun := range []int{0, size + 1} {
			l := newNearLife(t, size, nil)
			for i, key := range nearNames(begun) {
				l.keep(t, key, "begun")
				if i%2 == 0 {
					l.want(t, key)
				}
			}
			l.names = nearNames(5)
			l.each(t, 3)
			if size < 4 {
				l.names = nearNames(3)
				l.each(t, 4)
			}
		}
	}
}

// nearMoves are how often, of ten steps, a key is kept, wanted and forgotten.
var nearMoves = [][]int{
	{0, 0, 0, 0, 1, 1, 1, 1, 1, 2},
	{0, 0, 0, 0, 0, 0, 0, 0, 1, 1},
	{0, 0, 1, 1, 1, 1, 1, 1, 1, 1},
	{0, 0, 0, 0, 1, 1, 2, 2, 2, 2},
}

func TestPromise8DrawnLives(t *testing.T) {
	for size := 2; size <= 24; size++ {
		for seed := range 4 {
			names := append(nearNames(size+seed*size/2), "twelve bytes", "\x00", "")
			l := newNearLife(t, size, names[:min(len(names), 8)])
			drawn := seed*7919 + size
			for step := range 150 {
				drawn = (drawn*1103515245 + 12345) % 2147483648
				pick := drawn / 65536
				l.step(t, nearMoves[seed%4][pick%10], names[pick/10%len(names)], strconv.Itoa(step))
			}
		}
	}
}

// Drawn lives once more, each answer held against the chapter's rules as a whole: queues, slots, cells, counts, bits.
func TestDrawnNearLivesByRule(t *testing.T) {
	for size := 1; size <= 24; size++ {
		for seed := range 6 {
			names := append(nearNames(size+seed*size/2), "twelve bytes", "\x00", "", "thirteen here")
			n := nearOf(size, nil, nil, nil)
			drawn := seed*104729 + size
			for step := range 250 {
				drawn = (drawn*1103515245 + 12345) % 2147483648
				pick := drawn / 65536
				n = drawnStep(t, n, nearMoves[seed%4][pick%10], names[pick/10%len(names)], strconv.Itoa(step))
			}
		}
	}
}

// drawnStep goes on by what is answered, but for what is refused.
func drawnStep(t *testing.T, n impl.Near, kind int, key, val string) impl.Near {
	t.Helper()
	got, ok := n, true
	switch kind {
	case 0:
		got, _, ok = keep(t, n, key, val)
	case 1:
		got, _, _ = want(t, n, key)
	default:
		got, ok = forget(t, n, key)
	}
	if !ok {
		return n
	}
	if !slices.Equal(sortedKeys(queuedKeys(got)), ruleKeys(got.Table)) {
		t.Fatalf("the queues of %v have other keys than the Table", got)
	}
	return got
}
