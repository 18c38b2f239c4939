package tests

import (
	"slices"
	"strconv"
	"testing"

	"loop.example/g00180/impl"
)

// This file has the chapter's rules for near entries word by word; the tests of near entries hold the program against them.

// nearShape is how great the parts of near entries are.
type nearShape struct{ cells, window, trial, safe int }

func ruleShape(slots int) nearShape {
	s := nearShape{window: slots / 4}
	if s.window < 1 {
		s.window = 1
	}
	s.safe = (slots - s.window) / 2
	s.trial = slots - s.window - s.safe
	for _, size := range []int{64, 32, 16, 8, 4} {
		if size > 2*slots {
			s.cells = size
		}
	}
	return s
}

func shapeFound(n impl.Near) nearShape {
	return nearShape{len(n.Table.Cells), n.Window.Most, n.Trial.Most, n.Safe.Most}
}

// sameNear holds two near entries against each other, an empty list being as good as nil.
func sameNear(a, b impl.Near) bool {
	return sameArena(a.Arena, b.Arena) && sameTable(a.Table, b.Table) &&
		sameQueue(a.Window, b.Window) && sameQueue(a.Trial, b.Trial) && sameQueue(a.Safe, b.Safe) &&
		sameSketch(a.Sketch, b.Sketch) && a.Door == b.Door
}

func cloneNear(n impl.Near) impl.Near {
	n.Arena.Slots = slices.Clone(n.Arena.Slots)
	n.Table = cloneTable(n.Table)
	n.Window.Keys = slices.Clone(n.Window.Keys)
	n.Trial.Keys = slices.Clone(n.Trial.Keys)
	n.Safe.Keys = slices.Clone(n.Safe.Keys)
	n.Sketch.Counts = slices.Clone(n.Sketch.Counts)
	return n
}

// queuedKeys are the keys of the three queues, those of Window ahead.
func queuedKeys(n impl.Near) []string {
	return slices.Concat(n.Window.Keys, n.Trial.Keys, n.Safe.Keys)
}

// sortedKeys are the same keys, ascending, those that are twice too.
func sortedKeys(keys []string) []string {
	keys = slices.Clone(keys)
	slices.Sort(keys)
	return keys
}

// usedKeys are the keys of the slots that are Used.
func usedKeys(a impl.Arena) []string {
	var keys []string
	for _, s := range a.Slots {
		if s.Used {
			keys = append(keys, s.Key)
		}
	}
	return keys
}

// ruleSlot is the place of the slot that is Used with this handle, -1 where there is none.
func ruleSlot(a impl.Arena, handle int) int {
	for place, s := range a.Slots {
		if s.Used && 24*s.Gen+place == handle {
			return place
		}
	}
	return -1
}

func ruleNearRight(n impl.Near) bool {
	if !arenaRight(n.Arena) || !ruleRight(n.Table) || !ruleSketchRight(n.Sketch) || !ruleDoorRight(n.Door) {
		return false
	}
	if !ruleQueueRight(n.Window) || !ruleQueueRight(n.Trial) || !ruleQueueRight(n.Safe) {
		return false
	}
	if len(n.Table.Old) > 0 || shapeFound(n) != ruleShape(len(n.Arena.Slots)) {
		return false
	}
	keys := sortedKeys(queuedKeys(n))
	if len(slices.Compact(slices.Clone(keys))) != len(keys) {
		return false
	}
	if !slices.Equal(keys, ruleKeys(n.Table)) || !slices.Equal(keys, sortedKeys(usedKeys(n.Arena))) {
		return false
	}
	for _, c := range n.Table.Cells {
		if c.Key == "" {
			continue
		}
		if place := ruleSlot(n.Arena, c.Handle); place < 0 || n.Arena.Slots[place].Key != c.Key {
			return false
		}
	}
	return true
}

// ruleVal is the Val of a key of right near entries.
func ruleVal(n impl.Near, key string) (string, bool) {
	for _, s := range n.Arena.Slots {
		if s.Used && s.Key == key {
			return s.Val, true
		}
	}
	return "", false
}

func ruleCounted(n impl.Near, key string) impl.Near {
	if !ruleSeen(n.Door, key) {
		n.Door = ruleMark(n.Door, key)
		return n
	}
	n.Sketch = ruleCount(n.Sketch, key)
	if n.Sketch.Adds == 0 {
		n.Door.Bits = 0
	}
	return n
}

// ruleTouched is what becomes of the queues when a key that is there is wanted.
func ruleTouched(n impl.Near, key string) impl.Near {
	if slices.Contains(n.Window.Keys, key) {
		n.Window, _ = ruleTouch(n.Window, key)
		return n
	}
	if slices.Contains(n.Safe.Keys, key) {
		n.Safe, _ = ruleTouch(n.Safe, key)
		return n
	}
	if n.Safe.Most == 0 {
		n.Trial, _ = ruleTouch(n.Trial, key)
		return n
	}
	n.Trial, _ = ruleDrop(n.Trial, key)
	safe, left, _ := rulePush(n.Safe, key)
	n.Safe = safe
	if left != "" {
		n.Trial, _, _ = rulePush(n.Trial, left)
	}
	return n
}

// ruleLiftEntry lifts the slot of a key.
func ruleLiftEntry(n impl.Near, key string) impl.Near {
	n.Arena.Slots = slices.Clone(n.Arena.Slots)
	for place, s := range n.Arena.Slots {
		if s.Used && s.Key == key {
			gen := s.Gen + 1
			if gen > mostGen {
				gen = 0
			}
			n.Arena.Slots[place] = freed(gen, n.Arena.Free)
			n.Arena.Free = place
			return n
		}
	}
	return n
}

// ruleLayEntry lays an entry into the first slot of the chain, and puts its handle into the Table.
func ruleLayEntry(n impl.Near, key, val string) impl.Near {
	n.Arena.Slots = slices.Clone(n.Arena.Slots)
	place := n.Arena.Free
	s := n.Arena.Slots[place]
	n.Arena.Free = s.Next
	n.Arena.Slots[place] = filled(s.Gen, key, val)
	table, ok := rulePut(n.Table, key, 24*s.Gen+place)
	if !ok {
		cleaned, _ := ruleClean(n.Table)
		table, _ = rulePut(cleaned, key, 24*s.Gen+place)
	}
	n.Table = table
	return n
}

func ruleWant(n impl.Near, key string) (impl.Near, string, bool) {
	if !ruleNearRight(n) || !ruleKey(key) {
		return n, "", false
	}
	val, there := ruleVal(n, key)
	n = ruleCounted(n, key)
	if there {
		n = ruleTouched(n, key)
	}
	return n, val, there
}

// ruleWeight is GuessKey of a key, and 1, when SeenKey.
func ruleWeight(n impl.Near, key string) int {
	if ruleSeen(n.Door, key) {
		return ruleGuess(n.Sketch, key) + 1
	}
	return ruleGuess(n.Sketch, key)
}

// ruleTried tries the key that Window leaves out; and tells what is let go.
func ruleTried(n impl.Near, key string) (impl.Near, string) {
	if n.Trial.Most == 0 {
		return n, key
	}
	if len(n.Trial.Keys) < n.Trial.Most {
		n.Trial, _, _ = rulePush(n.Trial, key)
		return n, ""
	}
	last := n.Trial.Keys[len(n.Trial.Keys)-1]
	if ruleWeight(n, key) > ruleWeight(n, last) {
		n.Trial, _ = ruleDrop(n.Trial, last)
		n.Trial, _, _ = rulePush(n.Trial, key)
		return n, last
	}
	return n, key
}

func ruleKeep(n impl.Near, key, val string) (impl.Near, string, bool) {
	if !ruleNearRight(n) || !ruleKey(key) || len(val) > 20 {
		return impl.Near{}, "", false
	}
	_, there := ruleVal(n, key)
	n = ruleCounted(n, key)
	if there {
		return ruleTouched(ruleLayEntry(ruleLiftEntry(n, key), key, val), key), "", true
	}
	window, left, _ := rulePush(n.Window, key)
	n.Window = window
	gone := ""
	if left != "" {
		n, gone = ruleTried(n, left)
	}
	if gone != "" {
		n = ruleLiftEntry(n, gone)
		n.Table, _ = ruleTake(n.Table, gone)
	}
	return ruleLayEntry(n, key, val), gone, true
}

func ruleForget(n impl.Near, key string) (impl.Near, bool) {
	if _, there := ruleVal(n, key); !ruleNearRight(n) || !there {
		return impl.Near{}, false
	}
	n = ruleLiftEntry(n, key)
	n.Table, _ = ruleTake(n.Table, key)
	for _, q := range []*impl.Queue{&n.Window, &n.Trial, &n.Safe} {
		if slices.Contains(q.Keys, key) {
			*q, _ = ruleDrop(*q, key)
		}
	}
	return n, true
}

// want wants a key, and holds the answer against the rule.
func want(t *testing.T, n impl.Near, key string) (impl.Near, string, bool) {
	t.Helper()
	got, val, ok := impl.WantKey(n, key)
	wanted, wantVal, wantOk := ruleWant(n, key)
	if !sameNear(got, wanted) || val != wantVal || ok != wantOk {
		t.Fatalf("WantKey(%v, %.20q) = %v, %q, %v; want %v, %q, %v", n, key, got, val, ok, wanted, wantVal, wantOk)
	}
	return got, val, ok
}

func keep(t *testing.T, n impl.Near, key, val string) (impl.Near, string, bool) {
	t.Helper()
	got, gone, ok := impl.KeepKey(n, key, val)
	wanted, wantGone, wantOk := ruleKeep(n, key, val)
	if !sameNear(got, wanted) || gone != wantGone || ok != wantOk {
		t.Fatalf("KeepKey(%v, %.20q, %.20q) = %v, %q, %v; want %v, %q, %v", n, key, val, got, gone, ok, wanted, wantGone, wantOk)
	}
	return got, gone, ok
}

func forget(t *testing.T, n impl.Near, key string) (impl.Near, bool) {
	t.Helper()
	got, ok := impl.ForgetKey(n, key)
	wanted, wantOk := ruleForget(n, key)
	if !sameNear(got, wanted) || ok != wantOk {
		t.Fatalf("ForgetKey(%v, %.20q) = %v, %v; want %v, %v", n, key, got, ok, wanted, wantOk)
	}
	return got, ok
}

// wantNearByRule holds every function at one value against the chapter's rules.
func wantNearByRule(t *testing.T, n impl.Near, keys []string) {
	t.Helper()
	right, size := ruleNearRight(n), 0
	if right {
		size = len(usedKeys(n.Arena))
	}
	if got := impl.NearOk(n); got != right {
		t.Fatalf("NearOk(%v) = %v; want %v", n, got, right)
	}
	if got := impl.SizeOf(n); got != size {
		t.Fatalf("SizeOf(%v) = %d; want %d", n, got, size)
	}
	for _, key := range keys {
		want(t, n, key)
		keep(t, n, key, "a new val")
		forget(t, n, key)
	}
}

func wantRightNear(t *testing.T, what string, n impl.Near) {
	t.Helper()
	if !ruleNearRight(n) {
		t.Fatalf("%s: the test's own rule refuses %v", what, n)
	}
	wantNearByRule(t, n, append(queuedKeys(n), "", "not there", "twelve bytes", "thirteen here"))
}

// wantWrongNear wants each function's answer at near entries that are not right.
func wantWrongNear(t *testing.T, what string, n impl.Near) {
	t.Helper()
	if ruleNearRight(n) {
		t.Fatalf("%s: the test's own rule takes %v", what, n)
	}
	if impl.NearOk(n) {
		t.Errorf("%s: NearOk(%v) = true; want false", what, n)
	}
	if size := impl.SizeOf(n); size != 0 {
		t.Errorf("%s: SizeOf(%v) = %d; want 0", what, n, size)
	}
	for _, key := range append(queuedKeys(n), "", "not there", "thirteen here") {
		if got, val, ok := impl.WantKey(n, key); !sameNear(got, n) || val != "" || ok {
			t.Errorf("%s: WantKey(%v, %.20q) = %v, %q, %v; want it as it is, empty, false", what, n, key, got, val, ok)
		}
		if got, gone, ok := impl.KeepKey(n, key, "v"); !sameNear(got, impl.Near{}) || gone != "" || ok {
			t.Errorf("%s: KeepKey(%v, %.20q, v) = %v, %q, %v; want nothing, empty, false", what, n, key, got, gone, ok)
		}
		if got, ok := impl.ForgetKey(n, key); !sameNear(got, impl.Near{}) || ok {
			t.Errorf("%s: ForgetKey(%v, %.20q) = %v, %v; want nothing, false", what, n, key, got, ok)
		}
	}
}

// nearOf are near entries of so many slots, not made by the program: the keys of Window, Trial
// and Safe, each with a Val of its own, in slots from the first one on.
func nearOf(size int, window, trial, safe []string) impl.Near {
	s := ruleShape(size)
	n := impl.Near{
		Table:  tableOf(noneCells(s.cells)...),
		Window: queueWith(s.window, window...),
		Trial:  queueWith(s.trial, trial...),
		Safe:   queueWith(s.safe, safe...),
		Sketch: sketchOf(0, nil),
	}
	for place := range size {
		n.Arena.Slots = append(n.Arena.Slots, freed(place%3, place+1))
	}
	n.Arena.Slots[size-1].Next = -1
	for _, key := range queuedKeys(n) {
		n = ruleLayEntry(n, key, valOf(key))
	}
	return n
}

// valOf is the Val that nearOf gives a key.
func valOf(key string) string { return "val of " + key }

// fullNear has as many entries as there are slots.
func fullNear(size int) impl.Near {
	s := ruleShape(size)
	names := nearNames(size)
	return nearOf(size, names[:s.window], names[s.window:s.window+s.trial], names[s.window+s.trial:])
}

// nearNames are so many keys that are right.
func nearNames(count int) []string {
	var names []string
	for n := range count {
		names = append(names, "key"+strconv.Itoa(n))
	}
	return names
}

// apartKeys are so many keys that share no count and no bit with one another.
func apartKeys(t *testing.T, count int) []string {
	t.Helper()
	var keys []string
	taken := map[int]bool{}
	for n := 0; len(keys) < count; n++ {
		if n > 100000 {
			t.Fatalf("no %d keys are apart", count)
		}
		key := "apart" + strconv.Itoa(n)
		places := rulePlaces(key)
		all := append(ruleCounts(key), 100+places[0], 100+places[1])
		if slices.ContainsFunc(all, func(at int) bool { return taken[at] }) {
			continue
		}
		for _, at := range all {
			taken[at] = true
		}
		keys = append(keys, key)
	}
	return keys
}

// guessed sets the counts of a key, so that it is guessed so often; marked or not.
func guessed(n impl.Near, key string, often int, marked bool) impl.Near {
	n = cloneNear(n)
	for _, at := range ruleCounts(key) {
		n.Sketch.Counts[at] = often
	}
	if marked {
		n.Door = ruleMark(n.Door, key)
	}
	return n
}
