package tests

import (
	"math"
	"slices"
	"strconv"
	"strings"
	"testing"

	"loop.example/g00180/impl"
)

// newNear makes near entries of a size that is right.
func newNear(t *testing.T, size int) impl.Near {
	t.Helper()
	n, ok := impl.NearNew(size)
	if !ok || len(n.Arena.Slots) != size || !impl.NearOk(n) {
		t.Fatalf("NearNew(%d) = %v, %v", size, n, ok)
	}
	return n
}

func TestNearNewSizes(t *testing.T) {
	shapes := map[int]nearShape{
		2: {8, 1, 1, 0}, 3: {8, 1, 1, 1}, 4: {16, 1, 2, 1}, 5: {16, 1, 2, 2}, 6: {16, 1, 3, 2}, 7: {16, 1, 3, 3},
		8: {32, 2, 3, 3}, 9: {32, 2, 4, 3}, 10: {32, 2, 4, 4}, 11: {32, 2, 5, 4}, 12: {32, 3, 5, 4}, 13: {32, 3, 5, 5},
		14: {32, 3, 6, 5}, 15: {32, 3, 6, 6}, 16: {64, 4, 6, 6}, 17: {64, 4, 7, 6}, 18: {64, 4, 7, 7}, 19: {64, 4, 8, 7},
		20: {64, 5, 8, 7}, 21: {64, 5, 8, 8}, 22: {64, 5, 9, 8}, 23: {64, 5, 9, 9}, 24: {64, 6, 9, 9},
	}
	for size := 2; size <= 24; size++ {
		n, ok := impl.NearNew(size)
		if !ok || shapeFound(n) != shapes[size] {
			t.Fatalf("NearNew(%d) = %v, %v; want cells, and the Most of Window, Trial, Safe, as %v", size, n, ok, shapes[size])
		}
		s := shapes[size]
		want := impl.Near{
			Arena:  newArena(t, size),
			Table:  tableOf(noneCells(s.cells)...),
			Window: queueWith(s.window),
			Trial:  queueWith(s.trial),
			Safe:   queueWith(s.safe),
			Sketch: evenSketch(0, 0),
		}
		if !sameNear(n, want) || impl.SizeOf(n) != 0 {
			t.Errorf("NearNew(%d) = %v; want %v", size, n, want)
		}
		wantRightNear(t, "new", n)
	}
}

func TestNearNewRefuses(t *testing.T) {
	for _, size := range []int{
		math.MinInt, math.MinInt + 1, -25, -24, -4, -2, -1, 0, 1, 25, 26, 32, 48, 64,
		1<<32 + 1, 1<<32 + 2, 1<<62 + 4, math.MaxInt - 1, math.MaxInt,
	} {
		if n, ok := impl.NearNew(size); !sameNear(n, impl.Near{}) || ok {
			t.Errorf("NearNew(%d) = %v, %v; want nothing, false", size, n, ok)
		}
	}
}

// nearsToTry are right near entries of every size: none, some in each queue, all; slots that were used and lifted.
func nearsToTry() []impl.Near {
	var nears []impl.Near
	for size := 1; size <= 24; size++ {
		s, names := ruleShape(size), nearNames(24)
		nears = append(nears, nearOf(size, nil, nil, nil), fullNear(size))
		nears = append(nears, nearOf(size, names[:s.window], nil, nil))
		nears = append(nears, nearOf(size, nil, names[:s.trial], nil))
		nears = append(nears, nearOf(size, nil, nil, names[:s.safe]))
		nears = append(nears, nearOf(size, names[:s.window/2], names[10:10+s.trial/2], names[20:20+s.safe/2]))
		// Lifted in turn, the slots and cells that are free lie among the others.
		n := fullNear(size)
		for i, key := range queuedKeys(n) {
			if i%3 == 1 {
				n, _ = ruleForget(n, key)
			}
		}
		n.Sketch, n.Door = evenSketch(98, 7), ruleMark(impl.Door{}, "key1")
		nears = append(nears, n)
	}
	return nears
}

func TestNearsByRule(t *testing.T) {
	for _, n := range nearsToTry() {
		wantRightNear(t, "right", n)
		for _, door := range []int{0, 1, 1 << 31, 1<<32 - 1} {
			for _, sketch := range []impl.Sketch{evenSketch(0, 0), evenSketch(99, 15), evenSketch(50, 1)} {
				n.Sketch, n.Door = sketch, impl.Door{Bits: door}
				wantNearByRule(t, n, []string{"key0", "key1", "key12", "not there"})
			}
		}
	}
}

// One slot: NearNew has none such, but what the chapter asks of near entries holds for them.
// Trial has Most 0: what Window leaves out is let go itself, however often it was wanted.
func TestTriedWithoutTrial(t *testing.T) {
	n := nearOf(1, nil, nil, nil)
	if shapeFound(n) != (nearShape{cells: 4, window: 1}) {
		t.Fatalf("near entries of one slot are %v", n)
	}
	wantRightNear(t, "one slot", n)
	before := ""
	for _, key := range nearNames(30) {
		for _, often := range []int{0, 15} {
			if before != "" {
				n = guessed(n, before, often, often > 0)
			}
			got, gone, ok := keep(t, n, key, "v")
			if !ok || gone != before || !slices.Equal(got.Window.Keys, []string{key}) || impl.SizeOf(got) != 1 {
				t.Fatalf("KeepKey of %q behind %q = %v, %q, %v", key, before, got, gone, ok)
			}
		}
		n, _, _ = keep(t, n, key, "v")
		before = key
	}
}

// Trial has room: what Window leaves out is its first one, and nothing is let go, however seldom it was wanted.
func TestTriedWithRoom(t *testing.T) {
	for size := 2; size <= 24; size++ {
		s, names := ruleShape(size), nearNames(24)
		window := names[:s.window]
		left := window[s.window-1]
		for inTrial := range s.trial {
			for _, inSafe := range []int{0, s.safe} {
				trial, safe := names[6:6+inTrial], names[15:15+inSafe]
				n := nearOf(size, window, trial, safe)
				for _, key := range trial {
					n = guessed(n, key, 15, true)
				}
				got, gone, ok := keep(t, n, "new", "val")
				if gone != "" || !ok || impl.SizeOf(got) != s.window+inTrial+inSafe+1 {
					t.Fatalf("KeepKey(%v, new) = %v, %q, %v", n, got, gone, ok)
				}
				wantQueues(t, got, slices.Concat([]string{"new"}, window[:s.window-1]), slices.Concat([]string{left}, trial), safe)
			}
		}
	}
}

// wantQueues wants the keys of each queue to be these.
func wantQueues(t *testing.T, n impl.Near, window, trial, safe []string) {
	t.Helper()
	if !slices.Equal(n.Window.Keys, window) || !slices.Equal(n.Trial.Keys, trial) || !slices.Equal(n.Safe.Keys, safe) {
		t.Fatalf("Window, Trial, Safe have %q, %q, %q; want %q, %q, %q",
			n.Window.Keys, n.Trial.Keys, n.Safe.Keys, window, trial, safe)
	}
}

// Trial is full: the one that was wanted more often stays; where both were as often, it is Trial's last one.
func TestTriedAgainstTheLastOne(t *testing.T) {
	keys := apartKeys(t, 4)
	fresh, tried, last, other := keys[0], keys[1], keys[2], keys[3]
	for _, size := range []int{2, 3, 4, 5, 8, 24} {
		s, names := ruleShape(size), nearNames(24)
		window := append(slices.Clone(names[:s.window-1]), tried)
		trial := append(slices.Clone(names[6:6+s.trial-1]), last)
		if s.trial > 1 {
			trial[0] = other
		}
		for _, inSafe := range []int{0, s.safe} {
			safe := names[15 : 15+inSafe]
			eachPick(4, 4, func(pick []int) {
				if pick[2] > 1 || pick[3] > 1 {
					return
				}
				guess := []int{0, 1, 2, 15}
				n := nearOf(size, window, trial, safe)
				n = guessed(n, tried, guess[pick[0]], pick[2] == 1)
				n = guessed(n, last, guess[pick[1]], pick[3] == 1)
				// What another one of Trial is guessed does not count, be it more or less.
				n = guessed(n, other, guess[(pick[0]+pick[1])%4], pick[2] != pick[3])
				got, gone, ok := keep(t, n, fresh, "val")
				if !ok || impl.SizeOf(got) != s.window+s.trial+inSafe {
					t.Fatalf("KeepKey(%v, %q) = %v, %q, %v", n, fresh, got, gone, ok)
				}
				ahead := slices.Concat([]string{fresh}, window[:s.window-1])
				wantGone := tried
				if guess[pick[0]]+pick[2] > guess[pick[1]]+pick[3] {
					wantGone = last
					wantQueues(t, got, ahead, slices.Concat([]string{tried}, trial[:s.trial-1]), safe)
				} else {
					wantQueues(t, got, ahead, trial, safe)
				}
				if gone != wantGone {
					t.Fatalf("tried at guess %d (and %d) against %d (and %d), %q is let go; want %q",
						guess[pick[0]], pick[2], guess[pick[1]], pick[3], gone, wantGone)
				}
			})
		}
	}
}

// The new key is counted ahead of the trial: what that changes weighs there.
func TestTriedBehindTheCount(t *testing.T) {
	// Both bits of a are those of k2767, too: a is seen when k2767 is marked.
	n := nearOf(2, []string{"a"}, []string{"k9"}, nil)
	if _, gone, _ := keep(t, n, "k2767", ""); gone != "k9" {
		t.Errorf("a, seen by the mark of the new key, is tried, and %q is let go; want k9", gone)
	}
	n = nearOf(2, []string{"k9"}, []string{"a"}, nil)
	n.Door = ruleMark(n.Door, "k9")
	if _, gone, _ := keep(t, n, "k2767", ""); gone != "k9" {
		t.Errorf("a, seen by the mark of the new key, is Trial's last one, and %q is let go; want k9", gone)
	}
	keys := apartKeys(t, 3)
	fresh, tried, last := keys[0], keys[1], keys[2]
	n = nearOf(2, []string{tried}, []string{last}, nil)
	n = guessed(guessed(n, tried, 3, false), last, 2, false)
	if _, gone, _ := keep(t, n, fresh, ""); gone != last {
		t.Errorf("3 against 2: %q is let go; want %q", gone, last)
	}
	n.Sketch.Adds, n.Door = 99, ruleMark(n.Door, fresh)
	if _, gone, _ := keep(t, n, fresh, ""); gone != tried {
		t.Errorf("3 against 2, halved by the hundredth count: %q is let go; want %q", gone, tried)
	}
	n = guessed(guessed(n, tried, 2, true), last, 2, false)
	if _, gone, _ := keep(t, n, fresh, ""); gone != tried {
		t.Errorf("2 and seen against 2, where the hundredth count clears the Door: %q is let go; want %q", gone, tried)
	}
}

// ahead has this key ahead of all others, whether it was there or not.
func ahead(keys []string, key string) []string {
	return append([]string{key}, without(keys, key)...)
}

func without(keys []string, key string) []string {
	return slices.DeleteFunc(slices.Clone(keys), func(other string) bool { return other == key })
}

func TestWantKeyInWindowAndSafe(t *testing.T) {
	for size := 1; size <= 24; size++ {
		n := fullNear(size)
		for _, key := range n.Window.Keys {
			got, val, ok := want(t, n, key)
			if val != valOf(key) || !ok {
				t.Fatalf("WantKey(%v, %q) = %q, %v", n, key, val, ok)
			}
			wantQueues(t, got, ahead(n.Window.Keys, key), n.Trial.Keys, n.Safe.Keys)
		}
		for _, key := range n.Safe.Keys {
			got, val, ok := want(t, n, key)
			if val != valOf(key) || !ok {
				t.Fatalf("WantKey(%v, %q) = %q, %v", n, key, val, ok)
			}
			wantQueues(t, got, n.Window.Keys, n.Trial.Keys, ahead(n.Safe.Keys, key))
		}
	}
}

// From Trial a key goes to Safe; when that is full, its last one comes to Trial, as the first one there.
func TestWantKeyInTrial(t *testing.T) {
	for size := 3; size <= 24; size++ {
		full := fullNear(size)
		safe := full.Safe.Keys
		for _, inSafe := range []int{0, len(safe) / 2, len(safe) - 1, len(safe)} {
			n := nearOf(size, full.Window.Keys, full.Trial.Keys, safe[:inSafe])
			for _, key := range n.Trial.Keys {
				got, val, ok := want(t, n, key)
				if val != valOf(key) || !ok {
					t.Fatalf("WantKey(%v, %q) = %q, %v", n, key, val, ok)
				}
				if inSafe < len(safe) {
					wantQueues(t, got, n.Window.Keys, without(n.Trial.Keys, key), ahead(safe[:inSafe], key))
					continue
				}
				last := safe[len(safe)-1]
				wantQueues(t, got, n.Window.Keys, ahead(without(n.Trial.Keys, key), last), ahead(safe[:inSafe-1], key))
			}
		}
	}
}

// Two slots have a Safe of Most 0: a key in Trial is touched there.
func TestWantKeyInTrialWithoutSafe(t *testing.T) {
	n := nearOf(2, []string{"w"}, []string{"t"}, nil)
	got, val, ok := want(t, n, "t")
	if n.Safe.Most != 0 || val != "val of t" || !ok {
		t.Fatalf("WantKey(%v, t) = %v, %q, %v", n, got, val, ok)
	}
	wantQueues(t, got, []string{"w"}, []string{"t"}, nil)
	if got, gone, ok := keep(t, n, "t", "new"); gone != "" || !ok || !slices.Equal(got.Trial.Keys, []string{"t"}) {
		t.Errorf("KeepKey(%v, t) = %v, %q, %v", n, got, gone, ok)
	}
}

// A key that is not there is counted, and nothing else is changed.
func TestWantKeyThatIsNotThere(t *testing.T) {
	for _, n := range nearsToTry() {
		for _, key := range []string{"not there", "key", "key00", "\x00", "eleven here", "twelve bytes"} {
			got, val, ok := want(t, n, key)
			if val != "" || ok {
				t.Fatalf("WantKey(%v, %.20q) = %q, %v", n, key, val, ok)
			}
			if ruleSeen(n.Door, key) == sameSketch(got.Sketch, n.Sketch) || !ruleSeen(got.Door, key) && got.Sketch.Adds != 0 {
				t.Fatalf("WantKey(%v, %.20q) = %v: not counted", n, key, got)
			}
			got.Sketch, got.Door = n.Sketch, n.Door
			if !sameNear(got, n) {
				t.Fatalf("WantKey(%v, %.20q) = %v: more than counted", n, key, got)
			}
		}
	}
}

// countedBy are the calls that count a key, be it there or not.
func countedBy(t *testing.T, n impl.Near, key string) map[string]impl.Near {
	t.Helper()
	wanted, _, _ := want(t, n, key)
	kept, _, _ := keep(t, n, key, "val")
	return map[string]impl.Near{"WantKey": wanted, "KeepKey": kept}
}

// A key that the Door has not seen is marked, and not counted; one that it has seen is counted.
func TestCountedOrMarked(t *testing.T) {
	for _, size := range []int{1, 2, 4, 24} {
		for _, n := range []impl.Near{nearOf(size, nil, nil, nil), fullNear(size)} {
			for _, key := range []string{"key0", "key" + strconv.Itoa(size-1), "not there"} {
				for _, adds := range []int{0, 1, 98, 99} {
					n.Sketch = sketchOf(adds, map[int]int{ruleCounts(key)[0]: 3, ruleCounts(key)[1]: 15, 47: 5})
					n.Door = impl.Door{}
					for what, got := range countedBy(t, n, key) {
						if got.Door != ruleMark(impl.Door{}, key) || !sameSketch(got.Sketch, n.Sketch) {
							t.Fatalf("%s of %q, not seen, makes %v, %v of %v", what, key, got.Door, got.Sketch, n.Sketch)
						}
					}
					n.Door = ruleMark(ruleMark(n.Door, key), "another")
					for what, got := range countedBy(t, n, key) {
						wantDoor := n.Door
						if adds == 99 {
							wantDoor = impl.Door{}
						}
						if got.Door != wantDoor || !sameSketch(got.Sketch, ruleCount(n.Sketch, key)) {
							t.Fatalf("%s of %q, seen, makes %v, %v of %v, %v", what, key, got.Door, got.Sketch, n.Door, n.Sketch)
						}
					}
				}
			}
		}
	}
}

// One of both bits is not enough: the key is marked.
func TestCountedByOneBitAlone(t *testing.T) {
	for _, key := range nearNames(40) {
		places := rulePlaces(key)
		if places[0] == places[1] {
			continue
		}
		for _, place := range places {
			n := fullNear(5)
			n.Door.Bits = bitAt(place)
			for what, got := range countedBy(t, n, key) {
				if got.Door != ruleMark(impl.Door{}, key) || !sameSketch(got.Sketch, n.Sketch) {
					t.Fatalf("%s of %q, with one of its bits, makes %v, %v", what, key, got.Door, got.Sketch)
				}
			}
		}
	}
}

// The hundredth count halves all and clears the Door; from then on a key is marked first, again.
func TestDoorIsClearedByTheHundredthCount(t *testing.T) {
	n := newNear(t, 4)
	for round := range 3 {
		n, _, _ = want(t, n, "k")
		if !ruleSeen(n.Door, "k") || n.Sketch.Adds != 0 {
			t.Fatalf("round %d: the first time, k makes %v, %v", round, n.Door, n.Sketch)
		}
		for adds := 1; adds <= 99; adds++ {
			n, _, _ = want(t, n, "k")
			if n.Sketch.Adds != adds || n.Door.Bits == 0 {
				t.Fatalf("round %d: counted %d times, k makes %v, %v", round, adds, n.Door, n.Sketch)
			}
		}
		if n, _, _ = want(t, n, "k"); n.Sketch.Adds != 0 || n.Door.Bits != 0 {
			t.Fatalf("round %d: counted 100 times, k makes %v, %v", round, n.Door, n.Sketch)
		}
	}
}

// A key that is there has the new Val in its slot, one Gen on; nothing is let go, and it is touched as WantKey does.
func TestKeepKeyThatIsThere(t *testing.T) {
	for _, n := range nearsToTry() {
		for _, key := range queuedKeys(n) {
			for _, val := range []string{"", "a new val", valOf(key), strings.Repeat("v", 20)} {
				got, gone, ok := keep(t, n, key, val)
				if gone != "" || !ok || impl.SizeOf(got) != impl.SizeOf(n) {
					t.Fatalf("KeepKey(%v, %q, %q) = %v, %q, %v", n, key, val, got, gone, ok)
				}
				before, _ := impl.SeekKey(n.Table, key)
				handle, ok := impl.SeekKey(got.Table, key)
				if !ok || handle != before+24 {
					t.Fatalf("KeepKey(%v, %q) has the handle %d, %v; it was %d", n, key, handle, ok, before)
				}
				wantLook(t, got.Arena, handle, key, val)
				wantNoHandle(t, got.Arena, before)
				wanted, _, _ := want(t, n, key)
				wantQueues(t, got, wanted.Window.Keys, wanted.Trial.Keys, wanted.Safe.Keys)
				if _, has, ok := want(t, got, key); has != val || !ok {
					t.Fatalf("%q was kept as %q, and is wanted as %q, %v", key, val, has, ok)
				}
			}
		}
	}
}

// Behind the greatest Gen of its slot, an entry that is kept anew has Gen 0.
func TestKeepKeyWhereGenBeginsAnew(t *testing.T) {
	n := fullNear(4)
	for place, s := range n.Arena.Slots {
		n.Arena.Slots[place].Gen = mostGen
		n.Table.Cells[ruleWhere(n.Table.Cells, s.Key)].Handle = 24*mostGen + place
	}
	wantRightNear(t, "the greatest Gen", n)
	for place, s := range n.Arena.Slots {
		got, _, ok := keep(t, n, s.Key, "anew")
		if handle, _ := impl.SeekKey(got.Table, s.Key); !ok || handle != place || got.Arena.Slots[place].Gen != 0 {
			t.Errorf("KeepKey of %q has the handle %d; want %d", s.Key, handle, place)
		}
	}
	for place, s := range n.Arena.Slots {
		if n.Arena.Slots[place].Gen = mostGen + 1; impl.NearOk(n) {
			t.Errorf("NearOk with a Gen too great at %d = true", place)
		}
		n.Arena.Slots[place] = s
	}
}

// New keys come, until Window and Trial are full and beyond: one is let go for each, and Safe stays empty.
func TestKeepKeyUntilFullAndBeyond(t *testing.T) {
	for size := 2; size <= 24; size++ {
		s, n := ruleShape(size), newNear(t, size)
		room := s.window + s.trial
		for i, key := range nearNames(size + 200) {
			got, gone, ok := keep(t, n, key, strconv.Itoa(i))
			if !ok || (gone == "") != (i < room) || impl.SizeOf(got) != min(i+1, room) || len(got.Safe.Keys) != 0 {
				t.Fatalf("size %d: KeepKey of the key %d = %v, %q, %v", size, i, got, gone, ok)
			}
			if got.Window.Keys[0] != key {
				t.Fatalf("size %d: %q was kept, and Window has %q", size, key, got.Window.Keys)
			}
			if gone != "" && !slices.Contains(queuedKeys(n), gone) {
				t.Fatalf("size %d: %q is let go, which was not there: %v", size, gone, n)
			}
			if _, val, ok := want(t, got, gone); val != "" || ok {
				t.Fatalf("size %d: %q was let go, and is wanted as %q", size, gone, val)
			}
			n = got
		}
	}
}

// With Safe full, too, each slot is used: the slot of what is let go is that of the new entry.
func TestKeepKeyWhereAllSlotsAreUsed(t *testing.T) {
	for size := 1; size <= 24; size++ {
		n := fullNear(size)
		for i, key := range nearNames(150)[size:] {
			place := -1
			got, gone, ok := keep(t, n, key, strconv.Itoa(i))
			for at, s := range n.Arena.Slots {
				if s.Key == gone {
					place = at
				}
			}
			if !ok || place < 0 || impl.SizeOf(got) != size || got.Arena.Free != -1 {
				t.Fatalf("KeepKey(%v, %q) = %v, %q, %v", n, key, got, gone, ok)
			}
			if s := got.Arena.Slots[place]; s != filled(n.Arena.Slots[place].Gen+1, key, strconv.Itoa(i)) {
				t.Fatalf("size %d: %q was let go for %q, and its slot has %v", size, gone, key, s)
			}
			n = got
		}
	}
}

// usedUp has every cell without a key CellGone, but for one that is CellNone.
func usedUp(n impl.Near, none int) impl.Near {
	n = cloneNear(n)
	for place, c := range n.Table.Cells {
		if c.Key == "" && place != none {
			n.Table.Cells[place] = goneCell()
		}
	}
	return n
}

// goneIn counts the cells that are CellGone.
func goneIn(a impl.Table) int {
	count := 0
	for _, c := range a.Cells {
		if c == goneCell() {
			count++
		}
	}
	return count
}

// Free cells are used up by keys that are gone: where the only CellNone would be taken, all keys are laid anew first.
func TestKeepKeyWithCellsUsedUp(t *testing.T) {
	for size := 2; size <= 24; size++ {
		whole := nearOf(size, nearNames(1), nil, nil)
		cells := len(whole.Table.Cells)
		for none, c := range whole.Table.Cells {
			if c != noneCell() {
				continue
			}
			n := usedUp(whole, none)
			wantRightNear(t, "cells used up", n)
			got, gone, ok := keep(t, n, keyAt(cells, none, 0), "val")
			if !ok || gone != "" || goneIn(got.Table) != 0 || impl.SizeOf(got) != 2 {
				t.Fatalf("KeepKey where the only CellNone is first, %v, = %v, %q, %v", n, got, gone, ok)
			}
			// The cell ahead of it is CellGone, or has the key; another one, then, is ahead of that.
			home := (none + cells - 1) % cells
			for n.Table.Cells[home] != goneCell() {
				home = (home + cells - 1) % cells
			}
			got, gone, ok = keep(t, n, keyAt(cells, home, 0), "val")
			if !ok || gone != "" || goneIn(got.Table) != cells-3 || got.Table.Cells[home].Key == "" {
				t.Fatalf("KeepKey where a CellGone is first, %v, = %v, %q, %v", n, got, gone, ok)
			}
			// A key that is there stays in its cell, and no cell is asked for.
			got, _, _ = keep(t, n, "key0", "anew")
			if goneIn(got.Table) != cells-2 || ruleWhere(got.Table.Cells, "key0") != ruleWhere(n.Table.Cells, "key0") {
				t.Fatalf("KeepKey of the key in %v = %v", n, got)
			}
		}
	}
}

// Where all slots are used, the cell of what is let go is CellGone ahead of the new key's way.
func TestKeepKeyIntoTheCellOfWhatIsLetGo(t *testing.T) {
	for size := 1; size <= 8; size++ {
		whole := fullNear(size)
		cells := len(whole.Table.Cells)
		for none, c := range whole.Table.Cells {
			if c != noneCell() {
				continue
			}
			n := usedUp(whole, none)
			for home := range cells {
				got, gone, ok := keep(t, n, keyAt(cells, home, 30), "val")
				if !ok || gone == "" || impl.SizeOf(got) != size || !impl.TableOk(got.Table) {
					t.Fatalf("KeepKey(%v, a key of %d) = %v, %q, %v", n, home, got, gone, ok)
				}
			}
		}
	}
}

// Keys come and go, one at a time: again and again their cells are used up, and laid anew.
func TestKeepKeyAndForgetKeyInTurn(t *testing.T) {
	for size := 2; size <= 24; size++ {
		n, cleaned := newNear(t, size), 0
		for _, key := range nearNames(400) {
			kept, gone, ok := keep(t, n, key, "val")
			if !ok || gone != "" || impl.SizeOf(kept) != 1 {
				t.Fatalf("size %d: KeepKey of %q = %v, %q, %v", size, key, kept, gone, ok)
			}
			if goneIn(kept.Table) < goneIn(n.Table)-1 {
				cleaned++
			}
			n, ok = forget(t, kept, key)
			if !ok || impl.SizeOf(n) != 0 {
				t.Fatalf("size %d: ForgetKey of %q = %v, %v", size, key, n, ok)
			}
		}
		if cleaned == 0 {
			t.Errorf("size %d: the cells were never laid anew", size)
		}
	}
}

func TestKeepKeyLimits(t *testing.T) {
	for _, n := range []impl.Near{newNear(t, 2), newNear(t, 24), fullNear(1), fullNear(2), fullNear(4), fullNear(24)} {
		for _, b := range []string{"x", "\x00", "\x80", "\xff"} {
			for _, length := range []int{0, 1, 2, 11, 12, 13, 14, 20, 21, 600, 100000} {
				for _, valLength := range []int{0, 1, 12, 13, 19, 20, 21, 22, 600, 100000} {
					key, val := strings.Repeat(b, length), strings.Repeat(b, valLength)
					got, gone, ok := keep(t, n, key, val)
					if ok != (length >= 1 && length <= 12 && valLength <= 20) {
						t.Fatalf("KeepKey of %d bytes, and a val of %d, is %v", length, valLength, ok)
					}
					if !ok && (!sameNear(got, impl.Near{}) || gone != "") {
						t.Fatalf("KeepKey of %d bytes, and a val of %d, = %v, %q", length, valLength, got, gone)
					}
					if _, has, there := impl.WantKey(got, key); ok && (has != val || !there) {
						t.Fatalf("kept with %d bytes as %q, it is wanted as %q, %v", length, val, has, there)
					}
				}
			}
		}
		for _, key := range queuedKeys(n) {
			if got, gone, ok := keep(t, n, key, strings.Repeat("v", 21)); ok || gone != "" || !sameNear(got, impl.Near{}) {
				t.Fatalf("KeepKey of %q, which is there, and a val too long = %v, %q, %v", key, got, gone, ok)
			}
		}
	}
}

// An entry that is forgotten is gone from its queue, from the Table and from its slot; nothing is counted.
func TestForgetKeyInEachQueue(t *testing.T) {
	for _, n := range nearsToTry() {
		for _, key := range queuedKeys(n) {
			got, ok := forget(t, n, key)
			if !ok || impl.SizeOf(got) != impl.SizeOf(n)-1 || !impl.NearOk(got) {
				t.Fatalf("ForgetKey(%v, %q) = %v, %v", n, key, got, ok)
			}
			wantQueues(t, got, without(n.Window.Keys, key), without(n.Trial.Keys, key), without(n.Safe.Keys, key))
			if ruleWhere(got.Table.Cells, key) >= 0 || slices.Contains(usedKeys(got.Arena), key) {
				t.Fatalf("ForgetKey(%v, %q) = %v: not gone from all", n, key, got)
			}
			if !sameSketch(got.Sketch, n.Sketch) || got.Door != n.Door {
				t.Fatalf("ForgetKey(%v, %q) = %v: counted", n, key, got)
			}
			if again, ok := forget(t, got, key); ok || !sameNear(again, impl.Near{}) {
				t.Fatalf("ForgetKey of %q, once more, = %v, %v", key, again, ok)
			}
			if _, val, ok := want(t, got, key); val != "" || ok {
				t.Fatalf("%q was forgotten, and is wanted as %q, %v", key, val, ok)
			}
		}
	}
}

func TestForgetKeyThatIsNotThere(t *testing.T) {
	for _, n := range nearsToTry() {
		for _, key := range []string{"", "key", "not there", "twelve bytes", "thirteen here", strings.Repeat("long", 5000)} {
			if got, ok := forget(t, n, key); ok || !sameNear(got, impl.Near{}) {
				t.Fatalf("ForgetKey(%v, %.20q) = %v, %v", n, key, got, ok)
			}
		}
	}
}

// Where everything is forgotten, in one order and another, nothing is left, and all is kept anew.
func TestForgetAllInOrders(t *testing.T) {
	for size := 1; size <= 24; size++ {
		for _, order := range orders(size) {
			n := fullNear(size)
			for i, at := range order {
				n, _ = forget(t, n, nearNames(size)[at])
				if impl.SizeOf(n) != size-i-1 {
					t.Fatalf("SizeOf(%v) = %d; want %d", n, impl.SizeOf(n), size-i-1)
				}
			}
			if len(queuedKeys(n)) != 0 || len(ruleKeys(n.Table)) != 0 {
				t.Fatalf("all were forgotten: %v", n)
			}
			if n, gone, ok := keep(t, n, "anew", "val"); gone != "" || !ok || impl.SizeOf(n) != 1 {
				t.Fatalf("KeepKey behind all = %v, %q, %v", n, gone, ok)
			}
		}
	}
}
