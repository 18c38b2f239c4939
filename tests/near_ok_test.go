package tests

import (
	"math"
	"slices"
	"strings"
	"testing"

	"loop.example/g00180/impl"
)

// nearChange makes near entries others.
type nearChange struct {
	what string
	make func(n *impl.Near)
}

// someNear has room in each part, and entries in each queue: w and v in Window, t and u in Trial, s in Safe.
func someNear() impl.Near {
	return nearOf(8, []string{"w", "v"}, []string{"t", "u"}, []string{"s"})
}

// cellOf is the cell of a key that is there.
func cellOf(n *impl.Near, key string) *cell {
	return &n.Table.Cells[ruleWhere(n.Table.Cells, key)]
}

// slotWith is the slot of a key that is there.
func slotWith(n *impl.Near, key string) *slot {
	return &n.Arena.Slots[slices.IndexFunc(n.Arena.Slots, func(s slot) bool { return s.Key == key })]
}

// takeCell takes a key out of the Table alone.
func takeCell(n *impl.Near, key string) { n.Table, _ = ruleTake(n.Table, key) }

// putCell puts a key into the Table alone.
func putCell(n *impl.Near, key string, handle int) { n.Table, _ = rulePut(n.Table, key, handle) }

func dropKey(q *impl.Queue, key string) { *q, _ = ruleDrop(*q, key) }

func pushKey(q *impl.Queue, key string) { *q, _, _ = rulePush(*q, key) }

// partChanges make one part not right by itself.
func partChanges() []nearChange {
	long := strings.Repeat("k", 13)
	return []nearChange{
		{"no slots", func(n *impl.Near) { n.Arena = impl.Arena{} }},
		{"no slots, and a chain of none", func(n *impl.Near) { n.Arena = impl.Arena{Free: -1} }},
		{"a Gen below 0", func(n *impl.Near) { n.Arena.Slots[6].Gen = -1 }},
		{"a Gen too great", func(n *impl.Near) { n.Arena.Slots[6].Gen = mostGen + 1 }},
		{"a chain out of the slots", func(n *impl.Near) { n.Arena.Free = 8 }},
		{"a chain that leaves slots out", func(n *impl.Near) { n.Arena.Free = -1 }},
		{"a chain that is a circle", func(n *impl.Near) { n.Arena.Slots[7].Next = 5 }},
		{"a slot that is free, with a Val", func(n *impl.Near) { n.Arena.Slots[7].Val = "val" }},
		{"a slot that is Used, with a Next", func(n *impl.Near) { n.Arena.Slots[0].Next = 1 }},
		{"a Val too long", func(n *impl.Near) { n.Arena.Slots[0].Val = strings.Repeat("v", 21) }},
		{"no cells", func(n *impl.Near) { n.Table = impl.Table{} }},
		{"no cell that is CellNone", func(n *impl.Near) { *n = usedUp(*n, -1) }},
		{"a cell with a handle and no key", func(n *impl.Near) { n.Table.Cells[ruleWhereNone(*n)].Handle = 0 }},
		{"a cell of another kind", func(n *impl.Near) { n.Table.Cells[ruleWhereNone(*n)].Handle = -3 }},
		{"a handle below 0", func(n *impl.Near) { cellOf(n, "w").Handle = -1 }},
		{"Moved, and no Old", func(n *impl.Near) { n.Table.Moved = 1 }},
		{"Moved below 0", func(n *impl.Near) { n.Table.Moved = -1 }},
		{"a key twice in Window", func(n *impl.Near) { n.Window.Keys[1] = "w" }},
		{"an empty key in Window", func(n *impl.Near) { n.Window.Keys[1] = "" }},
		{"more in Window than Most", func(n *impl.Near) { n.Window.Keys = append(n.Window.Keys, "x") }},
		{"more in Window than Most, from Trial", func(n *impl.Near) { dropKey(&n.Trial, "t"); n.Window.Keys = []string{"t", "w", "v"} }},
		{"a key twice in Trial", func(n *impl.Near) { n.Trial.Keys[0] = "u" }},
		{"a key too long in Trial", func(n *impl.Near) { n.Trial.Keys[1] = long }},
		{"more in Trial than Most", func(n *impl.Near) { n.Trial.Keys = append(n.Trial.Keys, "x", "y") }},
		{"more in Trial than Most, from Window", func(n *impl.Near) { n.Window.Keys, n.Trial.Keys = nil, []string{"t", "u", "v", "w"} }},
		{"a key twice in Safe", func(n *impl.Near) { n.Safe.Keys = []string{"s", "s"} }},
		{"a key too long in Safe", func(n *impl.Near) { n.Safe.Keys[0] = long }},
		{"more in Safe than Most", func(n *impl.Near) { n.Safe.Keys = append(n.Safe.Keys, "x", "y", "z") }},
		{"more in Safe than Most, all there are", func(n *impl.Near) {
			n.Window.Keys, n.Trial.Keys, n.Safe.Keys = nil, nil, []string{"s", "t", "u", "v", "w"}
		}},
		{"no counts", func(n *impl.Near) { n.Sketch = impl.Sketch{} }},
		{"a count too few", func(n *impl.Near) { n.Sketch.Counts = n.Sketch.Counts[:47] }},
		{"a count too many", func(n *impl.Near) { n.Sketch.Counts = append(n.Sketch.Counts, 0) }},
		{"a count too great", func(n *impl.Near) { n.Sketch.Counts[47] = 16 }},
		{"a count below 0", func(n *impl.Near) { n.Sketch.Counts[0] = -1 }},
		{"Adds below 0", func(n *impl.Near) { n.Sketch.Adds = -1 }},
		{"Adds too great", func(n *impl.Near) { n.Sketch.Adds = 100 }},
		{"Bits below 0", func(n *impl.Near) { n.Door.Bits = -1 }},
		{"Bits too great", func(n *impl.Near) { n.Door.Bits = 1 << 32 }},
		{"the greatest Bits", func(n *impl.Near) { n.Door.Bits = math.MaxInt }},
		{"nothing at all", func(n *impl.Near) { *n = impl.Near{} }},
	}
}

// ruleWhereNone is the place of the first cell that is CellNone.
func ruleWhereNone(n impl.Near) int { return slices.Index(n.Table.Cells, noneCell()) }

// shapeChanges leave each part right by itself, but one is not as great as it should be.
func shapeChanges() []nearChange {
	inTable := func(size int) func(n *impl.Near) {
		return func(n *impl.Near) {
			cells := noneCells(size)
			for _, key := range ruleKeys(n.Table) {
				ruleLay(cells, key, cellOf(n, key).Handle)
			}
			n.Table = tableOf(cells...)
		}
	}
	return []nearChange{
		{"Old of none", func(n *impl.Near) { n.Table.Old = noneCells(16) }},
		{"Old, all of them gone", func(n *impl.Near) { n.Table.Old = goneCells(16) }},
		{"Old, all of them moved", func(n *impl.Near) { n.Table.Old, n.Table.Moved = goneCells(16), 16 }},
		{"all keys in Old", func(n *impl.Near) {
			inTable(16)(n)
			n.Table, _ = ruleGrow(n.Table)
		}},
		{"half as many cells", inTable(16)},
		{"twice as many cells", inTable(64)},
		{"the fewest cells that have room", inTable(8)},
		{"Window one greater", func(n *impl.Near) { n.Window.Most++ }},
		{"Window one greater, Trial one less", func(n *impl.Near) { n.Window.Most++; n.Trial.Most-- }},
		{"Trial one greater", func(n *impl.Near) { n.Trial.Most++ }},
		{"Trial one less", func(n *impl.Near) { n.Trial.Most-- }},
		{"Trial one greater, Safe one less", func(n *impl.Near) { n.Trial.Most++; n.Safe.Most-- }},
		{"Trial one less, Safe one greater", func(n *impl.Near) { n.Trial.Most--; n.Safe.Most++ }},
		{"Safe one greater", func(n *impl.Near) { n.Safe.Most++ }},
		{"Safe one less", func(n *impl.Near) { n.Safe.Most-- }},
		{"Window as great as all", func(n *impl.Near) { n.Window.Most = 8 }},
		{"each as great as may be", func(n *impl.Near) { n.Window.Most, n.Trial.Most, n.Safe.Most = 24, 24, 24 }},
		{"a slot more", func(n *impl.Near) {
			n.Arena.Slots[7].Next = 8
			n.Arena.Slots = append(n.Arena.Slots, freed(0, -1))
		}},
		{"a slot less", func(n *impl.Near) {
			n.Arena.Slots = n.Arena.Slots[:7]
			n.Arena.Slots[6].Next = -1
		}},
	}
}

// keyChanges leave each part right by itself, and as great as it should be, but they do not have the same keys.
func keyChanges() []nearChange {
	return []nearChange{
		{"a key of Window in Trial, too", func(n *impl.Near) { pushKey(&n.Trial, "w") }},
		{"a key of Window in Safe, too", func(n *impl.Near) { pushKey(&n.Safe, "v") }},
		{"a key of Trial in Safe, too", func(n *impl.Near) { pushKey(&n.Safe, "t") }},
		{"a key of Safe in Trial, too", func(n *impl.Near) { pushKey(&n.Trial, "s") }},
		{"a key of Window in Trial in place of another", func(n *impl.Near) { n.Trial.Keys[0] = "w" }},
		{"a key of Safe in Window in place of another", func(n *impl.Near) { n.Window.Keys[0] = "s" }},
		{"a key in all three", func(n *impl.Near) { n.Trial.Keys[0], n.Safe.Keys[0] = "w", "w" }},
		{"a key in Window alone", func(n *impl.Near) { n.Window.Keys[0] = "alone" }},
		{"a key more in Trial alone", func(n *impl.Near) { pushKey(&n.Trial, "alone") }},
		{"a key more in Safe alone", func(n *impl.Near) { pushKey(&n.Safe, "alone") }},
		{"a key in no queue, but in the Table and a slot", func(n *impl.Near) { dropKey(&n.Window, "w") }},
		{"a key of Trial in no queue", func(n *impl.Near) { dropKey(&n.Trial, "u") }},
		{"a key of Safe in no queue", func(n *impl.Near) { dropKey(&n.Safe, "s") }},
		{"a key more in the Table alone, of a free slot", func(n *impl.Near) { putCell(n, "alone", 7) }},
		{"a key more in the Table alone, of the slot of another", func(n *impl.Near) { putCell(n, "alone", cellOf(n, "w").Handle) }},
		{"a key not in the Table", func(n *impl.Near) { takeCell(n, "s") }},
		{"a key in the Table under another name", func(n *impl.Near) {
			handle := cellOf(n, "s").Handle
			takeCell(n, "s")
			putCell(n, "alone", handle)
		}},
		{"a key more in a slot alone", func(n *impl.Near) { *n = withSlot(*n, "alone") }},
		{"a key in two slots", func(n *impl.Near) { *n = withSlot(*n, "w") }},
		{"a key in no slot", func(n *impl.Near) { *n = ruleLiftEntry(*n, "t") }},
		{"a key in no slot, but another one there", func(n *impl.Near) { slotWith(n, "t").Key = "alone" }},
		{"two slots with one key, and none with another", func(n *impl.Near) { slotWith(n, "t").Key = "w" }},
		{"in a queue and the Table, in no slot", func(n *impl.Near) { pushKey(&n.Safe, "alone"); putCell(n, "alone", 7) }},
		{"in a queue and a slot, not in the Table", func(n *impl.Near) { pushKey(&n.Safe, "alone"); *n = withSlot(*n, "alone") }},
		{"in the Table and a slot, in no queue", func(n *impl.Near) { *n = ruleLayEntry(*n, "alone", "val") }},
		{"no queue has keys", func(n *impl.Near) { n.Window.Keys, n.Trial.Keys, n.Safe.Keys = nil, nil, nil }},
		{"the Table has no keys", func(n *impl.Near) { n.Table = tableOf(noneCells(32)...) }},
		{"the slots have no keys", func(n *impl.Near) { n.Arena = nearOf(8, nil, nil, nil).Arena }},
	}
}

// withSlot has an entry laid in a slot, and nowhere else.
func withSlot(n impl.Near, key string) impl.Near {
	table := n.Table
	n = ruleLayEntry(n, key, "val")
	n.Table = table
	return n
}

// handleChanges have the same keys in all parts, but a Handle is not of a slot with its key.
func handleChanges() []nearChange {
	return []nearChange{
		{"two handles changed for each other", func(n *impl.Near) {
			one, other := cellOf(n, "w"), cellOf(n, "s")
			one.Handle, other.Handle = other.Handle, one.Handle
		}},
		{"the handle of another key", func(n *impl.Near) { cellOf(n, "w").Handle = cellOf(n, "u").Handle }},
		{"a handle of the next Gen", func(n *impl.Near) { cellOf(n, "t").Handle += 24 }},
		{"a handle of the Gen before", func(n *impl.Near) { cellOf(n, "v").Handle -= 24 }},
		{"a handle of the place behind", func(n *impl.Near) { cellOf(n, "s").Handle++ }},
		{"a handle of a free slot", func(n *impl.Near) { cellOf(n, "s").Handle = 24*n.Arena.Slots[6].Gen + 6 }},
		{"a handle of a place past the slots", func(n *impl.Near) { cellOf(n, "s").Handle = 23 }},
		{"a handle of a Gen too great", func(n *impl.Near) { cellOf(n, "s").Handle = math.MaxInt }},
		{"a handle in a Gen of the first place", func(n *impl.Near) { cellOf(n, "u").Handle = 0 }},
		{"a Gen that went on", func(n *impl.Near) { slotWith(n, "w").Gen++ }},
		{"two slots changed for each other", func(n *impl.Near) {
			one, other := slotWith(n, "w"), slotWith(n, "v")
			*one, *other = *other, *one
		}},
		{"two keys changed for each other", func(n *impl.Near) {
			one, other := slotWith(n, "w"), slotWith(n, "v")
			one.Key, other.Key = other.Key, one.Key
		}},
	}
}

func TestNearOkOneThingBroken(t *testing.T) {
	wantRightNear(t, "some", someNear())
	for _, changes := range [][]nearChange{partChanges(), shapeChanges(), keyChanges(), handleChanges()} {
		for _, c := range changes {
			n := someNear()
			c.make(&n)
			wantWrongNear(t, c.what, n)
		}
	}
}

// What the changes of shape, keys and handles leave is right part by part: it is the whole that is not.
func TestNearOkPartsRightByThemselves(t *testing.T) {
	for _, changes := range [][]nearChange{shapeChanges(), keyChanges(), handleChanges()} {
		for _, c := range changes {
			n := someNear()
			c.make(&n)
			if !arenaRight(n.Arena) || !ruleRight(n.Table) || !ruleSketchRight(n.Sketch) || !ruleDoorRight(n.Door) {
				t.Errorf("%s: a part is not right: %v", c.what, n)
			}
			if !ruleQueueRight(n.Window) || !ruleQueueRight(n.Trial) || !ruleQueueRight(n.Safe) {
				t.Errorf("%s: a queue is not right: %v", c.what, n)
			}
		}
	}
}

// What makes no difference: where a key stands among the queues, slots and cells, its Val, what was counted.
func TestNearOkOthersThatAreRight(t *testing.T) {
	for _, c := range []nearChange{
		{"a key in another queue", func(n *impl.Near) { dropKey(&n.Window, "w"); pushKey(&n.Safe, "w") }},
		{"keys in another order", func(n *impl.Near) { slices.Reverse(n.Trial.Keys) }},
		{"all in one queue less", func(n *impl.Near) { dropKey(&n.Safe, "s"); pushKey(&n.Trial, "s") }},
		{"another Val", func(n *impl.Near) { n.Arena.Slots[0].Val = strings.Repeat("v", 20) }},
		{"no Val", func(n *impl.Near) { n.Arena.Slots[0].Val = "" }},
		{"a key under another name, everywhere", func(n *impl.Near) {
			handle := cellOf(n, "s").Handle
			takeCell(n, "s")
			putCell(n, "twelve bytes", handle)
			slotWith(n, "s").Key = "twelve bytes"
			n.Safe.Keys[0] = "twelve bytes"
		}},
		{"the greatest Gen", func(n *impl.Near) {
			slotWith(n, "w").Gen = mostGen
			cellOf(n, "w").Handle = 24 * mostGen
		}},
		{"Gens of free slots", func(n *impl.Near) { n.Arena.Slots[5].Gen, n.Arena.Slots[7].Gen = mostGen, 0 }},
		{"one CellNone left", func(n *impl.Near) { *n = usedUp(*n, ruleWhereNone(*n)) }},
		{"the greatest counts", func(n *impl.Near) { n.Sketch = evenSketch(99, 15) }},
		{"all bits", func(n *impl.Near) { n.Door.Bits = 1<<32 - 1 }},
		{"lists of none in place of nil", func(n *impl.Near) { n.Table.Old = []cell{} }},
	} {
		n := someNear()
		c.make(&n)
		wantRightNear(t, c.what, n)
	}
}

// numbersAbout are those beside a number, and such as are never right.
func numbersAbout(n int) []int {
	return []int{n - 24, n - 1, n + 1, n + 24, -3, -2, -1, 0, 1, 99, 100, math.MinInt, math.MaxInt}
}

// eachNearChange changes one number or text anywhere, to each other one that may be told apart from it.
func eachNearChange(n impl.Near, back func(impl.Near)) {
	changed := cloneNear(n)
	number := func(at *int) {
		before := *at
		for _, other := range numbersAbout(before) {
			*at = other
			back(changed)
		}
		*at = before
	}
	text := func(at *string) {
		before := *at
		for _, other := range append(queuedKeys(n), "", "new", strings.Repeat("x", 12), strings.Repeat("x", 13), strings.Repeat("x", 21)) {
			*at = other
			back(changed)
		}
		*at = before
	}
	for place := range changed.Arena.Slots {
		s := &changed.Arena.Slots[place]
		number(&s.Gen)
		number(&s.Next)
		text(&s.Key)
		text(&s.Val)
		s.Used = !s.Used
		back(changed)
		s.Used = !s.Used
	}
	for place := range changed.Table.Cells {
		number(&changed.Table.Cells[place].Handle)
		text(&changed.Table.Cells[place].Key)
	}
	for _, q := range []*impl.Queue{&changed.Window, &changed.Trial, &changed.Safe} {
		number(&q.Most)
		for place := range q.Keys {
			text(&q.Keys[place])
		}
	}
	for place := range changed.Sketch.Counts {
		number(&changed.Sketch.Counts[place])
	}
	for _, at := range []*int{&changed.Arena.Free, &changed.Table.Moved, &changed.Sketch.Adds, &changed.Door.Bits} {
		number(at)
	}
}

func TestNearOkOneThingChangedAnywhere(t *testing.T) {
	lifted, _ := ruleForget(fullNear(4), "key2")
	for _, n := range []impl.Near{
		nearOf(1, nil, nil, nil), fullNear(1), fullNear(2), fullNear(3), fullNear(4), lifted, someNear(), fullNear(8),
	} {
		right, wrong := 0, 0
		eachNearChange(n, func(changed impl.Near) {
			if ruleNearRight(changed) {
				right++
			} else {
				wrong++
			}
			if impl.NearOk(changed) != ruleNearRight(changed) {
				t.Fatalf("NearOk(%v) = %v; want %v", changed, impl.NearOk(changed), ruleNearRight(changed))
			}
		})
		if right == 0 || wrong == 0 {
			t.Errorf("%d changes of %v are right, %d are wrong", right, n, wrong)
		}
	}
}

// Every way to have two keys in the queues of two slots, in the cells and in the slots, or not.
func TestNearOkOfTwoSlots(t *testing.T) {
	keys := []string{"", "a", "b"}
	eachPick(8, 3, func(pick []int) {
		n := nearOf(2, nil, nil, nil)
		n.Window.Keys = slices.DeleteFunc([]string{keys[pick[0]]}, isEmpty)
		n.Trial.Keys = slices.DeleteFunc([]string{keys[pick[1]]}, isEmpty)
		for i, at := range []int{2, 3} {
			if key := keys[pick[at]]; key != "" && ruleWhere(n.Table.Cells, key) < 0 {
				putCell(&n, key, []int{0, 25, 24}[(pick[4+i]+i)%3])
			}
		}
		n.Arena = arenaOf(-1, slotOrFree(0, keys[pick[6]]), slotOrFree(1, keys[pick[7]]))
		for place := 1; place >= 0; place-- {
			if !n.Arena.Slots[place].Used {
				n.Arena.Slots[place].Next = n.Arena.Free
				n.Arena.Free = place
			}
		}
		if impl.NearOk(n) != ruleNearRight(n) {
			t.Fatalf("NearOk(%v) = %v; want %v", n, impl.NearOk(n), ruleNearRight(n))
		}
	})
}

func isEmpty(key string) bool { return key == "" }

// slotOrFree is Used with this key, or free when it is empty.
func slotOrFree(gen int, key string) slot {
	if key == "" {
		return freed(gen, -1)
	}
	return filled(gen, key, "")
}
