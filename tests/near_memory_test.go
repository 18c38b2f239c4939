package tests

import (
	"slices"
	"strings"
	"testing"

	"loop.example/g00180/impl"
)

// nearLists are the lists of near entries, up to the end of the spare room behind them.
type nearLists struct {
	slots  []slot
	cells  []cell
	old    []cell
	queues [3][]string
	counts []int
}

// listsOf are the lists themselves, not copies.
func listsOf(n impl.Near) nearLists {
	return nearLists{
		slots: n.Arena.Slots[:cap(n.Arena.Slots)],
		cells: n.Table.Cells[:cap(n.Table.Cells)],
		old:   n.Table.Old[:cap(n.Table.Old)],
		queues: [3][]string{
			n.Window.Keys[:cap(n.Window.Keys)], n.Trial.Keys[:cap(n.Trial.Keys)], n.Safe.Keys[:cap(n.Safe.Keys)],
		},
		counts: n.Sketch.Counts[:cap(n.Sketch.Counts)],
	}
}

func (l nearLists) clone() nearLists {
	l.slots, l.cells, l.old, l.counts = slices.Clone(l.slots), slices.Clone(l.cells), slices.Clone(l.old), slices.Clone(l.counts)
	for i, keys := range l.queues {
		l.queues[i] = slices.Clone(keys)
	}
	return l
}

func (l nearLists) same(other nearLists) bool {
	for i, keys := range l.queues {
		if !slices.Equal(keys, other.queues[i]) {
			return false
		}
	}
	return slices.Equal(l.slots, other.slots) && slices.Equal(l.cells, other.cells) &&
		slices.Equal(l.old, other.old) && slices.Equal(l.counts, other.counts)
}

// write writes into each place of each list, of the spare room too.
func (l nearLists) write() {
	for i := range l.slots {
		l.slots[i] = filled(9, "written", "written")
	}
	for _, cells := range [][]cell{l.cells, l.old} {
		for i := range cells {
			cells[i] = cell{Key: "written", Handle: 9}
		}
	}
	for _, keys := range l.queues {
		for i := range keys {
			keys[i] = "written"
		}
	}
	for i := range l.counts {
		l.counts[i] = 9
	}
}

// withSpareNear are the same near entries, with spare room behind each list.
func withSpareNear(n impl.Near) impl.Near {
	n.Arena = withSpare(n.Arena)
	n.Table.Cells = withSpareCells(n.Table.Cells)
	n.Table.Old = withSpareCells(n.Table.Old)
	n.Window, _ = withSpareKeys(n.Window)
	n.Trial, _ = withSpareKeys(n.Trial)
	n.Safe, _ = withSpareKeys(n.Safe)
	n.Sketch.Counts = append(slices.Clone(n.Sketch.Counts), 7, 8)[:len(n.Sketch.Counts)]
	return n
}

// nearsToKeep are right ones, with keys that are counted and such as are not, and wrong ones.
func nearsToKeep() []impl.Near {
	nears := []impl.Near{
		nearOf(1, nil, nil, nil), fullNear(1), nearOf(2, nil, nil, nil), fullNear(2), fullNear(3), fullNear(4), someNear(), fullNear(24),
		usedUp(someNear(), ruleWhereNone(someNear())),
	}
	for _, n := range []impl.Near{fullNear(4), someNear(), fullNear(24)} {
		n.Sketch, n.Door = evenSketch(99, 5), impl.Door{Bits: 1<<32 - 1}
		nears = append(nears, n)
	}
	for _, changes := range [][]nearChange{partChanges(), shapeChanges(), keyChanges(), handleChanges()} {
		for _, c := range changes {
			n := someNear()
			c.make(&n)
			nears = append(nears, n)
		}
	}
	return nears
}

// eachNear calls each function that answers near entries.
func eachNear(n impl.Near, back func(string, impl.Near)) {
	for _, key := range append(slices.Clone(queuedKeys(n)), "", "new", "another", "thirteen here") {
		wanted, _, _ := impl.WantKey(n, key)
		back("WantKey of "+key, wanted)
		kept, _, _ := impl.KeepKey(n, key, "a val")
		back("KeepKey of "+key, kept)
		forgotten, _ := impl.ForgetKey(n, key)
		back("ForgetKey of "+key, forgotten)
	}
}

// Nothing is written into what is handed in, nor behind it; and what is written into an answer is not seen there.
func TestNearArgumentsStay(t *testing.T) {
	for _, n := range nearsToKeep() {
		given := withSpareNear(n)
		lists := listsOf(given)
		before := lists.clone()
		impl.NearOk(given)
		impl.SizeOf(given)
		eachNear(given, func(what string, got impl.Near) {
			if !lists.same(before) || !sameNear(given, n) {
				t.Fatalf("%s changes its argument %v", what, n)
			}
			listsOf(got).write()
			if !lists.same(before) {
				t.Fatalf("%s of %v shares memory with its argument", what, n)
			}
		})
	}
}

// What stands in the spare room is no part of the lists: the answers are the same.
func TestNearSpareRoomIsNoPart(t *testing.T) {
	for _, n := range nearsToKeep() {
		var answers []impl.Near
		eachNear(n, func(_ string, got impl.Near) { answers = append(answers, got) })
		given := withSpareNear(n)
		if impl.NearOk(given) != impl.NearOk(n) || impl.SizeOf(given) != impl.SizeOf(n) {
			t.Fatalf("NearOk or SizeOf of %v hang on the spare room", n)
		}
		eachNear(given, func(what string, got impl.Near) {
			if !sameNear(got, answers[0]) {
				t.Fatalf("%s of %v hangs on the spare room", what, n)
			}
			answers = answers[1:]
		})
	}
}

// An answer stays what it was, whatever is written into what was handed in, or into another answer.
func TestNearAnswersStay(t *testing.T) {
	for _, n := range nearsToKeep() {
		given := withSpareNear(n)
		var answers, copies []impl.Near
		eachNear(given, func(_ string, got impl.Near) {
			answers = append(answers, got)
			copies = append(copies, cloneNear(got))
		})
		listsOf(given).write()
		for i, got := range answers {
			if !sameNear(got, copies[i]) {
				t.Fatalf("an answer changes with what was handed in, %v", n)
			}
			listsOf(got).write()
		}
	}
	one, other := newNear(t, 5), newNear(t, 5)
	listsOf(one).write()
	if !sameNear(other, newNear(t, 5)) {
		t.Error("two answers of NearNew share memory")
	}
}

// The three queues of one answer share nothing: what is written into one, or behind it, is in no other one.
func TestNearQueuesOfOneAnswer(t *testing.T) {
	for _, n := range nearsToKeep() {
		given := withSpareNear(n)
		eachNear(given, func(what string, got impl.Near) {
			lists := listsOf(got)
			for i, keys := range lists.queues {
				before := lists.clone()
				for place := range keys {
					keys[place] = "written"
				}
				before.queues[i] = keys
				if !lists.same(before) {
					t.Fatalf("%s of %v: a queue shares memory with another", what, n)
				}
			}
		})
	}
}

// textsOf are all texts of near entries.
func textsOf(n impl.Near) []string {
	texts := slices.Clone(queuedKeys(n))
	for _, s := range n.Arena.Slots {
		texts = append(texts, s.Key, s.Val)
	}
	for _, c := range slices.Concat(n.Table.Cells, n.Table.Old) {
		texts = append(texts, c.Key)
	}
	// Those of one byte stand in no memory of their own.
	return slices.DeleteFunc(texts, func(text string) bool { return len(text) < 2 })
}

// sharesAny tells whether a text stands in the memory of one of these.
func sharesAny(text string, others []string) bool {
	return len(text) > 1 && slices.ContainsFunc(others, func(other string) bool { return shares(text, other) })
}

func TestNearTextsAreNewMemory(t *testing.T) {
	wrong := fullNear(8)
	wrong.Safe.Most = 9
	for _, n := range []impl.Near{fullNear(1), fullNear(2), fullNear(4), fullNear(8), wrong, nearOf(8, nearNames(1), nil, nil)} {
		given := textsOf(n)
		for _, key := range append(queuedKeys(n), "not there", "thirteen here") {
			key, val := strings.Repeat(key, 1), strings.Repeat("val ", 4)
			texts := append(slices.Clone(given), key, val)
			wanted, has, _ := impl.WantKey(n, key)
			kept, gone, _ := impl.KeepKey(n, key, val)
			forgotten, _ := impl.ForgetKey(n, key)
			for what, got := range map[string]impl.Near{"WantKey": wanted, "KeepKey": kept, "ForgetKey": forgotten} {
				if slices.ContainsFunc(textsOf(got), func(text string) bool { return sharesAny(text, texts) }) {
					t.Errorf("%s of %q in %v shares texts with its arguments", what, key, n)
				}
				for i, text := range textsOf(got) {
					if sharesAny(text, textsOf(got)[:i]) {
						t.Errorf("%s of %q in %v has one text in two lists", what, key, n)
					}
				}
			}
			if sharesAny(has, append(texts, textsOf(wanted)...)) || sharesAny(gone, append(texts, textsOf(kept)...)) {
				t.Errorf("the text told of %q in %v is in other memory", key, n)
			}
		}
	}
}

// The same is answered again, whatever was asked between: nothing is kept.
func TestNearsAreAnsweredAgain(t *testing.T) {
	for _, n := range nearsToKeep() {
		var first []impl.Near
		eachNear(n, func(_ string, got impl.Near) { first = append(first, got) })
		eachNear(n, func(what string, got impl.Near) {
			if !sameNear(got, first[0]) {
				t.Fatalf("%s of %v is answered another way the second time", what, n)
			}
			first = first[1:]
		})
	}
}
