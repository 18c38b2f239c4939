package tests

import (
	"slices"
	"testing"

	"loop.example/g00180/impl"
)

// The member 2 adopts each of these; whom it waits for then stands beside it, ascending.
func viewsOfTwo() map[string]struct{ view, waits []int } {
	return map[string]struct{ view, waits []int }{
		"alone":    {view: []int{2}},
		"of two":   {view: []int{2, 4}, waits: []int{4}},
		"of three": {view: []int{2, 6, 3}, waits: []int{3, 6}},
		"of four":  {view: []int{2, 5, 1, 4}, waits: []int{1, 4, 5}},
	}
}

// basesOfTwo are members 2 with Base in the Epoch: with nothing else, with items, and as they may stand at most.
func basesOfTwo(epoch int) map[string]member {
	busy := counted(withTask(serving(2, epoch, twoItems()...), impl.OpPut, 7, 12, itemOf("k", "v", 1012), 1, 6), 12)
	return map[string]member{
		"without items": based(2, epoch),
		"with items":    based(2, epoch, twoItems()...),
		"with 12 items": based(2, epoch, manyItems(12)...),
		"that waits":    counted(waits(based(2, epoch, twoItems()...), 1, 3), 900),
		"that serves":   counted(serving(2, epoch, twoItems()...), 1),
		"that is busy":  busy,
	}
}

// eachAdoption goes through the member 2 of an Epoch with Base, in views where the one before is this one, that adopts each view of its own.
func eachAdoption(before []int, back func(what string, m member, views [][]int, epoch int, waits []int)) {
	for epoch := 2; epoch <= 9; epoch++ {
		for size, next := range viewsOfTwo() {
			views := slices.Repeat([][]int{{3, 5}}, 9)
			views[epoch-2], views[epoch-1] = before, next.view
			for stand, m := range basesOfTwo(epoch - 1) {
				back("a member "+stand+", "+size, m, views, epoch, next.waits)
			}
		}
	}
}

// As the first one of the view before, or as another one of it, it has the state at once.
func TestAdoptInTheListOfTheViewBefore(t *testing.T) {
	for _, before := range [][]int{{2}, {2, 1}, {2, 3, 6, 5}, {1, 2}, {1, 2, 3}, {4, 1, 2}, {6, 5, 4, 2}} {
		eachAdoption(before, func(what string, m member, views [][]int, epoch int, left []int) {
			var told []msg
			for _, node := range views[epoch-1][1:] {
				told = append(told, askInstall(2, node, epoch, m.Items...))
			}
			want := member{Id: 2, Epoch: epoch, Base: true, Leads: true, Serves: len(left) == 0, Waits: left, Items: m.Items}
			wantAdopt(t, what, m, views, epoch, want, told...)
		})
	}
}

// In no place of it, it asks each one of it, in order: it does not serve, though it is alone.
func TestAdoptNotInTheListOfTheViewBefore(t *testing.T) {
	for _, before := range [][]int{{1}, {6}, {1, 3}, {3, 1}, {4, 6, 5}, {5, 1, 3}, {6, 4, 3, 1}, {1, 3, 4, 5}} {
		eachAdoption(before, func(what string, m member, views [][]int, epoch int, _ []int) {
			var told []msg
			for _, node := range before {
				told = append(told, askSeal(2, node, epoch))
			}
			wantAdopt(t, what, m, views, epoch, member{Id: 2, Epoch: epoch, Leads: true, Items: m.Items}, told...)
		})
	}
}

// What is told of the fault: every field, every message.
func TestAdoptOneThatWasInNoView(t *testing.T) {
	wantAdopt(t, "alone behind one alone", member{Id: 2, Epoch: 1, Base: true}, [][]int{{1}, {2}}, 2,
		member{Id: 2, Epoch: 2, Leads: true}, msg{Kind: impl.AskSeal, From: 2, To: 1, Epoch: 2})
}

// In the list of the view before, but of an Epoch below it, it asks: it has what was stored earlier.
func TestAdoptInTheListOfAnEarlierEpoch(t *testing.T) {
	for _, before := range [][]int{{2, 1}, {1, 2}, {4, 1, 2}} {
		for size, next := range viewsOfTwo() {
			views := [][]int{{2, 3}, before, next.view}
			var told []msg
			for _, node := range before {
				if node != 2 {
					told = append(told, askSeal(2, node, 3))
				}
			}
			for stand, m := range basesOfTwo(1) {
				wantAdopt(t, "a member "+stand+", "+size, m, views, 3, member{Id: 2, Epoch: 3, Leads: true, Items: m.Items}, told...)
			}
		}
	}
}

// In the list of the view before, of its Epoch, but without Base, it asks as well.
func TestAdoptInTheListWithoutBase(t *testing.T) {
	for _, m := range []member{{Id: 2, Epoch: 1}, {Id: 2, Epoch: 1, Items: twoItems()}, fallen(2, 1), leads(2, 1, twoItems()...)} {
		for size, next := range viewsOfTwo() {
			wantAdopt(t, size, m, [][]int{{4, 2, 1}, next.view}, 2, member{Id: 2, Epoch: 2, Leads: true, Items: m.Items}, askSeal(2, 4, 2), askSeal(2, 1, 2))
		}
	}
}

// Who asked has the state by the first answer, and serves only then.
func TestAdoptThenTheStateComes(t *testing.T) {
	views := [][]int{{1, 3}, {2}}
	m, told, ok := adopt(t, based(2, 1, itemOf("z", "of none", 5)), views, 2)
	if !ok || len(told) != 2 {
		t.Fatalf("Adopt told %+v, %v", told, ok)
	}
	other, answers, _ := hear(t, based(3, 1, twoItems()...), views, told[1])
	if len(answers) != 1 || other.Base || other.Epoch != 2 {
		t.Fatalf("%+v is answered by %+v, of %+v", told[1], answers, other)
	}
	if next, more, _ := hear(t, m, views, answers[0]); !sameMember(next, serving(2, 2, twoItems()...)) || len(more) > 0 {
		t.Errorf("with the state it is %+v, and tells %+v", next, more)
	}
}
