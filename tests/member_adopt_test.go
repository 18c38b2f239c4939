package tests

import (
	"math"
	"testing"

	"loop.example/g00180/impl"
)

// wantAdopt holds what Adopt answers, every field of the member and of each message.
func wantAdopt(t *testing.T, what string, m member, views [][]int, epoch int, want member, wantTold ...msg) {
	t.Helper()
	next, told, ok := adopt(t, m, views, epoch)
	if !ok || !sameMember(next, want) || !sameTold(told, wantTold) {
		t.Errorf("%s: Adopt(%+v, %v, %d) = %+v, %+v, %v; want %+v, %+v, true", what, m, views, epoch, next, told, ok, want, wantTold)
	}
	if !impl.MemberOk(next) {
		t.Errorf("%s: %+v is not right", what, next)
	}
}

// wantNoAdopt wants false, and nothing beside it.
func wantNoAdopt(t *testing.T, what string, m member, views [][]int, epoch int) {
	t.Helper()
	if next, told, ok := adopt(t, m, views, epoch); ok || !sameMember(next, member{}) || len(told) > 0 {
		t.Errorf("%s: Adopt(%+v, %v, %d) = %+v, %+v, %v; want nothing, false", what, m, views, epoch, next, told, ok)
	}
}

func askSeal(from, to, epoch int) msg { return msg{Kind: 1, From: from, To: to, Epoch: epoch} }

func tellState(from, to, epoch int, items ...item) msg {
	return msg{Kind: 2, From: from, To: to, Epoch: epoch, Items: items}
}

func askInstall(from, to, epoch int, items ...item) msg {
	return msg{Kind: 3, From: from, To: to, Epoch: epoch, Items: items}
}

func tellDone(from, to, epoch int) msg { return msg{Kind: 4, From: from, To: to, Epoch: epoch} }

func askStore(from, to, epoch, num int, x item) msg {
	return msg{Kind: 5, From: from, To: to, Epoch: epoch, Num: num, Items: []item{x}}
}

func tellStored(from, to, epoch, num int) msg {
	return msg{Kind: 6, From: from, To: to, Epoch: epoch, Num: num}
}

func askSure(from, to, epoch, num int) msg {
	return msg{Kind: 7, From: from, To: to, Epoch: epoch, Num: num}
}

func tellSure(from, to, epoch, num int) msg {
	return msg{Kind: 8, From: from, To: to, Epoch: epoch, Num: num}
}

// leads is the first one of a view, without its entries; waits has them, and waits for others.
func leads(id, epoch int, items ...item) member {
	return member{Id: id, Epoch: epoch, Leads: true, Items: items}
}

func waits(m member, nodes ...int) member {
	m.Base, m.Leads, m.Serves, m.Waits = true, true, len(nodes) == 0, nodes
	return m
}

// Who was Base in the view before has the state at once.
func TestAdoptWithTheState(t *testing.T) {
	some := twoItems()
	views := [][]int{{1, 2, 3}, {2}, {2, 5}, {5, 2}, {5, 6, 1}, {6, 3, 5, 4}}
	wantAdopt(t, "alone", based(2, 1, some...), views, 2, serving(2, 2, some...))
	wantAdopt(t, "alone, without items", based(2, 1), views, 2, serving(2, 2))
	wantAdopt(t, "of two", based(5, 3, some...), views, 4, waits(based(5, 4, some...), 2), askInstall(5, 2, 4, some...))
	wantAdopt(t, "of three", based(5, 4, some...), views, 5, waits(based(5, 5, some...), 1, 6), askInstall(5, 6, 5, some...), askInstall(5, 1, 5, some...))
	wantAdopt(t, "of four", based(6, 5, some...), views, 6, waits(based(6, 6, some...), 3, 4, 5), askInstall(6, 3, 6, some...), askInstall(6, 5, 6, some...), askInstall(6, 4, 6, some...))
	wantAdopt(t, "of four, without items", based(6, 5), views, 6, waits(based(6, 6), 3, 4, 5), askInstall(6, 3, 6), askInstall(6, 5, 6), askInstall(6, 4, 6))
	wantAdopt(t, "with 12 items", based(5, 3, manyItems(12)...), views, 4, waits(based(5, 4, manyItems(12)...), 2), askInstall(5, 2, 4, manyItems(12)...))
}

// What it was in the view before is gone: whom it waited for, its Count, its Task.
func TestAdoptWithTheStateForgetsTheRest(t *testing.T) {
	some := twoItems()
	views := [][]int{{1, 2, 3}, {1, 4}, {1}}
	busy := withTask(serving(1, 1, some...), 1, 7, 900, itemOf("k", "v", 1900), 2, 3)
	busy.Count = 900
	wantAdopt(t, "with a Task", busy, views, 2, waits(based(1, 2, some...), 4), askInstall(1, 4, 2, some...))
	busy.Epoch, busy.Task.Op = 2, 2
	wantAdopt(t, "with a Task, alone", busy, views, 3, serving(1, 3, some...))
	waiting := waits(based(1, 1, some...), 2, 3)
	waiting.Count = 5
	wantAdopt(t, "with Waits", waiting, views, 2, waits(based(1, 2, some...), 4), askInstall(1, 4, 2, some...))
	waiting.Epoch = 2
	wantAdopt(t, "with Waits, alone", waiting, views, 3, serving(1, 3, some...))
	idle := serving(1, 1, some...)
	idle.Count = 1
	wantAdopt(t, "serving", idle, views, 2, waits(based(1, 2, some...), 4), askInstall(1, 4, 2, some...))
}

// Who was not Base asks each member of the view before, in its order, but itself.
func TestAdoptWithoutTheState(t *testing.T) {
	some := twoItems()
	views := [][]int{{3, 1, 4, 2}, {2, 1}, {6, 2, 5}, {6}, {1, 6}}
	wantAdopt(t, "the last one of the view before", member{Id: 2, Epoch: 1}, views, 2, leads(2, 2), askSeal(2, 3, 2), askSeal(2, 1, 2), askSeal(2, 4, 2))
	wantAdopt(t, "in no view before", member{Id: 6, Epoch: 2}, views, 3, leads(6, 3), askSeal(6, 2, 3), askSeal(6, 1, 3))
	wantAdopt(t, "the first one of the view before", member{Id: 6, Epoch: 3}, views, 4, leads(6, 4), askSeal(6, 2, 4), askSeal(6, 5, 4))
	wantAdopt(t, "one alone ahead of it", member{Id: 1, Epoch: 4}, views, 5, leads(1, 5), askSeal(1, 6, 5))
	wantAdopt(t, "its items stay", member{Id: 2, Epoch: 1, Items: some}, views, 2, leads(2, 2, some...), askSeal(2, 3, 2), askSeal(2, 1, 2), askSeal(2, 4, 2))
	busy := member{Id: 2, Epoch: 1, Leads: true, Waits: []int{1, 3, 6}, Items: some, Count: 900}
	wantAdopt(t, "the rest goes", busy, views, 2, leads(2, 2, some...), askSeal(2, 3, 2), askSeal(2, 1, 2), askSeal(2, 4, 2))
}

// Who was alone in the view before, and lost its entries, has nobody to ask, and does not serve.
func TestAdoptWithNobodyToAsk(t *testing.T) {
	wantAdopt(t, "fallen", fallen(1, 1), [][]int{{1}, {1}}, 2, leads(1, 2))
	wantAdopt(t, "fallen, with others by now", fallen(1, 1), [][]int{{1}, {1, 2}}, 2, leads(1, 2))
	wantAdopt(t, "not in that view yet", member{Id: 1, Epoch: 1}, [][]int{{2}, {1}, {1, 2}}, 3, leads(1, 3))
}

// Who fell did so in its Epoch, and not in the one which it leads.
func TestAdoptOfOneThatFell(t *testing.T) {
	views := [][]int{{1, 2, 3}, {2, 3}, {3, 2, 1}}
	wantAdopt(t, "one above", fallen(2, 1), views, 2, leads(2, 2), askSeal(2, 1, 2), askSeal(2, 3, 2))
	wantAdopt(t, "more above", fallen(3, 1), views, 3, leads(3, 3), askSeal(3, 2, 3))
	rest := fallen(2, 1)
	rest.Waits, rest.Items, rest.Count = []int{1, 3}, twoItems(), 12
	wantAdopt(t, "with items", rest, views, 2, leads(2, 2, twoItems()...), askSeal(2, 1, 2), askSeal(2, 3, 2))
}

// Who was Base in an earlier view than the one before has not what was stored in that one.
func TestAdoptFromFarBelow(t *testing.T) {
	some := twoItems()
	views := [][]int{{1, 2}, {2, 1, 3}, {1, 4}, {1}, {4, 1}, {1}}
	wantAdopt(t, "two above", serving(1, 1, some...), views, 3, leads(1, 3, some...), askSeal(1, 2, 3), askSeal(1, 3, 3))
	wantAdopt(t, "three above", serving(1, 1, some...), views, 4, leads(1, 4, some...), askSeal(1, 4, 4))
	wantAdopt(t, "five above", serving(1, 1, some...), views, 6, leads(1, 6, some...), askSeal(1, 4, 6))
	wantAdopt(t, "one above", based(1, 2, some...), views, 3, waits(based(1, 3, some...), 4), askInstall(1, 4, 3, some...))
	wantAdopt(t, "another one, two above", based(1, 2, some...), views, 4, leads(1, 4, some...), askSeal(1, 4, 4))
}

// Views with the same first one throughout, and any Epoch: it must be above the member's.
func TestAdoptEachEpoch(t *testing.T) {
	views := [][]int{{1, 2}, {1}, {1, 3}, {1, 2, 3}, {1}, {1, 6}, {1}}
	for own := 1; own <= 9; own++ {
		for _, epoch := range []int{math.MinInt, -2, -1, 0, 1, 2, 3, 4, 5, 6, 7, 8, 9, 10, math.MaxInt} {
			next, _, ok := adopt(t, serving(1, own), views, epoch)
			if want := epoch > own && epoch <= 7; ok != want || ok && next.Epoch != epoch {
				t.Errorf("a member of Epoch %d that adopts %d: %+v, %v", own, epoch, next, ok)
			}
			if ok && next.Base != (epoch == own+1) {
				t.Errorf("a member of Epoch %d that adopts %d is Base: %v", own, epoch, next.Base)
			}
		}
	}
}

func TestAdoptRefused(t *testing.T) {
	views := [][]int{{1, 2}, {2, 1}, {1, 2}}
	wantNoAdopt(t, "an epoch below 2", serving(1, 1), [][]int{{1}, {1}}, 1)
	wantNoAdopt(t, "an epoch of 0", serving(1, 1), [][]int{{1}, {1}}, 0)
	wantNoAdopt(t, "an epoch below 0", serving(1, 1), [][]int{{1}, {1}}, -1)
	wantNoAdopt(t, "more than there are", serving(1, 1), [][]int{{1}, {1}}, 3)
	wantNoAdopt(t, "more than MaxEpoch", serving(1, 1), rightViews(9), 10)
	wantNoAdopt(t, "one view", serving(1, 1), [][]int{{1}}, 2)
	wantNoAdopt(t, "its own", member{Id: 2, Epoch: 2}, views, 2)
	wantNoAdopt(t, "one below its own", member{Id: 2, Epoch: 3}, views, 2)
	wantNoAdopt(t, "a member that is in the view, but not its first one", based(1, 1), views, 2)
	wantNoAdopt(t, "a member that is not in the view", member{Id: 3, Epoch: 1}, views, 2)
	wantNoAdopt(t, "an Epoch above all views", member{Id: 1, Epoch: 4}, views, 3)
	for _, c := range wrongMembers() {
		wantNoAdopt(t, c.what, c.member, [][]int{{2}, {3}, {1}, {2}, {3}, {4}, {5}, {6}, {max(min(c.member.Id, 6), 1)}}, 9)
	}
	for _, wrong := range wrongViews() {
		for epoch := -1; epoch <= 10; epoch++ {
			wantNoAdopt(t, "views that are not right", based(2, 1), wrong, epoch)
			wantNoAdopt(t, "views that are not right", serving(1, 1), wrong, epoch)
		}
	}
}

// Each way to stand, in each Epoch, at each place of the view before.
func TestAdoptEachStand(t *testing.T) {
	sealed, installed, served, refused := 0, 0, 0, 0
	for _, before := range [][]int{{1}, {2}, {1, 2}, {2, 1}, {3, 2}, {1, 4}, {3, 1, 2}, {5, 4, 1}, {4, 3, 2, 1}, {5, 4, 3, 2}} {
		for _, view := range [][]int{{1}, {1, 2}, {1, 6, 2}, {1, 5, 2, 4}, {2, 1}, {2}} {
			for _, m := range stands() {
				for epoch := 1; epoch <= 4; epoch++ {
					m.Epoch, m.Items = epoch, twoItems()
					next, told, ok := adopt(t, m, [][]int{{1, 3}, before, view, {3, 1}}, 3)
					switch {
					case !ok:
						refused++
					case next.Serves:
						served++
					case len(told) > 0 && told[0].Kind == impl.AskInstall:
						installed++
					case len(told) > 0 && told[0].Kind == impl.AskSeal:
						sealed++
					}
				}
			}
		}
	}
	if sealed < 100 || installed < 50 || served < 20 || refused < 200 {
		t.Errorf("%d asked for a seal, %d handed on, %d served, %d were refused", sealed, installed, served, refused)
	}
}

// Drawn members and views.
func TestAdoptDrawn(t *testing.T) {
	taken := 0
	for seed := range 20000 {
		d := newDraws(seed)
		views := d.views()
		m := d.member(views)
		epoch := min(m.Epoch+1+d.below(2), len(views))
		if d.below(4) > 0 {
			m.Id = views[epoch-1][0]
		}
		if _, _, ok := adopt(t, m, views, epoch); ok {
			taken++
		}
	}
	if taken < 6000 {
		t.Errorf("only %d were taken", taken)
	}
}
