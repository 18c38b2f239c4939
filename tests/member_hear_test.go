package tests

import (
	"slices"
	"testing"

	"loop.example/g00180/impl"
)

// wantHears holds what HearMsg answers, every field of it, where nothing is said to a caller.
func wantHears(t *testing.T, what string, m member, views [][]int, x msg, want member, wantTold ...msg) {
	t.Helper()
	next, told, said := hear(t, m, views, x)
	if !sameMember(next, want) || !sameTold(told, wantTold) || len(said) > 0 {
		t.Errorf("%s: HearMsg(%+v, %v, %+v) = %+v, %+v, %+v; want %+v, %+v, and nothing said", what, m, views, x, next, told, said, want, wantTold)
	}
	if impl.MemberOk(m) && !impl.MemberOk(next) {
		t.Errorf("%s: %+v is not right", what, next)
	}
}

// wantDeaf wants the member as it is, and nothing told or said.
func wantDeaf(t *testing.T, what string, m member, views [][]int, x msg) {
	t.Helper()
	wantHears(t, what, m, views, x, m)
}

// wantSays wants a member whose Task is done, and what it says to the caller.
func wantSays(t *testing.T, what string, m member, views [][]int, x msg, want member, wantSaid report) {
	t.Helper()
	next, told, said := hear(t, m, views, x)
	if !sameMember(next, want) || len(told) > 0 || !slices.Equal(said, []report{wantSaid}) {
		t.Errorf("%s: HearMsg(%+v, %v, %+v) = %+v, %+v, %+v; want %+v, nothing told, %+v", what, m, views, x, next, told, said, want, wantSaid)
	}
}

// Who has the entries of the view before hands them on, and is in the new Epoch then, without them.
func TestHearAskSeal(t *testing.T) {
	some := twoItems()
	views := [][]int{{1, 2, 3}, {4, 2}, {5}}
	sealed := member{Id: 2, Epoch: 2, Items: some}
	wantHears(t, "another one", based(2, 1, some...), views, askSeal(4, 2, 2), sealed, tellState(2, 4, 2, some...))
	wantHears(t, "without items", based(3, 1), views, askSeal(4, 3, 2), member{Id: 3, Epoch: 2}, tellState(3, 4, 2))
	wantHears(t, "from one that leads no view", based(2, 1, some...), views, askSeal(6, 2, 2), sealed, tellState(2, 6, 2, some...))
	wantHears(t, "from itself", based(2, 1, some...), views, askSeal(2, 2, 2), sealed, tellState(2, 2, 2, some...))
	first := withTask(serving(1, 1, some...), 1, 7, 12, itemOf("k", "v", 1012), 2, 3)
	first.Count = 12
	wantHears(t, "the first one, with a Task; its Count stays", first, views, askSeal(4, 1, 2), member{Id: 1, Epoch: 2, Items: some, Count: 12}, tellState(1, 4, 2, some...))
	wantHears(t, "the first one, with Waits", waits(based(1, 1, some...), 2), views, askSeal(4, 1, 2), member{Id: 1, Epoch: 2, Items: some}, tellState(1, 4, 2, some...))
	numbered := askSeal(4, 2, 2)
	numbered.Num = 1000000000
	wantHears(t, "with a Num, which is not told", based(2, 1, some...), views, numbered, sealed, tellState(2, 4, 2, some...))
	wantDeaf(t, "once more", sealed, views, askSeal(4, 2, 2))
}

func TestHearAskSealForNothing(t *testing.T) {
	some := twoItems()
	views := [][]int{{1, 2, 3}, {4, 2}, {5, 2}, {2}}
	wantDeaf(t, "not Base", member{Id: 2, Epoch: 1, Items: some}, views, askSeal(4, 2, 2))
	wantDeaf(t, "fallen", fallen(2, 1), views, askSeal(4, 2, 2))
	wantDeaf(t, "leads without Base", leads(4, 2, some...), views, askSeal(5, 4, 3))
	wantDeaf(t, "Base, but not in its view", based(4, 1, some...), views, askSeal(4, 4, 2))
	wantDeaf(t, "Base, in the next view alone", based(5, 2, some...), views, askSeal(5, 5, 3))
	wantDeaf(t, "of its own Epoch", based(2, 2, some...), views, askSeal(4, 2, 2))
	wantDeaf(t, "of its own Epoch, fallen", fallen(2, 2), views, askSeal(4, 2, 2))
	wantDeaf(t, "two above", based(2, 1, some...), views, askSeal(5, 2, 3))
	wantDeaf(t, "three above", based(2, 1, some...), views, askSeal(2, 2, 4))
	wantDeaf(t, "below its own", based(2, 2, some...), views, askSeal(1, 2, 1))
	wantDeaf(t, "above how many there are", based(2, 4, some...), views, askSeal(2, 2, 5))
}

// Who leads without the entries takes the first ones that come, hands them on, and serves when
// there is nobody to hand them to.
func TestHearTellState(t *testing.T) {
	old, some := []item{itemOf("old", "", 5)}, twoItems()
	views := [][]int{{1, 2, 3}, {4, 2, 1, 3}, {5}, {5, 1}}
	wantHears(t, "of four", leads(4, 2), views, tellState(1, 4, 2, some...), waits(based(4, 2, some...), 1, 2, 3), askInstall(4, 2, 2, some...), askInstall(4, 1, 2, some...), askInstall(4, 3, 2, some...))
	wantHears(t, "of two", leads(5, 4), views, tellState(3, 5, 4, some...), waits(based(5, 4, some...), 1), askInstall(5, 1, 4, some...))
	wantHears(t, "alone", leads(5, 3), views, tellState(1, 5, 3, some...), serving(5, 3, some...))
	wantHears(t, "without items", leads(5, 4), views, tellState(1, 5, 4), waits(based(5, 4), 1), askInstall(5, 1, 4))
	wantHears(t, "its own items go", leads(5, 4, old...), views, tellState(1, 5, 4, some...), waits(based(5, 4, some...), 1), askInstall(5, 1, 4, some...))
	wantHears(t, "its own items go, none come", leads(5, 3, old...), views, tellState(1, 5, 3), serving(5, 3))
	stale := leads(4, 2)
	stale.Waits, stale.Count = []int{5, 6}, 7
	want := waits(based(4, 2, some...), 1, 2, 3)
	want.Count = 7
	wantHears(t, "whom it waited for is of no weight", stale, views, tellState(1, 4, 2, some...), want, askInstall(4, 2, 2, some...), askInstall(4, 1, 2, some...), askInstall(4, 3, 2, some...))
	numbered := tellState(1, 5, 4, some...)
	numbered.Num = 12
	wantHears(t, "with a Num, which is not told", leads(5, 4), views, numbered, waits(based(5, 4, some...), 1), askInstall(5, 1, 4, some...))
	wantHears(t, "12 items", leads(5, 4), views, tellState(1, 5, 4, manyItems(12)...), waits(based(5, 4, manyItems(12)...), 1), askInstall(5, 1, 4, manyItems(12)...))
}

func TestHearTellStateForNothing(t *testing.T) {
	old, some := itemOf("old", "", 5), twoItems()
	views := [][]int{{1, 2, 3}, {4, 2}, {4}, {4}}
	wantDeaf(t, "Base by now", waits(based(4, 2, old), 2), views, tellState(1, 4, 2, some...))
	wantDeaf(t, "serving", serving(4, 2, old), views, tellState(1, 4, 2, some...))
	wantDeaf(t, "does not lead", member{Id: 4, Epoch: 2}, views, tellState(1, 4, 2, some...))
	wantDeaf(t, "does not lead, but is Base", based(2, 2, old), views, tellState(1, 2, 2, some...))
	wantDeaf(t, "fallen", fallen(4, 2), views, tellState(1, 4, 2, some...))
	wantDeaf(t, "one above", leads(4, 2), views, tellState(1, 4, 3, some...))
	wantDeaf(t, "more above", leads(4, 2), views, tellState(1, 4, 4, some...))
	wantDeaf(t, "above how many there are", leads(4, 4), views, tellState(1, 4, 5, some...))
	wantDeaf(t, "below its own", leads(4, 3), views, tellState(1, 4, 2, some...))
}

// Who is in a later view gets its entries, whatever it was.
func TestHearAskInstall(t *testing.T) {
	old, some := itemOf("old", "", 5), twoItems()
	views := [][]int{{1, 2, 3}, {4, 2, 1}, {5, 1, 2, 3}}
	want := based(2, 2, some...)
	wantHears(t, "one above", member{Id: 2, Epoch: 1}, views, askInstall(4, 2, 2, some...), want, tellDone(2, 4, 2))
	wantHears(t, "one above, with Base", based(2, 1, old), views, askInstall(4, 2, 2, some...), want, tellDone(2, 4, 2))
	wantHears(t, "one above, fallen", fallen(2, 1), views, askInstall(4, 2, 2, some...), want, tellDone(2, 4, 2))
	wantHears(t, "of its own, sealed", member{Id: 2, Epoch: 2, Items: []item{old}}, views, askInstall(4, 2, 2, some...), want, tellDone(2, 4, 2))
	wantHears(t, "more above", based(2, 1, old), views, askInstall(5, 2, 3, some...), based(2, 3, some...), tellDone(2, 5, 3))
	wantHears(t, "more above, fallen", fallen(2, 1), views, askInstall(5, 2, 3, some...), based(2, 3, some...), tellDone(2, 5, 3))
	wantHears(t, "in no view before", member{Id: 3, Epoch: 2}, views, askInstall(5, 3, 3, some...), based(3, 3, some...), tellDone(3, 5, 3))
	wantHears(t, "without items", based(2, 1, old), views, askInstall(4, 2, 2), based(2, 2), tellDone(2, 4, 2))
	wantHears(t, "from one that leads no view", member{Id: 2, Epoch: 1}, views, askInstall(6, 2, 2, some...), want, tellDone(2, 6, 2))
	numbered := askInstall(4, 2, 2, some...)
	numbered.Num = 12
	wantHears(t, "with a Num, which is not told", member{Id: 2, Epoch: 1}, views, numbered, want, tellDone(2, 4, 2))
}

// Nothing that it led stays with who is installed but its Count.
func TestHearAskInstallOfOneThatLed(t *testing.T) {
	some := twoItems()
	views := [][]int{{1, 2, 3}, {4, 2, 1}}
	want := based(1, 2, some...)
	want.Count = 12
	busy := withTask(serving(1, 1, itemOf("old", "", 5)), 2, 7, 12, itemOf("k", "", 1012), 2)
	busy.Count = 12
	wantHears(t, "with a Task", busy, views, askInstall(4, 1, 2, some...), want, tellDone(1, 4, 2))
	waiting := waits(based(1, 1), 2, 3)
	waiting.Count = 12
	wantHears(t, "with Waits", waiting, views, askInstall(4, 1, 2, some...), want, tellDone(1, 4, 2))
	lost := leads(1, 2, itemOf("old", "", 5))
	lost.Waits, lost.Count = []int{2, 4}, 12
	wantHears(t, "of its own Epoch, not Base", lost, views, askInstall(4, 1, 2, some...), want, tellDone(1, 4, 2))
	gone := fallen(1, 1)
	gone.Waits, gone.Items, gone.Count = []int{2}, some, 12
	wantHears(t, "fallen, with more than falling leaves", gone, views, askInstall(4, 1, 2, some...), want, tellDone(1, 4, 2))
}

// Who fell in its Epoch gets nothing in it any more, and takes part again in the next one.
func TestHearAskInstallOfOneThatFell(t *testing.T) {
	some := twoItems()
	views := [][]int{{1, 2, 3}, {4, 2}, {4, 2}, {4, 3}}
	had, _, _ := hear(t, member{Id: 2, Epoch: 1}, views, askInstall(4, 2, 2, some...))
	gone := fall(t, had)
	wantDeaf(t, "in this Epoch", gone, views, askInstall(4, 2, 2, some...))
	wantHears(t, "in the next one", gone, views, askInstall(4, 2, 3, some...), based(2, 3, some...), tellDone(2, 4, 3))
	back, _, _ := hear(t, gone, views, askInstall(4, 2, 3, some...))
	if back.Fell {
		t.Errorf("%+v fell in an Epoch ahead of its own", back)
	}
	wantHears(t, "once more in the next one", back, views, askInstall(4, 2, 3), back, tellDone(2, 4, 3))
	wantDeaf(t, "in the next one it fell again", fall(t, back), views, askInstall(4, 2, 3, some...))
	wantDeaf(t, "in a view in which it is not", fall(t, back), views, askInstall(4, 2, 4, some...))
	wantDeaf(t, "in the first Epoch", fallen(2, 1), views, askInstall(1, 2, 1, some...))
	for kind := 1; kind <= 8; kind++ {
		x := someMsg(kind)
		x.To, x.Epoch, x.Num = 2, 2, 1
		wantDeaf(t, "whatever it is told in its Epoch", gone, views, x)
	}
}

// Who has the entries tells Done once more, and keeps what was stored since.
func TestHearAskInstallAgain(t *testing.T) {
	views := [][]int{{1, 2, 3}, {4, 2}}
	has := based(2, 2, itemOf("a", "new", 2001))
	has.Count, has.Waits = 3, []int{1, 5}
	wantHears(t, "with other items", has, views, askInstall(4, 2, 2, twoItems()...), has, tellDone(2, 4, 2))
	wantHears(t, "without items", has, views, askInstall(4, 2, 2), has, tellDone(2, 4, 2))
	wantHears(t, "in the first Epoch", based(3, 1, twoItems()...), views, askInstall(1, 3, 1), based(3, 1, twoItems()...), tellDone(3, 1, 1))
	odd := withTask(serving(2, 2, twoItems()...), 1, 7, 1, itemOf("k", "v", 2001), 4)
	wantHears(t, "one that serves where it is not the first one", odd, views, askInstall(4, 2, 2), odd, tellDone(2, 4, 2))
}

func TestHearAskInstallForNothing(t *testing.T) {
	some := twoItems()
	views := [][]int{{1, 2, 3}, {4, 2}, {1, 3}}
	wantDeaf(t, "the first one of that view", leads(4, 2), views, askInstall(4, 4, 2, some...))
	wantDeaf(t, "the first one of that view, above its own", member{Id: 4, Epoch: 1}, views, askInstall(2, 4, 2, some...))
	wantDeaf(t, "the first one of that view, with Base", serving(4, 2), views, askInstall(2, 4, 2, some...))
	wantDeaf(t, "not in that view", based(3, 1), views, askInstall(4, 3, 2, some...))
	wantDeaf(t, "not in that view, of its own", member{Id: 3, Epoch: 2}, views, askInstall(4, 3, 2, some...))
	wantDeaf(t, "not in that view, with Base", based(3, 2), views, askInstall(4, 3, 2, some...))
	wantDeaf(t, "in its own view, not in that one", based(2, 2), views, askInstall(1, 2, 3, some...))
	wantDeaf(t, "below its own", member{Id: 2, Epoch: 3}, views, askInstall(4, 2, 2, some...))
	wantDeaf(t, "above how many there are", member{Id: 3, Epoch: 3}, views, askInstall(1, 3, 4, some...))
}

// Who leads serves when all have told Done.
func TestHearTellDone(t *testing.T) {
	some := twoItems()
	views := [][]int{{1, 2, 3, 4}, {1, 2}, {1}}
	all := waits(based(1, 1, some...), 2, 3, 4)
	wantHears(t, "the first of three", all, views, tellDone(2, 1, 1), waits(based(1, 1, some...), 3, 4))
	wantHears(t, "the second of three", all, views, tellDone(3, 1, 1), waits(based(1, 1, some...), 2, 4))
	wantHears(t, "the third of three", all, views, tellDone(4, 1, 1), waits(based(1, 1, some...), 2, 3))
	wantDeaf(t, "one that is not in Waits", waits(based(1, 1, some...), 3, 4), views, tellDone(2, 1, 1))
	wantDeaf(t, "one that is not in the view", waits(based(1, 1, some...), 3, 4), views, tellDone(6, 1, 1))
	wantHears(t, "one of two", waits(based(1, 1, some...), 3, 4), views, tellDone(4, 1, 1), waits(based(1, 1, some...), 3))
	wantHears(t, "the last one", waits(based(1, 1, some...), 3), views, tellDone(3, 1, 1), serving(1, 1, some...))
	counted := waits(based(1, 2, some...), 2)
	counted.Count = 7
	want := serving(1, 2, some...)
	want.Count = 7
	wantHears(t, "the last one; the Count stays", counted, views, tellDone(2, 1, 2), want)
	numbered := tellDone(2, 1, 2)
	numbered.Num = 9
	wantHears(t, "with a Num", waits(based(1, 2), 2), views, numbered, serving(1, 2))
	without := leads(1, 2, some...)
	without.Waits = []int{2, 5}
	less := leads(1, 2, some...)
	less.Waits = []int{5}
	wantHears(t, "without Base it waits for less", without, views, tellDone(2, 1, 2), less)
	wantHears(t, "without Base it does not serve", less, views, tellDone(5, 1, 2), leads(1, 2, some...))
	wantDeaf(t, "without Base or Waits", leads(1, 2, some...), views, tellDone(2, 1, 2))
	wantDeaf(t, "serving", serving(1, 1, some...), views, tellDone(2, 1, 1))
	wantHears(t, "nobody to wait for", member{Id: 1, Epoch: 3, Base: true, Leads: true}, views, tellDone(2, 1, 3), serving(1, 3))
}

func TestHearTellDoneForNothing(t *testing.T) {
	views := [][]int{{1, 2}, {1, 2}, {1, 2}, {1, 2}}
	rest := based(1, 2)
	rest.Waits = []int{2, 3}
	wantDeaf(t, "does not lead", rest, views, tellDone(2, 1, 2))
	rest.Waits = []int{2}
	wantDeaf(t, "does not lead, the last one", rest, views, tellDone(2, 1, 2))
	gone := fallen(1, 2)
	gone.Waits = []int{2}
	wantDeaf(t, "fallen", gone, views, tellDone(2, 1, 2))
	all := waits(based(1, 2), 2)
	wantDeaf(t, "below its own", all, views, tellDone(2, 1, 1))
	wantDeaf(t, "one above", all, views, tellDone(2, 1, 3))
	wantDeaf(t, "more above", all, views, tellDone(2, 1, 4))
	wantDeaf(t, "above how many there are", waits(based(1, 4), 2), views, tellDone(2, 1, 5))
}

// An item is stored when it is newer; that it was is told in any case.
func TestHearAskStore(t *testing.T) {
	views := [][]int{{1, 2}, {1, 2}, {1}}
	some := twoItems()
	has := based(2, 1, some...)
	cases := []struct {
		what string
		x    item
		want []item
	}{
		{"a new Key ahead", itemOf("A", "n", 1003), []item{itemOf("A", "n", 1003), some[0], some[1]}},
		{"a new Key between", itemOf("b", "n", 1003), []item{some[0], itemOf("b", "n", 1003), some[1]}},
		{"a new Key behind", itemOf("d", "n", 1), []item{some[0], some[1], itemOf("d", "n", 1)}},
		{"newer", itemOf("a", "n", 1002), []item{itemOf("a", "n", 1002), some[1]}},
		{"as new", itemOf("a", "n", 1001), some},
		{"older", itemOf("a", "n", 1000), some},
		{"the greatest Ver", itemOf("c", "", 1000000000), []item{some[0], itemOf("c", "", 1000000000)}},
	}
	for _, c := range cases {
		wantHears(t, c.what, has, views, askStore(1, 2, 1, 3, c.x), based(2, 1, c.want...), tellStored(2, 1, 1, 3))
	}
	wantHears(t, "without items", based(2, 2), views, askStore(1, 2, 2, 1, some[0]), based(2, 2, some[0]), tellStored(2, 1, 2, 1))
	wantHears(t, "of Num 0", has, views, askStore(1, 2, 1, 0, some[0]), has, tellStored(2, 1, 1, 0))
	wantHears(t, "of the greatest Num", has, views, askStore(1, 2, 1, 1000000000, some[0]), has, tellStored(2, 1, 1, 1000000000))
	full := based(2, 1, manyItems(12)...)
	wantHears(t, "no room for a new Key", full, views, askStore(1, 2, 1, 3, itemOf("zz", "n", 9999)), full, tellStored(2, 1, 1, 3))
	wantHears(t, "from one of no view, to one of no view", based(5, 3), views, askStore(6, 5, 3, 4, some[0]), based(5, 3, some[0]), tellStored(5, 6, 3, 4))
	busy := withTask(serving(1, 1, some...), 1, 7, 3, itemOf("k", "v", 1003), 2)
	stored := withTask(serving(1, 1, some[0], itemOf("c", "n", 1009)), 1, 7, 3, itemOf("k", "v", 1003), 2)
	wantHears(t, "to the first one, which keeps its Task", busy, views, askStore(2, 1, 1, 3, itemOf("c", "n", 1009)), stored, tellStored(1, 2, 1, 3))
}

func TestHearAskSure(t *testing.T) {
	views := [][]int{{1, 2}, {1, 2}, {1}}
	has := based(2, 1, twoItems()...)
	for _, num := range []int{0, 1, 900, 1000000000} {
		wantHears(t, "with items", has, views, askSure(1, 2, 1, num), has, tellSure(2, 1, 1, num))
		wantHears(t, "without items", based(2, 2), views, askSure(1, 2, 2, num), based(2, 2), tellSure(2, 1, 2, num))
	}
	wantHears(t, "from one of no view, to one of no view", based(5, 3), views, askSure(6, 5, 3, 4), based(5, 3), tellSure(5, 6, 3, 4))
	busy := withTask(serving(1, 1, twoItems()...), 2, 7, 3, itemOf("k", "", 1003), 2)
	wantHears(t, "to the first one, which keeps its Task", busy, views, askSure(2, 1, 1, 3), busy, tellSure(1, 2, 1, 3))
}

func TestHearAsksForNothing(t *testing.T) {
	views := [][]int{{1, 2}, {1, 2}, {1, 2}, {1, 2}}
	some := twoItems()
	for epoch := 1; epoch <= 5; epoch++ {
		for _, x := range []msg{askStore(1, 2, epoch, 3, itemOf("b", "n", 9999)), askSure(1, 2, epoch, 3)} {
			wantDeaf(t, "not Base", member{Id: 2, Epoch: 2, Items: some}, views, x)
			wantDeaf(t, "leads, not Base", leads(2, 2, some...), views, x)
			wantDeaf(t, "fallen", fallen(2, 2), views, x)
			if epoch != 2 {
				wantDeaf(t, "of another Epoch", based(2, 2, some...), views, x)
			}
		}
	}
	wantDeaf(t, "above how many there are", based(2, 5, some...), views, askStore(1, 2, 5, 3, itemOf("b", "n", 9999)))
	wantDeaf(t, "above how many there are", based(2, 5, some...), views, askSure(1, 2, 5, 3))
}

// A put is done when nobody is left who has not told that it is stored.
func TestHearTellStored(t *testing.T) {
	views := [][]int{{1, 2}, {1, 2, 3, 4}}
	some, x := twoItems(), itemOf("b", "new", 2005)
	has := serving(1, 2, some...)
	has.Count = 5
	all := withTask(has, 1, 77, 5, x, 2, 3, 4)
	wantHears(t, "the first of three", all, views, tellStored(2, 1, 2, 5), withTask(has, 1, 77, 5, x, 3, 4))
	wantHears(t, "the second of three", all, views, tellStored(3, 1, 2, 5), withTask(has, 1, 77, 5, x, 2, 4))
	wantHears(t, "the third of three", all, views, tellStored(4, 1, 2, 5), withTask(has, 1, 77, 5, x, 2, 3))
	wantDeaf(t, "one that is not in Left", withTask(has, 1, 77, 5, x, 3, 4), views, tellStored(2, 1, 2, 5))
	wantDeaf(t, "one that is not in the view", withTask(has, 1, 77, 5, x, 3), views, tellStored(6, 1, 2, 5))
	done := serving(1, 2, some[0], x, some[1])
	done.Count = 5
	wantSays(t, "the last one", withTask(has, 1, 77, 5, x, 3), views, tellStored(3, 1, 2, 5), done, report{Call: 77, Epoch: 2, Num: 5, Item: x})
	wantSays(t, "nobody was left", withTask(has, 1, 0, 5, x), views, tellStored(3, 1, 2, 5), done, report{Epoch: 2, Num: 5, Item: x})
	newer := itemOf("a", "", 2005)
	over := serving(1, 2, newer, some[1])
	over.Count = 5
	wantSays(t, "of a Key that is there", withTask(has, 1, 1000, 5, newer, 2), views, tellStored(2, 1, 2, 5), over, report{Call: 1000, Epoch: 2, Num: 5, Item: newer})
}

// What is said is the Task's item, also where there is a newer one, or no room for it.
func TestHearTellStoredOfWhatIsNotPut(t *testing.T) {
	views := [][]int{{1, 2}}
	newer := itemOf("a", "newer", 9000)
	x := itemOf("a", "x", 1003)
	wantSays(t, "a newer one is there", withTask(serving(1, 1, newer), 1, 5, 3, x, 2), views, tellStored(2, 1, 1, 3), serving(1, 1, newer), report{Call: 5, Epoch: 1, Num: 3, Item: x})
	full := serving(1, 1, manyItems(12)...)
	other := itemOf("zz", "x", 1003)
	wantSays(t, "no room", withTask(full, 1, 5, 3, other, 2), views, tellStored(2, 1, 1, 3), full, report{Call: 5, Epoch: 1, Num: 3, Item: other})
	for _, w := range wrongItems() {
		wantSays(t, "an item that is not right", withTask(serving(1, 1, newer), 1, 5, 3, w.item, 2), views, tellStored(2, 1, 1, 3), serving(1, 1, newer), report{Call: 5, Epoch: 1, Num: 3, Item: w.item})
	}
}

// A get is done when nobody is left; what is said is what there is by now.
func TestHearTellSure(t *testing.T) {
	views := [][]int{{1, 2}, {1, 2, 3, 4}}
	some, x := twoItems(), itemOf("a", "", 2005)
	has := serving(1, 2, some...)
	has.Count = 5
	all := withTask(has, 2, 77, 5, x, 2, 3, 4)
	wantHears(t, "the first of three", all, views, tellSure(2, 1, 2, 5), withTask(has, 2, 77, 5, x, 3, 4))
	wantHears(t, "the second of three", all, views, tellSure(3, 1, 2, 5), withTask(has, 2, 77, 5, x, 2, 4))
	wantHears(t, "the third of three", all, views, tellSure(4, 1, 2, 5), withTask(has, 2, 77, 5, x, 2, 3))
	wantDeaf(t, "one that is not in Left", withTask(has, 2, 77, 5, x, 3, 4), views, tellSure(2, 1, 2, 5))
	wantDeaf(t, "one that is not in the view", withTask(has, 2, 77, 5, x, 3), views, tellSure(6, 1, 2, 5))
	wantSays(t, "the last one", withTask(has, 2, 77, 5, x, 4), views, tellSure(4, 1, 2, 5), has, report{Call: 77, Epoch: 2, Num: 5, Item: some[0]})
	wantSays(t, "nobody was left", withTask(has, 2, 0, 5, x), views, tellSure(4, 1, 2, 5), has, report{Epoch: 2, Num: 5, Item: some[0]})
	wantSays(t, "of a Key that is not there", withTask(has, 2, 1000, 5, itemOf("b", "", 2005), 2), views, tellSure(2, 1, 2, 5), has, report{Call: 1000, Epoch: 2, Num: 5})
	stored, _, _ := hear(t, withTask(has, 2, 77, 5, x, 4), views, askStore(3, 1, 2, 9, itemOf("a", "by now", 2009)))
	want := serving(1, 2, itemOf("a", "by now", 2009), some[1])
	want.Count = 5
	wantSays(t, "of what came meanwhile", stored, views, tellSure(4, 1, 2, 5), want, report{Call: 77, Epoch: 2, Num: 5, Item: itemOf("a", "by now", 2009)})
}

func TestHearAnswersForNothing(t *testing.T) {
	views := [][]int{{1, 2}, {1, 2}, {1, 2}, {1, 2}}
	x := itemOf("a", "", 2005)
	for op := 1; op <= 2; op++ {
		busy := withTask(serving(1, 2, twoItems()...), op, 7, 5, x, 2)
		empty := withTask(serving(1, 2, twoItems()...), op, 7, 5, x)
		answer, other := tellStored, tellSure
		if op == 2 {
			answer, other = tellSure, tellStored
		}
		for _, m := range []member{busy, empty} {
			for _, num := range []int{0, 1, 4, 6, 900, 1000000000} {
				wantDeaf(t, "another Num", m, views, answer(2, 1, 2, num))
			}
			wantDeaf(t, "of the other Op", m, views, other(2, 1, 2, 5))
			for _, epoch := range []int{1, 3, 4, 5} {
				wantDeaf(t, "of another Epoch", m, views, answer(2, 1, epoch, 5))
			}
		}
		for _, num := range []int{0, 5} {
			wantDeaf(t, "without a Task", serving(1, 2, twoItems()...), views, answer(2, 1, 2, num))
			wantDeaf(t, "fallen", fallen(1, 2), views, answer(2, 1, 2, num))
			wantDeaf(t, "not Base", member{Id: 1, Epoch: 2}, views, answer(2, 1, 2, num))
		}
		beyond := busy
		beyond.Epoch = 5
		wantDeaf(t, "above how many there are", beyond, views, answer(2, 1, 5, 5))
	}
}

// standsInEach are the members of six Ids in an Epoch, in each way in which one may stand.
func standsInEach(epoch int) []member {
	var all []member
	for _, m := range stands() {
		for id := 1; id <= 6; id++ {
			m.Id, m.Epoch, m.Items = id, epoch, twoItems()
			all = append(all, m)
			if m.Serves {
				for op := 1; op <= 2; op++ {
					all = append(all, withTask(m, op, 9, 3, itemOf("a", "", 3003)), withTask(m, op, 9, 3, itemOf("a", "", 3003), 2), withTask(m, op, 9, 3, itemOf("a", "", 3003), 2, 5))
				}
				continue
			}
			for _, list := range [][]int{{2}, {2, 5}, {1, 2, 3, 4, 5, 6}} {
				next := m
				next.Waits = list
				all = append(all, next)
			}
		}
	}
	return all
}

// Each Kind, of each Epoch, to each member, as it may stand: below its own, its own, one above,
// more above, above how many there are.
func TestHearEachStand(t *testing.T) {
	views := [][]int{{1, 2, 3}, {3, 1, 2}, {2, 3, 5, 1}, {3, 2, 5}, {5, 1}, {1}}
	changed, told, said := map[int]int{}, map[int]int{}, map[int]int{}
	for own := 1; own <= 7; own++ {
		for _, m := range standsInEach(own) {
			for kind := 1; kind <= 8; kind++ {
				for epoch := 1; epoch <= 9; epoch++ {
					for _, num := range []int{0, 3, 4} {
						x := someMsg(kind)
						x.To, x.Epoch, x.Num = m.Id, epoch, num
						if kind == 2 || kind == 3 {
							x.Items = manyItems(num)
						}
						next, notes, reports := hear(t, m, views, x)
						told[kind] += min(len(notes), 1)
						said[kind] += len(reports)
						if !sameMember(next, m) {
							changed[kind]++
						}
					}
				}
			}
		}
	}
	for kind := 1; kind <= 8; kind++ {
		if kind != 7 && changed[kind] < 10 || (kind <= 3 || kind == 5 || kind == 7) && told[kind] < 10 || (kind == 6 || kind == 8) && said[kind] < 10 {
			t.Errorf("Kind %d changed %d members, %d told something, %d said something", kind, changed[kind], told[kind], said[kind])
		}
	}
	if changed[7] > 0 {
		t.Errorf("AskSure changed %d members", changed[7])
	}
}

// hearsAll are members and messages of which each one changes the member, tells or says something.
func hearsAll(t *testing.T, back func(m member, views [][]int, x msg)) {
	t.Helper()
	views := [][]int{{2, 3}, {2, 1, 3}, {1, 2, 5}}
	some := twoItems()
	all := []struct {
		m member
		x msg
	}{
		{based(3, 2, some...), askSeal(1, 3, 3)},
		{leads(2, 2), tellState(3, 2, 2, some...)},
		{member{Id: 3, Epoch: 1}, askInstall(2, 3, 2, some...)},
		{based(3, 2), askInstall(2, 3, 2, some...)},
		{waits(based(2, 2), 1, 3), tellDone(3, 2, 2)},
		{waits(based(2, 2), 3), tellDone(3, 2, 2)},
		{based(3, 2, some...), askStore(2, 3, 2, 1, itemOf("b", "", 2001))},
		{based(3, 2, some...), askSure(2, 3, 2, 1)},
		{withTask(serving(2, 2), 1, 0, 1, some[0], 3), tellStored(3, 2, 2, 1)},
		{withTask(serving(2, 2), 2, 0, 1, some[0], 3), tellSure(3, 2, 2, 1)},
	}
	for _, a := range all {
		next, told, said := hear(t, a.m, views, a.x)
		if sameMember(next, a.m) && len(told) == 0 && len(said) == 0 {
			t.Fatalf("%+v hears %+v for nothing", a.m, a.x)
		}
		back(a.m, views, a.x)
	}
}

// What would be heard is not, where one thing of it is not right, or it is not to this member.
func TestHearRefused(t *testing.T) {
	hearsAll(t, func(m member, views [][]int, x msg) {
		for id := 1; id <= 6; id++ {
			other := x
			if other.To = id; id != m.Id {
				wantDeaf(t, "to another one", m, views, other)
			}
		}
		for _, wrong := range wrongViews() {
			wantDeaf(t, "views that are not right", m, wrong, x)
		}
		wantDeaf(t, "views of which another one is not right", m, append(slices.Clone(views), []int{1, 1}), x)
		wantDeaf(t, "too many views", m, append(slices.Clone(views), rightViews(7)...), x)
		wantDeaf(t, "too few views", m, views[:x.Epoch-1], x)
		for _, w := range wrongMsgs() {
			wrong := w.msg
			if wrong.To == someMsg(1).To {
				wrong.To = m.Id
			}
			if wrong.Epoch == someMsg(1).Epoch {
				wrong.Epoch = x.Epoch
			}
			wantDeaf(t, "a message that is not right: "+w.what, m, views, wrong)
		}
	})
}

// One thing of the member that is heard is changed, so that it is not right.
func TestHearOfWrongMembers(t *testing.T) {
	changes := map[string]func(*member){
		"Count":                func(m *member) { m.Count = 901 },
		"Count below 0":        func(m *member) { m.Count = -1 },
		"Items":                func(m *member) { m.Items = manyItems(13) },
		"Waits":                func(m *member) { m.Waits = []int{3, 3} },
		"Left":                 func(m *member) { m.Task.Left = []int{3, 0} },
		"Op":                   func(m *member) { m.Task.Op = 3 },
		"Num":                  func(m *member) { m.Task.Num = 901 },
		"Call":                 func(m *member) { m.Task.Call = 1001 },
		"Fell with Base":       func(m *member) { m.Fell, m.Base = true, true },
		"Fell with Leads":      func(m *member) { m.Fell, m.Leads = true, true },
		"Serves without Base":  func(m *member) { m.Serves, m.Base = true, false },
		"Serves without Leads": func(m *member) { m.Serves, m.Leads = true, false },
	}
	hearsAll(t, func(m member, views [][]int, x msg) {
		for what, change := range changes {
			wrong := m
			change(&wrong)
			if impl.MemberOk(wrong) {
				t.Fatalf("%s: %+v is right", what, wrong)
			}
			wantDeaf(t, what, wrong, views, x)
		}
	})
	for _, c := range wrongMembers() {
		for kind := 1; kind <= 8; kind++ {
			x := someMsg(kind)
			x.To, x.Epoch = max(min(c.member.Id, 6), 1), max(min(c.member.Epoch, 9), 1)
			if kind == 1 || kind == 3 {
				x.Epoch = min(x.Epoch+1, 9)
			}
			wantDeaf(t, c.what, c.member, rightViews(9), x)
		}
	}
}

// Drawn members, views and messages.
func TestHearDrawn(t *testing.T) {
	changed, told, said := 0, 0, 0
	for seed := range 60000 {
		d := newDraws(seed)
		views := d.views()
		m := d.member(views)
		next, notes, reports := hear(t, m, views, d.message(m))
		if !impl.MemberOk(next) {
			t.Fatalf("of the right %+v comes %+v, which is not", m, next)
		}
		told += min(len(notes), 1)
		said += len(reports)
		if !sameMember(next, m) {
			changed++
		}
	}
	if changed < 5000 || told < 4000 || said < 200 {
		t.Errorf("%d members changed, %d told something, %d said something", changed, told, said)
	}
}
