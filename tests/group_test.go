package tests

import (
	"math"
	"slices"
	"testing"

	"loop.example/g00180/impl"
)

// wantGroupNew holds every field of every member of a new group; there are these members of its first view, and others.
func wantGroupNew(t *testing.T, views [][]int, want ...member) {
	t.Helper()
	g, ok := impl.GroupNew(views)
	if byRule, _ := ruleGroupNew(views); !ok || !sameGroup(g, byRule) {
		t.Fatalf("GroupNew(%v) = %+v, %v; by the rule %+v", views, g, ok, byRule)
	}
	if !slices.EqualFunc(g.Members, want, sameMember) || !sameViews(g.Views, views) || len(g.Flying)+len(g.Calls) > 0 {
		t.Errorf("GroupNew(%v) = %+v; want its views, %+v, nothing else", views, g, want)
	}
}

func TestGroupNew(t *testing.T) {
	none := func(id int) member { return member{Id: id, Epoch: 1} }
	other := func(id int) member { return member{Id: id, Epoch: 1, Base: true} }
	first := func(id int) member { return member{Id: id, Epoch: 1, Base: true, Leads: true, Serves: true} }
	wantGroupNew(t, [][]int{{1}}, first(1), none(2), none(3), none(4), none(5), none(6))
	wantGroupNew(t, [][]int{{6}}, none(1), none(2), none(3), none(4), none(5), first(6))
	wantGroupNew(t, [][]int{{2, 1}, {3}}, other(1), first(2), none(3), none(4), none(5), none(6))
	wantGroupNew(t, [][]int{{4, 6, 1}, {1, 2, 3}, {5}}, other(1), none(2), none(3), first(4), none(5), other(6))
	wantGroupNew(t, [][]int{{1, 2, 3, 4}}, first(1), other(2), other(3), other(4), none(5), none(6))
	wantGroupNew(t, [][]int{{3}, {1}, {2}, {3}, {4}, {5}, {6}, {1}, {2}}, none(1), none(2), first(3), none(4), none(5), none(6))
}

func TestGroupNewEachFirstView(t *testing.T) {
	for seed := range 2000 {
		views := newDraws(seed).views()
		g, ok := impl.GroupNew(views)
		if want, wantOk := ruleGroupNew(views); !ok || !wantOk || !sameGroup(g, want) {
			t.Fatalf("GroupNew(%v) = %+v, %v; want %+v", views, g, ok, want)
		}
		for at, m := range g.Members {
			if one, ok := impl.MemberNew(at+1, views); !ok || !sameMember(m, one) {
				t.Fatalf("GroupNew(%v) has %+v; MemberNew is %+v", views, m, one)
			}
		}
	}
}

func TestGroupNewWrongViews(t *testing.T) {
	for _, views := range append(wrongViews(), rightViews(10)) {
		if g, ok := impl.GroupNew(views); ok || !sameGroup(g, group{}) {
			t.Errorf("GroupNew(%v) = %+v, %v; want nothing, false", views, g, ok)
		}
		wantNoLife(t, "views that are not right", views, nil)
		wantNoLife(t, "views that are not right", views, []event{fallBy(1)})
	}
}

func TestRunGroupOfNoEvents(t *testing.T) {
	for count := 1; count <= 9; count++ {
		want, _ := impl.GroupNew(rightViews(count))
		for _, events := range [][]event{nil, {}} {
			if g, numbers, ok := live(t, rightViews(count), events); !ok || len(numbers) > 0 || !sameGroup(g, want) {
				t.Errorf("RunGroup of no events is %+v, %v, %v", g, numbers, ok)
			}
		}
	}
}

func TestRunGroupHowMany(t *testing.T) {
	for _, e := range []event{fallBy(1), deliverAt(0), beginPut(1, "k", "v"), adoptBy(2)} {
		for _, count := range []int{1, 2, 69, 70} {
			if _, numbers, ok := live(t, [][]int{{1, 2}, {2, 1}}, slices.Repeat([]event{e}, count)); !ok || len(numbers) != count {
				t.Errorf("%d events have the numbers %v, %v", count, numbers, ok)
			}
		}
		for _, count := range []int{71, 72, 140, 1000} {
			wantNoLife(t, "too many events", [][]int{{1, 2}, {2, 1}}, slices.Repeat([]event{e}, count))
		}
	}
}

func TestRunGroupEventsThatAreNotRight(t *testing.T) {
	views := [][]int{{1, 2}, {2, 1}}
	for _, wrong := range wrongEvents() {
		wantNoLife(t, "one alone", views, []event{wrong})
		for _, count := range []int{2, 9, 70} {
			for _, place := range []int{0, 1, count / 2, count - 1} {
				events := slices.Repeat([]event{beginPut(1, "k", "v"), deliverAt(0)}, count)[:count]
				if _, _, ok := live(t, views, events); !ok {
					t.Fatalf("%+v are not right", events)
				}
				events[place] = wrong
				wantNoLife(t, "one of many", views, events)
			}
		}
	}
}

// What a Kind does not name is not looked at: At of what is no message, Node of what is one.
func TestRunGroupFieldsThatDoNotCount(t *testing.T) {
	views := [][]int{{1, 2, 3}, {2, 1}}
	events := []event{beginPut(1, "k", "v"), deliverAt(1), copyAt(0), dropAt(2), deliverAt(0), fallBy(3), adoptBy(2)}
	want, wantNumbers, _ := live(t, views, events)
	for node := 1; node <= 6; node++ {
		for _, at := range []int{0, 1, 7, math.MaxInt} {
			other := slices.Clone(events)
			for place, e := range other {
				if e.Kind >= 2 && e.Kind <= 4 {
					other[place].Node = node
				} else {
					other[place].At = at
				}
			}
			g, numbers, ok := live(t, views, other)
			if !ok || !sameGroup(g, want) || !slices.Equal(numbers, wantNumbers) {
				t.Errorf("%+v make %+v, %v, %v; want %+v, %v", other, g, numbers, ok, want, wantNumbers)
			}
		}
	}
}

// A put and a get in a view of two, one event at a time: every field.
func TestBeginAtOneThatServes(t *testing.T) {
	s := newLifeScene(t, []int{1, 2}, []int{2})
	x := itemOf("k", "val", 1001)
	s.do(t, beginPut(1, "k", "val"), 0)
	s.wantCalls(t, putCall(0, "k", "val"))
	s.wantFlying(t, askStore(1, 2, 1, 1, x))
	s.wantMembers(t, withTask(counted(serving(1, 1), 1), 1, 0, 1, x, 2))
	s.do(t, deliverAt(0), 0)
	s.wantCalls(t, putCall(0, "k", "val"))
	s.wantFlying(t, tellStored(2, 1, 1, 1))
	s.wantMembers(t, withTask(counted(serving(1, 1), 1), 1, 0, 1, x, 2), based(2, 1, x))
	s.do(t, deliverAt(0), 0)
	put := doneCall(putCall(0, "k", "val"), 2, 1001, 1, 1, "")
	s.wantCalls(t, put)
	s.wantFlying(t)
	s.wantMembers(t, counted(serving(1, 1, x), 1), based(2, 1, x))
	s.do(t, beginGet(1, "k"), 0)
	s.wantCalls(t, put, getCall(3, "k"))
	s.wantFlying(t, askSure(1, 2, 1, 2))
	s.wantMembers(t, withTask(counted(serving(1, 1, x), 2), 2, 1, 2, itemOf("k", "", 1002), 2), based(2, 1, x))
	s.do(t, deliverAt(0), 0)
	s.wantFlying(t, tellSure(2, 1, 1, 2))
	s.do(t, deliverAt(0), 0)
	s.wantCalls(t, put, doneCall(getCall(3, "k"), 5, 1001, 1, 2, "val"))
	s.wantMembers(t, counted(serving(1, 1, x), 2), based(2, 1, x))
	s.do(t, beginGet(1, "none"), 0)
	s.calm(t)
	s.wantCalls(t, put, doneCall(getCall(3, "k"), 5, 1001, 1, 2, "val"), doneCall(getCall(6, "none"), 8, 0, 1, 3, ""))
}

// A get has the Ver of the item that it got, of whatever Epoch, and its own Epoch and Num.
func TestGetOfAnEarlierEpoch(t *testing.T) {
	s := newLifeScene(t, []int{1, 2}, []int{2, 3}, []int{2})
	s.do(t, beginPut(1, "k", "val"), 0)
	s.calm(t)
	s.do(t, adoptBy(2), 0)
	s.calm(t)
	s.do(t, beginGet(2, "other"), 0)
	s.calm(t)
	s.do(t, beginGet(2, "k"), 0)
	s.calm(t)
	s.do(t, adoptBy(2), 0)
	s.do(t, beginGet(2, "k"), 0)
	s.wantCalls(t, doneCall(putCall(0, "k", "val"), 2, 1001, 1, 1, ""), doneCall(getCall(6, "other"), 8, 0, 2, 1, ""), doneCall(getCall(9, "k"), 11, 1001, 2, 2, "val"), doneCall(getCall(13, "k"), 13, 1001, 3, 1, "val"))
}

// Alone in its view, a member is done in the event itself.
func TestCallsThatAreDoneAtOnce(t *testing.T) {
	s := newLifeScene(t, []int{5}, []int{1})
	s.do(t, beginGet(5, "k"), 0)
	s.do(t, beginPut(5, "k", "one"), 0)
	s.do(t, beginGet(5, "k"), 0)
	s.do(t, beginPut(5, "k", ""), 0)
	s.do(t, beginGet(5, "k"), 0)
	s.wantFlying(t)
	s.wantMembers(t, counted(serving(5, 1, itemOf("k", "", 1004)), 5))
	s.wantCalls(t,
		doneCall(getCall(0, "k"), 0, 0, 1, 1, ""), doneCall(putCall(1, "k", "one"), 1, 1002, 1, 2, ""), doneCall(getCall(2, "k"), 2, 1002, 1, 3, "one"),
		doneCall(putCall(3, "k", ""), 3, 1004, 1, 4, ""), doneCall(getCall(4, "k"), 4, 1004, 1, 5, ""))
}

// Whoever does not serve, or is busy: the call stands there, is never done, and nothing else changes.
func TestBeginThatIsRefused(t *testing.T) {
	s := newLifeScene(t, []int{1, 2, 3}, []int{2, 4})
	wantRefused := func(s *lifeScene, e event) {
		t.Helper()
		before := s.now
		c := called{Op: e.Op, Key: e.Key, Val: e.Val, When: s.place(), Done: -1}
		s.do(t, e, 1)
		before.Calls = append(slices.Clone(before.Calls), c)
		if !sameGroup(s.now, before) {
			t.Fatalf("by %+v, which is refused, %+v became %+v", e, before, s.now)
		}
	}
	for node := 2; node <= 6; node++ {
		wantRefused(s, beginPut(node, "k", "v"))
		wantRefused(s, beginGet(node, "k"))
	}
	s.do(t, beginPut(1, "k", "v"), 0)
	wantRefused(s, beginPut(1, "k", "v"))
	wantRefused(s, beginGet(1, "k"))
	s.deliver(t, askStore(1, 2, 1, 1, itemOf("k", "v", 1001)))
	s.deliver(t, tellStored(2, 1, 1, 1))
	wantRefused(s, beginGet(1, "k"))
	s.deliver(t, askStore(1, 3, 1, 1, itemOf("k", "v", 1001)), tellStored(3, 1, 1, 1))
	if c := s.now.Calls[10]; c != doneCall(putCall(10, "k", "v"), s.place()-1, 1001, 1, 1, "") {
		t.Fatalf("the call behind those that are refused is %+v", c)
	}
	s.do(t, beginGet(1, "k"), 0)
	fell := s.branch()
	fell.do(t, fallBy(1), 0)
	wantRefused(fell, beginGet(1, "k"))
	s.do(t, adoptBy(2), 0)
	wantRefused(s, beginGet(2, "k"))
	wantRefused(s, beginPut(1, "k", "v"))
}

// 12 Keys can be put; for one more there is no room, and its call is never done.
func TestBeginWithoutRoomInALife(t *testing.T) {
	s := newLifeScene(t, []int{1})
	for at := range 12 {
		s.do(t, beginPut(1, string(rune('a'+at)), "v"), 0)
	}
	s.do(t, beginPut(1, "m", "v"), 1)
	s.do(t, beginPut(1, "a", "w"), 0)
	s.do(t, beginGet(1, "m"), 0)
	if got, want := s.now.Calls[12:], []called{putCall(12, "m", "v"), doneCall(putCall(13, "a", "w"), 13, 1013, 1, 13, ""), doneCall(getCall(14, "m"), 14, 0, 1, 14, "")}; !slices.Equal(got, want) {
		t.Errorf("the last calls are %+v; want %+v", got, want)
	}
}

// Of a member that is the first one of no later view, of the next one, of one that is more above, of several.
func TestAdoptEvents(t *testing.T) {
	views := [][]int{{1, 2, 3}, {2, 1}, {4, 2}, {2}, {5, 1, 2}, {2, 5}}
	s := newLifeScene(t, views...)
	begin := s.now
	for _, node := range []int{1, 3, 6} {
		s.do(t, adoptBy(node), 1)
		if !sameGroup(s.now, begin) {
			t.Fatalf("%d adopts nothing, and the group is %+v", node, s.now)
		}
	}
	s.do(t, adoptBy(2), 0)
	s.wantMembers(t, waits(based(2, 2), 1))
	s.wantFlying(t, askInstall(2, 1, 2))
	s.do(t, adoptBy(4), 0)
	s.wantMembers(t, waits(based(2, 2), 1), leads(4, 3))
	s.wantFlying(t, askInstall(2, 1, 2), askSeal(4, 2, 3), askSeal(4, 1, 3))
	s.do(t, adoptBy(5), 0)
	s.wantMembers(t, waits(based(2, 2), 1), leads(4, 3), leads(5, 5))
	s.wantFlying(t, askInstall(2, 1, 2), askSeal(4, 2, 3), askSeal(4, 1, 3), askSeal(5, 2, 5))
	s.do(t, adoptBy(2), 0)
	s.wantMembers(t, leads(2, 4), leads(4, 3), leads(5, 5))
	s.do(t, adoptBy(2), 0)
	s.wantMembers(t, leads(2, 6), leads(4, 3), leads(5, 5))
	s.wantFlying(t, askInstall(2, 1, 2), askSeal(4, 2, 3), askSeal(4, 1, 3), askSeal(5, 2, 5), askSeal(2, 4, 4), askSeal(2, 5, 6), askSeal(2, 1, 6))
	s.do(t, adoptBy(2), 1)
	s.do(t, adoptBy(4), 1)
	s.do(t, adoptBy(5), 1)
	s.wantCalls(t)
}

// The Epoch from which the next one counts is the member's own, not the one that it led last.
func TestAdoptFromTheOwnEpoch(t *testing.T) {
	s := newLifeScene(t, []int{1, 2}, []int{1}, []int{3, 1}, []int{1, 3})
	s.do(t, adoptBy(3), 0)
	s.do(t, adoptBy(1), 0)
	s.deliver(t, askSeal(3, 1, 3), tellState(1, 3, 3), askInstall(3, 1, 3))
	s.wantMembers(t, based(1, 3), waits(based(3, 3), 1))
	s.do(t, adoptBy(1), 0)
	s.wantMembers(t, waits(based(1, 4), 3), waits(based(3, 3), 1))
	s.wantFlying(t, tellDone(1, 3, 3), askInstall(1, 3, 4))
	s.do(t, adoptBy(1), 1)
}

func TestFallEvents(t *testing.T) {
	s := newLifeScene(t, []int{1, 2}, []int{3, 2})
	x := itemOf("k", "val", 1001)
	s.do(t, beginPut(1, "k", "val"), 0)
	s.do(t, fallBy(1), 0)
	s.wantMembers(t, fallen(1, 1))
	s.wantFlying(t, askStore(1, 2, 1, 1, x))
	s.do(t, fallBy(6), 0)
	s.do(t, fallBy(1), 0)
	s.wantMembers(t, fallen(1, 1), fallen(6, 1))
	s.deliver(t, askStore(1, 2, 1, 1, x), tellStored(2, 1, 1, 1))
	s.wantMembers(t, fallen(1, 1), based(2, 1, x), fallen(6, 1))
	s.wantCalls(t, putCall(0, "k", "val"))
	s.do(t, adoptBy(3), 0)
	s.calm(t)
	s.wantMembers(t, fallen(1, 1), based(2, 2, x), serving(3, 2, x), fallen(6, 1))
	s.do(t, fallBy(3), 0)
	s.wantMembers(t, fallen(1, 1), based(2, 2, x), fallen(3, 2), fallen(6, 1))
}

func TestMessagesThatAreNone(t *testing.T) {
	for _, e := range []event{deliverAt(0), dropAt(0), copyAt(0), deliverAt(1), dropAt(5), copyAt(math.MaxInt)} {
		s := newLifeScene(t, []int{1, 2}, []int{2})
		begin := s.now
		s.do(t, e, 1)
		s.do(t, e, 1)
		if !sameGroup(s.now, begin) {
			t.Fatalf("by %+v %+v became %+v", e, begin, s.now)
		}
		s.do(t, beginGet(1, "k"), 0)
		s.lose(t, askSure(1, 2, 1, 1))
		s.do(t, e, 1)
		s.wantFlying(t)
		s.wantMembers(t, withTask(counted(serving(1, 1), 1), 2, 0, 1, itemOf("k", "", 1001), 2))
	}
}

// One message alone is the one at each place.
func TestOneMessageAtEachPlace(t *testing.T) {
	for _, at := range []int{0, 1, 2, 70, math.MaxInt} {
		s := newLifeScene(t, []int{1, 2})
		s.do(t, beginGet(1, "k"), 0)
		twice, lost := s.branch(), s.branch()
		s.do(t, deliverAt(at), 0)
		s.wantFlying(t, tellSure(2, 1, 1, 1))
		twice.do(t, copyAt(at), 0)
		twice.wantFlying(t, askSure(1, 2, 1, 1), askSure(1, 2, 1, 1))
		lost.do(t, dropAt(at), 0)
		lost.wantFlying(t)
	}
}

// threeFlying is a scene with three messages, of one get.
func threeFlying(t *testing.T) (*lifeScene, []msg) {
	t.Helper()
	s := newLifeScene(t, []int{1, 4, 2, 3})
	s.do(t, beginGet(1, "k"), 0)
	list := []msg{askSure(1, 4, 1, 1), askSure(1, 2, 1, 1), askSure(1, 3, 1, 1)}
	s.wantFlying(t, list...)
	return s, list
}

// Below, at and above how many there are, and what is left in which order.
func TestSeveralMessagesAtEachPlace(t *testing.T) {
	for at, place := range map[int]int{0: 0, 1: 1, 2: 2, 3: 0, 4: 1, 5: 2, 6: 0, 70: 1, 1001: 2, math.MaxInt: 1, math.MaxInt - 1: 0, math.MaxInt - 2: 2} {
		s, list := threeFlying(t)
		others := slices.Delete(slices.Clone(list), place, place+1)
		lost, twice := s.branch(), s.branch()
		lost.do(t, dropAt(at), 0)
		lost.wantFlying(t, others...)
		twice.do(t, copyAt(at), 0)
		twice.wantFlying(t, append(slices.Clone(list), list[place])...)
		s.do(t, deliverAt(at), 0)
		s.wantFlying(t, append(others, tellSure(list[place].To, 1, 1, 1))...)
		lost.wantMembers(t, s.now.Members[0])
		twice.wantMembers(t, s.now.Members[0])
	}
}

// What is told goes behind all others, in its order, whoever tells it.
func TestWhatIsToldFliesBehind(t *testing.T) {
	s := newLifeScene(t, []int{1, 2, 3}, []int{4, 6, 2, 5})
	x := itemOf("k", "v", 1001)
	s.do(t, beginPut(1, "k", "v"), 0)
	s.do(t, copyAt(0), 0)
	s.do(t, adoptBy(4), 0)
	s.wantFlying(t, askStore(1, 2, 1, 1, x), askStore(1, 3, 1, 1, x), askStore(1, 2, 1, 1, x), askSeal(4, 1, 2), askSeal(4, 2, 2), askSeal(4, 3, 2))
	s.do(t, deliverAt(5), 0)
	s.do(t, deliverAt(0), 0)
	s.wantFlying(t, askStore(1, 3, 1, 1, x), askStore(1, 2, 1, 1, x), askSeal(4, 1, 2), askSeal(4, 2, 2), tellState(3, 4, 2), tellStored(2, 1, 1, 1))
	s.do(t, deliverAt(4), 0)
	s.wantFlying(t, askStore(1, 3, 1, 1, x), askStore(1, 2, 1, 1, x), askSeal(4, 1, 2), askSeal(4, 2, 2), tellStored(2, 1, 1, 1), askInstall(4, 6, 2), askInstall(4, 2, 2), askInstall(4, 5, 2))
	// To the member 3 the message comes too late; nothing is told of it.
	s.do(t, deliverAt(0), 0)
	s.wantFlying(t, askStore(1, 2, 1, 1, x), askSeal(4, 1, 2), askSeal(4, 2, 2), tellStored(2, 1, 1, 1), askInstall(4, 6, 2), askInstall(4, 2, 2), askInstall(4, 5, 2))
}

// Drawn lives, held against the rules after each event.
func TestRunGroupByRule(t *testing.T) {
	for seed := range 150 {
		views, events := drawnLife(70, seed*11+3)
		for count := range events {
			live(t, views, events[:count])
		}
		live(t, views, events)
	}
}

// More lives, held against the rules when they are over.
func TestRunGroupByRuleManyLives(t *testing.T) {
	for seed := range 6000 {
		views, events := drawnLife(70, seed*5+4)
		live(t, views, events)
	}
}
