package tests

import (
	"math"
	"slices"
	"strings"
	"testing"

	"loop.example/g00180/impl"
)

// wantMemberNew holds every field of a new member.
func wantMemberNew(t *testing.T, id int, views [][]int, want member, wantOk bool) {
	t.Helper()
	if rule, ok := ruleMemberNew(id, views); !sameMember(rule, want) || ok != wantOk {
		t.Fatalf("by the rule MemberNew(%d, %v) is %+v, %v", id, views, rule, ok)
	}
	if got, ok := impl.MemberNew(id, views); !sameMember(got, want) || ok != wantOk {
		t.Errorf("MemberNew(%d, %v) = %+v, %v; want %+v, %v", id, views, got, ok, want, wantOk)
	}
}

func TestMemberNew(t *testing.T) {
	views := [][]int{{3, 1, 6}, {2, 4}, {5}}
	wantMemberNew(t, 1, views, member{Id: 1, Epoch: 1, Base: true}, true)
	wantMemberNew(t, 2, views, member{Id: 2, Epoch: 1}, true)
	wantMemberNew(t, 3, views, member{Id: 3, Epoch: 1, Base: true, Leads: true, Serves: true}, true)
	wantMemberNew(t, 4, views, member{Id: 4, Epoch: 1}, true)
	wantMemberNew(t, 5, views, member{Id: 5, Epoch: 1}, true)
	wantMemberNew(t, 6, views, member{Id: 6, Epoch: 1, Base: true}, true)
	for _, id := range []int{math.MinInt, -7, -3, -2, -1, 0, 7, 8, 9, 257, math.MaxInt} {
		wantMemberNew(t, id, views, member{}, false)
	}
}

// Each id in first views of 1 to 4 members, at each place of them.
func TestMemberNewEachFirstView(t *testing.T) {
	firsts, others, none := 0, 0, 0
	for _, view := range [][]int{{1}, {6}, {2, 1}, {1, 2}, {6, 5, 4}, {4, 5, 6}, {1, 2, 3, 4}, {6, 4, 1, 3}, {2, 6, 5, 1}} {
		for _, later := range [][][]int{nil, {{1}}, {{6, 1}, {2, 3, 4, 5}}, rightViews(8)} {
			views := append([][]int{view}, later...)
			for id := 1; id <= 6; id++ {
				want := member{Id: id, Epoch: 1}
				switch {
				case view[0] == id:
					want.Base, want.Leads, want.Serves = true, true, true
					firsts++
				case slices.Contains(view, id):
					want.Base = true
					others++
				default:
					none++
				}
				wantMemberNew(t, id, views, want, true)
				if !impl.MemberOk(want) {
					t.Errorf("the new member %+v is not right", want)
				}
			}
		}
	}
	if firsts < 30 || others < 40 || none < 100 {
		t.Errorf("%d were first ones, %d other ones, %d in no first view", firsts, others, none)
	}
}

func TestMemberNewWrongViews(t *testing.T) {
	for _, views := range wrongViews() {
		for id := -1; id <= 8; id++ {
			wantMemberNew(t, id, views, member{}, false)
		}
	}
	wantMemberNew(t, 1, rightViews(9), member{Id: 1, Epoch: 1, Base: slices.Contains(rightViews(9)[0], 1), Leads: rightViews(9)[0][0] == 1, Serves: rightViews(9)[0][0] == 1}, true)
	wantMemberNew(t, 1, rightViews(10), member{}, false)
}

// membersToChange stand in each way in which a member may.
func membersToChange() []member {
	all := []member{
		{Id: 1, Epoch: 1},
		{Id: 6, Epoch: 9, Items: twoItems(), Count: 900},
		fallen(3, 4),
		based(2, 1, twoItems()...),
		{Id: 2, Epoch: 3, Leads: true, Items: twoItems()},
		{Id: 2, Epoch: 3, Base: true, Leads: true, Waits: []int{1, 4}, Items: twoItems(), Count: 3},
		{Id: 2, Epoch: 3, Base: true, Leads: true},
		serving(4, 5),
		serving(4, 5, twoItems()...),
		withTask(serving(4, 5, twoItems()...), 1, 7, 12, itemOf("k", "v", 5012), 1, 6),
		withTask(serving(1, 1), 2, 7, 12, itemOf("k", "", 1012), 3),
	}
	return all
}

// numbersRight are for a number of a member which worths are right.
type numbersRight struct {
	what  string
	least int
	most  int
	set   func(*member, int)
	fits  func(member) bool
}

func anyMember(member) bool { return true }

func busyMember(m member) bool { return m.Task.Op != 0 }

func freeMember(m member) bool { return m.Task.Op == 0 }

func numbersOfMembers() []numbersRight {
	return []numbersRight{
		{"Id", 1, 6, func(m *member, n int) { m.Id = n }, anyMember},
		{"Epoch", 1, 9, func(m *member, n int) { m.Epoch = n }, anyMember},
		{"Count", 0, 900, func(m *member, n int) { m.Count = n }, anyMember},
		{"Op of a Task", 1, 2, func(m *member, n int) { m.Task.Op = n }, busyMember},
		{"Call of a Task", 0, 1000, func(m *member, n int) { m.Task.Call = n }, busyMember},
		{"Num of a Task", 1, 900, func(m *member, n int) { m.Task.Num = n }, busyMember},
		{"Op of no Task", 0, 0, func(m *member, n int) { m.Task.Op = 3 * n }, freeMember},
		{"Call of no Task", 0, 0, func(m *member, n int) { m.Task.Call = n }, freeMember},
		{"Num of no Task", 0, 0, func(m *member, n int) { m.Task.Num = n }, freeMember},
		{"Ver of no Task", 0, 0, func(m *member, n int) { m.Task.Item.Ver = n }, freeMember},
	}
}

// changedNumbers have one number at its least, its greatest, one less and one more, and far off.
func changedNumbers() []changedMember {
	var all []changedMember
	for _, m := range membersToChange() {
		for _, f := range numbersOfMembers() {
			if !f.fits(m) {
				continue
			}
			for _, n := range []int{math.MinInt / 8, -1000, f.least - 1, f.least, f.most, f.most + 1, 100000, math.MaxInt / 8} {
				next := m
				f.set(&next, n)
				all = append(all, changedMember{f.what, next, n >= f.least && n <= f.most})
			}
		}
	}
	return all
}

// rightNodes ascend.
func rightNodes() [][]int {
	return [][]int{nil, {}, {1}, {6}, {1, 2}, {5, 6}, {1, 6}, {2, 3, 5}, {1, 2, 3, 4}, {1, 2, 3, 4, 5, 6}}
}

// wrongNodes do not, or have what is no node.
func wrongNodes() [][]int {
	return [][]int{
		{0}, {7}, {-1}, {math.MinInt}, {math.MaxInt},
		{1, 1}, {6, 6}, {2, 1}, {6, 5}, {1, 3, 3}, {1, 3, 2}, {2, 2, 3}, {3, 2, 4},
		{0, 1}, {-1, 3}, {6, 7}, {1, 2, 7}, {0, 2, 3}, {1, 0}, {1, 7, 2},
		{1, 2, 3, 4, 5, 6, 7}, {0, 1, 2, 3, 4, 5, 6}, {1, 2, 3, 4, 5, 6, 6}, {6, 5, 4, 3, 2, 1},
	}
}

// changedNodes have Waits and Left that are right ones, and such as are not.
func changedNodes() []changedMember {
	var all []changedMember
	add := func(list []int, right bool) {
		for _, m := range membersToChange() {
			waits, left := m, m
			waits.Waits, left.Task.Left = list, list
			all = append(all, changedMember{"Waits", waits, right && (!m.Serves || len(list) == 0)})
			all = append(all, changedMember{"Left", left, right && (m.Task.Op != 0 || len(list) == 0)})
		}
	}
	for _, list := range rightNodes() {
		add(list, true)
	}
	for _, list := range wrongNodes() {
		add(list, false)
	}
	return all
}

// changedItems have Items that are right ones, and such as are not.
func changedItems() []changedMember {
	var all []changedMember
	for _, m := range membersToChange() {
		for _, list := range rightLists() {
			m.Items = list
			all = append(all, changedMember{"right Items", m, true})
		}
		for _, w := range wrongLists() {
			m.Items = w.list
			all = append(all, changedMember{"Items: " + w.what, m, false})
		}
	}
	return all
}

// changedFlags have each of the sixteen ways in which flags can be put together.
func changedFlags() []changedMember {
	right := map[string]int{"": 1, "F": 1, "B": 1, "L": 1, "BL": 1, "BLS": 1}
	var all []changedMember
	for _, m := range membersToChange() {
		eachPick(4, 2, func(pick []int) {
			next, name := m, ""
			for at, letter := range []string{"F", "B", "L", "S"} {
				name += strings.Repeat(letter, pick[at])
			}
			next.Fell, next.Base, next.Leads, next.Serves = pick[0] == 1, pick[1] == 1, pick[2] == 1, pick[3] == 1
			fits := right[name] == 1 && (m.Task.Op == 0 || next.Serves) && (len(m.Waits) == 0 || !next.Serves)
			all = append(all, changedMember{"flags " + name, next, fits})
		})
	}
	return all
}

// changedTasks have a Task of Op 0 with something in it, and one of the two others with and without Serves.
func changedTasks() []changedMember {
	var all []changedMember
	for _, m := range membersToChange() {
		for _, some := range []task{{Call: 1}, {Call: 1000}, {Num: 1}, {Num: 900}, {Item: itemOf("k", "", 0)}, {Item: itemOf("", "v", 0)}, {Item: itemOf("", "", 1)}, {Item: itemOf("k", "v", 1001)}, {Left: []int{1}}, {Left: []int{2, 3}}, {Call: 1, Num: 1, Item: itemOf("k", "v", 1001), Left: []int{2}}} {
			m.Task = some
			all = append(all, changedMember{"a Task of Op 0 with something in it", m, false})
			for op := 1; op <= 2; op++ {
				m.Task.Op, m.Task.Num = op, max(some.Num, 1)
				all = append(all, changedMember{"a Task with or without Serves", m, m.Serves})
			}
		}
	}
	return all
}

// changedMembers are right members of which one thing is changed.
func changedMembers() []changedMember {
	return slices.Concat(changedNumbers(), changedNodes(), changedItems(), changedFlags(), changedTasks())
}

func wantMemberOk(t *testing.T, what string, m member, want bool) {
	t.Helper()
	if ruleMember(m) != want {
		t.Fatalf("%s: by the rule %+v is %v", what, m, !want)
	}
	if got := impl.MemberOk(m); got != want {
		t.Errorf("%s: MemberOk(%+v) = %v", what, m, got)
	}
}

func TestMemberOk(t *testing.T) {
	for _, m := range membersToChange() {
		wantMemberOk(t, "as it is", m, true)
	}
	rights := map[bool]int{}
	for _, c := range changedMembers() {
		wantMemberOk(t, c.what, c.member, c.right)
		rights[c.right]++
	}
	if rights[true] < 400 || rights[false] < 1000 {
		t.Errorf("%d changed members are right, %d are not", rights[true], rights[false])
	}
	wantMemberOk(t, "nothing at all", member{}, false)
}

func TestMemberOkFlags(t *testing.T) {
	wantMemberOk(t, "Serves", serving(1, 1), true)
	wantMemberOk(t, "Serves without Base", member{Id: 1, Epoch: 1, Leads: true, Serves: true}, false)
	wantMemberOk(t, "Serves without Leads", member{Id: 1, Epoch: 1, Base: true, Serves: true}, false)
	wantMemberOk(t, "Serves alone", member{Id: 1, Epoch: 1, Serves: true}, false)
	waits := serving(1, 1)
	waits.Waits = []int{2}
	wantMemberOk(t, "Serves with Waits", waits, false)
	wantMemberOk(t, "Fell", fallen(1, 1), true)
	wantMemberOk(t, "Fell with Base", member{Id: 1, Epoch: 1, Fell: true, Base: true}, false)
	wantMemberOk(t, "Fell with Leads", member{Id: 1, Epoch: 1, Fell: true, Leads: true}, false)
	wantMemberOk(t, "Fell with both", member{Id: 1, Epoch: 1, Fell: true, Base: true, Leads: true}, false)
	wantMemberOk(t, "Fell, with all else that is right", member{Id: 1, Epoch: 1, Fell: true, Waits: []int{1, 2}, Items: twoItems(), Count: 900}, true)
}

// What the rule does not name is not looked at: the item of a Task, who is in Waits and in Left,
// what Num and Count have to do with each other, and what Ver an item has in an Epoch.
func TestMemberOkLooksAtNothingElse(t *testing.T) {
	for _, w := range wrongItems() {
		for op := 1; op <= 2; op++ {
			wantMemberOk(t, "the item of a Task", withTask(serving(1, 1), op, 0, 1, w.item, 2), true)
		}
	}
	wantMemberOk(t, "Left with itself", withTask(serving(1, 1), 1, 0, 1, item{}, 1), true)
	wantMemberOk(t, "Left with nobody", withTask(serving(1, 1), 1, 0, 1, item{}), true)
	wantMemberOk(t, "Num above Count", withTask(serving(1, 1), 1, 0, 900, item{}, 2), true)
	wantMemberOk(t, "Waits without Leads", member{Id: 1, Epoch: 1, Waits: []int{1, 2, 3, 4, 5, 6}}, true)
	wantMemberOk(t, "Items without Base", member{Id: 1, Epoch: 1, Items: manyItems(12)}, true)
	wantMemberOk(t, "an item of a later Epoch", based(1, 1, itemOf("a", "", 9001)), true)
}

func TestFall(t *testing.T) {
	for _, m := range membersToChange() {
		next := fall(t, m)
		if want := (member{Id: m.Id, Epoch: m.Epoch, Fell: true}); !sameMember(next, want) || !impl.MemberOk(next) {
			t.Errorf("Fall(%+v) = %+v; want %+v, which is right", m, next, want)
		}
		if again := fall(t, next); !sameMember(again, next) {
			t.Errorf("Fall of one that fell = %+v; want %+v", again, next)
		}
	}
}

// Nothing is asked of who falls: one that is not right loses the same, and gets no more right by it.
func TestFallOfWrongMembers(t *testing.T) {
	for _, c := range wrongMembers() {
		fall(t, c.member)
	}
	for _, n := range []int{math.MinInt, -1, 0, 7, 10, math.MaxInt} {
		if next := fall(t, serving(n, 3, twoItems()...)); next.Id != n || next.Epoch != 3 || !next.Fell {
			t.Errorf("Fall of the Id %d = %+v", n, next)
		}
		if next := fall(t, serving(3, n, twoItems()...)); next.Id != 3 || next.Epoch != n || !next.Fell {
			t.Errorf("Fall of the Epoch %d = %+v", n, next)
		}
	}
}
