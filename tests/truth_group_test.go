package tests

import (
	"math"
	"slices"
	"testing"

	"loop.example/g00180/impl"
)

// wantServes asks of the members in each order of the list; their items, Tasks and so on do not count.
func wantServes(t *testing.T, what string, want bool, views [][]int, list ...member) {
	t.Helper()
	eachOrder(list, func(order []member) {
		g := group{Views: views, Members: order}
		if got := impl.OneServes(g); got != want || ruleOneServes(g) != want {
			t.Fatalf("%s: OneServes(%+v) = %v, by the rule %v; want %v", what, g, got, ruleOneServes(g), want)
		}
		g.Members = slices.Clone(order)
		for at := range g.Members {
			m := &g.Members[at]
			m.Base, m.Leads, m.Fell, m.Waits, m.Items, m.Count = !m.Base, !m.Leads, !m.Fell, []int{at, -1}, twoItems()[at%2:], -at
			m.Task = task{Op: at + 1, Call: -1}
		}
		g.Calls, g.Flying = []called{stamped(0, 5, 1, 1), stamped(0, 5, 1, 1)}, []msg{{}}
		if got := impl.OneServes(g); got != want {
			t.Fatalf("%s: with other things OneServes(%+v) = %v; want %v", what, g, got, want)
		}
	})
}

func TestOneServesWhereNobodyServes(t *testing.T) {
	wantServes(t, "nothing at all", true, nil)
	wantServes(t, "no members", true, [][]int{{1, 2}, {2}})
	views := [][]int{{1, 2}, {2}}
	wantServes(t, "nobody serves", true, views, based(1, 1), based(2, 1), fallen(3, 1), leads(2, 2), waits(based(2, 2), 1))
	for _, epoch := range []int{math.MinInt, -1, 0, 3, math.MaxInt} {
		wantServes(t, "nobody serves in an Epoch without a view", true, views, based(1, epoch), leads(2, epoch))
		wantServes(t, "nobody serves, and there are no views", true, nil, based(1, epoch), leads(1, epoch))
	}
}

// The first one of its view, another one of it, and one that is not in it, in views of 1 to 4.
func TestOneServesWhoIsTheFirst(t *testing.T) {
	views := [][]int{{1}, {2, 1}, {3, 6, 2}, {4, 3, 2, 1}, {6, 5, 4, 3}}
	firsts, others := 0, 0
	for at, view := range views {
		for id := 0; id <= 7; id++ {
			want := id == view[0]
			if want {
				firsts++
			} else if slices.Contains(view, id) {
				others++
			}
			wantServes(t, "one serves", want, views, serving(id, at+1))
			wantServes(t, "one serves, others do not", want, views, serving(id, at+1), based(1, at+1), based(6, 9), leads(view[0], at+1))
			wantServes(t, "one serves behind one that may", want, append([][]int{{5}}, views...), serving(5, 1), serving(id, at+2))
		}
	}
	if firsts != 5 || others != 9 {
		t.Errorf("%d are first ones, %d other ones", firsts, others)
	}
}

func TestOneServesOfTwo(t *testing.T) {
	views := [][]int{{1, 2}, {2, 1}, {1}, {2}}
	wantServes(t, "in two Epochs", true, views, serving(1, 1), serving(2, 2))
	wantServes(t, "in two Epochs, of one member", true, views, serving(1, 1), serving(1, 3))
	wantServes(t, "in four Epochs", true, views, serving(1, 1), serving(2, 2), serving(1, 3), serving(2, 4))
	wantServes(t, "in one Epoch", false, views, serving(1, 1), serving(2, 1))
	wantServes(t, "in one Epoch, both the first one", false, views, serving(1, 1), serving(1, 1))
	wantServes(t, "in one Epoch, among others", false, views, serving(2, 2), serving(1, 3), based(2, 1), serving(1, 3), serving(2, 4))
	wantServes(t, "in one Epoch, the second does not serve", true, views, serving(1, 1), based(2, 1))
	wantServes(t, "in two Epochs, one is not the first one", false, views, serving(1, 1), serving(1, 2))
}

// A member that serves where there is no view, or nobody in it.
func TestOneServesWithoutAView(t *testing.T) {
	for _, views := range [][][]int{nil, {}, {{1, 2}}, {{1, 2}, {2, 1}}} {
		for _, epoch := range []int{math.MinInt, -1, 0, len(views) + 1, len(views) + 2, 10, math.MaxInt} {
			for id := 0; id <= 3; id++ {
				wantServes(t, "an Epoch without a view", false, views, serving(id, epoch))
				wantServes(t, "an Epoch without a view, of one that does not serve", true, views, based(id, epoch))
			}
		}
	}
	for _, empty := range [][]int{nil, {}} {
		for id := -1; id <= 2; id++ {
			wantServes(t, "an empty view", false, [][]int{empty}, serving(id, 1))
			wantServes(t, "an empty view among others", false, [][]int{{1, 2}, empty, {1}}, serving(id, 2))
			wantServes(t, "an empty view, of one that does not serve", true, [][]int{empty}, based(id, 1))
		}
		wantServes(t, "behind an empty view", true, [][]int{empty, {2}}, serving(2, 2))
	}
}

// Of views that are not right the first one is the first one all the same.
func TestOneServesInWrongViews(t *testing.T) {
	for _, id := range []int{math.MinInt, -1, 0, 7, 8, math.MaxInt} {
		wantServes(t, "a node that is none", true, [][]int{{id, 1}}, serving(id, 1))
		wantServes(t, "another one of its view", false, [][]int{{id, 1}}, serving(1, 1))
	}
	wantServes(t, "one that is in it twice", true, [][]int{{1, 1, 1, 1, 1, 1}}, serving(1, 1))
	many := slices.Repeat([][]int{{1, 2}}, 12)
	wantServes(t, "an Epoch above MaxEpoch", true, many, serving(1, 10), serving(1, 12))
	wantServes(t, "an Epoch above MaxEpoch, of another one", false, many, serving(2, 12))
}

// wantAlike asks of the members in each order of the list; whom they wait for, their Counts and so on do not count.
func wantAlike(t *testing.T, what string, want bool, views [][]int, list ...member) {
	t.Helper()
	eachOrder(list, func(order []member) {
		g := group{Views: views, Members: order}
		if got := impl.Alike(g); got != want || ruleAlike(g) != want {
			t.Fatalf("%s: Alike(%+v) = %v, by the rule %v; want %v", what, g, got, ruleAlike(g), want)
		}
		g.Members = slices.Clone(order)
		for at := range g.Members {
			m := &g.Members[at]
			m.Leads, m.Fell, m.Waits, m.Count, m.Task.Call, m.Task.Left = !m.Leads, !m.Fell, []int{at, -1}, -at, at, []int{9}
		}
		g.Calls, g.Flying = []called{stamped(0, 5, 1, 1), stamped(0, 5, 1, 1)}, []msg{{}}
		if got := impl.Alike(g); got != want {
			t.Fatalf("%s: with other things Alike(%+v) = %v; want %v", what, g, got, want)
		}
	})
}

// otherLists are all unlike twoItems: others, fewer, more, none, and each field of one changed.
func otherLists() [][]item {
	a, c := itemOf("a", "x", 1001), itemOf("c", "y", 1002)
	return [][]item{
		nil, {}, {a}, {c}, {a, c, itemOf("d", "z", 1003)}, {itemOf("A", "w", 1000), a, c},
		{itemOf("a", "x", 1000), c}, {itemOf("a", "X", 1001), c}, {itemOf("b", "x", 1001), c},
		{a, itemOf("c", "y", 1003)}, {a, itemOf("c", "", 1002)}, {a, itemOf("cc", "y", 1002)}, {c, a}, {a, a}, {a, a, c},
	}
}

func TestAlikeOfNothing(t *testing.T) {
	wantAlike(t, "nothing at all", true, nil)
	wantAlike(t, "no members", true, [][]int{{1, 2}})
	for _, items := range otherLists() {
		wantAlike(t, "one alone", true, [][]int{{1, 2}}, serving(1, 1, items...))
		wantAlike(t, "nobody serves", true, [][]int{{1, 2}}, based(1, 1, items...), based(2, 1, twoItems()...), waits(based(2, 1), 1))
	}
	empty := serving(1, 1)
	for _, none := range [][]item{nil, {}} {
		empty.Items = none
		wantAlike(t, "both have nothing", true, [][]int{{1, 2}}, empty, based(2, 1))
		wantAlike(t, "both have nothing", true, [][]int{{1, 2}}, empty, member{Id: 2, Epoch: 1, Base: true, Items: []item{}})
		wantAlike(t, "one has something", false, [][]int{{1, 2}}, empty, based(2, 1, twoItems()...))
	}
}

// Another one of the view that is Base in its Epoch, at each place of views of 2 to 4, in each Epoch.
func TestAlikeOfTheSameAndOthers(t *testing.T) {
	for _, view := range [][]int{{1, 2}, {3, 1, 2}, {4, 6, 5, 2}, {1, 2, 3, 4}} {
		for epoch := 1; epoch <= 9; epoch++ {
			views := slices.Repeat([][]int{{1, 6}}, 9)
			views[epoch-1] = view
			list := []member{serving(view[0], epoch, twoItems()...)}
			for _, id := range view[1:] {
				list = append(list, based(id, epoch, twoItems()...))
			}
			wantAlike(t, "all have the same", true, views, list...)
			for at := 1; at < len(list); at++ {
				for _, items := range otherLists() {
					other := slices.Clone(list)
					other[at].Items = items
					wantAlike(t, "one has others", false, views, other...)
					other[at].Base = false
					wantAlike(t, "one has others, and is not Base", true, views, other...)
				}
			}
		}
	}
}

// With a Task nothing is asked, of whatever Op; what else stands in a Task is none without an Op.
func TestAlikeWithATask(t *testing.T) {
	views := [][]int{{1, 2, 3}}
	m := serving(1, 1, twoItems()...)
	for _, items := range otherLists() {
		list := []member{based(2, 1, twoItems()...), based(3, 1, items...)}
		for _, op := range []int{1, 2, 3, -1, math.MinInt, math.MaxInt} {
			wantAlike(t, "with a Task", true, views, append(list, withTask(m, op, 0, 1, itemOf("k", "v", 1001), 2))...)
			wantAlike(t, "with a Task without anything", true, views, append(list, withTask(m, op, 0, 0, item{}))...)
		}
		wantAlike(t, "without a Task", false, views, append(list, m)...)
		wantAlike(t, "without an Op", false, views, append(list, withTask(m, 0, 5, 6, itemOf("k", "v", 1001), 2))...)
		// A Task of another one does not count: only who serves has one.
		wantAlike(t, "with a Task of the other one", false, views, m, withTask(list[1], 1, 0, 1, item{}))
	}
}

// One that is not Base, one of another Epoch, one that is not of its view: it may have anything.
func TestAlikeOfThoseThatNeedNotBe(t *testing.T) {
	views := [][]int{{4, 5}, {1, 2}, {1, 2, 3}}
	for _, items := range otherLists() {
		m, same := serving(1, 2, twoItems()...), based(2, 2, twoItems()...)
		for _, other := range []member{{Id: 2, Epoch: 2, Items: items}, leads(2, 2, items...), {Id: 2, Epoch: 2, Fell: true, Items: items}} {
			wantAlike(t, "one is not Base", true, views, m, other)
		}
		for _, epoch := range []int{math.MinInt, -2, 0, 1, 3, 4, 258, math.MaxInt} {
			wantAlike(t, "one is of another Epoch", true, views, m, same, based(2, epoch, items...))
		}
		for _, id := range []int{math.MinInt, -2, 0, 3, 4, 5, 6, 7, 258, math.MaxInt} {
			wantAlike(t, "one is not of its view", true, views, m, same, based(id, 2, items...))
		}
		wantAlike(t, "one is of it", false, views, m, same, based(3, 2, twoItems()...), based(2, 2, items...))
		wantAlike(t, "one is of it in another Epoch", false, views, serving(1, 3, twoItems()...), based(3, 3, items...))
	}
}

// Where there is no view there are no others of it.
func TestAlikeWithoutAView(t *testing.T) {
	for _, views := range [][][]int{nil, {}, {{1, 2}}, {{1, 2}, {2, 1}}} {
		for _, epoch := range []int{math.MinInt, -1, 0, len(views) + 1, 10, math.MaxInt} {
			wantAlike(t, "an Epoch without a view", true, views, serving(1, epoch, twoItems()...), based(2, epoch))
		}
	}
	for _, empty := range [][]int{nil, {}} {
		wantAlike(t, "an empty view", true, [][]int{empty, {1, 2}}, serving(1, 1, twoItems()...), based(2, 1), based(0, 1))
	}
}

// Members that stand where no life brings them: what is said holds of them by its words.
func TestAlikeOfAnyMembers(t *testing.T) {
	views := [][]int{{1, 2}, {7, -1}}
	wantAlike(t, "who serves is another one of it", false, views, serving(2, 1), based(1, 1, twoItems()...))
	wantAlike(t, "who serves is not in it", false, views, serving(3, 1), based(1, 1, twoItems()...))
	wantAlike(t, "who serves is not in it, nor the other one", true, views, serving(3, 1), based(4, 1, twoItems()...))
	wantAlike(t, "who serves is not Base", false, views, member{Id: 1, Epoch: 1, Serves: true}, based(2, 1, twoItems()...))
	wantAlike(t, "both serve", false, views, serving(1, 1), serving(2, 1, twoItems()...))
	wantAlike(t, "both serve, with the same", true, views, serving(1, 1, twoItems()...), serving(2, 1, twoItems()...))
	wantAlike(t, "one is there twice", false, views, serving(1, 1), based(1, 1, twoItems()...))
	wantAlike(t, "nodes that are none", false, views, serving(7, 2), based(-1, 2, twoItems()...))
	many := slices.Repeat([][]int{{1, 2}}, 12)
	wantAlike(t, "an Epoch above MaxEpoch", false, many, serving(1, 12), based(2, 12, twoItems()...))
	wrong := []item{itemOf("z", "x", -1), itemOf("a", long(30), 0)}
	wantAlike(t, "the same that is not right", true, views, serving(1, 1, wrong...), based(2, 1, wrong...))
	wantAlike(t, "others that are not right", false, views, serving(1, 1, wrong...), based(2, 1, wrong[0], wrong[0]))
}

// soundGroup is what a life gives, with everything in it of which the truths speak.
func soundGroup(t *testing.T) group {
	t.Helper()
	s := newLifeScene(t, []int{1, 2}, []int{2, 3}, []int{4})
	s.do(t, beginPut(1, "k", "one"), 0)
	s.calm(t)
	s.do(t, beginPut(1, "k", "two"), 0)
	s.deliver(t, askStore(1, 2, 1, 2, itemOf("k", "two", 1002)))
	s.lose(t, tellStored(2, 1, 1, 2))
	s.do(t, adoptBy(2), 0)
	s.calm(t)
	s.do(t, beginGet(2, "k"), 0)
	s.calm(t)
	s.do(t, beginPut(2, "l", "three"), 0)
	s.calm(t)
	s.do(t, beginPut(2, "l", "four"), 0)
	s.lose(t, askStore(2, 3, 2, 3, itemOf("l", "four", 2003)))
	s.do(t, beginGet(2, "k"), 1)
	return s.now
}

// breaks changes a group so that one of the five is broken, and the other four are not.
type breaks struct {
	name   string
	change func(*group)
	say    func(*truthsOf)
}

func fiveBreaks() []breaks {
	return []breaks{
		{"InTime", func(g *group) {
			g.Calls = append(g.Calls, called{Op: 1, Key: "t", Done: 50, Epoch: 8, Num: 2}, called{Op: 1, Key: "t", When: 60, Done: 60, Epoch: 8, Num: 1})
		}, func(a *truthsOf) { a.inTime = false }},
		{"Reads", func(g *group) { g.Calls = append(g.Calls, doneGet("r", "never put", 9005, 9001)) }, func(a *truthsOf) { a.reads = false }},
		{"Fresh", func(g *group) { g.Calls = append(g.Calls, donePut("f", "", 9006, 9006), doneGet("f", "", 9007, 0)) }, func(a *truthsOf) { a.fresh = false }},
		{"OneServes", func(g *group) { g.Members = append(g.Members, serving(5, 9)) }, func(a *truthsOf) { a.oneServes = false }},
		{"Alike", func(g *group) {
			g.Views = append(g.Views, []int{6, 5})
			g.Members = append(g.Members, serving(6, len(g.Views)), based(5, len(g.Views), twoItems()...))
		}, func(a *truthsOf) { a.alike = false }},
	}
}

func TestSound(t *testing.T) {
	for _, g := range []group{{}, {Views: [][]int{{1}}}, {Members: []member{{}}, Calls: []called{{Done: -1}, {Done: -1}}}, soundGroup(t)} {
		if got := truths(t, g); got != allTrue() {
			t.Errorf("of %+v is answered %+v", g, got)
		}
	}
	for count := 1; count <= 9; count++ {
		g, _ := impl.GroupNew(rightViews(count))
		if got := truths(t, g); got != allTrue() {
			t.Errorf("of the new group %+v is answered %+v", g, got)
		}
	}
}

// Each of the five broken alone, and all together that are broken: Sound holds of none of them.
func TestSoundOfWhatIsBroken(t *testing.T) {
	for _, begin := range []group{{}, soundGroup(t)} {
		eachPick(5, 2, func(pick []int) {
			g, want, names := cloneGroup(begin), allTrue(), []string{}
			g.Views = slices.Clone(begin.Views)
			for at, one := range fiveBreaks() {
				if pick[at] == 1 {
					one.change(&g)
					one.say(&want)
					want.sound = false
					names = append(names, one.name)
				}
			}
			if got := truths(t, g); got != want {
				t.Errorf("with %v broken, of %+v is answered %+v; want %+v", names, g, got, want)
			}
		})
	}
}

// A life is changed at one place, as if something in it had gone wrong.
func TestSoundOfALifeThatIsChanged(t *testing.T) {
	changed := func(change func(*group)) truthsOf {
		g := cloneGroup(soundGroup(t))
		change(&g)
		return truths(t, g)
	}
	broken := func(say func(*truthsOf)) truthsOf {
		a := allTrue()
		a.sound = false
		say(&a)
		return a
	}
	// The calls are a put, one that is not done, a get of it, a put, one that is not done, one that was refused.
	changes := map[string]struct {
		change func(*group)
		want   truthsOf
	}{
		"the get is stamped ahead of the put":    {func(g *group) { g.Calls[2].Epoch = 0 }, broken(func(a *truthsOf) { a.inTime, a.reads = false, false })},
		"the get has one Stamp with a put":       {func(g *group) { g.Calls[2].Num = 2 }, broken(func(a *truthsOf) { a.inTime = false })},
		"the get has what nobody put":            {func(g *group) { g.Calls[2].Got = "five" }, broken(func(a *truthsOf) { a.reads = false })},
		"the get has nothing":                    {func(g *group) { g.Calls[2].Got, g.Calls[2].Ver = "", 0 }, broken(func(a *truthsOf) { a.fresh = false })},
		"the get has an older Ver":               {func(g *group) { g.Calls[2].Ver = 1000 }, broken(func(a *truthsOf) { a.fresh = false })},
		"the put of what it has was of another":  {func(g *group) { g.Calls[1].Key = "l" }, broken(func(a *truthsOf) { a.reads = false })},
		"the other one serves as well":           {func(g *group) { g.Members[2] = withTask(serving(3, 2), 1, 0, 1, item{}) }, broken(func(a *truthsOf) { a.oneServes = false })},
		"who serves has no Task, and others not": {func(g *group) { g.Members[1].Task, g.Members[1].Items = task{}, nil }, broken(func(a *truthsOf) { a.alike = false })},
	}
	for what, c := range changes {
		if got := changed(c.change); got != c.want {
			t.Errorf("%s: answered is %+v; want %+v", what, got, c.want)
		}
	}
}
