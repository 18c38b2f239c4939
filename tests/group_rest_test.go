package tests

import (
	"math"
	"slices"
	"testing"

	"loop.example/g00180/impl"
)

// restAndDeliver wants Rest to do what as many events do that deliver the first message, but for the place.
func restAndDeliver(t *testing.T, views [][]int, events []event, steps int) {
	t.Helper()
	g, _, _ := live(t, views, events)
	got := rest(t, g, steps)
	want, _, ok := live(t, views, slices.Concat(events, slices.Repeat([]event{deliverAt(0)}, steps)))
	if !ok {
		t.Fatalf("%d more than %+v are too many", steps, events)
	}
	for at, c := range want.Calls {
		if c.Done >= len(events) {
			want.Calls[at].Done = 70
		}
	}
	if !sameGroup(got, want) {
		t.Fatalf("Rest(%+v, %d) =\n%+v; want\n%+v", g, steps, got, want)
	}
}

func TestRestIsDelivering(t *testing.T) {
	for seed := range 400 {
		views, events := drawnLife(40, seed)
		for _, steps := range []int{0, 1, 2, 3, 10, 30} {
			restAndDeliver(t, views, events, steps)
		}
	}
}

// A put in a view of three, step by step.
func TestRestSteps(t *testing.T) {
	s := newLifeScene(t, []int{1, 2, 3})
	x := itemOf("k", "val", 1001)
	s.do(t, beginPut(1, "k", "val"), 0)
	g := s.now
	busy := withTask(counted(serving(1, 1), 1), 1, 0, 1, x, 2, 3)
	members := func(first, second, third member) []member {
		return append([]member{first, second, third}, g.Members[3:]...)
	}
	less := withTask(busy, 1, 0, 1, x, 3)
	steps := []group{
		g,
		{Members: members(busy, based(2, 1, x), based(3, 1)), Flying: []msg{askStore(1, 3, 1, 1, x), tellStored(2, 1, 1, 1)}, Calls: g.Calls},
		{Members: members(busy, based(2, 1, x), based(3, 1, x)), Flying: []msg{tellStored(2, 1, 1, 1), tellStored(3, 1, 1, 1)}, Calls: g.Calls},
		{Members: members(less, based(2, 1, x), based(3, 1, x)), Flying: []msg{tellStored(3, 1, 1, 1)}, Calls: g.Calls},
		{Members: members(counted(serving(1, 1, x), 1), based(2, 1, x), based(3, 1, x)), Calls: []called{doneCall(putCall(0, "k", "val"), 70, 1001, 1, 1, "")}},
	}
	for count, want := range map[int]int{math.MinInt: 0, -1000: 0, -1: 0, 0: 0, 1: 1, 2: 2, 3: 3, 4: 4, 5: 4, 6: 4, 999: 4, 1000: 4, 1001: 4, math.MaxInt: 4} {
		wanted := steps[want]
		wanted.Views = g.Views
		if got := rest(t, g, count); !sameGroup(got, wanted) {
			t.Errorf("Rest of %d steps is\n%+v; want\n%+v", count, got, wanted)
		}
	}
}

// What is done by the last answer that comes at rest has the place MaxLife, and what was done keeps its own.
func TestRestPlace(t *testing.T) {
	s := newLifeScene(t, []int{1, 2})
	s.do(t, beginPut(1, "k", "one"), 0)
	s.calm(t)
	s.do(t, beginGet(1, "k"), 0)
	s.twice(t, askSure(1, 2, 1, 2))
	g := rest(t, s.now, 10)
	if want := []called{doneCall(putCall(0, "k", "one"), 2, 1001, 1, 1, ""), doneCall(getCall(3, "k"), impl.MaxLife, 1001, 1, 2, "one")}; !slices.Equal(g.Calls, want) || len(g.Flying) > 0 {
		t.Errorf("at rest there are %+v, and %+v fly; want %+v", g.Calls, g.Flying, want)
	}
}

func TestRestOfNoMessages(t *testing.T) {
	for _, steps := range []int{math.MinInt, -1, 0, 1, 1000, 1001, math.MaxInt} {
		for count := 1; count <= 9; count++ {
			g, _ := impl.GroupNew(rightViews(count))
			if got := rest(t, g, steps); !sameGroup(got, g) {
				t.Errorf("Rest(%+v, %d) = %+v", g, steps, got)
			}
		}
		if got := rest(t, group{}, steps); !sameGroup(got, group{}) {
			t.Errorf("Rest of no group is %+v", got)
		}
	}
}

// manyFlying is a group in which so many messages fly that come to a member, and are answered or not.
func manyFlying(count int, x msg) group {
	g, _ := impl.GroupNew([][]int{{1, 2}})
	g.Flying = slices.Repeat([]msg{x}, count)
	return g
}

// 1000 are delivered at most, whatever is asked for.
func TestRestHowManyAtMost(t *testing.T) {
	for _, count := range []int{1, 500, 999, 1000, 1001, 1500} {
		for steps, done := range map[int]int{-1: 0, 0: 0, 1: 1, count - 1: count - 1, count: count, 999: 999, 1000: 1000, 1001: 1000, 2000: 1000, math.MaxInt: 1000} {
			done = min(done, 1000, count)
			gone := manyFlying(count, tellSure(1, 2, 1, 7))
			if got := rest(t, gone, steps); len(got.Flying) != count-done {
				t.Errorf("of %d messages %d steps leave %d; want %d", count, steps, len(got.Flying), count-done)
			}
			answered := manyFlying(count, askSure(1, 2, 1, 7))
			got := rest(t, answered, steps)
			asked := slices.IndexFunc(append(got.Flying, tellSure(2, 1, 1, 7)), func(x msg) bool { return x.Kind == impl.TellSure })
			if done < count && (asked != count-done || len(got.Flying) != count) {
				t.Errorf("of %d questions %d steps leave %d, and %d messages; want %d, and %d", count, steps, asked, len(got.Flying), count-done, count)
			}
		}
	}
}

// So many steps, and so many more, are as many as both.
func TestRestInParts(t *testing.T) {
	for seed := range 600 {
		views, events := drawnLife(70, seed*13+5)
		g, _, _ := impl.RunGroup(views, events)
		for _, first := range []int{0, 1, 2, 7} {
			for _, second := range []int{0, 1, 5, 900} {
				if got, want := rest(t, rest(t, g, first), second), rest(t, g, first+second); !sameGroup(got, want) {
					t.Fatalf("%d steps and %d are not %d of %+v", first, second, first+second, g)
				}
			}
		}
	}
}

// wantRest lets a group that no life gives rest, by the rules and with each number of steps.
func wantRest(t *testing.T, g group) group {
	t.Helper()
	for _, steps := range []int{math.MinInt, -1, 0, 1, 2, 3, 999} {
		rest(t, g, steps)
	}
	return rest(t, g, 1000)
}

// restGroup is a group with a put and a get under way; its members stand in an Epoch each.
func restGroup(t *testing.T) group {
	t.Helper()
	s := newLifeScene(t, []int{1, 2, 3}, []int{4, 2}, []int{2, 5})
	s.do(t, beginPut(1, "k", "one"), 0)
	s.calm(t)
	s.do(t, adoptBy(4), 0)
	s.do(t, beginGet(1, "k"), 0)
	return s.now
}

// Messages to nobody are gone, one a step, and the others come.
func TestRestOfMessagesToNobody(t *testing.T) {
	for _, to := range []int{math.MinInt, -1, 0, 7, 8, math.MaxInt} {
		g := restGroup(t)
		want := wantRest(t, g)
		for place := range len(g.Flying) + 1 {
			more := cloneGroup(g)
			more.Flying = slices.Insert(more.Flying, place, askSure(1, to, 1, 1))
			if got := wantRest(t, more); !sameGroup(got, want) {
				t.Errorf("with a message to %d it comes to %+v; want %+v", to, got, want)
			}
			if got, want := rest(t, more, place+1), rest(t, g, place); !sameGroup(got, want) {
				t.Errorf("behind a message to %d there is %+v; want %+v", to, got, want)
			}
		}
	}
}

func TestRestOfMissingMembers(t *testing.T) {
	g := restGroup(t)
	for at := range g.Members {
		less := cloneGroup(g)
		less.Members = slices.Delete(less.Members, at, at+1)
		if got := wantRest(t, less); len(got.Members) != 5 || len(got.Flying) > 0 {
			t.Errorf("without %d there are %+v, and %+v fly", at+1, got.Members, got.Flying)
		}
	}
	none := cloneGroup(g)
	none.Members = nil
	if got := wantRest(t, none); len(got.Members) > 0 || len(got.Flying) > 0 || !slices.Equal(got.Calls, g.Calls) {
		t.Errorf("without any there is %+v", got)
	}
}

// A message comes to the member of its number, wherever that one stands.
func TestRestOfMembersInAnotherOrder(t *testing.T) {
	g := restGroup(t)
	want := wantRest(t, g)
	for seed := range 40 {
		other := cloneGroup(g)
		order := newDraws(seed).nodes(6)
		for at, id := range order {
			other.Members[at] = g.Members[id-1]
		}
		got := wantRest(t, other)
		for at, id := range order {
			if !sameMember(got.Members[at], want.Members[id-1]) {
				t.Fatalf("in the order %v %d is %+v; want %+v", order, id, got.Members[at], want.Members[id-1])
			}
		}
		if !slices.Equal(got.Calls, want.Calls) {
			t.Fatalf("in the order %v the calls are %+v; want %+v", order, got.Calls, want.Calls)
		}
	}
}

// Of two members of one number the first one hears.
func TestRestOfMembersThatAreThereTwice(t *testing.T) {
	g := restGroup(t)
	twice := cloneGroup(g)
	twice.Members = append(twice.Members, twice.Members...)
	want, got := wantRest(t, g), wantRest(t, twice)
	if !slices.EqualFunc(got.Members[:6], want.Members, sameMember) || !slices.EqualFunc(got.Members[6:], g.Members, sameMember) {
		t.Errorf("the members are %+v", got.Members)
	}
}

// Members, views and messages that are not right: nobody hears, and all messages are gone.
func TestRestOfWhatIsNotRight(t *testing.T) {
	g := restGroup(t)
	for _, views := range wrongViews() {
		wrong := cloneGroup(g)
		wrong.Views = views
		if got := wantRest(t, wrong); len(got.Flying) > 0 || !slices.EqualFunc(got.Members, g.Members, sameMember) || !slices.Equal(got.Calls, g.Calls) || !sameViews(got.Views, views) {
			t.Errorf("with the views %v it comes to %+v", views, got)
		}
	}
	for _, c := range wrongMembers() {
		wrong := cloneGroup(g)
		wrong.Members = []member{c.member}
		if got := wantRest(t, wrong); len(got.Flying) > 0 || !sameMember(got.Members[0], c.member) {
			t.Errorf("%s: %+v comes to %+v", c.what, c.member, got)
		}
	}
	for _, w := range wrongMsgs() {
		wrong := cloneGroup(g)
		wrong.Flying = []msg{w.msg}
		if got := rest(t, wrong, 1); len(got.Flying) > 0 || !slices.EqualFunc(got.Members, g.Members, sameMember) {
			t.Errorf("%s: %+v comes to %+v", w.what, w.msg, got)
		}
	}
}

// What is said of a call that is not there, or that was done, or of another Op, or with anything in it.
func TestRestOfCalls(t *testing.T) {
	x := itemOf("k", "val", 1001)
	for _, call := range []int{0, 1, 2, 3, 4, 1000} {
		for op := 1; op <= 2; op++ {
			g, _ := impl.GroupNew([][]int{{1, 2}})
			g.Members[0] = withTask(counted(serving(1, 1, x), 2), op, call, 2, itemOf("k", "new", 1002), 2)
			g.Flying = []msg{{Kind: 4 + 2*op, From: 2, To: 1, Epoch: 1, Num: 2}}
			ver, got := 1002, "new"
			if op == impl.OpGet {
				ver, got = 1001, "val"
			}
			for _, done := range []int{math.MinInt, -2, -1, 0, 5, 70, 71} {
				g.Calls = []called{
					{Op: 1, Key: "a", Done: done}, {Op: 2, Key: "b", Val: "w", When: 9, Done: done, Ver: 4, Epoch: 5, Num: 6, Got: "old"},
					{Op: 0, Done: done, Got: "kept"}, {Op: 7, Key: long(300), When: -1, Done: done},
				}
				want := slices.Clone(g.Calls)
				if call < 4 && done == -1 {
					want[call].Done, want[call].Ver, want[call].Epoch, want[call].Num = 70, ver, 1, 2
				}
				if call == 1 && done == -1 {
					want[1].Got = got
				}
				if now := wantRest(t, g); !slices.Equal(now.Calls, want) || now.Members[0].Task.Op != 0 {
					t.Errorf("what is said of the call %d makes %+v; want %+v", call, now.Calls, want)
				}
			}
			g.Calls = nil
			if now := wantRest(t, g); len(now.Calls) > 0 {
				t.Errorf("of no calls there are %+v", now.Calls)
			}
		}
	}
}

// anyGroup is drawn with no life in mind: members that stand anyhow, messages of anything.
func (d *draws) anyGroup() group {
	right := d.views()
	g := group{Views: right}
	if d.below(8) == 0 {
		g.Views = wrongViews()[d.below(len(wrongViews()))]
	}
	for range d.below(9) {
		m := d.member(right)
		// Many are near the end of a Task, of a call that may be there or not.
		if d.below(3) == 0 {
			m = withTask(serving(m.Id, m.Epoch, m.Items...), 1+d.below(2), d.below(6), 1+d.below(3), d.item(), 1+d.below(6))
		}
		if d.below(12) == 0 {
			m.Epoch = 12 * d.below(2)
		}
		g.Members = append(g.Members, m)
	}
	for range d.below(30) {
		x := d.message(member{Id: 1 + d.below(6), Epoch: 1})
		if len(g.Members) > 0 && d.below(8) > 0 {
			x = d.message(g.Members[d.below(len(g.Members))])
		}
		if d.below(10) == 0 {
			x = d.wrongMessage(x)
		}
		g.Flying = append(g.Flying, x)
	}
	for range d.below(6) {
		c := called{Op: d.below(4), Key: d.item().Key, Val: drawnText(d.below(4), d.below(99)), When: d.below(80) - 5, Done: -1}
		if d.below(3) == 0 {
			c.Done = d.below(80) - 5
		}
		g.Calls = append(g.Calls, c)
	}
	return g
}

func TestRestOfAnyGroup(t *testing.T) {
	did := map[string]int{}
	for seed := range 4000 {
		g := newDraws(seed).anyGroup()
		for _, steps := range []int{0, 1, 5, 1000} {
			got := rest(t, g, steps)
			if !slices.EqualFunc(got.Members, g.Members, sameMember) {
				did["members change"]++
			}
			if !slices.Equal(got.Calls, g.Calls) {
				did["calls are told"]++
			}
			if len(got.Flying) > 0 && steps == 1000 {
				did["no end"]++
			}
		}
	}
	if did["members change"] < 2000 || did["calls are told"] < 100 || did["no end"] > 0 {
		t.Errorf("this happened: %v", did)
	}
}
