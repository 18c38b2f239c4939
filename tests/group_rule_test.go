package tests

import (
	"slices"
	"testing"

	"loop.example/g00180/impl"
)

type (
	group  = impl.Group
	event  = impl.Event
	called = impl.Call
)

func beginPut(node int, key, val string) event {
	return event{Kind: 1, Node: node, Op: 1, Key: key, Val: val}
}

func beginGet(node int, key string) event { return event{Kind: 1, Node: node, Op: 2, Key: key} }
func deliverAt(at int) event              { return event{Kind: 2, Node: 1, At: at} }
func dropAt(at int) event                 { return event{Kind: 3, Node: 1, At: at} }
func copyAt(at int) event                 { return event{Kind: 4, Node: 1, At: at} }
func adoptBy(node int) event              { return event{Kind: 5, Node: node} }
func fallBy(node int) event               { return event{Kind: 6, Node: node} }

// putCall and getCall are calls of which nothing is told yet.
func putCall(when int, key, val string) called {
	return called{Op: 1, Key: key, Val: val, When: when, Done: -1}
}

func getCall(when int, key string) called { return called{Op: 2, Key: key, When: when, Done: -1} }

// doneCall is a call that was told of.
func doneCall(c called, done, ver, epoch, num int, got string) called {
	c.Done, c.Ver, c.Epoch, c.Num, c.Got = done, ver, epoch, num, got
	return c
}

func sameViews(a, b [][]int) bool {
	return slices.EqualFunc(a, b, func(a, b []int) bool { return slices.Equal(a, b) })
}

// sameGroup holds every field of two groups against each other.
func sameGroup(a, b group) bool {
	return sameViews(a.Views, b.Views) && slices.EqualFunc(a.Members, b.Members, sameMember) &&
		sameTold(a.Flying, b.Flying) && slices.Equal(a.Calls, b.Calls)
}

// cloneGroup has lists of its own; what stands in the lists of its members and messages is never written by the rules.
func cloneGroup(g group) group {
	return group{Views: g.Views, Members: slices.Clone(g.Members), Flying: slices.Clone(g.Flying), Calls: slices.Clone(g.Calls)}
}

// ruleEvent is the rule of a right event, by what is wrong.
func ruleEvent(e event) bool {
	switch {
	case e.Kind < 1, e.Kind > 6, e.Node < 1, e.Node > 6, e.At < 0:
		return false
	case e.Kind > 1:
		return e.Op == 0 && len(e.Key)+len(e.Val) == 0
	case e.Op == 1:
		return ruleKey(e.Key) && len(e.Val) < 21
	}
	return e.Op == 2 && ruleKey(e.Key) && e.Val == ""
}

func ruleGroupNew(views [][]int) (group, bool) {
	if !ruleViews(views) {
		return group{}, false
	}
	g := group{Views: views}
	for id := 1; id <= 6; id++ {
		m, _ := ruleMemberNew(id, views)
		g.Members = append(g.Members, m)
	}
	return g, true
}

// ruleNext is the first epoch above a member's own whose view it is the first one of; 0 when there is none.
func ruleNext(m member, views [][]int) int {
	for at, view := range views {
		if at+1 > m.Epoch && view[0] == m.Id {
			return at + 1
		}
	}
	return 0
}

// ruleSay is what becomes of the calls by what is said at a place.
func ruleSay(calls []called, said []report, place int) []called {
	calls = slices.Clone(calls)
	for _, s := range said {
		for at, c := range calls {
			if at != s.Call || c.Done != -1 {
				continue
			}
			got := c.Got
			if c.Op == 2 {
				got = s.Item.Val
			}
			calls[at] = doneCall(c, place, s.Item.Ver, s.Epoch, s.Num, got)
		}
	}
	return calls
}

// ruleDeliver is what becomes of a group when a message is taken away, and comes to its To.
func ruleDeliver(before group, at, place int) group {
	g := cloneGroup(before)
	x := g.Flying[at]
	g.Flying = slices.Delete(g.Flying, at, at+1)
	who := slices.IndexFunc(g.Members, func(m member) bool { return m.Id == x.To })
	if who < 0 {
		return g
	}
	next, told, said := ruleHearMsg(g.Members[who], g.Views, x)
	g.Members[who], g.Flying, g.Calls = next, append(g.Flying, told...), ruleSay(g.Calls, said, place)
	return g
}

// ruleAct is what becomes of a group by one of its members.
func ruleAct(before group, e event, place int) (group, int) {
	g := cloneGroup(before)
	m := g.Members[e.Node-1]
	next, told, said, ok := m, []msg{}, []report{}, true
	switch e.Kind {
	case 1:
		w := wish{op: e.Op, call: len(g.Calls), key: e.Key, val: e.Val}
		g.Calls = append(g.Calls, called{Op: e.Op, Key: e.Key, Val: e.Val, When: place, Done: -1})
		next, told, said, ok = ruleBegin(m, g.Views, w)
	case 5:
		next, told, ok = ruleAdopt(m, g.Views, ruleNext(m, g.Views))
	case 6:
		next = ruleFall(m)
	}
	if !ok {
		return g, 1
	}
	g.Members[e.Node-1], g.Flying, g.Calls = next, append(g.Flying, told...), ruleSay(g.Calls, said, place)
	return g, 0
}

// ruleStep is what becomes of a group by a right event; the one before stays.
func ruleStep(before group, e event, place int) (group, int) {
	if e.Kind == 1 || e.Kind > 4 {
		return ruleAct(before, e, place)
	}
	if len(before.Flying) == 0 {
		return before, 1
	}
	at := e.At % len(before.Flying)
	g := cloneGroup(before)
	switch e.Kind {
	case 2:
		return ruleDeliver(before, at, place), 0
	case 3:
		g.Flying = slices.Delete(g.Flying, at, at+1)
	case 4:
		g.Flying = append(g.Flying, g.Flying[at])
	}
	return g, 0
}

// ruleRunGroup is RunGroup by the rules.
func ruleRunGroup(views [][]int, events []event) (group, []int, bool) {
	g, ok := ruleGroupNew(views)
	if !ok || len(events) > 70 || slices.ContainsFunc(events, func(e event) bool { return !ruleEvent(e) }) {
		return group{}, nil, false
	}
	var numbers []int
	for place, e := range events {
		next, number := ruleStep(g, e, place)
		g, numbers = next, append(numbers, number)
	}
	return g, numbers, true
}

// ruleRest is Rest by the rules.
func ruleRest(g group, steps int) group {
	for step := 0; step < steps && step < 1000 && len(g.Flying) > 0; step++ {
		g = ruleDeliver(g, 0, 70)
	}
	return g
}

// live is RunGroup, held against the rules.
func live(t *testing.T, views [][]int, events []event) (group, []int, bool) {
	t.Helper()
	g, numbers, ok := impl.RunGroup(views, events)
	want, wantNumbers, wantOk := ruleRunGroup(views, events)
	if !sameGroup(g, want) || !slices.Equal(numbers, wantNumbers) || ok != wantOk {
		t.Fatalf("RunGroup(%v, %+v) =\n%+v, %v, %v; want\n%+v, %v, %v", views, events, g, numbers, ok, want, wantNumbers, wantOk)
	}
	return g, numbers, ok
}

// rest is Rest, held against the rules.
func rest(t *testing.T, g group, steps int) group {
	t.Helper()
	got, want := impl.Rest(g, steps), ruleRest(g, steps)
	if !sameGroup(got, want) {
		t.Fatalf("Rest(%+v, %d) =\n%+v; want\n%+v", g, steps, got, want)
	}
	return got
}

// wantNoLife wants a false, and all zero.
func wantNoLife(t *testing.T, what string, views [][]int, events []event) {
	t.Helper()
	g, numbers, ok := impl.RunGroup(views, events)
	if !sameGroup(g, group{}) || len(numbers) != 0 || ok {
		t.Fatalf("%s: RunGroup(%v, %+v) = %+v, %v, %v; want nothing, false", what, views, events, g, numbers, ok)
	}
}

// lifeScene is a group to which one event happens after the other.
type lifeScene struct {
	views  [][]int
	events []event
	now    group
}

func newLifeScene(t *testing.T, views ...[]int) *lifeScene {
	t.Helper()
	s := &lifeScene{views: views}
	now, _, ok := live(t, views, nil)
	if !ok {
		t.Fatalf("there is no group of %v", views)
	}
	s.now = now
	return s
}

// branch is a scene that goes on alone from here.
func (s *lifeScene) branch() *lifeScene {
	return &lifeScene{views: s.views, events: slices.Clone(s.events), now: s.now}
}

// place is that of the event that comes next.
func (s *lifeScene) place() int { return len(s.events) }

// do lets an event happen, and wants its number.
func (s *lifeScene) do(t *testing.T, e event, number int) {
	t.Helper()
	s.events = append(s.events, e)
	now, numbers, ok := live(t, s.views, s.events)
	if last := len(s.events) - 1; !ok || len(numbers) != last+1 || numbers[last] != number {
		t.Fatalf("the last of %+v has the numbers %v, %v; want %d", s.events, numbers, ok, number)
	}
	s.now = now
}

// where is the place of a message among the others.
func (s *lifeScene) where(t *testing.T, x msg) int {
	t.Helper()
	at := slices.IndexFunc(s.now.Flying, func(other msg) bool { return sameMsg(other, x) })
	if at < 0 {
		t.Fatalf("%+v is not among %+v", x, s.now.Flying)
	}
	return at
}

// deliver wants each of these messages to be among the others, and lets it come.
func (s *lifeScene) deliver(t *testing.T, list ...msg) {
	t.Helper()
	for _, x := range list {
		s.do(t, deliverAt(s.where(t, x)), 0)
	}
}

// twice puts a message behind the others once more.
func (s *lifeScene) twice(t *testing.T, x msg) {
	t.Helper()
	s.do(t, copyAt(s.where(t, x)), 0)
}

func (s *lifeScene) lose(t *testing.T, list ...msg) {
	t.Helper()
	for _, x := range list {
		s.do(t, dropAt(s.where(t, x)), 0)
	}
}

// calm lets all messages come, in their order.
func (s *lifeScene) calm(t *testing.T) {
	t.Helper()
	for len(s.now.Flying) > 0 {
		s.do(t, deliverAt(0), 0)
	}
}

func (s *lifeScene) wantFlying(t *testing.T, want ...msg) {
	t.Helper()
	if !sameTold(s.now.Flying, want) {
		t.Fatalf("by %+v these fly: %+v; want %+v", s.events, s.now.Flying, want)
	}
}

func (s *lifeScene) wantCalls(t *testing.T, want ...called) {
	t.Helper()
	if !slices.Equal(s.now.Calls, want) {
		t.Fatalf("by %+v the calls are %+v; want %+v", s.events, s.now.Calls, want)
	}
}

// wantMembers wants these members to stand so, and all others as they were made.
func (s *lifeScene) wantMembers(t *testing.T, want ...member) {
	t.Helper()
	all, _ := ruleGroupNew(s.views)
	for _, m := range want {
		all.Members[m.Id-1] = m
	}
	if !slices.EqualFunc(s.now.Members, all.Members, sameMember) {
		t.Fatalf("by %+v the members are\n%+v; want\n%+v", s.events, s.now.Members, all.Members)
	}
}

// kinViews are views of which each has much of the one before, so that entries are handed on.
func (d *draws) kinViews() [][]int {
	views := [][]int{d.nodes(1 + d.below(4))}
	for range d.below(9) {
		last := slices.Clone(views[len(views)-1])
		fresh := slices.DeleteFunc(d.nodes(6), func(node int) bool { return slices.Contains(last, node) })
		switch d.below(4) {
		case 0:
			last[d.below(len(last))] = fresh[0]
		case 1:
			last = append(last, fresh[0])
		case 2:
			last = slices.Delete(last, 0, 1)
		}
		if len(last) == 0 || len(last) > 4 {
			last = d.nodes(1 + d.below(4))
		}
		other := d.below(len(last))
		last[0], last[other] = last[other], last[0]
		views = append(views, last)
	}
	return views
}

// ways is how the messages of a life go, and how often its members do something else; the greater a number, the more often.
type ways struct{ deliver, drop, copied, begin, adopt, fall int }

// drawnWays are calm ones and rough ones, by turns.
func drawnWays(seed int) ways {
	return []ways{
		{deliver: 70, drop: 1, copied: 3, begin: 20, adopt: 5, fall: 1},
		{deliver: 60, drop: 3, copied: 6, begin: 15, adopt: 8, fall: 2},
		{deliver: 60, drop: 0, copied: 20, begin: 15, adopt: 8, fall: 0},
		{deliver: 50, drop: 8, copied: 12, begin: 15, adopt: 12, fall: 6},
		{deliver: 80, drop: 0, copied: 0, begin: 15, adopt: 4, fall: 0},
	}[seed%5]
}

// kind is one of the six, as often as the ways have it.
func (d *draws) kind(w ways) int {
	shares := []int{w.begin, w.deliver, w.drop, w.copied, w.adopt, w.fall}
	left := d.below(w.begin + w.deliver + w.drop + w.copied + w.adopt + w.fall)
	for at, share := range shares {
		if left < share {
			return at + 1
		}
		left -= share
	}
	return 6
}

// nodeWho is mostly a member of which this holds, if there is one; else any node.
func (d *draws) nodeWho(g group, holds func(member) bool) int {
	node := 1 + d.below(6)
	if d.below(8) == 0 {
		return node
	}
	for step := range 6 {
		if m := g.Members[(node+step-1)%6]; holds(m) {
			return m.Id
		}
	}
	return node
}

// event is a right one of this Kind that mostly fits the group.
func (d *draws) event(g group, kind int) event {
	e := event{Kind: kind, Node: 1 + d.below(6), At: d.below(20)}
	if d.below(16) == 0 {
		e.At = d.below(1 << 30)
	}
	switch kind {
	case 1:
		e.Node = d.nodeWho(g, func(m member) bool { return m.Serves && m.Task.Op == 0 })
		e.Op, e.Key = 1+d.below(2), "key "+string(rune('a'+d.below(4)))
		if e.Op == 1 {
			e.Val = drawnText(d.below(21), d.below(1000))
		}
	case 2:
		// The last ones often come ahead of the others, which are late then.
		if count := len(g.Flying); count > 0 && d.below(3) == 0 {
			e.At = count - 1
		}
	case 5:
		e.Node = d.nodeWho(g, func(m member) bool {
			next := ruleNext(m, g.Views)
			return next > 0 && (next == m.Epoch+1 || d.below(4) == 0)
		})
	}
	return e
}

// lifeIn is a life of so many events that goes in these views.
func (d *draws) lifeIn(views [][]int, count int, w ways) []event {
	g, _ := ruleGroupNew(views)
	var events []event
	for place := range count {
		kind := d.kind(w)
		// Where nothing flies, there is mostly something begun rather than nothing delivered.
		if len(g.Flying) == 0 && kind < 5 && d.below(5) > 0 {
			kind = 1
		}
		e := d.event(g, kind)
		events = append(events, e)
		g, _ = ruleStep(g, e, place)
	}
	return events
}

// drawnLife is a life of so many events, and the views in which it goes.
func drawnLife(count, seed int) ([][]int, []event) {
	d := newDraws(seed)
	views := d.kinViews()
	if d.below(5) == 0 {
		views = d.views()
	}
	return views, d.lifeIn(views, count, drawnWays(seed))
}
