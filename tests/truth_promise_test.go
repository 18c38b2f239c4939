package tests

import (
	"math"
	"slices"
	"strconv"
	"testing"

	"loop.example/g00180/impl"
)

// ownVals are the same events, of which each put has a Val of its own, that tells which one was got.
func ownVals(events []event) []event {
	own := slices.Clone(events)
	for at := range own {
		if own[at].Op == 1 {
			own[at].Val = "val " + strconv.Itoa(at)
		}
	}
	return own
}

// register is what was asked of one Key: puts and gets that are done, and puts that are not and were got.
type register struct {
	list []called
	seen map[[2]int]bool
}

// mustWait tells whether a call of those that are left was done ahead of the When of this one.
func (r *register) mustWait(c called, taken int) bool {
	for at, other := range r.list {
		if taken>>at&1 == 0 && other.Done >= 0 && other.Done < c.When {
			return true
		}
	}
	return false
}

// fits tells whether those that are left fit an order behind those that are taken, of which the put at a place was the last one.
func (r *register) fits(taken, last int) bool {
	if r.seen[[2]int{taken, last}] {
		return false
	}
	r.seen[[2]int{taken, last}] = true
	val, left := "", false
	if last >= 0 {
		val = r.list[last].Val
	}
	for at, c := range r.list {
		if taken>>at&1 == 1 {
			continue
		}
		left = left || c.Done >= 0
		if r.mustWait(c, taken) || c.Op == 2 && c.Got != val {
			continue
		}
		next := last
		if c.Op == 1 {
			next = at
		}
		if r.fits(taken|1<<at, next) {
			return true
		}
	}
	return !left
}

// registerOf is that of a Key. A put that is not done and that nobody got need not have been.
func registerOf(calls []called, key string) *register {
	r := &register{seen: map[[2]int]bool{}}
	for _, c := range calls {
		wasGot := slices.ContainsFunc(calls, func(get called) bool { return get.Op == 2 && get.Done >= 0 && get.Key == key && get.Got == c.Val })
		if c.Key == key && (c.Done >= 0 || c.Op == 1 && wasGot) {
			r.list = append(r.list, c)
		}
	}
	return r
}

// wantOneOrder wants an order of all that was answered, by what was asked and got, and when: no Stamp and no Ver is looked at.
func wantOneOrder(t *testing.T, calls []called) {
	t.Helper()
	keys := map[string]bool{}
	for _, c := range calls {
		if keys[c.Key] {
			continue
		}
		keys[c.Key] = true
		r := registerOf(calls, c.Key)
		if len(r.list) > 62 {
			t.Fatalf("%d calls of %q are too many", len(r.list), c.Key)
		}
		if !r.fits(0, -1) {
			t.Fatalf("what was answered of %q fits no order: %+v", c.Key, r.list)
		}
	}
}

// wantStampedInTime wants calls of which one was done ahead of the When of the other one to be stamped so.
func wantStampedInTime(t *testing.T, calls []called) {
	t.Helper()
	for _, a := range calls {
		for _, b := range calls {
			if a.Done >= 0 && b.Done >= 0 && a.Done < b.When && impl.Stamp(a) >= impl.Stamp(b) {
				t.Fatalf("%+v was done ahead of %+v, and has no lesser Stamp", a, b)
			}
		}
	}
}

// wantNewest wants a get to have each put that was done ahead of its When, or a newer one, and with a Ver the Val of it.
func wantNewest(t *testing.T, calls []called) {
	t.Helper()
	for _, get := range calls {
		for _, put := range calls {
			if get.Op != 2 || get.Done < 0 || put.Op != 1 || put.Done < 0 || put.Key != get.Key {
				continue
			}
			if put.Done < get.When && get.Ver < put.Ver || get.Ver == put.Ver && get.Got != put.Val {
				t.Fatalf("%+v was put, and %+v got", put, get)
			}
		}
	}
}

// wantSound holds a group that a life gave against the promise.
func wantSound(t *testing.T, g group) {
	t.Helper()
	if got := truths(t, g); got != allTrue() {
		t.Fatalf("of %+v is answered %+v", g, got)
	}
	wantStampedInTime(t, g.Calls)
	wantNewest(t, g.Calls)
}

// soundLife looks at what a life gave, and at what comes of it at rest.
func soundLife(t *testing.T, views [][]int, events []event) (group, group) {
	t.Helper()
	g, _, ok := impl.RunGroup(views, events)
	if !ok {
		t.Fatalf("RunGroup(%v, %+v) is false", views, events)
	}
	last := impl.Rest(g, 1000)
	wantSound(t, g)
	wantSound(t, last)
	return g, last
}

// lookAtCalls counts what was answered.
func (l *lifeLook) lookAtCalls(calls []called) {
	for at, c := range calls {
		if c.Done < 0 {
			l.did["a call is not done"]++
			continue
		}
		l.did["a call is done"]++
		if c.Done == 70 {
			l.did["done at rest"]++
		}
		if c.Op == 2 && c.Ver > 0 && c.Ver/1000 < c.Epoch {
			l.did["a get of an earlier Epoch"]++
		}
		for place, other := range calls {
			if place > at && other.Done >= 0 && other.When <= c.Done && c.When <= other.Done {
				l.did["two at once"]++
			}
			if c.Op == 2 && other.Op == 1 && other.Done < 0 && other.Key == c.Key && other.Val == c.Got {
				l.did["a get of what was being put"]++
			}
		}
	}
}

// lookAtEvents counts what happens in a life, step by step.
func (l *lifeLook) lookAtEvents(views [][]int, events []event) {
	g, _ := ruleGroupNew(views)
	for place, e := range events {
		next, number := ruleStep(g, e, place)
		name := []string{"", "begin", "deliver", "drop", "copy", "adopt", "fall"}[e.Kind]
		if number == 1 {
			name += " refused"
		}
		l.did[name]++
		if m := g.Members[e.Node-1]; e.Kind == 5 && number == 0 && next.Members[e.Node-1].Epoch > m.Epoch+1 {
			l.did["adopted out of turn"]++
		}
		g = next
	}
	l.did["lives of "+strconv.Itoa(len(views))+" views"]++
	for _, view := range views {
		l.did["views of "+strconv.Itoa(len(view))]++
	}
}

// Many lives in which something goes wrong, and most of all such as have calls of several Epochs under way at once.
func TestPromise16DrawnLives(t *testing.T) {
	l := &lifeLook{did: map[string]int{}}
	for seed := range 4000 {
		views, events := lateLife(70-seed%9, seed*5+3)
		if seed%4 == 0 {
			views, events = drawnLife(70-seed%9, seed*5+3)
			events = ownVals(events)
		}
		g, last := soundLife(t, views, events)
		wantOneOrder(t, g.Calls)
		wantOneOrder(t, last.Calls)
		l.lookAtEvents(views, events)
		l.lookAtCalls(last.Calls)
	}
	for count := 1; count <= 9; count++ {
		l.wantDid(t, map[string]int{"lives of " + strconv.Itoa(count) + " views": 80})
	}
	l.wantDid(t, map[string]int{
		"views of 1": 1000, "views of 2": 1000, "views of 3": 1000, "views of 4": 1000,
		"begin": 10000, "deliver": 50000, "drop": 1000, "copy": 5000, "adopt": 5000, "fall": 1000,
		"begin refused": 5000, "deliver refused": 300, "drop refused": 50, "copy refused": 200, "adopt refused": 1000,
		"a call is done": 12000, "a call is not done": 10000, "done at rest": 200, "two at once": 400,
		"a get of an earlier Epoch": 500, "a get of what was being put": 100, "adopted out of turn": 500,
	})
}

// More lives, of any length, whose puts have any Val: none at all, or one that others have.
func TestPromise16ManyLives(t *testing.T) {
	done := 0
	for seed := range 20000 {
		views, events := drawnLife(seed%71, seed*9+7)
		_, last := soundLife(t, views, events)
		for _, c := range last.Calls {
			if c.Done >= 0 {
				done++
			}
		}
	}
	if done < 50000 {
		t.Errorf("only %d calls are done", done)
	}
}

// After each event of a life, not at its end alone.
func TestPromise16AllAlongALife(t *testing.T) {
	for seed := range 250 {
		views, events := drawnLife(70, seed*19+11)
		events = ownVals(events)
		for count := range events {
			g, _ := soundLife(t, views, events[:count])
			wantOneOrder(t, g.Calls)
		}
	}
}

// Events of any Kind, drawn without a look at the group.
func TestPromise16AnyEvents(t *testing.T) {
	l := &lifeLook{did: map[string]int{}}
	for seed := range 3000 {
		d := newDraws(seed*3 + 1)
		views := d.views()
		blank, _ := ruleGroupNew(views)
		var events []event
		for range 70 {
			events = append(events, d.event(blank, 1+d.below(6)))
		}
		_, last := soundLife(t, views, ownVals(events))
		wantOneOrder(t, last.Calls)
		l.lookAtCalls(last.Calls)
	}
	l.wantDid(t, map[string]int{"a call is done": 2000, "a call is not done": 10000})
}

// nextEvents are those that may come next, and bring anything new: each message, each that serves, the next view, one that falls.
func nextEvents(g group) []event {
	var all []event
	for at := range g.Flying {
		all = append(all, deliverAt(at))
	}
	fell := slices.ContainsFunc(g.Members, func(m member) bool { return m.Fell })
	for _, m := range g.Members {
		if m.Serves && m.Task.Op == 0 && len(g.Calls) < 4 {
			all = append(all, beginGet(m.Id, "a"), beginPut(m.Id, "a", ""))
		}
		if m.Base && !fell {
			all = append(all, fallBy(m.Id))
		}
	}
	if newest, _ := newestOf(g); newest < len(g.Views) {
		all = append(all, adoptBy(g.Views[newest][0]))
	}
	return all
}

// eachLife goes through all lives that go on from here with so many events.
func eachLife(views [][]int, events []event, more int, look func([]event)) {
	events = ownVals(events)
	look(events)
	if more == 0 {
		return
	}
	g, _, _ := ruleRunGroup(views, events)
	for _, e := range nextEvents(g) {
		eachLife(views, append(slices.Clone(events), e), more-1, look)
	}
}

// Every life that goes on from a beginning: a put is under way, or entries come once more, in views that go to and fro.
func TestPromise16EachLife(t *testing.T) {
	l := &lifeLook{did: map[string]int{}}
	asked, put := []event{beginPut(1, "a", "")}, []event{beginPut(1, "a", ""), deliverAt(0)}
	twice := []event{beginPut(1, "a", ""), copyAt(0), deliverAt(0)}
	again := []event{adoptBy(1), copyAt(0), deliverAt(0), deliverAt(1), beginPut(1, "a", ""), deliverAt(1), deliverAt(1)}
	for _, begin := range []struct {
		views  [][]int
		events []event
	}{
		{[][]int{{1}, {2, 1}, {2}}, asked}, {[][]int{{1, 2}, {2}, {1, 2}}, asked}, {[][]int{{1, 2}, {2}, {3, 2}}, put}, {[][]int{{1, 2}, {2, 1}, {2}}, twice},
		{[][]int{{1, 3, 2}, {2}, {2, 3}}, put}, {[][]int{{1, 2}, {1, 2}, {3}}, again}, {[][]int{{1, 2}, {1, 2}, {2}}, again},
	} {
		eachLife(begin.views, begin.events, 7, func(events []event) {
			_, last := soundLife(t, begin.views, events)
			wantOneOrder(t, last.Calls)
			l.lookAtCalls(last.Calls)
		})
	}
	l.wantDid(t, map[string]int{"a call is done": 200000, "a get of an earlier Epoch": 30000, "a get of what was being put": 8000, "two at once": 10000})
}

// calmLife is one that is not hurt: each message is delivered, in order, ahead of all that comes next, and the views are adopted one by one.
type calmLife struct {
	views  [][]int
	events []event
	now    group
	epoch  int
	num    int
	table  []item
	calls  []called
}

func (l *calmLife) do(e event) {
	l.now, _ = ruleStep(l.now, e, len(l.events))
	l.events = append(l.events, e)
}

// calm lets all messages come.
func (l *calmLife) calm() {
	for len(l.now.Flying) > 0 {
		l.do(deliverAt(0))
	}
}

func (l *calmLife) first() int { return l.views[l.epoch-1][0] }

// ask asks the first one of the view, and notes what a table answers.
func (l *calmLife) ask(op int, key string) {
	l.num++
	c := called{Op: op, Key: key, When: len(l.events), Epoch: l.epoch, Num: l.num, Ver: 1000*l.epoch + l.num}
	if op == 1 {
		c.Val = "val " + strconv.Itoa(len(l.events))
		l.table = rulePutItem(l.table, itemOf(key, c.Val, c.Ver))
		l.do(beginPut(l.first(), key, c.Val))
	} else {
		x := ruleItemOf(l.table, key)
		c.Ver, c.Got = x.Ver, x.Val
		l.do(beginGet(l.first(), key))
	}
	l.calm()
	c.Done = len(l.events) - 1
	l.calls = append(l.calls, c)
}

// turn has the next view adopted.
func (l *calmLife) turn() {
	l.epoch, l.num = l.epoch+1, 0
	l.do(adoptBy(l.first()))
	l.calm()
}

// want wants what the table answered, and all members of the view to have what it has.
func (l *calmLife) want(t *testing.T) {
	t.Helper()
	g, _ := soundLife(t, l.views, l.events)
	wantOneOrder(t, g.Calls)
	if !slices.Equal(g.Calls, l.calls) || len(g.Flying) > 0 {
		t.Fatalf("in %v, by %+v the calls are\n%+v; want\n%+v", l.views, l.events, g.Calls, l.calls)
	}
	for at, id := range l.views[l.epoch-1] {
		m := g.Members[id-1]
		if !m.Base || m.Epoch != l.epoch || m.Serves != (at == 0) || !sameItems(m.Items, l.table) {
			t.Fatalf("in %v, by %+v the member is %+v; want %+v in it", l.views, l.events, m, l.table)
		}
	}
}

// drawnCalmLife goes on until another step might be too much.
func drawnCalmLife(seed int, look func(*calmLife)) *calmLife {
	d := newDraws(seed)
	l := &calmLife{views: d.kinViews(), epoch: 1}
	if seed%2 == 0 {
		l.views = d.views()
	}
	l.now, _ = ruleGroupNew(l.views)
	for len(l.events) <= 70-15 {
		if d.below(3) == 0 && l.epoch < len(l.views) {
			l.turn()
		} else {
			l.ask(1+d.below(2), "key "+string(rune('a'+d.below(5))))
		}
		look(l)
	}
	return l
}

// A group that is not hurt answers as one table does, and hands all on.
func TestPromise16NotHurt(t *testing.T) {
	epochs, got, early := map[int]int{}, 0, 0
	for seed := range 1500 {
		l := drawnCalmLife(seed, func(l *calmLife) {
			if len(l.events) <= impl.MaxLife {
				l.want(t)
			}
		})
		epochs[l.epoch]++
		for _, c := range l.calls {
			if c.Got != "" {
				got++
			}
			if c.Op == 2 && c.Ver > 0 && c.Ver/1000 < c.Epoch {
				early++
			}
		}
	}
	for epoch := 1; epoch <= 5; epoch++ {
		if epochs[epoch] < 50 {
			t.Errorf("only %d lives came to the Epoch %d", epochs[epoch], epoch)
		}
	}
	if got < 2000 || early < 500 {
		t.Errorf("only %d gets got something, %d of an earlier Epoch", got, early)
	}
}

// Through all nine views, of which each has one of the one before, or none of it.
func TestPromise16HandedOnToTheLast(t *testing.T) {
	for _, views := range [][][]int{
		{{1, 2}, {2, 3}, {3, 4}, {4, 5}, {5, 6}, {6, 1}, {1, 2}, {2, 3}, {3, 4}},
		{{1}, {2}, {3}, {4}, {5}, {6}, {1}, {2}, {3}},
		{{1}, {1, 2}, {1}, {2}, {2, 1}, {2}, {1}, {1}, {3, 1}},
	} {
		l := &calmLife{views: views, epoch: 1}
		l.now, _ = ruleGroupNew(views)
		l.ask(1, "k")
		for range 8 {
			l.turn()
			l.want(t)
		}
		l.ask(2, "k")
		l.ask(2, "none")
		l.want(t)
		if c := l.calls[1]; c.Epoch != 9 || c.Ver != 1001 || c.Got != "val 0" {
			t.Errorf("in the last view of %v the get is %+v", views, c)
		}
	}
}

// Calls as no life of a group may give them: the checks above find them out.
func TestPromise16IsNotHeldByAnything(t *testing.T) {
	put, other := doneCall(putCall(0, "k", "one"), 1, 1001, 1, 1, ""), doneCall(putCall(4, "k", "two"), 5, 1003, 1, 3, "")
	for what, list := range map[string][]called{
		"a get of nothing, behind a put":  {put, doneCall(getCall(2, "k"), 3, 0, 1, 2, "")},
		"a get of what nobody put":        {doneCall(getCall(2, "k"), 3, 1001, 1, 2, "one")},
		"a get of what is put behind it":  {doneCall(getCall(2, "k"), 3, 1003, 1, 2, "two"), other},
		"a get of what was, behind a put": {put, other, doneCall(getCall(6, "k"), 7, 1001, 1, 4, "one")},
		"two gets to and fro":             {put, putCall(2, "k", "new"), doneCall(getCall(3, "k"), 4, 1002, 1, 3, "new"), doneCall(getCall(5, "k"), 6, 1001, 1, 4, "one")},
	} {
		if r := registerOf(list, "k"); r.fits(0, -1) {
			t.Errorf("%s: %+v fits an order", what, list)
		}
		if got := truths(t, group{Calls: list}); got.sound {
			t.Errorf("%s: %+v is sound", what, list)
		}
	}
	// One under way at once may be read, and need not be.
	late := putCall(2, "k", "new")
	late.Done = math.MaxInt
	for _, got := range []string{"one", "new"} {
		if r := registerOf([]called{put, late, doneCall(getCall(3, "k"), 4, 0, 1, 3, got)}, "k"); !r.fits(0, -1) {
			t.Errorf("a get of %q fits no order", got)
		}
	}
}
