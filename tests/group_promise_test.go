package tests

import (
	"testing"

	"loop.example/g00180/impl"
)

// wantOneServes holds a group against the promise: all members are right, and who serves is alone in that, and the first one of its view.
func wantOneServes(t *testing.T, g group) {
	t.Helper()
	if len(g.Members) != 6 {
		t.Fatalf("there are %d members", len(g.Members))
	}
	serves := map[int]int{}
	for at, m := range g.Members {
		if !impl.MemberOk(m) || !ruleMember(m) || m.Id != at+1 || m.Epoch > len(g.Views) {
			t.Fatalf("in %v the member %+v is not right", g.Views, m)
		}
		if !m.Serves {
			continue
		}
		if first := g.Views[m.Epoch-1][0]; m.Id != first {
			t.Fatalf("in %v %+v serves, and %d is the first one", g.Views, m, first)
		}
		if other := serves[m.Epoch]; other > 0 {
			t.Fatalf("in %v both %d and %d serve in the Epoch %d", g.Views, other, m.Id, m.Epoch)
		}
		serves[m.Epoch] = m.Id
	}
}

// lifeLook counts what happens in lives, so that none of the checks stands beside them for nothing.
type lifeLook struct {
	did map[string]int
}

// wantDid wants each of these to have happened so often at least.
func (l *lifeLook) wantDid(t *testing.T, least map[string]int) {
	t.Helper()
	for name, count := range least {
		if l.did[name] < count {
			t.Errorf("%q happened %d times; want %d at least", name, l.did[name], count)
		}
	}
}

// members looks at what members became by an event.
func (l *lifeLook) members(t *testing.T, before, after group) {
	t.Helper()
	serving := 0
	for at, m := range after.Members {
		was := before.Members[at]
		if m.Epoch < was.Epoch {
			t.Fatalf("%+v became %+v, of an Epoch below its own", was, m)
		}
		if m.Serves {
			serving++
		}
		if m.Serves && !was.Serves {
			l.did["serves in a later Epoch"]++
		}
		if m.Leads && m.Epoch > was.Epoch+1 {
			l.did["adopted out of turn"]++
		}
		if was.Task.Op > 0 && m.Task.Op == 0 && (m.Fell || m.Epoch > was.Epoch) {
			l.did["a Task lost"]++
		}
	}
	if serving > 1 {
		l.did["several serve, in Epochs of their own"]++
	}
	if serving == 0 {
		l.did["nobody serves"]++
	}
}

// calls looks at what calls became by the event at a place: those that are done stay.
func (l *lifeLook) calls(t *testing.T, before, after group, place int) {
	t.Helper()
	if len(after.Calls) < len(before.Calls) {
		t.Fatalf("of the calls %+v are left %+v", before.Calls, after.Calls)
	}
	newest := 1
	for _, m := range after.Members {
		newest = max(newest, m.Epoch)
	}
	for at, c := range after.Calls {
		isNew := at >= len(before.Calls)
		if !isNew && before.Calls[at].Done != -1 && before.Calls[at] != c {
			t.Fatalf("%+v, which was done, became %+v", before.Calls[at], c)
		}
		if c.Done != place {
			continue
		}
		l.did["done"]++
		if isNew {
			l.did["done at once"]++
		}
		if c.Epoch < newest {
			l.did["done late"]++
		}
		if c.Got != "" {
			l.did["got"]++
		}
	}
}

// step looks at what an event did.
func (l *lifeLook) step(t *testing.T, before, after group, e event, number, place int) {
	t.Helper()
	name := []string{"", "begin", "deliver", "drop", "copy", "adopt", "fall"}[e.Kind]
	if number == 1 {
		name += " refused"
	}
	l.did[name]++
	wantOneServes(t, after)
	l.members(t, before, after)
	l.calls(t, before, after, place)
	for _, x := range after.Flying {
		if !impl.MsgOk(x) {
			t.Fatalf("%+v flies, and is not right", x)
		}
	}
}

// life looks at a life after each of its events.
func (l *lifeLook) life(t *testing.T, views [][]int, events []event) {
	t.Helper()
	before, ok := impl.GroupNew(views)
	if !ok {
		t.Fatalf("there is no group of %v", views)
	}
	wantOneServes(t, before)
	for place, e := range events {
		after, numbers, ok := impl.RunGroup(views, events[:place+1])
		if !ok || len(numbers) != place+1 {
			t.Fatalf("RunGroup(%v, %+v) = %v, %v", views, events[:place+1], numbers, ok)
		}
		l.step(t, before, after, e, numbers[place], place)
		before = after
	}
	wantOneServes(t, impl.Rest(before, 1000))
}

func TestPromise15DrawnLives(t *testing.T) {
	l := &lifeLook{did: map[string]int{}}
	epochs := map[int]int{}
	for seed := range 900 {
		views, events := drawnLife(60+seed%11, seed*7+1)
		epochs[len(views)]++
		l.life(t, views, events)
	}
	for count := 1; count <= 9; count++ {
		if epochs[count] < 40 {
			t.Errorf("only %d lives have %d views", epochs[count], count)
		}
	}
	l.wantDid(t, map[string]int{
		"begin": 3000, "deliver": 10000, "drop": 500, "copy": 2000, "adopt": 1000, "fall": 500,
		"begin refused": 1000, "deliver refused": 500, "drop refused": 50, "copy refused": 200, "adopt refused": 500,
		"done": 2000, "done at once": 500, "done late": 50, "got": 200,
		"serves in a later Epoch": 500, "adopted out of turn": 100, "a Task lost": 100,
		"several serve, in Epochs of their own": 500, "nobody serves": 1000,
	})
}

// More lives, looked at when they are over, and when all messages have come.
func TestPromise15ManyLives(t *testing.T) {
	serves := 0
	for seed := range 12000 {
		views, events := drawnLife(70, seed*3+2)
		g, _, ok := impl.RunGroup(views, events)
		if !ok {
			t.Fatalf("RunGroup(%v, %+v) is false", views, events)
		}
		wantOneServes(t, g)
		wantOneServes(t, impl.Rest(g, 1000))
		for _, m := range g.Members {
			if m.Serves && m.Epoch > 1 {
				serves++
			}
		}
	}
	if serves < 3000 {
		t.Errorf("only %d serve in a later Epoch", serves)
	}
}

// Events of any Kind, drawn without a look at the group.
func TestPromise15AnyEvents(t *testing.T) {
	l := &lifeLook{did: map[string]int{}}
	for seed := range 300 {
		d := newDraws(seed)
		views := d.views()
		blank, _ := ruleGroupNew(views)
		var events []event
		for range 70 {
			events = append(events, d.event(blank, 1+d.below(6)))
		}
		l.life(t, views, events)
	}
	l.wantDid(t, map[string]int{"begin": 200, "deliver": 500, "adopt": 300, "fall": 1000, "done": 100})
}

// Every life of few events, in views that go to and fro.
func TestPromise15EachLife(t *testing.T) {
	for _, views := range [][][]int{{{1, 2}, {2, 1}, {1}}, {{1, 2, 3}, {2, 3}, {1, 2}}, {{1}, {2, 1}, {2}}} {
		events := []event{beginPut(1, "a", "x"), beginGet(2, "a"), deliverAt(0), deliverAt(1), copyAt(0), adoptBy(1), adoptBy(2), fallBy(2)}
		eachPick(5, len(events), func(pick []int) {
			var life []event
			for _, one := range pick {
				life = append(life, events[one])
			}
			g, _, ok := live(t, views, life)
			if !ok {
				t.Fatalf("RunGroup(%v, %+v) is false", views, life)
			}
			wantOneServes(t, g)
			wantOneServes(t, rest(t, g, 1000))
		})
	}
}
