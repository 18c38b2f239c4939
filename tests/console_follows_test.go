package tests

import (
	"slices"
	"strings"
	"testing"

	"loop.example/g00180/impl"
)

// wantFollows reads a script, and wants all that must be true of what becomes of it: one order of what is answered, in time.
func wantFollows(t *testing.T, text string) (group, group) {
	t.Helper()
	views, events, fault := impl.ReadScript(text)
	if fault != 0 {
		t.Fatalf("ReadScript(%q) has the fault %d", text, fault)
	}
	g, last := soundLife(t, views, events)
	wantOneOrder(t, g.Calls)
	wantOneOrder(t, last.Calls)
	wantToldOfPuts(t, text)
	return g, last
}

// wantToldOfPuts looks at the lines alone: what is told to be put was to be put, and what is told to be got, too.
func wantToldOfPuts(t *testing.T, text string) {
	t.Helper()
	asked := map[string]int{}
	for _, line := range ruleLines(text) {
		if parts := strings.Fields(line); len(parts) > 2 && (parts[0] == "put" || parts[0] == "get") {
			asked[parts[0]+" "+parts[2]]++
			asked[strings.Join(parts[2:], " ")]++
		}
	}
	for _, line := range ruleLines(impl.Console(text)) {
		word, rest, _ := strings.Cut(line, " ")
		if word != "put" && word != "get" {
			continue
		}
		key, got, _ := strings.Cut(rest, " ")
		asked[word+" "+key]--
		if asked[word+" "+key] < 0 || got != "" && asked[key+" "+got] == 0 {
			t.Fatalf("of %q is told %q, which nobody asked", text, line)
		}
	}
}

// Drawn scripts in which messages are lost, told twice or late, and members fall.
func TestFollowsOfDrawnScripts(t *testing.T) {
	l := &lifeLook{did: map[string]int{}}
	for seed := range 2500 {
		d := newDraws(seed*23 + 1)
		views, events := toldLife(70-seed%8, seed*13+5)
		lines := linesOfLife(views, events)
		_, last := wantFollows(t, textOf(d.with(lines, 0, len(lines), d.below(10))...))
		l.lookAtEvents(views, events)
		l.lookAtCalls(last.Calls)
	}
	l.wantDid(t, map[string]int{
		"begin": 8000, "deliver": 30000, "drop": 800, "copy": 3000, "adopt": 2500, "fall": 800,
		"a call is done": 8000, "a call is not done": 5000, "done at rest": 100, "two at once": 150, "a get of an earlier Epoch": 300, "a get of what was being put": 50,
	})
}

// Every script that goes on from a beginning by few lines.
func TestFollowsOfEachScript(t *testing.T) {
	l := &lifeLook{did: map[string]int{}}
	for _, views := range [][][]int{{{1, 2}, {2}, {1, 2}}, {{1}, {2, 1}, {2}}, {{1, 2}, {2, 1}, {3, 1}}} {
		eachLife(views, []event{beginPut(1, "a", ""), copyAt(0)}, 5, func(events []event) {
			// A line can't tell a Val with a blank in it.
			events = slices.Clone(events)
			for at := range events {
				events[at].Val = strings.ReplaceAll(events[at].Val, " ", "-")
			}
			text := textOf(linesOfLife(views, events)...)
			_, last := wantFollows(t, text)
			l.lookAtCalls(last.Calls)
			if got := impl.Console(text); got != tellOf(t, views, events) {
				t.Fatalf("Console(%q) = %q", text, got)
			}
		})
	}
	l.wantDid(t, map[string]int{"a call is done": 1000, "a call is not done": 1000})
}

// councilLook counts what voices decided.
type councilLook struct{ decided, open, often, views int }

// nextView is one that goes on from another one: mostly with members of it, and in another order.
func (d *draws) nextView(last []int) []int {
	view := slices.Clone(last)
	fresh := slices.DeleteFunc(d.nodes(6), func(node int) bool { return slices.Contains(last, node) })
	if len(view) > 1 && d.below(2) == 0 {
		view = slices.Delete(view, 0, 1)
	}
	if len(view) < 4 && d.below(2) == 0 {
		view = append(view, fresh[0])
	}
	other := d.below(len(view))
	view[0], view[other] = view[other], view[0]
	return view
}

// decide lets voices choose the next view among lines of a script; one of them at most is chosen, whatever becomes of the notes.
func (l *councilLook) decide(t *testing.T, d *draws, last []int, seed int) string {
	t.Helper()
	voices, tries := 1+d.below(5), 1+d.below(4)
	events := drawnHappens(tries, 80, seed)
	for at := range events {
		if events[at].Kind == impl.EvPropose {
			events[at].Value = lineOfView(d.nextView(last))
		}
	}
	c, _, ok := impl.RunCouncil(voices, tries, events)
	if !ok {
		t.Fatalf("RunCouncil(%d, %d, %+v) is false", voices, tries, events)
	}
	wantOneValue(t, c, events)
	if len(c.Chosen) == 0 {
		l.open++
		return "# nothing is decided"
	}
	l.decided++
	l.often += min(len(c.Chosen)-1, 1)
	return c.Chosen[0]
}

// decidedViews are lines of views that were decided, one by one, and of such as were not.
func (l *councilLook) decidedViews(t *testing.T, d *draws, seed int) ([]string, [][]int) {
	t.Helper()
	var lines []string
	var views [][]int
	last := d.nodes(1 + d.below(4))
	for epoch := range 9 {
		line := l.decide(t, d, last, seed*9+epoch)
		lines = append(lines, line)
		if kind, view, _ := ruleLine(line); kind == viewLine {
			views = append(views, view)
			last = view
		}
	}
	l.views += len(views)
	return lines, views
}

// Voices decide who is in, view by view; the group that goes through these views answers as it must.
func TestFollowsOfWhatVoicesDecide(t *testing.T) {
	l, look := &councilLook{}, &lifeLook{did: map[string]int{}}
	for seed := range 1200 {
		d := newDraws(seed*29 + 3)
		lines, views := l.decidedViews(t, d, seed)
		if len(views) == 0 {
			wantFault(t, "nothing is decided", textOf(lines...), 1)
			continue
		}
		events := d.tellable(d.lifeIn(views, 70, drawnWays(seed)))
		for _, e := range events {
			lines = append(lines, lineOfEvent(e))
		}
		text := textOf(lines...)
		wantRead(t, "views that were decided", text, views, events...)
		g, last := wantFollows(t, text)
		if !sameViews(g.Views, views) {
			t.Fatalf("%q was decided, and the group has %v", lines, g.Views)
		}
		look.lookAtCalls(last.Calls)
	}
	if l.decided < 5000 || l.open < 1000 || l.often < 1000 || l.views != l.decided {
		t.Errorf("voices decided: %+v", *l)
	}
	look.wantDid(t, map[string]int{"a call is done": 4000, "a call is not done": 2000, "a get of an earlier Epoch": 100})
}

// Whatever flies at the end of a script comes back from its bytes, and is lost when a byte of them is turned.
func TestFollowsOfMessagesInBytes(t *testing.T) {
	flying := 0
	for seed := range 1000 {
		d := newDraws(seed)
		views, events := toldLife(20+d.below(51), seed*3+1)
		read, told, _ := impl.ReadScript(textOf(linesOfLife(views, events)...))
		g, _, _ := impl.RunGroup(read, told)
		for _, x := range g.Flying {
			text, ok := impl.MsgText(x)
			back, right := impl.ReadMsg(text)
			if !ok || !right || !sameMsg(back, x) {
				t.Fatalf("%+v comes back as %+v, %v", x, back, right)
			}
			at := d.below(len(text))
			turned := text[:at] + string([]byte{text[at] ^ byte(1+d.below(255))}) + text[at+1:]
			if _, ok := impl.ReadMsg(turned); ok {
				t.Fatalf("%+v with the byte %d turned is read", x, at)
			}
			flying++
		}
	}
	if flying < 1000 {
		t.Errorf("only %d messages flew", flying)
	}
}
