package tests

import (
	"slices"
	"strings"
	"testing"

	"loop.example/g00180/impl"
)

// sameList tells whether two lists are one and the same piece of memory, whatever stands in it.
func sameList[T any](a, b []T) bool {
	return len(a) == len(b) && (len(a) == 0 || &a[0] == &b[0])
}

// cellsOfViews are the list of views, held against what it was by which lists stand in it, and these.
func cellsOfViews(views [][]int) []listCell {
	cells := []listCell{newListCell("views", views, []int{9, 9}, sameList[int])}
	for _, view := range wholeOf(views) {
		cells = append(cells, numbersCell("a view", view))
	}
	return cells
}

// sameButLists holds two members against each other by all but what stands in their lists.
func sameButLists(a, b member) bool {
	lists := sameList(a.Waits, b.Waits) && sameList(a.Items, b.Items) && sameList(a.Task.Left, b.Task.Left)
	a.Waits, a.Items, a.Task.Left = nil, nil, nil
	b.Waits, b.Items, b.Task.Left = nil, nil, nil
	return lists && sameMember(a, b)
}

// cellsOfGroup are all lists of a group.
func cellsOfGroup(g group) []listCell {
	cells := append(cellsOfViews(g.Views), newListCell("members", g.Members, member{Id: -99}, sameButLists))
	for _, m := range g.Members {
		cells = append(cells, cellsOfMember(m)...)
	}
	cells = append(cells, cellsOfMsgs(g.Flying)...)
	return append(cells, newListCell("calls", g.Calls, called{Op: -99}, func(a, b called) bool { return a == b }))
}

func textsOfGroup(g group) []string {
	var texts []string
	for _, m := range g.Members {
		texts = append(texts, textsOfMember(m)...)
	}
	for _, x := range g.Flying {
		texts = append(texts, textsOfItems(x.Items)...)
	}
	for _, c := range g.Calls {
		texts = append(texts, c.Key, c.Val, c.Got)
	}
	return texts
}

// apartViews are the same views, with room behind each list that holds what is right but no part of them.
func apartViews(views [][]int) [][]int {
	own := make([][]int, len(views), len(views)+3)
	for at := range wholeOf(own) {
		wholeOf(own)[at] = fewSpare([]int{1})
	}
	for at, view := range views {
		own[at] = fewSpare(view)
	}
	return own
}

// apartEvents are the same events, their texts in memory of their own, with room behind them.
func apartEvents(events []event) []event {
	own := append(slices.Clone(events), slices.Repeat([]event{fallBy(1)}, 5)...)[:len(events)]
	for at, e := range own {
		own[at].Key, own[at].Val = strings.Clone(e.Key), strings.Clone(e.Val)
	}
	return own
}

// apartGroup is the same group, its lists and texts in memory of their own, with room behind each list.
func apartGroup(g group) group {
	own := group{Views: apartViews(g.Views)}
	for _, m := range g.Members {
		m.Waits, m.Items, m.Task.Left = fewSpare(m.Waits), ownItems(m.Items), fewSpare(m.Task.Left)
		m.Task.Item = ownItem(m.Task.Item)
		own.Members = append(own.Members, m)
	}
	for _, x := range g.Flying {
		x.Items = ownItems(x.Items)
		own.Flying = append(own.Flying, x)
	}
	for _, c := range g.Calls {
		c.Key, c.Val, c.Got = strings.Clone(c.Key), strings.Clone(c.Val), strings.Clone(c.Got)
		own.Calls = append(own.Calls, c)
	}
	spare := fallen(1, 1)
	own.Members = append(own.Members, spare, spare)[:len(g.Members)]
	own.Flying = append(own.Flying, askSure(1, 2, 1, 1), askSure(2, 1, 1, 1))[:len(g.Flying)]
	own.Calls = append(own.Calls, getCall(1, "spare"), getCall(2, "spare"))[:len(g.Calls)]
	return own
}

// groupQuestion is a call of one of the functions of groups.
type groupQuestion struct {
	what   string
	views  [][]int
	events []event
	g      group
	steps  int
}

type groupAnswer struct {
	g       group
	numbers []int
	ok      bool
}

func (a groupAnswer) same(b groupAnswer) bool {
	return sameGroup(a.g, b.g) && slices.Equal(a.numbers, b.numbers) && a.ok == b.ok
}

func (a groupAnswer) cells() []listCell {
	return append(cellsOfGroup(a.g), numbersCell("numbers", a.numbers))
}

func (q groupQuestion) ask() groupAnswer {
	var a groupAnswer
	switch q.what {
	case "GroupNew":
		a.g, a.ok = impl.GroupNew(q.views)
	case "RunGroup":
		a.g, a.numbers, a.ok = impl.RunGroup(q.views, q.events)
	case "Rest":
		a.g = impl.Rest(q.g, q.steps)
	}
	return a
}

func (q groupQuestion) rule() groupAnswer {
	var a groupAnswer
	switch q.what {
	case "GroupNew":
		a.g, a.ok = ruleGroupNew(q.views)
	case "RunGroup":
		a.g, a.numbers, a.ok = ruleRunGroup(q.views, q.events)
	case "Rest":
		a.g = ruleRest(q.g, q.steps)
	}
	return a
}

// apart is the same question in memory of its own.
func (q groupQuestion) apart() groupQuestion {
	q.views, q.events, q.g = apartViews(q.views), apartEvents(q.events), apartGroup(q.g)
	return q
}

func (q groupQuestion) cells() []listCell {
	events := newListCell("events", q.events, event{Kind: -99}, func(a, b event) bool { return a == b })
	return slices.Concat(cellsOfViews(q.views), []listCell{events}, cellsOfGroup(q.g))
}

func (q groupQuestion) texts() []string {
	texts := textsOfGroup(q.g)
	for _, e := range q.events {
		texts = append(texts, e.Key, e.Val)
	}
	return texts
}

func (q groupQuestion) wantStays(t *testing.T, cells []listCell, when string) {
	t.Helper()
	for _, c := range cells {
		if !c.same() {
			t.Fatalf("%s, at %s of %+v: %s is changed, or the room behind it", when, q.what, q, c.name)
		}
	}
}

// groupQuestions are of each function: such as are answered, and such as are refused.
func groupQuestions(count int) []groupQuestion {
	var all []groupQuestion
	for seed := range count {
		d := newDraws(seed)
		views, events := drawnLife(10+seed%61, seed)
		g, _, _ := ruleRunGroup(views, events)
		switch seed % 5 {
		case 0:
			all = append(all, groupQuestion{what: "GroupNew", views: views})
		case 1, 2:
			if d.below(10) == 0 {
				events[d.below(len(events))].Node = 7
			}
			all = append(all, groupQuestion{what: "RunGroup", views: views, events: events})
		case 3:
			all = append(all, groupQuestion{what: "Rest", g: g, steps: d.below(30) - 2})
		case 4:
			all = append(all, groupQuestion{what: "Rest", g: d.anyGroup(), steps: d.below(30) - 2})
		}
	}
	return all
}

// Nothing is written into what is handed in, nor is what stands behind it looked at.
func TestGroupArgumentsStay(t *testing.T) {
	for _, q := range groupQuestions(2500) {
		given := q.apart()
		cells := given.cells()
		if got, want := given.ask(), q.rule(); !got.same(want) {
			t.Fatalf("%+v is answered by %+v; want %+v", q, got, want)
		}
		q.wantStays(t, cells, "the call")
	}
}

// What is written into one list of an answer, and into the room behind it, changes no other list of it,
// no argument and no other answer; nor does what is written into an argument.
func TestGroupAnswersAreNewMemory(t *testing.T) {
	flying, stored := 0, 0
	for _, q := range groupQuestions(2500) {
		given := q.apart()
		first, second, want := given.ask(), given.ask(), q.rule()
		for _, x := range first.g.Flying {
			flying += min(len(x.Items), 1)
		}
		for _, m := range first.g.Members {
			stored += min(len(m.Items), 1)
		}
		mine, args := first.cells(), given.cells()
		for at, c := range mine {
			c.write()
			q.wantStays(t, mine[at+1:], "writing into "+c.name)
		}
		q.wantStays(t, args, "writing into an answer")
		if !second.same(want) {
			t.Fatalf("two answers to %+v share memory", q)
		}
		for _, c := range args {
			c.write()
		}
		if !second.same(want) {
			t.Fatalf("an answer to %+v shares memory with what was handed in", q)
		}
	}
	if flying < 300 || stored < 1000 {
		t.Errorf("%d messages with items fly, %d members have some", flying, stored)
	}
}

// A list of an answer that was written ahead of another one is not found in that one either.
func TestGroupListsShareNothingBackwards(t *testing.T) {
	for _, q := range groupQuestions(1500) {
		cells := q.apart().ask().cells()
		slices.Reverse(cells)
		for at, c := range cells {
			c.write()
			q.wantStays(t, cells[at+1:], "writing into "+c.name)
		}
	}
}

func TestGroupTextsAreNewMemory(t *testing.T) {
	got, many := 0, 0
	for _, q := range groupQuestions(600) {
		given := q.apart()
		first, second := given.ask(), given.ask()
		texts := append(textsOfGroup(first.g), textsOfGroup(second.g)...)
		wantNewTexts(t, q.what, texts, given.texts())
		many += len(texts)
		for _, c := range first.g.Calls {
			got += min(len(c.Got), 1)
		}
	}
	if got < 100 || many < 5000 {
		t.Errorf("%d calls got something, %d texts were looked at", got, many)
	}
}

// One list of items that is in a member and in messages, one text that is in all.
func TestGroupWithOneMemoryTwice(t *testing.T) {
	text := strings.Clone("one text")
	list := []item{itemOf(text, text, 5)}
	view := []int{1, 2}
	g := group{
		Views:   [][]int{view, view},
		Members: []member{withTask(serving(1, 1, list...), 2, 0, 1, list[0], 2), based(2, 1, list...), {Id: 3, Epoch: 1, Waits: view, Items: list}},
		Flying:  []msg{tellSure(2, 1, 1, 1), askInstall(1, 2, 2, list...), {Kind: 2, From: 1, To: 3, Epoch: 1, Items: list}},
		Calls:   []called{{Op: 2, Key: text, Val: text, Done: -1, Got: text}, {Op: 2, Key: text, Val: text, Done: -1, Got: text}},
	}
	g.Members[0].Items, g.Members[1].Items, g.Flying[1].Items = list, list, list
	for steps := range 5 {
		a := groupAnswer{g: impl.Rest(g, steps)}
		wantNewTexts(t, "Rest", textsOfGroup(a.g), []string{text})
		if want := ruleRest(g, steps); !sameGroup(a.g, want) {
			t.Fatalf("Rest(%+v, %d) = %+v; want %+v", g, steps, a.g, want)
		}
		mine := a.cells()
		for at, c := range mine {
			c.write()
			groupQuestion{what: "Rest", g: g}.wantStays(t, mine[at+1:], "writing into "+c.name)
		}
	}
	views := [][]int{view, view, view}
	events := slices.Repeat([]event{beginPut(1, text, text), deliverAt(0), copyAt(0), deliverAt(0), deliverAt(0)}, 6)
	for count := range events {
		a := groupQuestion{what: "RunGroup", views: views, events: events[:count]}.ask()
		wantNewTexts(t, "RunGroup", textsOfGroup(a.g), []string{text})
		mine := a.cells()
		for at, c := range mine {
			c.write()
			groupQuestion{what: "RunGroup", views: views}.wantStays(t, mine[at+1:], "writing into "+c.name)
		}
	}
	if !slices.Equal(view, []int{1, 2}) || list[0] != itemOf("one text", "one text", 5) {
		t.Errorf("%v and %v were changed", view, list)
	}
}

// The same is answered again, whatever was asked between: nothing is kept.
func TestGroupsAreAnsweredAgain(t *testing.T) {
	questions := groupQuestions(600)
	var first []groupAnswer
	for _, q := range questions {
		first = append(first, q.ask())
	}
	for at := len(questions) - 1; at >= 0; at-- {
		if again := questions[at].ask(); !again.same(first[at]) {
			t.Fatalf("%+v is answered by %+v, and then by %+v", questions[at], first[at], again)
		}
	}
}
