package tests

import (
	"slices"
	"strings"
	"testing"

	"loop.example/g00180/impl"
)

// listCell is one list of an argument or of an answer, with the room behind it.
type listCell struct {
	name  string
	write func()
	same  func() bool
}

func newListCell[T any](name string, list []T, one T, same func(a, b T) bool) listCell {
	before := slices.Clone(wholeOf(list))
	return listCell{
		name:  name,
		write: func() { fill(list, one) },
		same:  func() bool { return slices.EqualFunc(wholeOf(list), before, same) },
	}
}

func numbersCell(name string, list []int) listCell {
	return newListCell(name, list, -99, func(a, b int) bool { return a == b })
}

func itemsCell(name string, list []item) listCell {
	return newListCell(name, list, itemOf("written", "over", -99), func(a, b item) bool { return a == b })
}

// cellsOfMember are the lists of a member.
func cellsOfMember(m member) []listCell {
	return []listCell{numbersCell("Waits", m.Waits), itemsCell("Items", m.Items), numbersCell("Left", m.Task.Left)}
}

// cellsOfMsgs are the list of messages, held against each other by all but their Items, and these.
func cellsOfMsgs(list []msg) []listCell {
	cells := []listCell{newListCell("messages", list, msg{Kind: -99}, func(a, b msg) bool {
		a.Items, b.Items = nil, nil
		return sameMsg(a, b)
	})}
	for _, x := range list {
		cells = append(cells, itemsCell("Items of a message", x.Items))
	}
	return cells
}

func textsOfMember(m member) []string {
	return append(textsOfItems(m.Items), m.Task.Item.Key, m.Task.Item.Val)
}

// answered is what one of the functions of members answers.
type answered struct {
	member member
	told   []msg
	said   []report
	ok     bool
}

func (a answered) same(b answered) bool {
	return sameMember(a.member, b.member) && sameTold(a.told, b.told) && slices.Equal(a.said, b.said) && a.ok == b.ok
}

func (a answered) cells() []listCell {
	said := newListCell("what is said", a.said, report{Call: -99}, func(a, b report) bool { return a == b })
	return slices.Concat(cellsOfMember(a.member), cellsOfMsgs(a.told), []listCell{said})
}

func (a answered) texts() []string {
	texts := textsOfMember(a.member)
	for _, x := range a.told {
		texts = append(texts, textsOfItems(x.Items)...)
	}
	for _, s := range a.said {
		texts = append(texts, s.Item.Key, s.Item.Val)
	}
	return texts
}

// question is a call of one of the functions of members.
type question struct {
	what  string
	m     member
	views [][]int
	epoch int
	x     msg
	w     wish
}

func (q question) ask() answered {
	var a answered
	switch q.what {
	case "MemberNew":
		a.member, a.ok = impl.MemberNew(q.m.Id, q.views)
	case "MemberOk":
		a.ok = impl.MemberOk(q.m)
	case "Adopt":
		a.member, a.told, a.ok = impl.Adopt(q.m, q.views, q.epoch)
	case "HearMsg":
		a.member, a.told, a.said = impl.HearMsg(q.m, q.views, q.x)
	case "Begin":
		a.member, a.told, a.said, a.ok = impl.Begin(q.m, q.views, q.w.op, q.w.call, q.w.key, q.w.val)
	case "Fall":
		a.member = impl.Fall(q.m)
	}
	return a
}

func (q question) rule() answered {
	var a answered
	switch q.what {
	case "MemberNew":
		a.member, a.ok = ruleMemberNew(q.m.Id, q.views)
	case "MemberOk":
		a.ok = ruleMember(q.m)
	case "Adopt":
		a.member, a.told, a.ok = ruleAdopt(q.m, q.views, q.epoch)
	case "HearMsg":
		a.member, a.told, a.said = ruleHearMsg(q.m, q.views, q.x)
	case "Begin":
		a.member, a.told, a.said, a.ok = ruleBegin(q.m, q.views, q.w)
	case "Fall":
		a.member = ruleFall(q.m)
	}
	return a
}

// fewSpare are the same numbers with room behind them, filled with nodes that are no part of them.
func fewSpare(list []int) []int {
	whole := append(slices.Clone(list), 6, 5, 4, 3, 2, 1)
	return whole[:len(list)]
}

func ownItem(x item) item {
	return itemOf(strings.Clone(x.Key), strings.Clone(x.Val), x.Ver)
}

func ownItems(list []item) []item {
	own := withSpareItems(list)
	for at, x := range own {
		own[at] = ownItem(x)
	}
	return own
}

// apart is the same question, its lists and texts in memory of their own, with room behind each list.
func (q question) apart() question {
	q.m.Waits, q.m.Items, q.m.Task.Left = fewSpare(q.m.Waits), ownItems(q.m.Items), fewSpare(q.m.Task.Left)
	q.m.Task.Item, q.x.Items = ownItem(q.m.Task.Item), ownItems(q.x.Items)
	q.w.key, q.w.val = strings.Clone(q.w.key), strings.Clone(q.w.val)
	views := make([][]int, len(q.views), len(q.views)+5)
	for at, view := range q.views {
		views[at] = fewSpare(view)
	}
	for at := len(views); at < cap(views); at++ {
		wholeOf(views)[at] = fewSpare([]int{q.m.Id})
	}
	q.views = views
	return q
}

func (q question) cells() []listCell {
	cells := append(cellsOfMember(q.m), itemsCell("Items of the message", q.x.Items))
	for _, view := range wholeOf(q.views) {
		cells = append(cells, numbersCell("a view", view))
	}
	return append(cells, newListCell("views", q.views, []int{9, 9}, func(a, b []int) bool { return slices.Equal(a, b) }))
}

func (q question) texts() []string {
	return slices.Concat(textsOfMember(q.m), textsOfItems(q.x.Items), []string{q.w.key, q.w.val})
}

// questionsToKeep are of each function: such as are answered, and such as are refused.
func questionsToKeep(count int) []question {
	var all []question
	functions := []string{"MemberNew", "MemberOk", "Adopt", "HearMsg", "HearMsg", "HearMsg", "Begin", "Fall"}
	for seed := range count {
		d := newDraws(seed)
		q := question{what: functions[seed%len(functions)], views: d.views()}
		q.m = d.member(q.views)
		q.x, q.w = d.message(q.m), d.wish()
		q.epoch = min(q.m.Epoch+1+d.below(2), len(q.views))
		if q.what == "Adopt" && d.below(4) > 0 {
			q.m.Id = q.views[q.epoch-1][0]
		}
		if q.what == "Begin" && d.below(4) > 0 {
			q.m = serving(q.views[q.m.Epoch-1][0], q.m.Epoch, q.m.Items...)
		}
		switch d.below(12) {
		case 0:
			q.m.Count = 901
		case 1:
			q.views = append(q.views, []int{})
		case 2:
			q.x.Num = -1
		}
		all = append(all, q)
	}
	return all
}

func (q question) wantStays(t *testing.T, cells []listCell, when string) {
	t.Helper()
	for _, c := range cells {
		if !c.same() {
			t.Fatalf("%s of %+v: %s is changed, or the room behind it", when, q, c.name)
		}
	}
}

// Nothing is written into what is handed in, nor is what stands behind it looked at.
func TestMemberArgumentsStay(t *testing.T) {
	for _, q := range questionsToKeep(8000) {
		given := q.apart()
		cells := given.cells()
		if got, want := given.ask(), q.rule(); !got.same(want) {
			t.Fatalf("%+v is answered by %+v; want %+v", q, got, want)
		}
		q.wantStays(t, cells, "the call")
	}
}

// What is written into one list of an answer, and into the room behind it, changes no other list of
// it, no argument and no other answer; nor does what is written into an argument.
func TestMemberAnswersAreNewMemory(t *testing.T) {
	handedToMany, asItIs := 0, 0
	for _, q := range questionsToKeep(8000) {
		given := q.apart()
		first, second, want := given.ask(), given.ask(), q.rule()
		if len(first.told) > 1 && len(first.told[0].Items) > 0 {
			handedToMany++
		}
		if q.what == "HearMsg" && len(q.m.Items) > 0 && sameMember(first.member, q.m) {
			asItIs++
		}
		mine, args := first.cells(), given.cells()
		for at, c := range mine {
			c.write()
			q.wantStays(t, mine[at+1:], "writing into "+c.name)
			q.wantStays(t, args, "writing into "+c.name)
		}
		if !second.same(want) {
			t.Fatalf("two answers to %+v share memory", q)
		}
		for _, c := range args {
			c.write()
		}
		if !second.same(want) {
			t.Fatalf("an answer to %+v shares memory with what was handed in", q)
		}
	}
	if handedToMany < 100 || asItIs < 300 {
		t.Errorf("%d answers hand items to many, in %d the member is as it is", handedToMany, asItIs)
	}
}

// A list of an answer that was written ahead of another one is not found in that one either.
func TestMemberListsShareNothingBackwards(t *testing.T) {
	for _, q := range questionsToKeep(4000) {
		first := q.apart().ask()
		cells := first.cells()
		slices.Reverse(cells)
		for at, c := range cells {
			c.write()
			q.wantStays(t, cells[at+1:], "writing into "+c.name)
		}
	}
}

func TestMemberTextsAreNewMemory(t *testing.T) {
	said, many := 0, 0
	for _, q := range questionsToKeep(4000) {
		given := q.apart()
		first, second := given.ask(), given.ask()
		wantNewTexts(t, q.what, append(first.texts(), second.texts()...), given.texts())
		said += len(first.said)
		many += len(first.told) / 2
	}
	if said < 30 || many < 100 {
		t.Errorf("%d answers say something, %d tell more than one", said, many)
	}
}

// One text that is a Key and a Val, and one list that is in the member and in the message.
func TestMemberWithOneMemoryTwice(t *testing.T) {
	text := strings.Clone("one text")
	list := []item{itemOf(text, text, 5)}
	views := [][]int{{1, 2, 3}, {2, 1, 4}, {2}}
	questions := []question{
		{what: "HearMsg", m: member{Id: 1, Epoch: 1, Items: list}, views: views, x: askInstall(2, 1, 2, list...)},
		{what: "HearMsg", m: based(1, 1, list...), views: views, x: askInstall(1, 2, 1, list...)},
		{what: "HearMsg", m: leads(2, 2, list...), views: views, x: tellState(1, 2, 2, list...)},
		{what: "HearMsg", m: based(1, 1, list...), views: views, x: askStore(2, 1, 1, 4, list[0])},
		{what: "HearMsg", m: withTask(serving(1, 1, list...), 1, 0, 1, list[0], 2), views: views, x: tellStored(2, 1, 1, 1)},
		{what: "HearMsg", m: withTask(serving(1, 1, list...), 2, 0, 1, list[0], 2), views: views, x: tellSure(2, 1, 1, 1)},
		{what: "HearMsg", m: withTask(serving(1, 1, list...), 2, 0, 1, list[0], 2, 3), views: views, x: tellSure(2, 1, 1, 1)},
		{what: "Adopt", m: based(2, 1, list...), views: views, epoch: 2},
		{what: "Begin", m: serving(1, 1, list...), views: views, w: putOf(0, text, text)},
		{what: "Begin", m: serving(2, 3, list...), views: views, w: putOf(0, text, text)},
		{what: "Begin", m: serving(2, 3, list...), views: views, w: getOf(0, text)},
	}
	for _, q := range questions {
		first, second := q.ask(), q.ask()
		wantNewTexts(t, q.what, append(first.texts(), second.texts()...), []string{text})
		if !first.same(q.rule()) {
			t.Errorf("%+v is answered by %+v", q, first)
		}
	}
}

// The same is answered again, whatever was asked between: nothing is kept.
func TestMembersAreAnsweredAgain(t *testing.T) {
	questions := questionsToKeep(3000)
	var first []answered
	for _, q := range questions {
		first = append(first, q.ask())
	}
	for at := len(questions) - 1; at >= 0; at-- {
		if again := questions[at].ask(); !again.same(first[at]) {
			t.Fatalf("%+v is answered by %+v, and then by %+v", questions[at], first[at], again)
		}
	}
}
