package tests

import (
	"math"
	"slices"
	"testing"

	"loop.example/g00180/impl"
)

type (
	member = impl.Member
	task   = impl.Task
	report = impl.Said
)

func sameTask(a, b task) bool {
	return a.Op == b.Op && a.Call == b.Call && a.Num == b.Num && a.Item == b.Item && slices.Equal(a.Left, b.Left)
}

// sameMember holds every field of two members against each other.
func sameMember(a, b member) bool {
	flags := [4]bool{a.Fell, a.Base, a.Leads, a.Serves} == [4]bool{b.Fell, b.Base, b.Leads, b.Serves}
	numbers := [3]int{a.Id, a.Epoch, a.Count} == [3]int{b.Id, b.Epoch, b.Count}
	return flags && numbers && slices.Equal(a.Waits, b.Waits) && sameItems(a.Items, b.Items) && sameTask(a.Task, b.Task)
}

func sameTold(a, b []msg) bool { return slices.EqualFunc(a, b, sameMsg) }

// ruleAscend is the rule of Waits and of Left.
func ruleAscend(list []int) bool {
	for _, node := range list {
		if node < 1 || node > 6 {
			return false
		}
	}
	return slices.Equal(list, slices.Compact(slices.Sorted(slices.Values(list))))
}

// ruleMember is the rule of a right member, one sentence of it a line.
func ruleMember(m member) bool {
	busy := m.Task.Op == 1 || m.Task.Op == 2
	holds := []bool{
		m.Id >= 1 && m.Id <= 6,
		m.Epoch >= 1 && m.Epoch <= 9,
		!m.Serves || m.Base,
		!m.Serves || m.Leads,
		!m.Serves || len(m.Waits) == 0,
		!(m.Fell && m.Base),
		!(m.Fell && m.Leads),
		ruleAscend(m.Waits),
		ruleAscend(m.Task.Left),
		ruleItems(m.Items),
		m.Count >= 0 && m.Count <= 900,
		busy || sameTask(m.Task, task{}),
		!busy || m.Serves,
		!busy || m.Task.Call >= 0 && m.Task.Call <= 1000,
		!busy || m.Task.Num >= 1 && m.Task.Num <= 900,
	}
	return !slices.Contains(holds, false)
}

func ruleMemberNew(id int, views [][]int) (member, bool) {
	if !ruleViews(views) || id < 1 || id > 6 {
		return member{}, false
	}
	place := slices.Index(views[0], id)
	return member{Id: id, Epoch: 1, Base: place >= 0, Leads: place == 0, Serves: place == 0}, true
}

// ruleState is a member of an Epoch that has the state, and what it tells; of what it was before
// only its Count stays.
func ruleState(id, epoch, count int, views [][]int, items []item) (member, []msg) {
	m := member{Id: id, Epoch: epoch, Base: true, Leads: true, Items: items, Count: count}
	var told []msg
	for _, node := range views[epoch-1] {
		if node != id {
			m.Waits = append(m.Waits, node)
			told = append(told, msg{Kind: 3, From: id, To: node, Epoch: epoch, Items: items})
		}
	}
	slices.Sort(m.Waits)
	m.Serves = len(told) == 0
	return m, told
}

func ruleAdopt(m member, views [][]int, epoch int) (member, []msg, bool) {
	if !ruleMember(m) || !ruleViews(views) || epoch < 2 || epoch > len(views) || epoch <= m.Epoch || views[epoch-1][0] != m.Id {
		return member{}, nil, false
	}
	before := views[epoch-2]
	if m.Base && m.Epoch+1 == epoch && slices.Index(before, m.Id) >= 0 {
		next, told := ruleState(m.Id, epoch, 0, views, m.Items)
		return next, told, true
	}
	var told []msg
	for _, node := range before {
		if node != m.Id {
			told = append(told, msg{Kind: 1, From: m.Id, To: node, Epoch: epoch})
		}
	}
	return member{Id: m.Id, Epoch: epoch, Leads: true, Items: m.Items}, told, true
}

// ruleDone is a member whose Task is done, and what it says.
func ruleDone(m member) (member, []report) {
	said := report{Call: m.Task.Call, Epoch: m.Epoch, Num: m.Task.Num, Item: m.Task.Item}
	if m.Task.Op == 1 {
		m.Items = rulePutItem(m.Items, m.Task.Item)
	} else {
		said.Item = ruleItemOf(m.Items, m.Task.Item.Key)
	}
	m.Task = task{}
	return m, []report{said}
}

// ruleHeard tells whether a message comes to a member at all.
func ruleHeard(m member, views [][]int, x msg) bool {
	return ruleMember(m) && ruleViews(views) && ruleMsg(x) && x.To == m.Id && x.Epoch >= m.Epoch && x.Epoch <= len(views)
}

// ruleEnter is what brings a member into an Epoch: AskSeal and AskInstall.
func ruleEnter(m member, views [][]int, x msg) (member, []msg) {
	place := slices.Index(views[x.Epoch-1], m.Id)
	answer := msg{Kind: 4, From: m.Id, To: x.From, Epoch: x.Epoch}
	switch {
	case x.Kind == 1 && x.Epoch == m.Epoch+1 && m.Base && slices.Contains(views[m.Epoch-1], m.Id):
		answer.Kind, answer.Items = 2, m.Items
		return member{Id: m.Id, Epoch: x.Epoch, Items: m.Items, Count: m.Count}, []msg{answer}
	case x.Kind == 3 && place > 0 && (x.Epoch > m.Epoch || !m.Base && !m.Fell):
		return member{Id: m.Id, Epoch: x.Epoch, Base: true, Items: x.Items, Count: m.Count}, []msg{answer}
	case x.Kind == 3 && place > 0 && m.Base:
		return m, []msg{answer}
	}
	return m, nil
}

// ruleInEpoch is what counts in the member's Epoch alone, and of which it keeps the rest.
func ruleInEpoch(m member, x msg) (member, []msg, []report) {
	answer := msg{Kind: x.Kind + 1, From: m.Id, To: x.From, Epoch: x.Epoch, Num: x.Num}
	switch {
	case x.Kind == 4 && m.Leads:
		m.Waits = withoutNode(m.Waits, x.From)
		m.Serves = m.Serves || m.Base && len(m.Waits) == 0
	case x.Kind == 5 && m.Base:
		m.Items = rulePutItem(m.Items, x.Items[0])
		return m, []msg{answer}, nil
	case x.Kind == 7 && m.Base:
		return m, []msg{answer}, nil
	case (x.Kind == 6 && m.Task.Op == 1 || x.Kind == 8 && m.Task.Op == 2) && m.Task.Num == x.Num:
		m.Task.Left = withoutNode(m.Task.Left, x.From)
		if len(m.Task.Left) == 0 {
			next, said := ruleDone(m)
			return next, nil, said
		}
	}
	return m, nil, nil
}

func ruleHearMsg(m member, views [][]int, x msg) (member, []msg, []report) {
	if !ruleHeard(m, views, x) {
		return m, nil, nil
	}
	if x.Kind == 1 || x.Kind == 3 {
		next, told := ruleEnter(m, views, x)
		return next, told, nil
	}
	if x.Epoch != m.Epoch {
		return m, nil, nil
	}
	if x.Kind == 2 && m.Leads && !m.Base {
		next, told := ruleState(m.Id, m.Epoch, m.Count, views, x.Items)
		return next, told, nil
	}
	return ruleInEpoch(m, x)
}

// wish is what a caller asks for.
type wish struct {
	op   int
	call int
	key  string
	val  string
}

func putOf(call int, key, val string) wish { return wish{op: 1, call: call, key: key, val: val} }

func getOf(call int, key string) wish { return wish{op: 2, call: call, key: key} }

// ruleMayBegin is what Begin asks for, one reason for false a line.
func ruleMayBegin(m member, views [][]int, w wish) bool {
	holds := []bool{
		ruleMember(m),
		m.Serves,
		m.Task.Op == 0,
		m.Count != 900,
		w.op == 1 || w.op == 2,
		w.call >= 0 && w.call <= 1000,
		len(w.key) >= 1 && len(w.key) <= 12,
		len(w.val) <= 20,
		w.op == 1 || w.val == "",
		ruleViews(views) && m.Epoch <= len(views) && m.Epoch >= 1 && views[m.Epoch-1][0] == m.Id,
		w.op == 2 || len(m.Items) < 12 || ruleItemOf(m.Items, w.key).Key != "",
	}
	return !slices.Contains(holds, false)
}

func ruleBegin(m member, views [][]int, w wish) (member, []msg, []report, bool) {
	if !ruleMayBegin(m, views, w) {
		return member{}, nil, nil, false
	}
	m.Count++
	m.Task = task{Op: w.op, Call: w.call, Num: m.Count, Item: itemOf(w.key, w.val, 1000*m.Epoch+m.Count)}
	var told []msg
	for _, node := range views[m.Epoch-1][1:] {
		x := msg{Kind: 7, From: m.Id, To: node, Epoch: m.Epoch, Num: m.Count}
		if w.op == 1 {
			x.Kind, x.Items = 5, []item{m.Task.Item}
		}
		told = append(told, x)
		m.Task.Left = append(m.Task.Left, node)
	}
	slices.Sort(m.Task.Left)
	if len(told) > 0 {
		return m, told, nil, true
	}
	next, said := ruleDone(m)
	return next, nil, said, true
}

func ruleFall(m member) member { return member{Id: m.Id, Epoch: m.Epoch, Fell: true} }

// hear is HearMsg, held against the rule.
func hear(t *testing.T, m member, views [][]int, x msg) (member, []msg, []report) {
	t.Helper()
	next, told, said := impl.HearMsg(m, views, x)
	wantNext, wantTold, wantSaid := ruleHearMsg(m, views, x)
	if !sameMember(next, wantNext) || !sameTold(told, wantTold) || !slices.Equal(said, wantSaid) {
		t.Fatalf("HearMsg(%+v, %v, %+v) = %+v, %+v, %+v; want %+v, %+v, %+v", m, views, x, next, told, said, wantNext, wantTold, wantSaid)
	}
	return next, told, said
}

// adopt is Adopt, held against the rule.
func adopt(t *testing.T, m member, views [][]int, epoch int) (member, []msg, bool) {
	t.Helper()
	next, told, ok := impl.Adopt(m, views, epoch)
	wantNext, wantTold, wantOk := ruleAdopt(m, views, epoch)
	if !sameMember(next, wantNext) || !sameTold(told, wantTold) || ok != wantOk {
		t.Fatalf("Adopt(%+v, %v, %d) = %+v, %+v, %v; want %+v, %+v, %v", m, views, epoch, next, told, ok, wantNext, wantTold, wantOk)
	}
	return next, told, ok
}

// begin is Begin, held against the rule.
func begin(t *testing.T, m member, views [][]int, w wish) (member, []msg, []report, bool) {
	t.Helper()
	next, told, said, ok := impl.Begin(m, views, w.op, w.call, w.key, w.val)
	wantNext, wantTold, wantSaid, wantOk := ruleBegin(m, views, w)
	if !sameMember(next, wantNext) || !sameTold(told, wantTold) || !slices.Equal(said, wantSaid) || ok != wantOk {
		t.Fatalf("Begin(%+v, %v, %+v) = %+v, %+v, %+v, %v; want %+v, %+v, %+v, %v", m, views, w, next, told, said, ok, wantNext, wantTold, wantSaid, wantOk)
	}
	return next, told, said, ok
}

// fall is Fall, held against the rule.
func fall(t *testing.T, m member) member {
	t.Helper()
	next := impl.Fall(m)
	if want := ruleFall(m); !sameMember(next, want) {
		t.Fatalf("Fall(%+v) = %+v; want %+v", m, next, want)
	}
	return next
}

// stands are a member's flags: Fell, Base, Leads, Serves, as they may stand together.
func stands() []member {
	var all []member
	eachPick(4, 2, func(pick []int) {
		m := member{Id: 1, Epoch: 1, Fell: pick[0] == 1, Base: pick[1] == 1, Leads: pick[2] == 1, Serves: pick[3] == 1}
		if ruleMember(m) {
			all = append(all, m)
		}
	})
	return all
}

// serving is the first one of a view whose members all have its entries.
func serving(id, epoch int, items ...item) member {
	return member{Id: id, Epoch: epoch, Base: true, Leads: true, Serves: true, Items: items}
}

// based is another one of a view that has its entries.
func based(id, epoch int, items ...item) member {
	return member{Id: id, Epoch: epoch, Base: true, Items: items}
}

// fallen is one that fell in its Epoch.
func fallen(id, epoch int) member { return member{Id: id, Epoch: epoch, Fell: true} }

// withTask is a member that serves, and waits for those who are left.
func withTask(m member, op, call, num int, x item, left ...int) member {
	m.Task = task{Op: op, Call: call, Num: num, Item: x, Left: left}
	return m
}

// twoItems are what a member has where it has something.
func twoItems() []item { return []item{itemOf("a", "x", 1001), itemOf("c", "y", 1002)} }

// wrongViews are not right, in one way each.
func wrongViews() [][][]int {
	return [][][]int{
		nil,
		{},
		{{}},
		{{1, 2}, {}},
		{{1, 2}, {2, 2}},
		{{1, 2}, {2, 7}},
		{{1, 2}, {2, 0}},
		{{1, 2}, {2, -1}},
		{{1, 2}, {2, math.MaxInt}},
		{{1, 2}, {2, math.MinInt}},
		{{1, 2}, {2, 1}, {1, 2, 3, 4, 5}},
		{{1}, {2}, {1}, {2}, {1}, {2}, {1}, {2}, {1}, {2}},
	}
}

// changedMember is a right member with one thing changed, and whether it is right then.
type changedMember struct {
	what   string
	member member
	right  bool
}

// wrongMembers are such as are not right, in one way each.
func wrongMembers() []changedMember {
	return slices.DeleteFunc(changedMembers(), func(c changedMember) bool { return c.right })
}

// draws gives numbers one by one, the same ones for the same seed.
type draws struct{ state uint64 }

func newDraws(seed int) *draws { return &draws{state: uint64(seed)*2862933555777941757 + 3037000493} }

// below is a number of 0 or more, and below the other one.
func (d *draws) below(of int) int {
	d.state = d.state*6364136223846793005 + 1442695040888963407
	return int(d.state >> 33 % uint64(of))
}

// nodes are so many unlike ones, in any order.
func (d *draws) nodes(count int) []int {
	all := []int{1, 2, 3, 4, 5, 6}
	for at := range all {
		other := d.below(at + 1)
		all[at], all[other] = all[other], all[at]
	}
	return all[:count]
}

// ascending are few or many nodes in their order.
func (d *draws) ascending() []int {
	return slices.Sorted(slices.Values(d.nodes(d.below(5))))
}

func (d *draws) views() [][]int {
	views := make([][]int, 1+d.below(9))
	for at := range views {
		views[at] = d.nodes(1 + d.below(4))
	}
	return views
}

// item has one of so few Keys that many have the same.
func (d *draws) item() item {
	ver := 1000*(1+d.below(9)) + 1 + d.below(12)
	return itemOf("k"+string(rune('a'+d.below(15))), drawnText(d.below(4), ver), ver)
}

func (d *draws) items() []item {
	var list []item
	for range d.below(16) {
		list = rulePutItem(list, d.item())
	}
	return list
}

// member is right, and mostly in an Epoch of the views; it may stand where no life would bring it.
func (d *draws) member(views [][]int) member {
	all := stands()
	m := all[d.below(len(all))]
	m.Id, m.Epoch = 1+d.below(6), 1+d.below(len(views))
	if d.below(2) == 0 {
		m.Id = views[m.Epoch-1][d.below(2)%len(views[m.Epoch-1])]
	}
	m.Items = d.items()
	m.Count = []int{0, 1, 2, 10, 899, 900}[d.below(6)]
	if !m.Serves {
		m.Waits = d.ascending()
	} else if d.below(3) > 0 {
		m.Task = task{Op: 1 + d.below(2), Call: d.below(1001), Num: 1 + d.below(3), Item: d.item(), Left: d.ascending()}
	}
	return m
}

// answer turns a message into one for which the member waits, if there is such.
func (d *draws) answer(m member, x msg) msg {
	if m.Leads && len(m.Waits) > 0 {
		x.Kind, x.From = 4, m.Waits[d.below(len(m.Waits))]
	}
	if len(m.Task.Left) > 0 {
		x.Kind, x.From = 4+2*m.Task.Op, m.Task.Left[d.below(len(m.Task.Left))]
	}
	return x
}

// message is a right one, mostly to the member, in its Epoch or near it, and of its Task.
func (d *draws) message(m member) msg {
	x := msg{Kind: 1 + d.below(8), From: 1 + d.below(6), To: m.Id, Num: 1 + d.below(4)}
	if d.below(3) == 0 {
		x = d.answer(m, x)
	}
	x.Epoch = min(max(m.Epoch+[]int{-1, 0, 0, 0, 0, 1, 1, 2, 3}[d.below(9)], 1), 9)
	if d.below(12) == 0 {
		x.To = 1 + d.below(6)
	}
	if m.Task.Op > 0 && d.below(3) > 0 {
		x.Num = m.Task.Num
	}
	switch x.Kind {
	case 2, 3:
		x.Items = d.items()
	case 5:
		x.Items = []item{d.item()}
	}
	return x
}

// wish is mostly a right one.
func (d *draws) wish() wish {
	w := wish{op: 1 + d.below(2), call: d.below(1001), key: d.item().Key}
	if w.op == 1 || d.below(15) == 0 {
		w.val = drawnText(d.below(6), d.below(1000))
	}
	switch d.below(60) {
	case 0:
		w.op = 3 * d.below(2)
	case 1:
		w.call = 1001
	case 2:
		w.key = ""
	case 3:
		w.val = long(21)
	}
	return w
}
