package tests

import (
	"slices"
	"testing"

	"loop.example/g00180/impl"
)

// memberLife counts what happens in lives, so that none of the checks stands beside them for nothing.
type memberLife struct {
	did map[string]int
}

// wantStored wants each item that was there, or a newer one of its Key.
func wantStored(t *testing.T, what string, before, after member) {
	t.Helper()
	for _, x := range before.Items {
		now := ruleItemOf(after.Items, x.Key)
		if now.Key != x.Key || now.Ver < x.Ver || now.Ver == x.Ver && now != x {
			t.Fatalf("%s: %+v became %+v, and lost %+v", what, before, after, x)
		}
	}
}

// step holds one step of a member against the promise.
func (l *memberLife) step(t *testing.T, what string, before, after member) {
	t.Helper()
	l.did[what]++
	if !impl.MemberOk(after) || !ruleMember(after) || after.Id != before.Id {
		t.Fatalf("%s: %+v became %+v, which is not right", what, before, after)
	}
	if after.Epoch < before.Epoch {
		t.Fatalf("%s: %+v became %+v, of an Epoch below its own", what, before, after)
	}
	if after.Epoch > before.Epoch {
		l.did["Epoch"]++
		return
	}
	if before.Fell && (!after.Fell || after.Base) {
		t.Fatalf("%s: %+v fell in its Epoch, and became %+v", what, before, after)
	}
	if what == "fall" {
		return
	}
	if before.Base && !after.Base {
		t.Fatalf("%s: %+v became %+v, which has its entries no more", what, before, after)
	}
	if before.Base {
		wantStored(t, what, before, after)
		l.did["stored"] += min(len(after.Items), 1)
	}
	if !sameItems(before.Items, after.Items) {
		l.did["other items"]++
	}
	if !before.Serves && after.Serves {
		l.did["serves"]++
	}
}

func kindName(kind int) string { return "Kind " + string(rune('0'+kind)) }

// hear lets a member hear a message; its Kind counts where something came of it.
func (l *memberLife) hear(t *testing.T, m member, views [][]int, x msg) (member, []msg) {
	t.Helper()
	next, told, said := impl.HearMsg(m, views, x)
	l.step(t, "hear", m, next)
	if !sameMember(next, m) || len(told) > 0 {
		l.did[kindName(x.Kind)]++
	}
	l.did["said"] += len(said)
	l.wantTold(t, next, told)
	return next, told
}

// wantTold wants right messages, from the member and of its Epoch.
func (l *memberLife) wantTold(t *testing.T, m member, told []msg) {
	t.Helper()
	for _, x := range told {
		if !impl.MsgOk(x) || x.From != m.Id || x.Epoch != m.Epoch {
			t.Fatalf("%+v told %+v", m, x)
		}
	}
}

// adopt lets a member lead a view, if it may; else it stays.
func (l *memberLife) adopt(t *testing.T, m member, views [][]int, epoch int) (member, []msg) {
	t.Helper()
	next, told, ok := impl.Adopt(m, views, epoch)
	if !ok {
		return m, nil
	}
	l.step(t, "adopt", m, next)
	l.wantTold(t, next, told)
	return next, told
}

// begin lets a member begin what a caller asks for, if it may; else it stays.
func (l *memberLife) begin(t *testing.T, m member, views [][]int, w wish) (member, []msg) {
	t.Helper()
	next, told, said, ok := impl.Begin(m, views, w.op, w.call, w.key, w.val)
	if !ok {
		return m, nil
	}
	l.step(t, "begin", m, next)
	l.did["said"] += len(said)
	l.wantTold(t, next, told)
	return next, told
}

func (l *memberLife) fall(t *testing.T, m member) member {
	t.Helper()
	next := impl.Fall(m)
	l.step(t, "fall", m, next)
	return next
}

// wantDid wants each of these to have happened so often at least.
func (l *memberLife) wantDid(t *testing.T, least int, names ...string) {
	t.Helper()
	for _, name := range names {
		if l.did[name] < least {
			t.Errorf("%q happened %d times; want %d at least", name, l.did[name], least)
		}
	}
}

func allKinds() []string {
	var names []string
	for kind := 1; kind <= 8; kind++ {
		names = append(names, kindName(kind))
	}
	return names
}

// wrongMessage is a message of which one thing is not right.
func (d *draws) wrongMessage(x msg) msg {
	switch d.below(8) {
	case 0:
		x.Kind = 9 * d.below(2)
	case 1:
		x.From = 7 * d.below(2)
	case 2:
		x.To = 7 * d.below(2)
	case 3:
		x.Epoch = 10 * d.below(2)
	case 4:
		x.Num = -1
	case 5:
		x.Items = manyItems(13)
	case 6:
		x.Items = []item{itemOf("kb", "", 9001), itemOf("ka", "", 9001)}
	case 7:
		x.Items = []item{itemOf("", "", 9001)}
	}
	return x
}

// One member, to which anything is said, by whomever.
func TestPromise14AnyMessages(t *testing.T) {
	l := &memberLife{did: map[string]int{}}
	for seed := range 1500 {
		d := newDraws(seed)
		views := d.views()
		m, ok := impl.MemberNew(1+d.below(6), views)
		if !ok {
			t.Fatalf("there is no member in %v", views)
		}
		for range 80 {
			switch d.below(12) {
			case 0:
				m, _ = l.adopt(t, m, views, m.Epoch+1+d.below(2))
			case 1, 2:
				m, _ = l.begin(t, m, views, d.wish())
			case 3:
				if d.below(6) == 0 {
					m = l.fall(t, m)
				}
			case 4:
				if next, told := l.hear(t, m, views, d.wrongMessage(d.message(m))); !sameMember(next, m) || len(told) > 0 {
					t.Fatalf("%+v became %+v by what is not right", m, next)
				}
			default:
				m, _ = l.hear(t, m, views, d.message(m))
			}
		}
	}
	l.wantDid(t, 100, append(allKinds(), "adopt", "begin", "fall", "said", "Epoch", "stored", "other items", "serves")...)
}

// Members that stand in any right way, also where no life would bring them.
func TestPromise14AnyMember(t *testing.T) {
	l := &memberLife{did: map[string]int{}}
	for seed := range 40000 {
		d := newDraws(seed)
		views := d.views()
		m := d.member(views)
		for range 4 {
			m, _ = l.hear(t, m, views, d.message(m))
		}
		m, _ = l.adopt(t, m, views, min(m.Epoch+1, 9))
		m, _ = l.begin(t, m, views, d.wish())
		m, _ = l.hear(t, m, views, d.message(m))
		l.fall(t, m)
	}
	l.wantDid(t, 200, append(allKinds(), "adopt", "begin", "fall", "said", "Epoch", "stored", "other items", "serves")...)
}

// company are six members whose messages fly between them.
type company struct {
	life    *memberLife
	views   [][]int
	members [7]member
	flying  []msg
}

func newCompany(t *testing.T, l *memberLife, views [][]int) *company {
	t.Helper()
	c := &company{life: l, views: views}
	for id := 1; id <= 6; id++ {
		m, ok := impl.MemberNew(id, views)
		if !ok {
			t.Fatalf("there is no member %d in %v", id, views)
		}
		c.members[id] = m
	}
	return c
}

// next is the first epoch above a member's own whose view it leads; 0 when there is none.
func (c *company) next(id int) int {
	for epoch := c.members[id].Epoch + 1; epoch <= len(c.views); epoch++ {
		if c.views[epoch-1][0] == id {
			return epoch
		}
	}
	return 0
}

func (c *company) deliver(t *testing.T, at int) {
	t.Helper()
	x := c.flying[at]
	c.flying = slices.Delete(c.flying, at, at+1)
	next, told := c.life.hear(t, c.members[x.To], c.views, x)
	c.members[x.To] = next
	c.flying = append(c.flying, told...)
}

// fly lets something become of one of the messages: it comes, it is lost, or it comes twice.
func (c *company) fly(t *testing.T, d *draws) {
	t.Helper()
	if len(c.flying) == 0 {
		return
	}
	at := d.below(len(c.flying))
	switch d.below(14) {
	case 0:
		c.flying = slices.Delete(c.flying, at, at+1)
	case 1:
		c.flying = append(c.flying, c.flying[at])
	default:
		c.deliver(t, at)
	}
}

// act lets one of the members begin, adopt or fall.
func (c *company) act(t *testing.T, d *draws) {
	t.Helper()
	id := 1 + d.below(6)
	m := c.members[id]
	var told []msg
	switch d.below(9) {
	case 0:
		if d.below(4) == 0 {
			m = c.life.fall(t, m)
		}
	case 1:
		m, told = c.life.adopt(t, m, c.views, c.next(id))
	default:
		m, told = c.life.begin(t, m, c.views, d.wish())
	}
	c.members[id] = m
	c.flying = append(c.flying, told...)
}

// Members that say no more than they do: messages come late, twice or not at all.
func TestPromise14Companies(t *testing.T) {
	l := &memberLife{did: map[string]int{}}
	for seed := range 700 {
		d := newDraws(seed)
		c := newCompany(t, l, d.views())
		for range 160 {
			if d.below(3) == 0 {
				c.act(t, d)
			} else {
				c.fly(t, d)
			}
		}
	}
	l.wantDid(t, 100, append(allKinds(), "adopt", "begin", "fall", "said", "Epoch", "stored", "other items", "serves")...)
}

// calm lets all messages come, in their order.
func (c *company) calm(t *testing.T) {
	t.Helper()
	for steps := 0; len(c.flying) > 0; steps++ {
		if steps > 1000 {
			t.Fatalf("the messages come to no end: %+v", c.flying)
		}
		c.deliver(t, 0)
	}
}

func (c *company) adopt(t *testing.T, id, epoch int) {
	t.Helper()
	m, told := c.life.adopt(t, c.members[id], c.views, epoch)
	if m.Epoch != epoch {
		t.Fatalf("%+v does not adopt %d", c.members[id], epoch)
	}
	c.members[id] = m
	c.flying = append(c.flying, told...)
}

// ask lets the member that serves do what a caller asks for, and wants what is said of it.
func (c *company) ask(t *testing.T, id int, w wish, want item) {
	t.Helper()
	m, told, said, ok := impl.Begin(c.members[id], c.views, w.op, w.call, w.key, w.val)
	if !ok {
		t.Fatalf("%+v does not begin %+v", c.members[id], w)
	}
	c.life.step(t, "begin", c.members[id], m)
	c.members[id], c.flying = m, append(c.flying, told...)
	for len(c.flying) > 0 {
		x := c.flying[0]
		next, answers, more := impl.HearMsg(c.members[x.To], c.views, x)
		c.life.step(t, "hear", c.members[x.To], next)
		c.members[x.To], c.flying = next, append(slices.Clone(c.flying[1:]), answers...)
		said = append(said, more...)
	}
	if len(said) != 1 || said[0].Call != w.call || said[0].Item != want {
		t.Fatalf("%+v says %+v; want %+v", w, said, want)
	}
}

// What is put goes on from view to view, whoever leads, and whoever fell.
func TestMembersHandOn(t *testing.T) {
	c := newCompany(t, &memberLife{did: map[string]int{}}, [][]int{{1, 2, 3}, {4, 2, 3}, {2, 4, 5}, {6}, {6, 1, 5, 3}})
	c.ask(t, 1, putOf(0, "k", "one"), itemOf("k", "one", 1001))
	c.ask(t, 1, getOf(1, "k"), itemOf("k", "one", 1001))
	c.ask(t, 1, getOf(2, "none"), item{})
	c.members[1], c.members[2] = c.life.fall(t, c.members[1]), c.life.fall(t, c.members[2])
	c.adopt(t, 4, 2)
	c.calm(t)
	c.ask(t, 4, getOf(3, "k"), itemOf("k", "one", 1001))
	c.ask(t, 4, putOf(4, "k", "two"), itemOf("k", "two", 2002))
	c.adopt(t, 2, 3)
	c.calm(t)
	c.ask(t, 2, getOf(5, "k"), itemOf("k", "two", 2002))
	c.ask(t, 2, putOf(6, "l", ""), itemOf("l", "", 3002))
	c.adopt(t, 6, 4)
	c.calm(t)
	c.ask(t, 6, getOf(7, "l"), itemOf("l", "", 3002))
	c.adopt(t, 6, 5)
	c.calm(t)
	c.ask(t, 6, getOf(8, "k"), itemOf("k", "two", 2002))
	for _, id := range c.views[4] {
		if m := c.members[id]; !m.Base || m.Epoch != 5 || !sameItems(m.Items, []item{itemOf("k", "two", 2002), itemOf("l", "", 3002)}) {
			t.Errorf("at the end there is %+v", m)
		}
	}
}

// When each of a view that had its entries fell, nobody has them, and nobody serves behind it.
func TestMembersThatAllFell(t *testing.T) {
	c := newCompany(t, &memberLife{did: map[string]int{}}, [][]int{{1, 2}, {2, 3}})
	c.ask(t, 1, putOf(0, "k", "one"), itemOf("k", "one", 1001))
	c.members[1], c.members[2] = c.life.fall(t, c.members[1]), c.life.fall(t, c.members[2])
	c.adopt(t, 2, 2)
	c.calm(t)
	for id := 1; id <= 6; id++ {
		if c.members[id].Base || c.members[id].Serves {
			t.Errorf("%+v has what all lost", c.members[id])
		}
	}
}
