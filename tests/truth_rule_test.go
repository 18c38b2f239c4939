package tests

import (
	"cmp"
	"math"
	"slices"
	"testing"

	"loop.example/g00180/impl"
)

// ruleStamp is the chapter's rule of a Stamp, with the numbers of the document written out.
func ruleStamp(c called) int {
	for epoch := range 10 {
		if c.Epoch == epoch && c.Num >= 0 && c.Num <= 999 {
			return epoch*1000 + c.Num
		}
	}
	return 0
}

// doneByStamp are the calls that are done, in the order of their Stamps.
func doneByStamp(list []called) []called {
	done := slices.DeleteFunc(slices.Clone(list), func(c called) bool { return c.Done < 0 })
	slices.SortStableFunc(done, func(a, b called) int { return cmp.Compare(ruleStamp(a), ruleStamp(b)) })
	return done
}

// ruleInTime goes through the order of the Stamps: all are unlike, and nothing is done ahead of the When of what stands ahead of it.
func ruleInTime(list []called) bool {
	newest, done := math.MinInt, doneByStamp(list)
	for at, c := range done {
		if c.Done < newest || at > 0 && ruleStamp(c) == ruleStamp(done[at-1]) {
			return false
		}
		newest = max(newest, c.When)
	}
	return true
}

// ruleSource is where a get may have its Val from; a put that is not done has any Ver.
type ruleSource struct {
	key, val string
	ver      int
	open     bool
}

func ruleReads(list []called) bool {
	sources := map[ruleSource]int{}
	for _, c := range list {
		switch {
		case c.Op == 1 && c.Done < 0:
			sources[ruleSource{key: c.Key, val: c.Val, open: true}]++
		case c.Op == 1:
			sources[ruleSource{key: c.Key, val: c.Val, ver: c.Ver}]++
		}
	}
	for _, c := range list {
		if c.Op != 2 || c.Done < 0 {
			continue
		}
		open, done := ruleSource{key: c.Key, val: c.Got, open: true}, ruleSource{key: c.Key, val: c.Got, ver: c.Ver}
		if c.Ver == 0 && c.Got != "" || c.Ver != 0 && sources[open]+sources[done] == 0 || c.Ver > ruleStamp(c) {
			return false
		}
	}
	return true
}

// ruleFresh goes through the order of the Stamps, with the greatest Ver of each Key that has a lesser Stamp.
func ruleFresh(list []called) bool {
	newest := map[string]int{}
	done := doneByStamp(list)
	for len(done) > 0 {
		alike := 1
		for alike < len(done) && ruleStamp(done[alike]) == ruleStamp(done[0]) {
			alike++
		}
		for _, c := range done[:alike] {
			if ver, ok := newest[c.Key]; ok && c.Op == 2 && c.Ver < ver {
				return false
			}
		}
		for _, c := range done[:alike] {
			if ver, ok := newest[c.Key]; (c.Op == 1 || c.Op == 2) && (!ok || c.Ver > ver) {
				newest[c.Key] = c.Ver
			}
		}
		done = done[alike:]
	}
	return true
}

// ruleViewsByEpoch are the views by their numbers.
func ruleViewsByEpoch(g group) map[int][]int {
	views := map[int][]int{}
	for at, view := range g.Views {
		views[at+1] = view
	}
	return views
}

func ruleOneServes(g group) bool {
	views, served := ruleViewsByEpoch(g), map[int]bool{}
	for _, m := range g.Members {
		if !m.Serves {
			continue
		}
		view := views[m.Epoch]
		if served[m.Epoch] || len(view) == 0 || view[0] != m.Id {
			return false
		}
		served[m.Epoch] = true
	}
	return true
}

func ruleAlike(g group) bool {
	views := ruleViewsByEpoch(g)
	for at, m := range g.Members {
		for place, other := range g.Members {
			switch {
			case place == at, !m.Serves, m.Task.Op != 0, !other.Base, other.Epoch != m.Epoch:
			case slices.Contains(views[m.Epoch], other.Id) && !sameItems(m.Items, other.Items):
				return false
			}
		}
	}
	return true
}

// truthsOf are the six answers of a group, by their names.
type truthsOf struct {
	inTime, reads, fresh, oneServes, alike, sound bool
}

func ruleTruths(g group) truthsOf {
	a := truthsOf{inTime: ruleInTime(g.Calls), reads: ruleReads(g.Calls), fresh: ruleFresh(g.Calls), oneServes: ruleOneServes(g), alike: ruleAlike(g)}
	a.sound = a == truthsOf{inTime: true, reads: true, fresh: true, oneServes: true, alike: true}
	return a
}

func askTruths(g group) truthsOf {
	return truthsOf{
		inTime: impl.InTime(g.Calls), reads: impl.Reads(g.Calls), fresh: impl.Fresh(g.Calls),
		oneServes: impl.OneServes(g), alike: impl.Alike(g), sound: impl.Sound(g),
	}
}

// allTrue is what is answered of a group that nothing is wrong with.
func allTrue() truthsOf {
	return truthsOf{inTime: true, reads: true, fresh: true, oneServes: true, alike: true, sound: true}
}

// truths are the six answers of a group, held against the rules.
func truths(t *testing.T, g group) truthsOf {
	t.Helper()
	got, want := askTruths(g), ruleTruths(g)
	if got != want {
		t.Fatalf("of %+v is answered %+v; want %+v", g, got, want)
	}
	return got
}

// eachOrder goes through all orders of few.
func eachOrder[T any](list []T, back func([]T)) {
	if len(list) == 0 {
		back(nil)
		return
	}
	for at, one := range list {
		eachOrder(slices.Delete(slices.Clone(list), at, at+1), func(rest []T) { back(append([]T{one}, rest...)) })
	}
}

// stamped is a call that is done, with an Epoch and a Num.
func stamped(when, done, epoch, num int) called {
	return called{When: when, Done: done, Epoch: epoch, Num: num}
}

// donePut and doneGet are done all the time, so that time tells no order of them.
func donePut(key, val string, stamp, ver int) called {
	return called{Op: 1, Key: key, Val: val, When: 0, Done: 70, Ver: ver, Epoch: stamp / 1000, Num: stamp % 1000}
}

func doneGet(key, got string, stamp, ver int) called {
	return called{Op: 2, Key: key, Got: got, When: 0, Done: 70, Ver: ver, Epoch: stamp / 1000, Num: stamp % 1000}
}

// notDone is the same call, of which nothing is told.
func notDone(c called) called {
	return called{Op: c.Op, Key: c.Key, Val: c.Val, When: c.When, Done: -1}
}

// anyCalls are drawn with no life in mind; all numbers are so few that many are alike, or near each other.
func (d *draws) anyCalls() []called {
	keys, vals := []string{"a", "a", ""}, []string{"", "x", "y"}
	stamps := []int{0, 1, 999, 1000, 1001, 1002, 2001, 9999}
	wrong := [][2]int{{-1, 5}, {10, 5}, {1, -1}, {1, 1000}, {math.MinInt, math.MaxInt}, {-1, 1000}}
	var list []called
	for range d.below(7) {
		stamp := stamps[d.below(len(stamps))]
		c := called{Op: 1 + d.below(2), Key: keys[d.below(3)], Val: vals[d.below(3)], Got: vals[d.below(3)], Ver: stamps[d.below(len(stamps))], Epoch: stamp / 1000, Num: stamp % 1000}
		if d.below(8) == 0 {
			c.Op = []int{0, 3, -1, 257, math.MinInt}[d.below(5)]
		}
		if d.below(8) == 0 {
			odd := wrong[d.below(len(wrong))]
			c.Epoch, c.Num = odd[0], odd[1]
		}
		if d.below(16) == 0 {
			c.Ver = []int{-1, math.MinInt, math.MaxInt, 10000}[d.below(4)]
		}
		c.When = d.below(5) - 1
		c.Done = c.When + d.below(6) - 1
		list = append(list, c)
	}
	return list
}

// anyMembers are few that stand in few Epochs, some of them twice; there may be no view of an Epoch.
func (d *draws) anyMembers() []member {
	lists := [][]item{nil, {}, {itemOf("a", "x", 5)}, {itemOf("a", "y", 5)}, {itemOf("a", "x", 6)}, {itemOf("a", "x", 5), itemOf("b", "x", 5)}, {itemOf("b", "x", 5), itemOf("a", "x", 5)}}
	epochs := []int{1, 1, 1, 1, 1, 1, 2, 2, 2, 3, 0, -1, 10, math.MinInt, math.MaxInt}
	var all []member
	for range d.below(8) {
		m := member{Id: d.below(4), Epoch: epochs[d.below(len(epochs))], Base: d.below(3) > 0, Serves: d.below(2) == 0, Items: lists[2]}
		m.Leads, m.Fell = d.below(2) == 0, d.below(4) == 0
		if d.below(2) == 0 {
			m.Items = lists[d.below(len(lists))]
		}
		if d.below(4) == 0 {
			m = withTask(m, []int{1, 2, 3, -1}[d.below(4)], 1, 1, item{})
		}
		all = append(all, m)
	}
	return all
}

// anyLook is a group in which any of the truths may be broken, and none has to be.
func (d *draws) anyLook() group {
	g := group{Members: d.anyMembers(), Calls: d.anyCalls()}
	for range d.below(5) {
		var view []int
		for range d.below(5) {
			view = append(view, d.below(4))
		}
		g.Views = append(g.Views, view)
	}
	return g
}

// drawnLooks are such groups, and some of lives that were changed at one place.
func drawnLooks(seed int) group {
	d := newDraws(seed)
	if seed%4 > 0 {
		return d.anyLook()
	}
	views, events := drawnLife(30+d.below(41), seed)
	g, _, _ := impl.RunGroup(views, events)
	if len(g.Calls) > 0 {
		c := &g.Calls[d.below(len(g.Calls))]
		switch d.below(6) {
		case 0:
			c.Ver += d.below(5) - 2
		case 1:
			c.Num += d.below(5) - 2
		case 2:
			c.Done += d.below(20) - 10
		case 3:
			c.Got += string(rune('a' + d.below(3)))
		case 4:
			c.Epoch += d.below(3) - 1
		}
	}
	m := &g.Members[d.below(6)]
	switch d.below(6) {
	case 0:
		m.Items = rulePutItem(m.Items, d.item())
	case 1:
		m.Serves = !m.Serves
	case 2:
		m.Base = !m.Base
	}
	return g
}
