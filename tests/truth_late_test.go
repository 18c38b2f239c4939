package tests

import (
	"slices"

	"loop.example/g00180/impl"
)

// relayViews are views of which each mostly goes on without the first one of the one before, and with another one of it ahead.
func (d *draws) relayViews() [][]int {
	views := [][]int{d.nodes(2 + d.below(2))}
	for range 2 + d.below(7) {
		next := slices.Clone(views[len(views)-1])
		if len(next) > 1 && d.below(4) > 0 {
			next = next[1:]
		}
		for _, node := range d.nodes(6) {
			if !slices.Contains(next, node) && len(next) < 1+d.below(4) {
				next = append(next, node)
			}
		}
		other := d.below(len(next))
		next[0], next[other] = next[other], next[0]
		views = append(views, next)
	}
	return views
}

// newestOf is the greatest Epoch of a group, and whether somebody serves in it.
func newestOf(g group) (int, bool) {
	newest, serves := 0, false
	for _, m := range g.Members {
		if m.Epoch > newest {
			newest, serves = m.Epoch, false
		}
		serves = serves || m.Epoch == newest && m.Serves
	}
	return newest, serves
}

// isAgain tells whether a message brings entries to one that has them; they would harm it once it fell.
func isAgain(g group, x msg) bool {
	m := g.Members[x.To-1]
	return x.Kind == impl.AskInstall && m.Base && m.Epoch == x.Epoch
}

// isHeld tells whether a message is to come late: it would end what a node has under way, be it by an answer or by a later view.
func isHeld(g group, x msg, node int) bool {
	switch x.Kind {
	case impl.TellStored, impl.TellSure, impl.AskSeal, impl.AskInstall:
		return isAgain(g, x) || x.To == node && g.Members[node-1].Task.Op > 0
	}
	return false
}

// freePlaces are those of the messages that come now: all but those that are held from a node.
func freePlaces(g group, node int) []int {
	var places []int
	for at, x := range g.Flying {
		if !isHeld(g, x, node) {
			places = append(places, at)
		}
	}
	return places
}

// lateBegin is a put or a get of one of few Keys.
func (d *draws) lateBegin(g group) event {
	e := d.event(g, 1)
	e.Key = "key " + string(rune('a'+d.below(2)))
	return e
}

// lateEvent is a right one that fits the group. While messages are held, a later view is adopted, so that these come late.
func (d *draws) lateEvent(g group, node int) event {
	places := freePlaces(g, node)
	newest, serves := newestOf(g)
	again := slices.IndexFunc(g.Flying, func(x msg) bool { return isAgain(g, x) })
	switch {
	case d.below(30) == 0:
		return d.event(g, 3+d.below(4))
	case again >= 0 && d.below(12) == 0:
		return fallBy(g.Flying[again].To)
	case len(places) > 0 && d.below(16) == 0:
		return copyAt(places[d.below(len(places))])
	case len(places) > 0 && d.below(8) > 0:
		return deliverAt(places[d.below(len(places))])
	case serves && len(g.Flying) > len(places) && newest < len(g.Views) && d.below(3) > 0:
		return adoptBy(g.Views[newest][0])
	}
	return d.lateBegin(g)
}

// lateLife is one in which members of several Epochs have calls under way at once, and each put has a Val of its own.
func lateLife(count, seed int) ([][]int, []event) {
	d := newDraws(seed)
	views, held := d.relayViews(), 0
	g, _ := ruleGroupNew(views)
	var events []event
	for place := range count {
		if held == 0 || d.below(10) == 0 {
			held = d.nodeWho(g, func(m member) bool { return m.Serves && m.Task.Op > 0 })
		}
		events = ownVals(append(events, d.lateEvent(g, held)))
		g, _ = ruleStep(g, events[place], place)
	}
	return views, events
}
