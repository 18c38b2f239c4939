package tests

import (
	"slices"
	"testing"

	"loop.example/g00180/impl"
)

// Lists and groups that no life gives, and lives that were changed, are answered by the rules.
func TestTruthsOfAnyGroup(t *testing.T) {
	held, broken := map[string]int{}, map[string]int{}
	note := func(name string, holds bool) {
		if holds {
			held[name]++
		} else {
			broken[name]++
		}
	}
	for seed := range 40000 {
		a := truths(t, drawnLooks(seed))
		note("InTime", a.inTime)
		note("Reads", a.reads)
		note("Fresh", a.fresh)
		note("OneServes", a.oneServes)
		note("Alike", a.alike)
		note("Sound", a.sound)
	}
	for _, name := range []string{"InTime", "Reads", "Fresh", "OneServes", "Alike", "Sound"} {
		if held[name] < 2500 || broken[name] < 2500 {
			t.Errorf("%s holds %d times, and does not %d times", name, held[name], broken[name])
		}
	}
}

// The groups of the chapter before that no life gives, and members that stand in each way.
func TestTruthsOfOtherGroups(t *testing.T) {
	for seed := range 4000 {
		truths(t, newDraws(seed).anyGroup())
	}
	for _, views := range append(wrongViews(), rightViews(3), rightViews(9)) {
		for _, c := range wrongMembers() {
			c.member.Serves = true
			truths(t, group{Views: views, Members: []member{c.member, based(2, c.member.Epoch), based(1, c.member.Epoch, twoItems()...)}})
		}
		for _, m := range stands() {
			for id := range 4 {
				m.Id = id
				truths(t, group{Views: views, Members: []member{m, based(2, 1, twoItems()...), serving(1, 2)}})
			}
		}
	}
}

// Nothing is written into what is handed in, nor into the room behind it.
func TestTruthArgumentsStay(t *testing.T) {
	for seed := range 4000 {
		g := drawnLooks(seed)
		for name, ask := range map[string]func(group){
			"Stamp": func(g group) {
				for _, c := range g.Calls {
					impl.Stamp(c)
				}
			},
			"InTime": func(g group) { impl.InTime(g.Calls) }, "Reads": func(g group) { impl.Reads(g.Calls) }, "Fresh": func(g group) { impl.Fresh(g.Calls) },
			"OneServes": func(g group) { impl.OneServes(g) }, "Alike": func(g group) { impl.Alike(g) }, "Sound": func(g group) { impl.Sound(g) },
		} {
			own := apartGroup(g)
			cells := cellsOfGroup(own)
			ask(own)
			groupQuestion{what: name, g: g}.wantStays(t, cells, "the call")
			if !sameGroup(own, g) {
				t.Fatalf("%s changed %+v; it is %+v", name, g, own)
			}
		}
	}
}

// spareBehind is the same list, with these behind it that are no part of it.
func spareBehind[T any](list []T, spare ...T) []T {
	return append(slices.Clone(list), spare...)[:len(list)]
}

// brokenBehind is the same group, with that behind its lists which would break each of the five.
func brokenBehind(g group) group {
	own := group{Views: spareBehind(g.Views, []int{6, 5}, []int{6, 5})}
	for at, view := range own.Views {
		own.Views[at] = spareBehind(view, 1, 2, 3, 4, 5, 6)
	}
	members := []member{serving(6, 1, itemOf("spare", "", 1)), serving(5, 1), serving(4, 77)}
	for id := 1; id <= 6; id++ {
		members = append(members, based(id, 1, itemOf("spare", "", id)), based(id, 2, itemOf("spare", "", id)))
	}
	own.Members = spareBehind(g.Members, members...)
	for at := range own.Members {
		own.Members[at].Items = spareBehind(own.Members[at].Items, itemOf("spare", "", at+1))
	}
	late := stamped(1000, 1000, 0, 0)
	own.Calls = spareBehind(g.Calls, late, late, doneGet("r", "never put", 9001, 9000), donePut("k", "", 1, 9999), doneGet("k", "", 9002, 0))
	return own
}

// What stands behind a list is not looked at.
func TestTruthsDoNotLookBehind(t *testing.T) {
	whole := brokenBehind(soundGroup(t))
	whole.Members, whole.Calls = wholeOf(whole.Members), wholeOf(whole.Calls)
	if got := truths(t, whole); got != (truthsOf{}) {
		t.Fatalf("of what stands behind is answered %+v", got)
	}
	groups := []group{{}, soundGroup(t)}
	for seed := range 2000 {
		groups = append(groups, drawnLooks(seed))
	}
	for _, g := range groups {
		if got, want := askTruths(brokenBehind(g)), ruleTruths(g); got != want {
			t.Fatalf("with other things behind, of %+v is answered %+v; want %+v", g, got, want)
		}
	}
}

// The same is answered again, whatever was asked between: nothing is kept.
func TestTruthsAreAnsweredAgain(t *testing.T) {
	var groups []group
	var first []truthsOf
	for seed := range 2000 {
		groups = append(groups, drawnLooks(seed))
		first = append(first, askTruths(groups[seed]))
	}
	for seed := len(groups) - 1; seed >= 0; seed-- {
		if again := askTruths(groups[seed]); again != first[seed] {
			t.Fatalf("of %+v is answered %+v, and then %+v", groups[seed], first[seed], again)
		}
	}
}
