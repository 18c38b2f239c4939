package tests

import (
	"math"
	"slices"
	"strings"
	"testing"

	"loop.example/g00180/impl"
)

// wantBegins holds what Begin answers, every field of it, where others are asked.
func wantBegins(t *testing.T, what string, m member, views [][]int, w wish, want member, wantTold ...msg) {
	t.Helper()
	next, told, said, ok := begin(t, m, views, w)
	if !ok || !sameMember(next, want) || !sameTold(told, wantTold) || len(said) > 0 {
		t.Errorf("%s: Begin(%+v, %v, %+v) = %+v, %+v, %+v, %v; want %+v, %+v, nothing said, true", what, m, views, w, next, told, said, ok, want, wantTold)
	}
	if !impl.MemberOk(next) {
		t.Errorf("%s: %+v is not right", what, next)
	}
}

// wantAtOnce holds what Begin answers where the member is alone in its view.
func wantAtOnce(t *testing.T, what string, m member, views [][]int, w wish, want member, wantSaid report) {
	t.Helper()
	next, told, said, ok := begin(t, m, views, w)
	if !ok || !sameMember(next, want) || len(told) > 0 || !slices.Equal(said, []report{wantSaid}) {
		t.Errorf("%s: Begin(%+v, %v, %+v) = %+v, %+v, %+v, %v; want %+v, nothing told, %+v, true", what, m, views, w, next, told, said, ok, want, wantSaid)
	}
	if !impl.MemberOk(next) {
		t.Errorf("%s: %+v is not right", what, next)
	}
}

// wantNoBegin wants false, and nothing beside it.
func wantNoBegin(t *testing.T, what string, m member, views [][]int, w wish) {
	t.Helper()
	next, told, said, ok := begin(t, m, views, w)
	if ok || !sameMember(next, member{}) || len(told) > 0 || len(said) > 0 {
		t.Errorf("%s: Begin(%+v, %v, %+v) = %+v, %+v, %+v, %v; want nothing, false", what, m, views, w, next, told, said, ok)
	}
}

// counted is a member that began so many Tasks.
func counted(m member, count int) member {
	m.Count = count
	return m
}

func TestBeginPut(t *testing.T) {
	some := twoItems()
	views := [][]int{{2, 1}, {4, 6, 1}, {3, 6, 2, 5}}
	x := itemOf("b", "new", 1001)
	wantBegins(t, "one other", serving(2, 1, some...), views, putOf(7, "b", "new"), withTask(counted(serving(2, 1, some...), 1), 1, 7, 1, x, 1), askStore(2, 1, 1, 1, x))
	x.Ver = 2013
	wantBegins(t, "two others", counted(serving(4, 2, some...), 12), views, putOf(0, "b", "new"), withTask(counted(serving(4, 2, some...), 13), 1, 0, 13, x, 1, 6), askStore(4, 6, 2, 13, x), askStore(4, 1, 2, 13, x))
	x.Ver = 3900
	wantBegins(t, "three others", counted(serving(3, 3, some...), 899), views, putOf(1000, "b", "new"), withTask(counted(serving(3, 3, some...), 900), 1, 1000, 900, x, 2, 5, 6), askStore(3, 6, 3, 900, x), askStore(3, 2, 3, 900, x), askStore(3, 5, 3, 900, x))
	again := itemOf("a", "", 1001)
	wantBegins(t, "a Key that is there, no Val", serving(2, 1, some...), views, putOf(7, "a", ""), withTask(counted(serving(2, 1, some...), 1), 1, 7, 1, again, 1), askStore(2, 1, 1, 1, again))
}

func TestBeginGet(t *testing.T) {
	some := twoItems()
	views := [][]int{{2, 1}, {4, 6, 1}, {3, 6, 2, 5}}
	wantBegins(t, "one other", serving(2, 1, some...), views, getOf(7, "a"), withTask(counted(serving(2, 1, some...), 1), 2, 7, 1, itemOf("a", "", 1001), 1), askSure(2, 1, 1, 1))
	wantBegins(t, "two others", counted(serving(4, 2, some...), 12), views, getOf(0, "b"), withTask(counted(serving(4, 2, some...), 13), 2, 0, 13, itemOf("b", "", 2013), 1, 6), askSure(4, 6, 2, 13), askSure(4, 1, 2, 13))
	wantBegins(t, "three others", counted(serving(3, 3), 899), views, getOf(1000, "c"), withTask(counted(serving(3, 3), 900), 2, 1000, 900, itemOf("c", "", 3900), 2, 5, 6), askSure(3, 6, 3, 900), askSure(3, 2, 3, 900), askSure(3, 5, 3, 900))
	wantBegins(t, "a new Key, 12 items", serving(2, 1, manyItems(12)...), views, getOf(7, "zz"), withTask(counted(serving(2, 1, manyItems(12)...), 1), 2, 7, 1, itemOf("zz", "", 1001), 1), askSure(2, 1, 1, 1))
}

// Alone in its view a member is done at once.
func TestBeginAlone(t *testing.T) {
	some := twoItems()
	views := [][]int{{1}, {6, 1}, {5}}
	x := itemOf("b", "new", 1001)
	wantAtOnce(t, "put", serving(1, 1, some...), views, putOf(7, "b", "new"), counted(serving(1, 1, some[0], x, some[1]), 1), report{Call: 7, Epoch: 1, Num: 1, Item: x})
	x = itemOf("a", "", 3013)
	wantAtOnce(t, "put of a Key that is there", counted(serving(5, 3, some...), 12), views, putOf(0, "a", ""), counted(serving(5, 3, x, some[1]), 13), report{Epoch: 3, Num: 13, Item: x})
	wantAtOnce(t, "put of a Key that is newer", serving(1, 1, itemOf("a", "n", 1001)), views, putOf(7, "a", "x"), counted(serving(1, 1, itemOf("a", "n", 1001)), 1), report{Call: 7, Epoch: 1, Num: 1, Item: itemOf("a", "x", 1001)})
	wantAtOnce(t, "get", serving(1, 1, some...), views, getOf(1000, "c"), counted(serving(1, 1, some...), 1), report{Call: 1000, Epoch: 1, Num: 1, Item: some[1]})
	wantAtOnce(t, "get of a Key that is not there", counted(serving(5, 3, some...), 899), views, getOf(1, "b"), counted(serving(5, 3, some...), 900), report{Call: 1, Epoch: 3, Num: 900})
	wantAtOnce(t, "get without items", serving(5, 3), views, getOf(1, "b"), counted(serving(5, 3), 1), report{Call: 1, Epoch: 3, Num: 1})
}

// A put and a get one behind the other, until there are no more Nums.
func TestBeginUpToTheLastCount(t *testing.T) {
	views := [][]int{{1}}
	m, _ := impl.MemberNew(1, views)
	for count := 1; count <= 900; count++ {
		key := string(rune('a' + count%12))
		w, want := putOf(count, key, "v"), itemOf(key, "v", 1000+count)
		if count%2 == 0 {
			w, want = getOf(count, string(rune('a'+(count-1)%12))), itemOf(string(rune('a'+(count-1)%12)), "v", 999+count)
		}
		next, _, said, ok := begin(t, m, views, w)
		if !ok || !slices.Equal(said, []report{{Call: count, Epoch: 1, Num: count, Item: want}}) {
			t.Fatalf("the Task %d is answered by %+v, %v; want %+v", count, said, ok, want)
		}
		m = next
	}
	wantNoBegin(t, "the Task 901, a put", m, views, putOf(0, "a", "v"))
	wantNoBegin(t, "the Task 901, a get", m, views, getOf(0, "a"))
}

// wishesAllowed have each limit met exactly.
func wishesAllowed() []wish {
	key, val := strings.Repeat("k", 12), strings.Repeat("v", 20)
	return []wish{
		putOf(0, "k", ""), putOf(1000, "k", "v"), putOf(5, key, val), putOf(5, "\x00", "\xff\x00"), putOf(5, "k", val), putOf(5, key, ""),
		getOf(0, "k"), getOf(1000, "k"), getOf(5, key), getOf(5, "\xff"),
	}
}

// wishesRefused have each limit passed by one, and by much more.
func wishesRefused() []wish {
	key, val := strings.Repeat("k", 13), strings.Repeat("v", 21)
	all := []wish{
		putOf(5, "", "v"), putOf(5, key, "v"), putOf(5, "k", val), putOf(5, strings.Repeat("k", 30000), ""), putOf(5, "k", strings.Repeat("v", 30000)),
		getOf(5, ""), getOf(5, key), {op: 2, call: 5, key: "k", val: "v"}, {op: 2, call: 5, key: "k", val: val}, {op: 2, call: 5, key: "k", val: "\x00"},
	}
	for _, call := range []int{math.MinInt, -1, 1001, math.MaxInt} {
		all = append(all, putOf(call, "k", "v"), getOf(call, "k"))
	}
	for _, op := range []int{math.MinInt, -2, -1, 0, 3, 4, 257, math.MaxInt} {
		all = append(all, wish{op: op, call: 5, key: "k"}, wish{op: op, call: 5, key: "k", val: "v"})
	}
	return all
}

func TestBeginLimits(t *testing.T) {
	views := [][]int{{2, 1}, {3}}
	for _, w := range wishesAllowed() {
		for _, m := range []member{serving(2, 1), serving(3, 2, twoItems()...), counted(serving(2, 1), 899)} {
			if next, _, _, ok := begin(t, m, views, w); !ok || next.Count != m.Count+1 {
				t.Errorf("Begin(%+v, %v, %+v) = %+v, %v", m, views, w, next, ok)
			}
		}
	}
	for _, w := range wishesRefused() {
		wantNoBegin(t, "with others", serving(2, 1), views, w)
		wantNoBegin(t, "alone", serving(3, 2, twoItems()...), views, w)
	}
}

// Each reason for false that is the member's, alone.
func TestBeginRefused(t *testing.T) {
	views := [][]int{{2, 1}, {2}}
	for _, w := range []wish{putOf(5, "k", "v"), getOf(5, "k")} {
		for epoch := 1; epoch <= 2; epoch++ {
			m := serving(2, epoch, twoItems()...)
			if _, _, _, ok := begin(t, m, views, w); !ok {
				t.Fatalf("%+v may not begin %+v", m, w)
			}
			wantNoBegin(t, "the last Count is used", counted(m, 900), views, w)
			wantNoBegin(t, "it is not right", counted(m, 901), views, w)
			wantNoBegin(t, "a put is begun", withTask(m, 1, 4, 1, itemOf("k", "v", 1001), 1), views, w)
			wantNoBegin(t, "a get is begun", withTask(m, 2, 4, 1, itemOf("k", "", 1001), 1), views, w)
			wantNoBegin(t, "a Task has nobody left", withTask(m, 2, 4, 1, itemOf("k", "", 1001)), views, w)
			idle := m
			idle.Serves = false
			wantNoBegin(t, "it does not serve", idle, views, w)
			idle.Waits = []int{1}
			wantNoBegin(t, "it waits", idle, views, w)
			wantNoBegin(t, "it does not lead", based(2, epoch, twoItems()...), views, w)
			wantNoBegin(t, "it is not Base", leads(2, epoch, twoItems()...), views, w)
			wantNoBegin(t, "it fell", fallen(2, epoch), views, w)
		}
	}
	for _, c := range wrongMembers() {
		wantNoBegin(t, c.what, c.member, rightViews(9), putOf(5, "k", "v"))
		wantNoBegin(t, c.what, c.member, [][]int{{1}, {2}, {2}, {3}, {4}}, getOf(5, "k"))
	}
}

// Each reason for false that is the views', alone.
func TestBeginRefusedByViews(t *testing.T) {
	m := serving(2, 2, twoItems()...)
	for _, w := range []wish{putOf(5, "k", "v"), getOf(5, "k")} {
		for _, views := range [][][]int{{{1}, {2}}, {{1}, {2, 1}}, {{1}, {2, 3, 4, 1}, {1}}} {
			if _, _, _, ok := begin(t, m, views, w); !ok {
				t.Fatalf("%+v may not begin %+v in %v", m, w, views)
			}
		}
		wantNoBegin(t, "fewer views than its Epoch", m, [][]int{{2}}, w)
		wantNoBegin(t, "another one is the first one", m, [][]int{{2}, {1, 2}}, w)
		wantNoBegin(t, "it is not in its view", m, [][]int{{2}, {1, 3}}, w)
		wantNoBegin(t, "it is the first one of others alone", m, [][]int{{2}, {1}, {2}}, w)
		wantNoBegin(t, "its own view is not right", m, [][]int{{2}, {2, 2}}, w)
		wantNoBegin(t, "its own view is too great", m, [][]int{{2}, {2, 1, 3, 4, 5}}, w)
		wantNoBegin(t, "another view is not right", m, [][]int{{2}, {2}, {}}, w)
		wantNoBegin(t, "too many views", m, [][]int{{2}, {2}, {2}, {2}, {2}, {2}, {2}, {2}, {2}, {2}}, w)
		wantNoBegin(t, "no views", m, nil, w)
		for _, views := range wrongViews() {
			wantNoBegin(t, "views that are not right", serving(1, 1), views, w)
			wantNoBegin(t, "views that are not right", m, views, w)
		}
	}
}

// With 12 items no new Key can be put; one that is there can, and one of eleven.
func TestBeginWithoutRoom(t *testing.T) {
	full, less := manyItems(12), manyItems(11)
	for _, views := range [][][]int{{{1}}, {{1, 2}}, {{1, 2, 3, 4}}} {
		wantNoBegin(t, "a new Key ahead", serving(1, 1, full...), views, putOf(5, "A", "v"))
		wantNoBegin(t, "a new Key between", serving(1, 1, full...), views, putOf(5, "aa", "v"))
		wantNoBegin(t, "a new Key behind", serving(1, 1, full...), views, putOf(5, "zz", "v"))
		for _, key := range []string{"A", "aa", "zz"} {
			if _, _, _, ok := begin(t, serving(1, 1, less...), views, putOf(5, key, "v")); !ok {
				t.Errorf("%q cannot be put into eleven items", key)
			}
			if _, _, _, ok := begin(t, serving(1, 1, full...), views, getOf(5, key)); !ok {
				t.Errorf("%q cannot be asked for in 12 items", key)
			}
		}
		for _, x := range full {
			if _, _, _, ok := begin(t, serving(1, 1, full...), views, putOf(5, x.Key, "v")); !ok {
				t.Errorf("%q, which is there, cannot be put into 12 items", x.Key)
			}
		}
	}
}

// The Ver is made of the Epoch and the Num, in each Epoch.
func TestBeginVer(t *testing.T) {
	views := [][]int{{1, 2}, {1, 2}, {1, 2}, {1, 2}, {1, 2}, {1, 2}, {1, 2}, {1, 2}, {1, 2}}
	for epoch := 1; epoch <= 9; epoch++ {
		for _, count := range []int{0, 1, 99, 898, 899} {
			x := itemOf("k", "v", 1000*epoch+count+1)
			wantBegins(t, "put", counted(serving(1, epoch), count), views, putOf(3, "k", "v"), withTask(counted(serving(1, epoch), count+1), 1, 3, count+1, x, 2), askStore(1, 2, epoch, count+1, x))
			x.Val = ""
			wantBegins(t, "get", counted(serving(1, epoch), count), views, getOf(3, "k"), withTask(counted(serving(1, epoch), count+1), 2, 3, count+1, x, 2), askSure(1, 2, epoch, count+1))
		}
	}
}

// What is begun is done when all others have answered, in whatever order.
func TestBeginUntilDone(t *testing.T) {
	views := [][]int{{3, 6, 2, 5}}
	for _, order := range orders(3) {
		for _, w := range []wish{putOf(7, "k", "new"), getOf(7, "k")} {
			m := serving(3, 1, itemOf("k", "old", 5))
			m, told, _, ok := begin(t, m, views, w)
			if !ok || len(told) != 3 {
				t.Fatalf("Begin told %+v, %v", told, ok)
			}
			for at, place := range order {
				other := based(told[place].To, 1, itemOf("k", "old", 5))
				_, answers, _ := hear(t, other, views, told[place])
				if len(answers) != 1 {
					t.Fatalf("%+v is answered by %+v", told[place], answers)
				}
				next, more, said := hear(t, m, views, answers[0])
				if len(more) > 0 || len(said) != at/2 {
					t.Fatalf("the answer %d: %+v told, %+v said", at, more, said)
				}
				m = next
				if twice, _, again := hear(t, m, views, answers[0]); !sameMember(twice, m) || len(again) > 0 {
					t.Fatalf("an answer that comes twice counts twice: %+v, %+v", twice, again)
				}
				if at == 2 && w.op == impl.OpPut && said[0] != (report{Call: 7, Epoch: 1, Num: 1, Item: itemOf("k", "new", 1001)}) {
					t.Errorf("a put says %+v", said[0])
				}
				if at == 2 && w.op == impl.OpGet && said[0] != (report{Call: 7, Epoch: 1, Num: 1, Item: itemOf("k", "old", 5)}) {
					t.Errorf("a get says %+v", said[0])
				}
			}
		}
	}
}

// Drawn members, views and wishes.
func TestBeginDrawn(t *testing.T) {
	taken, atOnce := 0, 0
	for seed := range 40000 {
		d := newDraws(seed)
		views := d.views()
		m := d.member(views)
		if d.below(4) > 0 {
			m = serving(views[m.Epoch-1][0], m.Epoch, m.Items...)
			m.Count = d.below(901)
		}
		if next, _, said, ok := begin(t, m, views, d.wish()); ok {
			taken++
			atOnce += len(said)
			if !impl.MemberOk(next) {
				t.Fatalf("of the right %+v comes %+v, which is not", m, next)
			}
		}
	}
	if taken < 15000 || atOnce < 3000 {
		t.Errorf("only %d were taken, %d of them done at once", taken, atOnce)
	}
}
