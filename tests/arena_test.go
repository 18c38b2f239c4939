package tests

import (
	"math"
	"slices"
	"strings"
	"testing"

	"loop.example/g00180/impl"
)

// mostGen is MaxNumber by MaxSlots, down, less 1: the last Gen whose handles are all within MaxNumber.
const mostGen = 41666665

type slot = impl.Slot

// freed is a slot that is not Used, linked to the next one.
func freed(gen, next int) slot { return slot{Gen: gen, Next: next} }

// filled is a slot that is Used.
func filled(gen int, key, val string) slot { return slot{Gen: gen, Used: true, Key: key, Val: val} }

func arenaOf(free int, slots ...slot) impl.Arena { return impl.Arena{Slots: slots, Free: free} }

// sameArena holds two arenas against each other, an empty list being as good as nil.
func sameArena(a, b impl.Arena) bool {
	return a.Free == b.Free && slices.Equal(a.Slots, b.Slots)
}

// arenaRight is the chapter's rule word by word.
func arenaRight(a impl.Arena) bool {
	if len(a.Slots) < 1 || len(a.Slots) > 24 {
		return false
	}
	inChain := map[int]bool{}
	for at := a.Free; at != -1; at = a.Slots[at].Next {
		if at < 0 || at >= len(a.Slots) || inChain[at] {
			return false
		}
		inChain[at] = true
	}
	for i, s := range a.Slots {
		if s.Gen < 0 || s.Gen > mostGen || s.Used == inChain[i] {
			return false
		}
		if !s.Used && (s.Key != "" || s.Val != "") {
			return false
		}
		if s.Used && (len(s.Key) < 1 || len(s.Key) > 12 || len(s.Val) > 20 || s.Next != 0) {
			return false
		}
	}
	return true
}

func newArena(t *testing.T, size int) impl.Arena {
	t.Helper()
	a, ok := impl.ArenaNew(size)
	if !ok || len(a.Slots) != size || a.Free != 0 || !impl.ArenaOk(a) {
		t.Fatalf("ArenaNew(%d) = %v, %v", size, a, ok)
	}
	return a
}

// lay wants the whole answer of Lay to be what the chapter says of a right arena.
func lay(t *testing.T, a impl.Arena, key, val string) (impl.Arena, int) {
	t.Helper()
	place := a.Free
	want := impl.Arena{Slots: slices.Clone(a.Slots), Free: a.Slots[place].Next}
	want.Slots[place] = filled(a.Slots[place].Gen, key, val)
	wantHandle := 24*a.Slots[place].Gen + place
	got, handle, ok := impl.Lay(a, key, val)
	if !sameArena(got, want) || handle != wantHandle || !ok {
		t.Fatalf("Lay(%v, %q, %q) = %v, %d, %v; want %v, %d, true", a, key, val, got, handle, ok, want, wantHandle)
	}
	return got, handle
}

// lift wants the whole answer of Lift to be what the chapter says of a handle that is one.
func lift(t *testing.T, a impl.Arena, handle int) impl.Arena {
	t.Helper()
	place := handle % 24
	gen := handle/24 + 1
	if gen > mostGen {
		gen = 0
	}
	want := impl.Arena{Slots: slices.Clone(a.Slots), Free: place}
	want.Slots[place] = freed(gen, a.Free)
	got, ok := impl.Lift(a, handle)
	if !sameArena(got, want) || !ok {
		t.Fatalf("Lift(%v, %d) = %v, %v; want %v, true", a, handle, got, ok, want)
	}
	return got
}

func wantLook(t *testing.T, a impl.Arena, handle int, key, val string) {
	t.Helper()
	if k, v, ok := impl.Look(a, handle); k != key || v != val || !ok {
		t.Fatalf("Look(%v, %d) = %q, %q, %v; want %q, %q, true", a, handle, k, v, ok, key, val)
	}
}

// wantNoHandle wants neither Look nor Lift to take a handle.
func wantNoHandle(t *testing.T, a impl.Arena, handle int) {
	t.Helper()
	if k, v, ok := impl.Look(a, handle); k != "" || v != "" || ok {
		t.Fatalf("Look(%v, %d) = %q, %q, %v; want none, false", a, handle, k, v, ok)
	}
	if b, ok := impl.Lift(a, handle); !sameArena(b, impl.Arena{}) || ok {
		t.Fatalf("Lift(%v, %d) = %v, %v; want none, false", a, handle, b, ok)
	}
}

func wantNoLay(t *testing.T, a impl.Arena, key, val string) {
	t.Helper()
	if b, handle, ok := impl.Lay(a, key, val); !sameArena(b, impl.Arena{}) || handle != 0 || ok {
		t.Errorf("Lay(%v, %.30q, %.30q) = %v, %d, %v; want none, 0, false", a, key, val, b, handle, ok)
	}
}

// wantWrongArena wants each function's answer at an arena that is not right.
func wantWrongArena(t *testing.T, a impl.Arena) {
	t.Helper()
	if impl.ArenaOk(a) {
		t.Errorf("ArenaOk(%v) = true; want false", a)
	}
	wantNoLay(t, a, "k", "v")
	if n := impl.UsedOf(a); n != 0 {
		t.Errorf("UsedOf(%v) = %d; want 0", a, n)
	}
	for place := range len(a.Slots) + 1 {
		if h := impl.HandleOf(a, place); h != -1 {
			t.Errorf("HandleOf(%v, %d) = %d; want -1", a, place, h)
		}
		wantNoHandle(t, a, place)
	}
	for place, s := range a.Slots {
		wantNoHandle(t, a, 24*s.Gen+place)
	}
}

func TestArenaNewSizes(t *testing.T) {
	for size := 1; size <= impl.MaxSlots; size++ {
		a := newArena(t, size)
		for i, s := range a.Slots {
			next := i + 1
			if next == size {
				next = -1
			}
			if s != freed(0, next) {
				t.Errorf("slot %d of a new arena of %d is %v", i, size, s)
			}
		}
		if impl.UsedOf(a) != 0 {
			t.Errorf("a new arena of %d has %d that are Used", size, impl.UsedOf(a))
		}
	}
	for _, size := range []int{0, -1, 25, 26, 1000, math.MinInt, math.MaxInt} {
		if a, ok := impl.ArenaNew(size); !sameArena(a, impl.Arena{}) || ok {
			t.Errorf("ArenaNew(%d) = %v, %v; want none, false", size, a, ok)
		}
	}
}

// life is an arena and what it should have: each entry by its handle, the handles that are gone, the free places.
type life struct {
	arena impl.Arena
	live  map[int][2]string
	gone  []int
	stack []int // the free places, the next one last
}

func newLife(t *testing.T, size int) *life {
	l := &life{arena: newArena(t, size), live: map[int][2]string{}}
	for place := size - 1; place >= 0; place-- {
		l.stack = append(l.stack, place)
	}
	return l
}

func (l *life) lay(t *testing.T, key, val string) int {
	t.Helper()
	place := l.stack[len(l.stack)-1]
	a, handle := lay(t, l.arena, key, val)
	if handle%24 != place {
		t.Fatalf("%q is laid at %d; want it at %d, which was lifted last", key, handle%24, place)
	}
	if _, twice := l.live[handle]; twice || slices.Contains(l.gone, handle) {
		t.Fatalf("the handle %d is given out twice", handle)
	}
	l.arena, l.stack = a, l.stack[:len(l.stack)-1]
	l.live[handle] = [2]string{key, val}
	return handle
}

func (l *life) lift(t *testing.T, handle int) {
	t.Helper()
	l.arena = lift(t, l.arena, handle)
	l.stack = append(l.stack, handle%24)
	l.gone = append(l.gone, handle)
	delete(l.live, handle)
}

// check is promise 3: every handle finds what was laid, and none that is gone finds anything.
func (l *life) check(t *testing.T) {
	t.Helper()
	if !impl.ArenaOk(l.arena) || !arenaRight(l.arena) {
		t.Fatalf("%v is not right", l.arena)
	}
	for handle, entry := range l.live {
		wantLook(t, l.arena, handle, entry[0], entry[1])
		if h := impl.HandleOf(l.arena, handle%24); h != handle {
			t.Fatalf("HandleOf(%v, %d) = %d; want %d", l.arena, handle%24, h, handle)
		}
	}
	for _, handle := range l.gone {
		wantNoHandle(t, l.arena, handle)
	}
	for _, place := range l.stack {
		if h := impl.HandleOf(l.arena, place); h != -1 {
			t.Fatalf("HandleOf(%v, %d) = %d; want -1", l.arena, place, h)
		}
	}
	if n := impl.UsedOf(l.arena); n != len(l.live) {
		t.Fatalf("UsedOf(%v) = %d; want %d", l.arena, n, len(l.live))
	}
}

// handles are those that find something, ascending, so that a test takes the same one each time.
func (l *life) handles() []int {
	var list []int
	for handle := range l.live {
		list = append(list, handle)
	}
	slices.Sort(list)
	return list
}

// keyNumber is a Key of 2 to 12 bytes.
func keyNumber(n int) string {
	return "k" + strings.Repeat("x", n%11) + string(rune('a'+n%26))
}

// orders are ways to go through n places.
func orders(n int) [][]int {
	up, down, mixed := make([]int, n), make([]int, n), make([]int, n)
	for i := range n {
		up[i], down[n-1-i] = i, i
		mixed[i] = i
	}
	for i := range n {
		j := (i*7 + 3) % n
		mixed[i], mixed[j] = mixed[j], mixed[i]
	}
	return [][]int{up, down, mixed}
}

func TestPromise3FullAndEmptyInOrders(t *testing.T) {
	for _, size := range []int{1, 2, 3, 7, impl.MaxSlots} {
		for _, order := range orders(size) {
			l := newLife(t, size)
			for round := range 4 {
				byPlace := make([]int, size)
				for i := range size {
					handle := l.lay(t, keyNumber(i+round), strings.Repeat("v", (i*5+round)%21))
					byPlace[handle%24] = handle
					l.check(t)
				}
				wantNoLay(t, l.arena, "k", "v")
				for _, place := range order {
					l.lift(t, byPlace[place])
					l.check(t)
				}
			}
		}
	}
}

func TestPromise3DrawnLives(t *testing.T) {
	for _, size := range []int{1, 2, 5, 12, impl.MaxSlots} {
		for seed := range 6 {
			l := newLife(t, size)
			drawn := seed*7919 + size
			for step := range 120 {
				drawn = (drawn*1103515245 + 12345) % 2147483648
				pick := drawn / 65536
				handles := l.handles()
				if len(handles) == 0 || len(handles) < size && pick%5 < 3 {
					l.lay(t, keyNumber(pick), strings.Repeat("w", step%21))
				} else {
					l.lift(t, handles[pick/5%len(handles)])
				}
				if step%4 == 0 {
					l.check(t)
				}
			}
			l.check(t)
		}
	}
}

// One slot is laid again and again: the handles of all older ones stay none.
func TestPromise3HandlesOfOlderOnes(t *testing.T) {
	l := newLife(t, 1)
	for round := range 60 {
		if handle := l.lay(t, "same", "same"); handle != 24*round {
			t.Fatalf("in the round %d the handle is %d; want %d", round, handle, 24*round)
		}
		l.check(t)
		l.lift(t, 24*round)
		l.check(t)
	}
}

func TestLaidNextWhereLiftedLast(t *testing.T) {
	l := newLife(t, 5)
	for i := range 5 {
		l.lay(t, keyNumber(i), "")
	}
	for _, place := range []int{3, 0, 4, 1} {
		l.lift(t, place)
	}
	for _, place := range []int{1, 4, 0, 3} {
		if handle := l.lay(t, "next", ""); handle != 24+place {
			t.Errorf("laid at the handle %d; want %d", handle, 24+place)
		}
	}
	l.check(t)
}

// The same Key may be laid more than once: an arena knows handles alone.
func TestLaySameKeyTwice(t *testing.T) {
	a, one := lay(t, newArena(t, 2), "k", "one")
	a, two := lay(t, a, "k", "two")
	wantLook(t, a, one, "k", "one")
	wantLook(t, a, two, "k", "two")
	a = lift(t, a, one)
	wantNoHandle(t, a, one)
	wantLook(t, a, two, "k", "two")
}

func TestGenBeginsAnew(t *testing.T) {
	for _, place := range []int{0, 11, 23} {
		a := newArena(t, impl.MaxSlots)
		a.Free = place
		for i := range a.Slots {
			a.Slots[i] = filled(mostGen, "k", "v")
		}
		a.Slots[place] = freed(mostGen-1, -1)
		a, before := lay(t, a, "before", "")
		if before != 24*(mostGen-1)+place {
			t.Fatalf("the handle of Gen %d at %d is %d", mostGen-1, place, before)
		}
		a = lift(t, a, before)
		a, last := lay(t, a, "last", "")
		if last != 24*mostGen+place || last > impl.MaxNumber {
			t.Fatalf("the handle of Gen %d at %d is %d", mostGen, place, last)
		}
		wantNoHandle(t, a, before)
		a = lift(t, a, last)
		if a.Slots[place].Gen != 0 {
			t.Fatalf("behind the greatest Gen comes %d; want 0", a.Slots[place].Gen)
		}
		a, anew := lay(t, a, "anew", "")
		if anew != place {
			t.Fatalf("the handle of Gen 0 at %d is %d", place, anew)
		}
		wantLook(t, a, anew, "anew", "")
		wantNoHandle(t, a, before)
		wantNoHandle(t, a, last)
	}
}

func TestArenaOkRight(t *testing.T) {
	all := make([]slot, impl.MaxSlots)
	for i := range all {
		all[i] = filled(i, "k", "")
	}
	right := []impl.Arena{
		arenaOf(0, freed(0, -1)), arenaOf(-1, filled(0, "k", "")),
		arenaOf(0, freed(mostGen, -1)), arenaOf(-1, filled(mostGen, "k", "v")),
		arenaOf(1, freed(3, -1), freed(5, 0)), arenaOf(1, filled(0, "k", "v"), freed(0, -1)),
		arenaOf(-1, filled(0, strings.Repeat("k", 12), strings.Repeat("v", 20))),
		arenaOf(-1, filled(0, "\x00", "\xff")), arenaOf(-1, filled(0, "same", ""), filled(0, "same", "")),
		arenaOf(2, freed(0, 1), freed(0, -1), freed(9, 0)), arenaOf(-1, all...),
	}
	for _, a := range right {
		if !impl.ArenaOk(a) {
			t.Errorf("ArenaOk(%v) = false; want true", a)
		}
	}
}

func TestArenaOkOneThingBroken(t *testing.T) {
	long := strings.Repeat("k", 13)
	wrong := map[string]impl.Arena{
		"no slot":                          arenaOf(-1),
		"no slot, Free 0":                  arenaOf(0),
		"a Gen below 0, free":              arenaOf(0, freed(-1, -1)),
		"a Gen below 0, Used":              arenaOf(-1, filled(-1, "k", "v")),
		"a Gen too great by one, free":     arenaOf(0, freed(mostGen+1, -1)),
		"a Gen too great by one, Used":     arenaOf(-1, filled(mostGen+1, "k", "v")),
		"the least Gen":                    arenaOf(0, freed(math.MinInt, -1)),
		"the greatest Gen of all":          arenaOf(-1, filled(math.MaxInt, "k", "v")),
		"a Gen wrong in the last slot":     arenaOf(0, freed(0, 1), freed(-1, -1)),
		"a chain that leaves out a slot":   arenaOf(0, freed(0, -1), freed(0, -1)),
		"one left out, its Next 0":         arenaOf(0, freed(0, -1), slot{}),
		"one left out, its Next -2":        arenaOf(0, freed(0, -1), freed(0, -2)),
		"Free -1 beside a free slot":       arenaOf(-1, freed(0, -1)),
		"a chain through one that is Used": arenaOf(0, freed(0, 1), filled(0, "k", "v")),
		"the same, and on":                 arenaOf(0, freed(0, 1), filled(0, "k", "v"), freed(0, -1)),
		"Free at one that is Used":         arenaOf(0, filled(0, "k", "v")),
		"Used, with Next -1, in the chain": arenaOf(0, slot{Used: true, Key: "k", Next: -1}),
		"a circle of one":                  arenaOf(0, freed(0, 0)),
		"a circle of two":                  arenaOf(0, freed(0, 1), freed(0, 0)),
		"a circle of three, the last ones": arenaOf(0, freed(0, 1), freed(0, 2), freed(0, 3), freed(0, 1)),
		"a chain to the same at its end":   arenaOf(1, freed(0, 0), freed(0, 0)),
		"a chain that leads behind":        arenaOf(0, freed(0, 1)),
		"a chain that leads far behind":    arenaOf(0, freed(0, math.MaxInt)),
		"a chain to a place of MaxSlots":   arenaOf(0, freed(0, 24)),
		"a chain that leads below -1":      arenaOf(0, freed(0, -2)),
		"a chain that leads far below":     arenaOf(0, freed(0, math.MinInt)),
		"Free behind the slots":            arenaOf(1, freed(0, -1)),
		"Free behind, all Used":            arenaOf(1, filled(0, "k", "v")),
		"Free far behind":                  arenaOf(math.MaxInt, freed(0, -1)),
		"Free below -1":                    arenaOf(-2, freed(0, -1)),
		"Free below -1, all Used":          arenaOf(-2, filled(0, "k", "v")),
		"Free far below, all Used":         arenaOf(math.MinInt, filled(0, "k", "v")),
		"not Used, with a Key":             arenaOf(0, slot{Key: "k", Next: -1}),
		"not Used, with a Val":             arenaOf(0, slot{Val: "v", Next: -1}),
		"Used, with an empty Key":          arenaOf(-1, filled(0, "", "v")),
		"Used, with nothing":               arenaOf(-1, filled(0, "", "")),
		"Used, its Key too long by one":    arenaOf(-1, filled(0, long, "v")),
		"Used, its Val too long by one":    arenaOf(-1, filled(0, "k", strings.Repeat("v", 21))),
		"Used, its Key far too long":       arenaOf(-1, filled(0, strings.Repeat("k", 5000), "")),
		"Used, Next -1":                    arenaOf(-1, slot{Used: true, Key: "k", Next: -1}),
		"Used, Next 1":                     arenaOf(-1, slot{Used: true, Key: "k", Next: 1}),
		"Used, Next of a free one":         arenaOf(1, slot{Used: true, Key: "k", Next: 1}, freed(0, -1)),
	}
	for what, a := range wrong {
		if arenaRight(a) {
			t.Fatalf("the test's own rule takes %s", what)
		}
		t.Run(what, func(t *testing.T) { wantWrongArena(t, a) })
	}
}

// A right arena of MaxSlots slots, Used and free ones in turn, is broken in each of its slots.
func TestArenaOkBrokenInEachSlot(t *testing.T) {
	whole := arenaOf(0)
	for i := range impl.MaxSlots {
		if i%2 == 0 {
			whole.Slots = append(whole.Slots, freed(i, i+2))
		} else {
			whole.Slots = append(whole.Slots, filled(i, "k", "v"))
		}
	}
	whole.Slots[22].Next = -1
	if !impl.ArenaOk(whole) {
		t.Fatalf("ArenaOk(%v) = false; want true", whole)
	}
	breaks := []func(*slot){
		func(s *slot) { s.Gen = -1 },
		func(s *slot) { s.Gen = mostGen + 1 },
		func(s *slot) { s.Used = !s.Used },
		func(s *slot) { s.Key = strings.Repeat("k", 12-len(s.Key)*12) },
		func(s *slot) { s.Val = strings.Repeat("v", 21) },
		func(s *slot) { s.Next = -2 },
		func(s *slot) { s.Next = 5 },
		func(s *slot) { s.Next = 24 },
	}
	for i := range whole.Slots {
		for number, breakIt := range breaks {
			broken := arenaOf(0, slices.Clone(whole.Slots)...)
			breakIt(&broken.Slots[i])
			if arenaRight(broken) || impl.ArenaOk(broken) {
				t.Errorf("slot %d, broken by the way %d, is taken", i, number)
			}
		}
	}
}

func TestArenaOkNumberOfSlots(t *testing.T) {
	for _, size := range []int{1, 2, 23, 24, 25, 26, 48, 1000} {
		used := arenaOf(-1)
		free := arenaOf(0)
		for i := range size {
			used.Slots = append(used.Slots, filled(0, "k", "v"))
			free.Slots = append(free.Slots, freed(0, i+1))
		}
		free.Slots[size-1].Next = -1
		for _, a := range []impl.Arena{used, free} {
			if got, want := impl.ArenaOk(a), size <= 24; got != want {
				t.Errorf("ArenaOk of %d slots = %v; want %v", size, got, want)
			}
		}
		if size > 24 {
			wantWrongArena(t, used)
			wantWrongArena(t, free)
		}
	}
	wantWrongArena(t, impl.Arena{})
	wantWrongArena(t, impl.Arena{Slots: []slot{}, Free: -1})
}

// eachPick calls back with every way to pick one of so many, for so many times.
func eachPick(times, of int, back func([]int)) {
	pick := make([]int, times)
	for {
		back(pick)
		at := 0
		for at < times && pick[at] == of-1 {
			pick[at] = 0
			at++
		}
		if at == times {
			return
		}
		pick[at]++
	}
}

// Every arena of two slots whose fields are each at an edge is held against the chapter's rule.
func TestArenaOkOfTwoSlots(t *testing.T) {
	var some []slot
	for _, gen := range []int{-1, 0, mostGen, mostGen + 1} {
		for _, key := range []string{"", "k", "kkkkkkkkkkkk", "kkkkkkkkkkkkk"} {
			for _, val := range []string{"", "vvvvvvvvvvvvvvvvvvvv", "vvvvvvvvvvvvvvvvvvvvv"} {
				for next := -2; next <= 2; next++ {
					some = append(some, slot{Gen: gen, Key: key, Val: val, Next: next})
					some = append(some, slot{Gen: gen, Used: true, Key: key, Val: val, Next: next})
				}
			}
		}
	}
	a := arenaOf(0, slot{}, slot{})
	right := 0
	eachPick(2, len(some), func(pick []int) {
		a.Slots[0], a.Slots[1] = some[pick[0]], some[pick[1]]
		for a.Free = -2; a.Free <= 2; a.Free++ {
			want := arenaRight(a)
			if want {
				right++
			}
			if got := impl.ArenaOk(a); got != want {
				t.Fatalf("ArenaOk(%v) = %v; want %v", a, got, want)
			}
		}
	})
	if right == 0 {
		t.Error("none of them is right")
	}
}

// Every chain through three and four slots, with every way to be Used.
func TestArenaOkOfEveryChain(t *testing.T) {
	for size := 1; size <= 4; size++ {
		a := arenaOf(0, make([]slot, size)...)
		eachPick(size, 2*(size+3), func(pick []int) {
			for i, p := range pick {
				a.Slots[i] = slot{Next: p/2 - 2}
				if p%2 == 1 {
					a.Slots[i].Used, a.Slots[i].Key = true, "k"
				}
			}
			for a.Free = -2; a.Free <= size; a.Free++ {
				if got, want := impl.ArenaOk(a), arenaRight(a); got != want {
					t.Fatalf("ArenaOk(%v) = %v; want %v", a, got, want)
				}
			}
		})
	}
}

func TestLayLimits(t *testing.T) {
	a := newArena(t, 2)
	key, val := strings.Repeat("k", impl.MaxKey), strings.Repeat("v", impl.MaxVal)
	for _, entry := range [][2]string{{"k", ""}, {"\x00", "\x00"}, {key, ""}, {"k", val}, {key, val}, {"\xff\xfe", "é"}} {
		b, handle := lay(t, a, entry[0], entry[1])
		wantLook(t, b, handle, entry[0], entry[1])
		c, second := lay(t, b, entry[0], entry[1])
		wantLook(t, c, second, entry[0], entry[1])
		wantNoLay(t, c, entry[0], entry[1])
	}
	for _, entry := range [][2]string{
		{"", ""}, {"", "v"}, {"", val}, {key + "k", ""}, {key + "k", "v"}, {"k", val + "v"}, {key, val + "v"},
		{key + "k", val + "v"}, {"", val + "v"}, {strings.Repeat("k", 5000), ""}, {"k", strings.Repeat("v", 5000)},
	} {
		wantNoLay(t, a, entry[0], entry[1])
		one, _ := lay(t, a, "k", "v")
		wantNoLay(t, one, entry[0], entry[1])
	}
}

func TestLayWithOneFreeAndNone(t *testing.T) {
	for _, size := range []int{1, 2, impl.MaxSlots} {
		for place := range size {
			a := arenaOf(place)
			for range size {
				a.Slots = append(a.Slots, filled(7, "k", "v"))
			}
			a.Slots[place] = freed(9, -1)
			full, handle := lay(t, a, "last", "one")
			if handle != 24*9+place || full.Free != -1 || impl.UsedOf(full) != size {
				t.Errorf("the last one is laid as %d, Free %d, %d Used", handle, full.Free, impl.UsedOf(full))
			}
			wantNoLay(t, full, "one", "more")
			wantNoLay(t, full, "", "")
		}
	}
}

func TestLookAndLiftAtWrongHandles(t *testing.T) {
	a := arenaOf(1, filled(5, "five", "5"), freed(6, 3), filled(0, "nought", "0"), freed(0, -1), filled(mostGen, "last", ""))
	for place, gen := range map[int]int{0: 5, 2: 0, 4: mostGen} {
		wantLook(t, a, 24*gen+place, a.Slots[place].Key, a.Slots[place].Val)
		lift(t, a, 24*gen+place)
		for _, other := range []int{-1, 0, 1, 4, 5, 6, mostGen - 1, mostGen, mostGen + 1, 2 * mostGen} {
			if other != gen {
				wantNoHandle(t, a, 24*other+place)
			}
		}
	}
	for _, handle := range []int{
		-1, -2, -24, -23, -24*5 + 0, -24 * mostGen, 24*6 + 1, 24*7 + 1, 1, 3, 24 + 3, // free ones, whatever the Gen
		5, 6, 23, 24*5 + 5, 24*5 + 23, 24*mostGen + 5, 24*mostGen + 23, // places behind the slots
		impl.MaxNumber, impl.MaxNumber + 1, math.MaxInt, math.MaxInt - 1, math.MinInt, math.MinInt + 1, math.MinInt + 2,
	} {
		wantNoHandle(t, a, handle)
	}
	for handle := -200; handle < 400; handle++ {
		if handle != 24*5 && handle != 2 {
			wantNoHandle(t, a, handle)
		}
	}
	// Numbers so great that a Gen taken from them in fewer bits would fit.
	for _, bits := range []int{32, 40, 56, 58} {
		wantNoHandle(t, a, 1<<bits+2)
		wantNoHandle(t, a, 24<<bits+24*5)
	}
}

func TestLiftTwice(t *testing.T) {
	a, handle := lay(t, newArena(t, 3), "k", "v")
	b := lift(t, a, handle)
	wantNoHandle(t, b, handle)
	wantLook(t, a, handle, "k", "v")
	// The slot's next handle is none either, until it is laid.
	wantNoHandle(t, b, handle+24)
}

func TestHandleOfPlaces(t *testing.T) {
	a := arenaOf(1, filled(5, "five", "5"), freed(6, -1), filled(0, "nought", "0"), filled(mostGen, "last", ""))
	places := map[int]int{
		0: 120, 1: -1, 2: 2, 3: 24*mostGen + 3,
		4: -1, 5: -1, 23: -1, 24: -1, 26: -1, 120: -1, -1: -1, -2: -1, -4: -1, -24: -1, math.MaxInt: -1, math.MinInt: -1,
	}
	for place, want := range places {
		if got := impl.HandleOf(a, place); got != want {
			t.Errorf("HandleOf(%v, %d) = %d; want %d", a, place, got, want)
		}
	}
}

func TestHandleOfBehindEverySize(t *testing.T) {
	for size := 1; size <= impl.MaxSlots; size++ {
		a := arenaOf(-1)
		for range size {
			a.Slots = append(a.Slots, filled(1, "k", "v"))
		}
		for place := -30; place < 60; place++ {
			want := -1
			if place >= 0 && place < size {
				want = 24 + place
			}
			if got := impl.HandleOf(a, place); got != want {
				t.Errorf("HandleOf a full one of %d, %d = %d; want %d", size, place, got, want)
			}
		}
	}
}

func TestUsedOfCounts(t *testing.T) {
	for size := 1; size <= impl.MaxSlots; size++ {
		a := newArena(t, size)
		for n := range size {
			if got := impl.UsedOf(a); got != n {
				t.Errorf("UsedOf with %d laid of %d = %d", n, size, got)
			}
			a, _ = lay(t, a, "k", "v")
		}
		if got := impl.UsedOf(a); got != size {
			t.Errorf("UsedOf a full one of %d = %d", size, got)
		}
	}
}

// withSpare has the same slots, and others in the spare room behind them.
func withSpare(a impl.Arena) impl.Arena {
	spare := append(slices.Clone(a.Slots), filled(9, "spare", "room"), freed(8, 7))
	return impl.Arena{Slots: spare[:len(a.Slots)], Free: a.Free}
}

func TestArenaArgumentsStay(t *testing.T) {
	whole := arenaOf(1, filled(5, "five", "5"), freed(6, 3), filled(0, "nought", "0"), freed(0, -1))
	wrong := arenaOf(1, filled(5, "five", "5"), freed(6, 0), filled(0, "nought", "0"), freed(0, -1))
	for _, a := range []impl.Arena{whole, wrong} {
		given := withSpare(a)
		before := slices.Clone(given.Slots[:len(a.Slots)+2])
		impl.ArenaOk(given)
		impl.Lay(given, "k", "v")
		impl.Look(given, 120)
		impl.Lift(given, 120)
		impl.Lift(given, 2)
		impl.UsedOf(given)
		impl.HandleOf(given, 0)
		if given.Free != a.Free || !slices.Equal(given.Slots[:len(a.Slots)+2], before) {
			t.Errorf("the argument %v has become %v", before, given.Slots[:len(a.Slots)+2])
		}
	}
}

// sharesSlots tells whether what is written into one list is seen in the other.
func sharesSlots(a, b []slot) bool {
	before := slices.Clone(b)
	for i := range a {
		a[i].Gen += 1000
	}
	seen := !slices.Equal(before, b)
	for i := range a {
		a[i].Gen -= 1000
	}
	return seen
}

func TestArenasAreNewMemory(t *testing.T) {
	key, val := strings.Repeat("k", 12), strings.Repeat("v", 20)
	given := withSpare(arenaOf(1, filled(5, "five times", "and its val"), freed(6, -1), filled(0, "nought", "0")))
	laid, _, ok := impl.Lay(given, key, val)
	if !ok || sharesSlots(laid.Slots, given.Slots) {
		t.Error("Lay shares slots with its argument")
	}
	if shares(laid.Slots[1].Key, key) || shares(laid.Slots[1].Val, val) {
		t.Error("Lay keeps the texts that it was given")
	}
	if shares(laid.Slots[0].Key, given.Slots[0].Key) || shares(laid.Slots[0].Val, given.Slots[0].Val) {
		t.Error("Lay shares texts with its argument")
	}
	k, v, ok := impl.Look(given, 120)
	if !ok || shares(k, given.Slots[0].Key) || shares(v, given.Slots[0].Val) {
		t.Error("Look shares texts with its argument")
	}
	lifted, ok := impl.Lift(given, 2)
	if !ok || sharesSlots(lifted.Slots, given.Slots) || shares(lifted.Slots[0].Key, given.Slots[0].Key) {
		t.Error("Lift shares memory with its argument")
	}
	one, other := newArena(t, 3), newArena(t, 3)
	if sharesSlots(one.Slots, other.Slots) {
		t.Error("two answers of ArenaNew share slots")
	}
}
