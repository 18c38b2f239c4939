package tests

import (
	"slices"
	"strconv"
	"testing"

	"loop.example/g00180/impl"
)

// This file has the chapter's rules for tables word by word; the tests of tables hold the program against them.

type cell = impl.Cell

func noneCell() cell { return cell{Handle: -1} }

func goneCell() cell { return cell{Handle: -2} }

// noneCells are so many that are CellNone.
func noneCells(size int) []cell {
	return slices.Repeat([]cell{noneCell()}, size)
}

// goneCells are so many that are CellGone.
func goneCells(size int) []cell {
	return slices.Repeat([]cell{goneCell()}, size)
}

// cellsWith are so many that are CellNone, but for those that are told.
func cellsWith(size int, at map[int]cell) []cell {
	list := noneCells(size)
	for place, c := range at {
		list[place] = c
	}
	return list
}

func tableOf(cells ...cell) impl.Table { return impl.Table{Cells: cells} }

func growing(cells, old []cell, moved int) impl.Table {
	return impl.Table{Cells: cells, Old: old, Moved: moved}
}

// sameTable holds two tables against each other, an empty list being as good as nil.
func sameTable(a, b impl.Table) bool {
	return a.Moved == b.Moved && slices.Equal(a.Cells, b.Cells) && slices.Equal(a.Old, b.Old)
}

func cloneTable(a impl.Table) impl.Table {
	return impl.Table{Cells: slices.Clone(a.Cells), Old: slices.Clone(a.Old), Moved: a.Moved}
}

func ruleHash(key string, seed int) int {
	if seed < 0 {
		seed = 0
	}
	if seed > 1000000000 {
		seed = 1000000000
	}
	number := (2166136261 + seed) % 4294967296
	for _, b := range []byte(key) {
		number = (number ^ int(b)) * 16777619 % 4294967296
	}
	return number ^ number/65536
}

// keyAt is a key whose way begins at this place of so many; each number has another one.
func keyAt(size, home, number int) string {
	for n := 0; ; n++ {
		key := "k" + strconv.Itoa(n)
		if ruleHash(key, 0)%size != home {
			continue
		}
		if number == 0 {
			return key
		}
		number--
	}
}

// ruleWay are the places where one seeks a key, in order, up to the first that is CellNone, and with it.
func ruleWay(list []cell, key string) []int {
	var way []int
	for step := range list {
		at := (ruleHash(key, 0) + step) % len(list)
		way = append(way, at)
		if list[at].Handle == -1 {
			break
		}
	}
	return way
}

// ruleWhere is the place of a key in a list of a right table, -1 where it is not.
func ruleWhere(list []cell, key string) int {
	return slices.IndexFunc(list, func(c cell) bool { return key != "" && c.Key == key })
}

func ruleSize(size int) bool {
	return slices.Contains([]int{4, 8, 16, 32, 64}, size)
}

func ruleKey(key string) bool { return len(key) >= 1 && len(key) <= 12 }

func ruleCell(c cell) bool {
	if c.Key == "" {
		return c.Handle == -1 || c.Handle == -2
	}
	return ruleKey(c.Key) && c.Handle >= 0
}

func ruleRight(a impl.Table) bool {
	if !ruleSize(len(a.Cells)) || len(a.Old) != 0 && 2*len(a.Old) != len(a.Cells) {
		return false
	}
	if a.Moved < 0 || a.Moved > len(a.Old) || !slices.Contains(a.Cells, noneCell()) {
		return false
	}
	for place, c := range a.Old {
		if place < a.Moved && c != goneCell() {
			return false
		}
	}
	times := map[string]int{}
	for _, list := range [][]cell{a.Cells, a.Old} {
		for place, c := range list {
			if !ruleCell(c) {
				return false
			}
			if c.Key == "" {
				continue
			}
			times[c.Key]++
			if times[c.Key] > 1 || !slices.Contains(ruleWay(list, c.Key), place) {
				return false
			}
		}
	}
	return true
}

func ruleSeek(a impl.Table, key string) (int, bool) {
	if !ruleRight(a) {
		return 0, false
	}
	for _, list := range [][]cell{a.Cells, a.Old} {
		if at := ruleWhere(list, key); at >= 0 {
			return list[at].Handle, true
		}
	}
	return 0, false
}

// ruleLay lays a key that is not in a list into the first cell on its way that has none.
func ruleLay(list []cell, key string, handle int) bool {
	for _, at := range ruleWay(list, key) {
		if list[at].Key != "" {
			continue
		}
		rest := slices.Delete(slices.Clone(list), at, at+1)
		if list[at] == noneCell() && !slices.Contains(rest, noneCell()) {
			return false
		}
		list[at] = cell{Key: key, Handle: handle}
		return true
	}
	return false
}

func rulePut(a impl.Table, key string, handle int) (impl.Table, bool) {
	if !ruleRight(a) || !ruleKey(key) || handle < 0 {
		return impl.Table{}, false
	}
	a = cloneTable(a)
	if at := ruleWhere(a.Cells, key); at >= 0 {
		a.Cells[at].Handle = handle
		return a, true
	}
	if !ruleLay(a.Cells, key, handle) {
		return impl.Table{}, false
	}
	if at := ruleWhere(a.Old, key); at >= 0 {
		a.Old[at] = goneCell()
	}
	return a, true
}

func ruleTake(a impl.Table, key string) (impl.Table, bool) {
	if _, there := ruleSeek(a, key); !there {
		return impl.Table{}, false
	}
	a = cloneTable(a)
	for _, list := range [][]cell{a.Cells, a.Old} {
		if at := ruleWhere(list, key); at >= 0 {
			list[at] = goneCell()
		}
	}
	return a, true
}

func ruleGrow(a impl.Table) (impl.Table, bool) {
	if !ruleRight(a) || len(a.Old) > 0 || len(a.Cells) > 32 {
		return impl.Table{}, false
	}
	return growing(noneCells(2*len(a.Cells)), slices.Clone(a.Cells), 0), true
}

func ruleMove(a impl.Table, steps int) impl.Table {
	if !ruleRight(a) || steps < 1 {
		return a
	}
	a = cloneTable(a)
	for steps > 0 && a.Moved < len(a.Old) {
		c := a.Old[a.Moved]
		if c.Key != "" && !ruleLay(a.Cells, c.Key, c.Handle) {
			return a
		}
		a.Old[a.Moved] = goneCell()
		a.Moved++
		steps--
	}
	if a.Moved == len(a.Old) {
		return tableOf(a.Cells...)
	}
	return a
}

func ruleKeys(a impl.Table) []string {
	if !ruleRight(a) {
		return nil
	}
	var keys []string
	for _, c := range slices.Concat(a.Cells, a.Old) {
		if c.Key != "" {
			keys = append(keys, c.Key)
		}
	}
	slices.Sort(keys)
	return keys
}

func ruleClean(a impl.Table) (impl.Table, bool) {
	if !ruleRight(a) || len(ruleKeys(a)) >= len(a.Cells) {
		return impl.Table{}, false
	}
	cells := noneCells(len(a.Cells))
	for _, key := range ruleKeys(a) {
		handle, _ := ruleSeek(a, key)
		ruleLay(cells, key, handle)
	}
	return tableOf(cells...), true
}

// wantTable holds one answer against another.
func wantTable(t *testing.T, what string, a, got, want impl.Table, ok, wantOk bool) {
	t.Helper()
	if !sameTable(got, want) || ok != wantOk {
		t.Fatalf("%s of %v = %v, %v; want %v, %v", what, a, got, ok, want, wantOk)
	}
}

func put(t *testing.T, a impl.Table, key string, handle int) (impl.Table, bool) {
	t.Helper()
	want, wantOk := rulePut(a, key, handle)
	got, ok := impl.PutKey(a, key, handle)
	wantTable(t, "PutKey "+strconv.Quote(key)+" "+strconv.Itoa(handle), a, got, want, ok, wantOk)
	return got, ok
}

func take(t *testing.T, a impl.Table, key string) (impl.Table, bool) {
	t.Helper()
	want, wantOk := ruleTake(a, key)
	got, ok := impl.TakeKey(a, key)
	wantTable(t, "TakeKey "+strconv.Quote(key), a, got, want, ok, wantOk)
	return got, ok
}

func grow(t *testing.T, a impl.Table) (impl.Table, bool) {
	t.Helper()
	want, wantOk := ruleGrow(a)
	got, ok := impl.GrowTable(a)
	wantTable(t, "GrowTable", a, got, want, ok, wantOk)
	return got, ok
}

func move(t *testing.T, a impl.Table, steps int) impl.Table {
	t.Helper()
	got := impl.MoveSome(a, steps)
	wantTable(t, "MoveSome "+strconv.Itoa(steps), a, got, ruleMove(a, steps), true, true)
	return got
}

func clean(t *testing.T, a impl.Table) (impl.Table, bool) {
	t.Helper()
	want, wantOk := ruleClean(a)
	got, ok := impl.CleanTable(a)
	wantTable(t, "CleanTable", a, got, want, ok, wantOk)
	return got, ok
}

func wantSeek(t *testing.T, a impl.Table, key string) {
	t.Helper()
	want, wantOk := ruleSeek(a, key)
	if got, ok := impl.SeekKey(a, key); got != want || ok != wantOk {
		t.Fatalf("SeekKey(%v, %q) = %d, %v; want %d, %v", a, key, got, ok, want, wantOk)
	}
}

func wantKeys(t *testing.T, a impl.Table) {
	t.Helper()
	if got, want := impl.KeysOf(a), ruleKeys(a); !slices.Equal(got, want) {
		t.Fatalf("KeysOf(%v) = %q; want %q", a, got, want)
	}
}

// wantByRule holds every function at one table against the chapter's rules.
func wantByRule(t *testing.T, a impl.Table, keys []string) {
	t.Helper()
	if got, want := impl.TableOk(a), ruleRight(a); got != want {
		t.Fatalf("TableOk(%v) = %v; want %v", a, got, want)
	}
	for _, key := range keys {
		wantSeek(t, a, key)
		put(t, a, key, 77)
		take(t, a, key)
	}
	grow(t, a)
	for _, steps := range []int{-1, 0, 1, 2, 3, 1000} {
		move(t, a, steps)
	}
	clean(t, a)
	wantKeys(t, a)
}

// wantRight wants a table to be right, by the program and by the chapter's rule.
func wantRight(t *testing.T, what string, a impl.Table) {
	t.Helper()
	if !ruleRight(a) {
		t.Fatalf("%s: the test's own rule refuses %v", what, a)
	}
	if !impl.TableOk(a) {
		t.Errorf("%s: TableOk(%v) = false; want true", what, a)
	}
}

// wantWrongTable wants each function's answer at a table that is not right.
func wantWrongTable(t *testing.T, what string, a impl.Table) {
	t.Helper()
	if ruleRight(a) {
		t.Fatalf("%s: the test's own rule takes %v", what, a)
	}
	if impl.TableOk(a) {
		t.Errorf("%s: TableOk(%v) = true; want false", what, a)
	}
	keys := []string{"", "k0", "not there"}
	for _, c := range slices.Concat(a.Cells, a.Old) {
		keys = append(keys, c.Key)
	}
	for _, key := range keys {
		if handle, ok := impl.SeekKey(a, key); handle != 0 || ok {
			t.Errorf("%s: SeekKey %q = %d, %v; want 0, false", what, key, handle, ok)
		}
		if b, ok := impl.PutKey(a, key, 7); !sameTable(b, impl.Table{}) || ok {
			t.Errorf("%s: PutKey %q = %v, %v; want none, false", what, key, b, ok)
		}
		if b, ok := impl.TakeKey(a, key); !sameTable(b, impl.Table{}) || ok {
			t.Errorf("%s: TakeKey %q = %v, %v; want none, false", what, key, b, ok)
		}
	}
	if b, ok := impl.GrowTable(a); !sameTable(b, impl.Table{}) || ok {
		t.Errorf("%s: GrowTable = %v, %v; want none, false", what, b, ok)
	}
	if b, ok := impl.CleanTable(a); !sameTable(b, impl.Table{}) || ok {
		t.Errorf("%s: CleanTable = %v, %v; want none, false", what, b, ok)
	}
	for _, steps := range []int{-1, 0, 1, 2, 1000} {
		if b := impl.MoveSome(a, steps); !sameTable(b, a) {
			t.Errorf("%s: MoveSome %d = %v; want it as it is, %v", what, steps, b, a)
		}
	}
	if keys := impl.KeysOf(a); len(keys) != 0 {
		t.Errorf("%s: KeysOf = %q; want none", what, keys)
	}
}
