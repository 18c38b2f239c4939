package tests

import (
	"math"
	"slices"
	"strconv"
	"strings"
	"testing"

	"loop.example/g00180/impl"
)

// tableLife is a table and what it should have: the handle that was put last of each key, and the keys that are gone.
type tableLife struct {
	table impl.Table
	has   map[string]int
	gone  map[string]bool
}

func newTableLife(t *testing.T, size int) *tableLife {
	t.Helper()
	a, ok := impl.TableNew(size)
	if !ok {
		t.Fatalf("TableNew(%d) is false", size)
	}
	return &tableLife{table: a, has: map[string]int{}, gone: map[string]bool{}}
}

// put tells whether the key is put; one that is refused changes nothing.
func (l *tableLife) put(t *testing.T, key string, handle int) bool {
	t.Helper()
	a, ok := put(t, l.table, key, handle)
	if ok {
		l.table = a
		l.has[key] = handle
		delete(l.gone, key)
	}
	return ok
}

func (l *tableLife) mustPut(t *testing.T, key string, handle int) {
	t.Helper()
	if !l.put(t, key, handle) {
		t.Fatalf("%q can't be put into %v", key, l.table)
	}
}

func (l *tableLife) take(t *testing.T, key string) {
	t.Helper()
	_, there := l.has[key]
	a, ok := take(t, l.table, key)
	if ok != there {
		t.Fatalf("TakeKey(%v, %q) = %v; want %v", l.table, key, ok, there)
	}
	if ok {
		l.table = a
		delete(l.has, key)
		l.gone[key] = true
	}
}

func (l *tableLife) grow(t *testing.T) bool {
	t.Helper()
	a, ok := grow(t, l.table)
	if ok {
		l.table = a
	}
	return ok
}

func (l *tableLife) move(t *testing.T, steps int) {
	t.Helper()
	l.table = move(t, l.table, steps)
}

// moveAll moves until there is no Old, and tells in how many goes.
func (l *tableLife) moveAll(t *testing.T, steps int) int {
	t.Helper()
	goes := 0
	for len(l.table.Old) > 0 {
		before := l.table.Moved
		l.move(t, steps)
		l.check(t)
		if len(l.table.Old) > 0 && l.table.Moved <= before {
			t.Fatalf("%v is moved no further", l.table)
		}
		goes++
	}
	return goes
}

func (l *tableLife) clean(t *testing.T) bool {
	t.Helper()
	a, ok := clean(t, l.table)
	if ok != (len(l.has) < len(l.table.Cells)) {
		t.Fatalf("CleanTable(%v) = %v with %d keys", l.table, ok, len(l.has))
	}
	if !ok {
		return false
	}
	if slices.Contains(a.Cells, goneCell()) || len(a.Old) != 0 || len(a.Cells) != len(l.table.Cells) {
		t.Fatalf("CleanTable(%v) = %v", l.table, a)
	}
	l.table = a
	return true
}

func (l *tableLife) keys() []string {
	var keys []string
	for key := range l.has {
		keys = append(keys, key)
	}
	slices.Sort(keys)
	return keys
}

// check is promise 4: each key has the handle that was put last, and what is taken is gone.
func (l *tableLife) check(t *testing.T) {
	t.Helper()
	if !impl.TableOk(l.table) || !ruleRight(l.table) {
		t.Fatalf("%v is not right", l.table)
	}
	for key, want := range l.has {
		if handle, ok := impl.SeekKey(l.table, key); handle != want || !ok {
			t.Fatalf("SeekKey(%v, %q) = %d, %v; want %d, true", l.table, key, handle, ok, want)
		}
	}
	for key := range l.gone {
		if handle, ok := impl.SeekKey(l.table, key); handle != 0 || ok {
			t.Fatalf("SeekKey(%v, %q) = %d, %v; want 0, false", l.table, key, handle, ok)
		}
	}
	if got, want := impl.KeysOf(l.table), l.keys(); !slices.Equal(got, want) {
		t.Fatalf("KeysOf(%v) = %q; want %q", l.table, got, want)
	}
}

// tableKey is a key of 2 to 12 bytes, some of them above 127.
func tableKey(n int) string {
	return string([]byte{'a' + byte(n%26), byte(n * 37)}) + strings.Repeat("\xfe", n%9) + strconv.Itoa(n%10)
}

var tableSizes = []int{4, 8, 16, 32, 64}

func TestPromise4PutAgainAndTaken(t *testing.T) {
	for _, size := range tableSizes {
		l := newTableLife(t, size)
		l.check(t)
		for round := range 3 {
			for n := range size - 1 {
				l.mustPut(t, tableKey(n), 1000*round+n)
				l.check(t)
			}
			if l.put(t, tableKey(size), 1) {
				t.Fatalf("%d keys are put into %d cells", size, size)
			}
			for n := range size - 1 {
				l.mustPut(t, tableKey(n), 500+1000*round+n)
			}
			l.check(t)
			for _, n := range orders(size - 1)[round] {
				l.take(t, tableKey(n))
				l.take(t, tableKey(n))
				l.check(t)
			}
			if round == 1 && !l.clean(t) {
				t.Fatalf("a table without keys can't be cleaned")
			}
			l.check(t)
		}
	}
}

// A full table of each size grows, and is moved in steps of each number.
func TestPromise4Grows(t *testing.T) {
	for _, size := range []int{4, 8, 16, 32} {
		for _, steps := range []int{1, 2, 3, size - 1, size, size + 1, 1000, math.MaxInt} {
			l := newTableLife(t, size)
			for n := range size - 1 {
				l.mustPut(t, tableKey(n), n)
			}
			if !l.grow(t) {
				t.Fatalf("a table of %d cells doesn't grow", size)
			}
			l.check(t)
			goes := l.moveAll(t, steps)
			if want := (size-1)/min(steps, size) + 1; goes != want {
				t.Errorf("%d cells are moved by %d in %d goes; want %d", size, steps, goes, want)
			}
			if len(l.table.Cells) != 2*size || l.table.Moved != 0 {
				t.Errorf("moved, it is %v", l.table)
			}
			// What was let go of by growing is room for others.
			for n := range size {
				l.mustPut(t, tableKey(size+n), n)
			}
			l.check(t)
		}
	}
}

// Between the steps keys are put and taken: such as are in Old still, such as are moved, and others.
func TestPromise4BetweenTheSteps(t *testing.T) {
	for _, size := range []int{4, 8, 16, 32} {
		for _, steps := range []int{1, 2, 3} {
			for _, order := range orders(size - 1) {
				l := newTableLife(t, size)
				for n := range size - 1 {
					l.mustPut(t, tableKey(n), n)
				}
				l.grow(t)
				for turn, n := range order {
					if len(l.table.Old) == 0 {
						break
					}
					switch turn % 3 {
					case 0:
						l.mustPut(t, tableKey(n), 100+n)
					case 1:
						l.take(t, tableKey(n))
					case 2:
						l.mustPut(t, tableKey(size+n), 200+n)
						l.take(t, tableKey(order[turn-1]))
					}
					l.check(t)
					l.move(t, steps)
					l.check(t)
				}
				l.move(t, 1000)
				l.check(t)
			}
		}
	}
}

// A key that is still in Old is put, or taken, at each step of the moving.
func TestPromise4KeysStillInOld(t *testing.T) {
	for _, size := range []int{4, 8, 16} {
		for moved := range size {
			whole := newTableLife(t, size)
			for n := range size - 1 {
				whole.mustPut(t, tableKey(n), n)
			}
			whole.grow(t)
			whole.move(t, moved)
			for _, c := range whole.table.Old {
				if c.Key == "" {
					continue
				}
				for _, takeIt := range []bool{false, true} {
					l := &tableLife{table: whole.table, has: map[string]int{}, gone: map[string]bool{}}
					for key, handle := range whole.has {
						l.has[key] = handle
					}
					if takeIt {
						l.take(t, c.Key)
					} else {
						l.mustPut(t, c.Key, 300)
					}
					if ruleWhere(l.table.Old, c.Key) >= 0 {
						t.Fatalf("%q is in Old still: %v", c.Key, l.table)
					}
					l.check(t)
					l.move(t, 1)
					l.check(t)
					l.move(t, 1000)
					l.check(t)
				}
			}
		}
	}
}

// A table grows from its least size to its greatest, ever as full as it may be.
func TestPromise4FromLeastToGreatest(t *testing.T) {
	// In steps of 1 a table would be full of new keys before its old ones are moved.
	for _, steps := range []int{2, 5, 1000} {
		l := newTableLife(t, 4)
		for n := 0; len(l.has) < 63; n++ {
			if l.put(t, tableKey(n), n) {
				l.check(t)
				l.move(t, steps)
				continue
			}
			l.moveAll(t, steps)
			if !l.grow(t) {
				t.Fatalf("%v doesn't grow", l.table)
			}
			l.mustPut(t, tableKey(n), n)
			l.check(t)
		}
		l.moveAll(t, steps)
		if len(l.table.Cells) != impl.MaxCells || l.put(t, "one more", 1) || l.grow(t) {
			t.Errorf("the greatest table takes more: %v", l.table)
		}
		if !l.clean(t) {
			t.Errorf("a full table can't be cleaned: %v", l.table)
		}
		l.check(t)
	}
}

// Cells that are gone fill a table by and by; it is cleaned when nothing can be put any more.
func TestPromise4GoneCellsAreCleaned(t *testing.T) {
	for _, size := range tableSizes {
		l := newTableLife(t, size)
		cleaned := 0
		for n := range 6 * size {
			key := tableKey(n)
			if !l.put(t, key, n) {
				if !l.clean(t) {
					t.Fatalf("%v can't be cleaned", l.table)
				}
				cleaned++
				l.mustPut(t, key, n)
			}
			if n >= size/2 {
				l.take(t, tableKey(n-size/2))
			}
			l.check(t)
		}
		if cleaned == 0 && size > 4 {
			t.Errorf("a table of %d cells was never to be cleaned", size)
		}
	}
}

// draw is what a drawn life does next.
func (l *tableLife) draw(t *testing.T, pick, step int) {
	t.Helper()
	key := tableKey(pick / 16 % (len(l.table.Cells) + 2))
	switch pick % 16 {
	case 0, 1, 2, 3, 4, 5, 6:
		l.put(t, key, step)
	case 7, 8, 9:
		l.take(t, key)
	case 10, 11:
		l.move(t, 1)
	case 12:
		l.move(t, pick/16%5)
	case 13:
		l.move(t, 1000)
	case 14:
		l.grow(t)
	case 15:
		l.clean(t)
	}
}

func TestPromise4DrawnLives(t *testing.T) {
	for _, size := range tableSizes {
		for seed := range 12 {
			l := newTableLife(t, size)
			drawn := seed*7919 + size
			for step := range 150 {
				drawn = (drawn*1103515245 + 12345) % 2147483648
				l.draw(t, drawn/65536, step)
				if step%3 == 0 {
					l.check(t)
				}
			}
			l.check(t)
		}
	}
}
