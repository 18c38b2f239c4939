package tests

import (
	"math"
	"slices"
	"strconv"
	"strings"
	"testing"

	"loop.example/g00180/impl"
)

func TestHashOfKnown(t *testing.T) {
	known := []struct {
		key  string
		seed int
		want int
	}{
		{"", 0, 2166103257}, {"", -1, 2166103257}, {"", math.MinInt, 2166103257}, {"", 1, 2166103258},
		{"", 1000000000, 3166165874}, {"", 1000000001, 3166165874}, {"", math.MaxInt, 3166165874},
		{"a", 0, 3826044192}, {"a", -1000000000, 3826044192}, {"a", 1, 3876375273},
		{"\x00", 0, 84695059}, {"\x7f", 0, 4195135938}, {"\x80", 0, 2232096404}, {"\xff", 0, 2047604805},
		{"\xff\xff\xff\xff", 0, 3809930407}, {"é", 0, 513668700},
		{"abc", 0, 440922956}, {"abc", 7, 4122722143}, {"abc", 8, 2430499325}, {"abc", 1000000000, 1205817556},
		{strings.Repeat("k", impl.MaxKey), 0, 2907045428}, {strings.Repeat("k", impl.MaxKey+1), 0, 3726708687},
		{"what is wanted often", 0, 3767462318}, {strings.Repeat("k", 1000), 0, 3317940190},
	}
	for _, k := range known {
		for range 2 {
			if got := impl.HashOf(k.key, k.seed); got != k.want {
				t.Errorf("HashOf(%.20q, %d) = %d; want %d", k.key, k.seed, got, k.want)
			}
		}
	}
}

func TestHashOfByRule(t *testing.T) {
	keys := []string{"", strings.Repeat("\xff", impl.MaxKey), strings.Repeat("\x80", 13), strings.Repeat("long", 5001)}
	for b := range 256 {
		keys = append(keys, string([]byte{byte(b)}), string([]byte{'k', byte(b)}), string([]byte{byte(b), 'k'}))
	}
	seeds := []int{
		math.MinInt, -4294967296, -1000000001, -2, -1, 0, 1, 2, 7, 8, 65535, 65536, 16777619,
		impl.MaxNumber - 1, impl.MaxNumber, impl.MaxNumber + 1, 2128831035, 4294967295, 4294967296, 4294967297, math.MaxInt,
	}
	for _, key := range keys {
		for _, seed := range seeds {
			got, again, want := impl.HashOf(key, seed), impl.HashOf(key, seed), ruleHash(key, seed)
			if got != want || again != want || got < 0 || got > 4294967295 {
				t.Errorf("HashOf(%.20q, %d) = %d, then %d; want %d", key, seed, got, again, want)
			}
		}
	}
}

func TestTableNewSizes(t *testing.T) {
	for _, size := range []int{4, 8, 16, 32, 64} {
		a, ok := impl.TableNew(size)
		if !ok || !sameTable(a, tableOf(noneCells(size)...)) || !impl.TableOk(a) {
			t.Errorf("TableNew(%d) = %v, %v", size, a, ok)
		}
	}
	wrong := []int{-64, -4, 128, 256, 1024, 4294967296 + 4, math.MinInt, math.MaxInt, math.MinInt + 4}
	for size := -5; size <= 130; size++ {
		if !ruleSize(size) {
			wrong = append(wrong, size)
		}
	}
	for _, size := range wrong {
		if a, ok := impl.TableNew(size); !sameTable(a, impl.Table{}) || ok {
			t.Errorf("TableNew(%d) = %v, %v; want none, false", size, a, ok)
		}
	}
}

func TestTableOkNumberOfCells(t *testing.T) {
	for size := range 131 {
		if what := strconv.Itoa(size) + " cells"; ruleSize(size) {
			wantRight(t, what, tableOf(noneCells(size)...))
			wantRight(t, what+" and half", growing(noneCells(size), noneCells(size/2), 0))
		} else {
			wantWrongTable(t, what, tableOf(noneCells(size)...))
			wantWrongTable(t, what+" and half", growing(noneCells(size), noneCells(size/2), 0))
		}
	}
	wantWrongTable(t, "nothing", impl.Table{})
	wantWrongTable(t, "Old alone", growing(nil, noneCells(4), 0))
	wantWrongTable(t, "1000 cells", tableOf(noneCells(1000)...))
}

func TestTableOkNumberOfOld(t *testing.T) {
	for _, size := range []int{4, 8, 16, 32, 64} {
		for old := range 2*size + 2 {
			a := growing(noneCells(size), noneCells(old), 0)
			what := strconv.Itoa(size) + " cells, " + strconv.Itoa(old) + " old ones"
			if old == 0 || old == size/2 {
				wantRight(t, what, a)
			} else {
				wantWrongTable(t, what, a)
			}
		}
	}
}

// inBoth has tables of eight cells and four old ones, which have this key at the beginning of its way, with this handle.
func inBoth(key string, handle int) map[string]impl.Table {
	c := cell{Key: key, Handle: handle}
	at := ruleHash(key, 0)
	return map[string]impl.Table{
		"in Cells": growing(cellsWith(8, map[int]cell{at % 8: c}), noneCells(4), 0),
		"in Old":   growing(noneCells(8), cellsWith(4, map[int]cell{at % 4: c}), 0),
	}
}

func TestTableOkKeysAndHandles(t *testing.T) {
	for _, key := range []string{"k", "\x00", "\xff\xfe", strings.Repeat("k", 11), strings.Repeat("k", impl.MaxKey)} {
		for _, handle := range []int{0, 1, impl.MaxNumber, impl.MaxNumber + 1, math.MaxInt} {
			for where, a := range inBoth(key, handle) {
				wantRight(t, strconv.Quote(key)+" "+strconv.Itoa(handle)+" "+where, a)
			}
		}
		for _, handle := range []int{-1, -2, -3, -1000, math.MinInt} {
			for where, a := range inBoth(key, handle) {
				wantWrongTable(t, strconv.Quote(key)+" "+strconv.Itoa(handle)+" "+where, a)
			}
		}
	}
	for _, key := range []string{strings.Repeat("k", impl.MaxKey+1), strings.Repeat("k", 5000)} {
		for where, a := range inBoth(key, 3) {
			wantWrongTable(t, strconv.Itoa(len(key))+" bytes "+where, a)
		}
	}
	for _, handle := range []int{impl.CellNone, impl.CellGone} {
		for where, a := range inBoth("", handle) {
			wantRight(t, "no key, "+strconv.Itoa(handle)+" "+where, a)
		}
	}
	for _, handle := range []int{-4, -3, 0, 1, 2, math.MinInt, math.MaxInt} {
		for where, a := range inBoth("", handle) {
			wantWrongTable(t, "no key, "+strconv.Itoa(handle)+" "+where, a)
		}
	}
}

// Each cell of a right table is broken, one at a time.
func TestTableOkBrokenInEachCell(t *testing.T) {
	whole := growing(cellsWith(16, map[int]cell{3: goneCell()}), goneCells(8), 3)
	whole.Old[5] = noneCell()
	for home := 4; home < 8; home += 3 {
		whole.Old[home] = cell{Key: keyAt(8, home, 0), Handle: home}
		whole.Cells[home] = cell{Key: keyAt(16, home, 1), Handle: home}
	}
	wantRight(t, "whole", whole)
	long := strings.Repeat("k", 13)
	breaks := []cell{{Handle: 0}, {Handle: -3}, {Key: long, Handle: 1}, {Key: long, Handle: -1}, {Key: "k", Handle: -1}, {Key: "k", Handle: -2}}
	for _, broken := range breaks {
		for place := range whole.Cells {
			a := cloneTable(whole)
			a.Cells[place] = broken
			wantWrongTable(t, "cell "+strconv.Itoa(place), a)
		}
		for place := range whole.Old {
			a := cloneTable(whole)
			a.Old[place] = broken
			wantWrongTable(t, "old cell "+strconv.Itoa(place), a)
		}
	}
}

func TestTableOkMoved(t *testing.T) {
	for _, moved := range []int{math.MinInt, -1, 1, 4, math.MaxInt} {
		wantWrongTable(t, "Moved without Old", growing(noneCells(8), nil, moved))
		wantWrongTable(t, "Moved with empty Old", growing(noneCells(8), []cell{}, moved))
	}
	for moved := 0; moved <= 4; moved++ {
		wantRight(t, "all old ones gone", growing(noneCells(8), goneCells(4), moved))
		old := goneCells(4)
		copy(old[moved:], noneCells(4))
		wantRight(t, "just those ahead of Moved gone", growing(noneCells(8), old, moved))
	}
	for _, moved := range []int{math.MinInt, -2, -1, 5, 6, 8, math.MaxInt} {
		wantWrongTable(t, "Moved out of Old", growing(noneCells(8), goneCells(4), moved))
	}
	for place := range 4 {
		key := cell{Key: keyAt(4, place, 0), Handle: 3}
		for moved := 0; moved <= 4; moved++ {
			for what, c := range map[string]cell{"CellNone": noneCell(), "a key": key} {
				old := goneCells(4)
				old[place] = c
				a := growing(noneCells(8), old, moved)
				if moved > place {
					wantWrongTable(t, what+" ahead of Moved", a)
				} else {
					wantRight(t, what+" not ahead of Moved", a)
				}
			}
		}
	}
}

func TestTableOkKeyTwice(t *testing.T) {
	for home := range 8 {
		one, same := cell{Key: keyAt(8, home, 0), Handle: 1}, cell{Key: keyAt(8, home, 0), Handle: 2}
		other := cell{Key: keyAt(8, home, 1), Handle: 2}
		next, far := (home+1)%8, (home+3)%8
		old, oldNext := home%4, (home+1)%4
		right := map[string]impl.Table{
			"two unlike in Cells": growing(cellsWith(8, map[int]cell{home: one, next: other}), noneCells(4), 0),
			"two unlike in Old":   growing(noneCells(8), cellsWith(4, map[int]cell{old: one, oldNext: other}), 0),
			"one in each, unlike": growing(cellsWith(8, map[int]cell{home: one}), cellsWith(4, map[int]cell{old: other}), 0),
		}
		wrong := map[string]impl.Table{
			"twice in Cells":                  growing(cellsWith(8, map[int]cell{home: one, next: same}), noneCells(4), 0),
			"twice in Cells, same handle":     growing(cellsWith(8, map[int]cell{home: one, next: one}), noneCells(4), 0),
			"twice in Cells, one between":     growing(cellsWith(8, map[int]cell{home: one, next: other, (home + 2) % 8: same}), noneCells(4), 0),
			"twice in Cells, a gone between":  growing(cellsWith(8, map[int]cell{home: one, next: goneCell(), (home + 2) % 8: same}), noneCells(4), 0),
			"twice in Cells, one not found":   growing(cellsWith(8, map[int]cell{home: one, far: same}), noneCells(4), 0),
			"twice in Cells, no Old":          tableOf(cellsWith(8, map[int]cell{home: one, next: same})...),
			"twice in Old":                    growing(noneCells(8), cellsWith(4, map[int]cell{old: one, oldNext: same}), 0),
			"twice in Old, none is CellNone":  growing(noneCells(8), slices.Repeat([]cell{one}, 4), 0),
			"once in each":                    growing(cellsWith(8, map[int]cell{home: one}), cellsWith(4, map[int]cell{old: same}), 0),
			"once in each, same handle":       growing(cellsWith(8, map[int]cell{home: one}), cellsWith(4, map[int]cell{old: one}), 0),
			"once in each, behind others":     growing(cellsWith(8, map[int]cell{home: other, next: one}), cellsWith(4, map[int]cell{old: goneCell(), oldNext: same}), 0),
			"once in each, in Cells no found": growing(cellsWith(8, map[int]cell{next: one}), cellsWith(4, map[int]cell{old: same}), 0),
		}
		for what, a := range right {
			wantRight(t, what, a)
		}
		for what, a := range wrong {
			wantWrongTable(t, what, a)
		}
	}
}

func TestTableOkKeyNotFound(t *testing.T) {
	for _, size := range []int{4, 8, 16, 32, 64} {
		for home := range size {
			key := cell{Key: keyAt(size, home, 0), Handle: 5}
			for step := range size {
				place := (home + step) % size
				what := strconv.Itoa(step) + " steps on its way"
				alone := cellsWith(size, map[int]cell{place: key})
				// All cells are gone but the key's own and the one behind it, at which each way ends.
				behind := goneCells(size)
				behind[(place+1)%size], behind[place] = noneCell(), key
				if step == 0 {
					wantRight(t, what, tableOf(alone...))
				} else {
					wantWrongTable(t, what+", none between", tableOf(alone...))
				}
				if step != size-1 {
					wantRight(t, what+", gone between", tableOf(behind...))
				} else {
					wantWrongTable(t, what+", none at the beginning", tableOf(behind...))
				}
				if size == 64 {
					continue
				}
				wantOldFound(t, what, alone, behind, step, size)
			}
		}
	}
}

// wantOldFound is the same of keys in Old, where there may be no CellNone at all.
func wantOldFound(t *testing.T, what string, alone, behind []cell, step, size int) {
	t.Helper()
	cells := noneCells(2 * size)
	if step == 0 {
		wantRight(t, what+" in Old", growing(cells, alone, 0))
	} else {
		wantWrongTable(t, what+" in Old, none between", growing(cells, alone, 0))
	}
	if step == size-1 {
		wantWrongTable(t, what+" in Old, none at the beginning", growing(cells, behind, 0))
	}
	all := slices.Clone(behind)
	all[slices.Index(all, noneCell())] = goneCell()
	wantRight(t, what+" in Old, all others gone", growing(cells, all, 0))
}

// A key's way in Old begins by how many Old are, in Cells by how many Cells are.
func TestTableOkWaysOfEachList(t *testing.T) {
	for home := 4; home < 8; home++ {
		key := cell{Key: keyAt(8, home, 0), Handle: 5}
		wantRight(t, "Old", growing(noneCells(8), cellsWith(4, map[int]cell{home - 4: key}), 0))
		wantRight(t, "Cells", growing(cellsWith(8, map[int]cell{home: key}), noneCells(4), 0))
		wantWrongTable(t, "Cells by how many Old are", growing(cellsWith(8, map[int]cell{home - 4: key}), noneCells(4), 0))
	}
}

func TestTableOkWithoutCellNone(t *testing.T) {
	for _, size := range []int{4, 8, 16, 32, 64} {
		full := make([]cell, size)
		for home := range size {
			full[home] = cell{Key: keyAt(size, home, 0), Handle: home}
		}
		mixed := slices.Clone(full)
		mixed[1], mixed[size-1] = goneCell(), goneCell()
		for what, cells := range map[string][]cell{"full": full, "gone": goneCells(size), "mixed": mixed} {
			wantWrongTable(t, what, tableOf(cells...))
			wantWrongTable(t, what+", with CellNone in Old", growing(cells, noneCells(size/2), 0))
			for place := range size {
				one := slices.Clone(cells)
				one[place] = noneCell()
				wantRight(t, what+" but for one", tableOf(one...))
				wantRight(t, what+" but for one, none in Old", growing(one, goneCells(size/2), 0))
			}
			if size < impl.MaxCells {
				wantRight(t, what+" in Old", growing(noneCells(2*size), cells, 0))
			}
		}
	}
}

// smallCells are all cells that a place of a small table may have, its handle telling the place.
func smallCells(keys []string, place int) []cell {
	list := []cell{noneCell(), goneCell()}
	for _, key := range keys {
		list = append(list, cell{Key: key, Handle: place})
	}
	return list
}

// Every table of four cells, and of two old ones, with keys whose ways begin alike and unlike.
func TestEverySmallTable(t *testing.T) {
	keys := []string{keyAt(4, 0, 0), keyAt(4, 0, 1), keyAt(4, 1, 0), keyAt(4, 3, 0)}
	asked := append([]string{"", keyAt(4, 2, 0)}, keys...)
	right := 0
	eachPick(4, len(keys)+2, func(pick []int) {
		cells := make([]cell, 4)
		for i, p := range pick {
			cells[i] = smallCells(keys, i)[p]
		}
		if a := tableOf(cells...); impl.TableOk(a) {
			wantByRule(t, a, asked)
		}
		eachPick(2, len(keys)+2, func(pick []int) {
			old := []cell{smallCells(keys, 10)[pick[0]], smallCells(keys, 11)[pick[1]]}
			for moved := -1; moved <= 3; moved++ {
				a := growing(cells, old, moved)
				if got, want := impl.TableOk(a), ruleRight(a); got != want {
					t.Fatalf("TableOk(%v) = %v; want %v", a, got, want)
				}
				if impl.TableOk(a) {
					right++
					wantByRule(t, a, asked)
				}
			}
		})
	})
	if right < 1000 {
		t.Errorf("only %d of them are right", right)
	}
}

func TestSeekKeyNotThere(t *testing.T) {
	key := keyAt(8, 2, 0)
	tables := []impl.Table{
		tableOf(noneCells(8)...), growing(noneCells(8), noneCells(4), 0), growing(noneCells(8), goneCells(4), 4),
		tableOf(append(goneCells(7), noneCell())...),
		tableOf(cellsWith(8, map[int]cell{2: {Key: key, Handle: 0}})...),
		growing(noneCells(8), []cell{goneCell(), goneCell(), {Key: key, Handle: 0}, goneCell()}, 0),
	}
	for _, a := range tables {
		for _, other := range []string{"", "x", keyAt(8, 2, 1), key + "x", key[:1], "\x00", strings.Repeat("k", 13), strings.Repeat("k", 5000)} {
			if handle, ok := impl.SeekKey(a, other); handle != 0 || ok {
				t.Errorf("SeekKey(%v, %.20q) = %d, %v; want 0, false", a, other, handle, ok)
			}
			if b, ok := impl.TakeKey(a, other); !sameTable(b, impl.Table{}) || ok {
				t.Errorf("TakeKey(%v, %.20q) = %v, %v; want none, false", a, other, b, ok)
			}
		}
	}
	for _, a := range tables[4:] {
		if handle, ok := impl.SeekKey(a, key); handle != 0 || !ok {
			t.Errorf("SeekKey(%v, %q) = %d, %v; want 0, true", a, key, handle, ok)
		}
	}
}

func TestPutKeyLimits(t *testing.T) {
	long := strings.Repeat("k", impl.MaxKey)
	for _, a := range []impl.Table{tableOf(noneCells(4)...), growing(noneCells(8), noneCells(4), 2)} {
		if len(a.Old) > 0 {
			copy(a.Old, goneCells(2))
		}
		for _, key := range []string{"k", "\x00", "\xff", long[1:], long} {
			for _, handle := range []int{0, 1, impl.MaxNumber, math.MaxInt} {
				b, ok := put(t, a, key, handle)
				if got, there := impl.SeekKey(b, key); !ok || got != handle || !there {
					t.Errorf("%q is put with %d, and found with %d, %v", key, handle, got, there)
				}
			}
			for _, handle := range []int{-1, -2, -3, math.MinInt} {
				wantNoPut(t, a, key, handle)
			}
		}
		for _, key := range []string{"", long + "k", strings.Repeat("k", 5000)} {
			wantNoPut(t, a, key, 0)
			wantNoPut(t, a, key, -1)
		}
	}
}

func wantNoPut(t *testing.T, a impl.Table, key string, handle int) {
	t.Helper()
	if b, ok := impl.PutKey(a, key, handle); !sameTable(b, impl.Table{}) || ok {
		t.Errorf("PutKey(%v, %.20q, %d) = %v, %v; want none, false", a, key, handle, b, ok)
	}
}

// The handle of a key that is there is refused as that of any other one.
func TestPutKeyWrongHandleOfAKeyThatIsThere(t *testing.T) {
	for _, a := range inBoth("there", 4) {
		wantNoPut(t, a, "there", -1)
		wantNoPut(t, a, "there", -2)
		if b, ok := put(t, a, "there", 0); !ok || len(impl.KeysOf(b)) != 1 {
			t.Errorf("PutKey of a key that is there = %v, %v", b, ok)
		}
	}
}

// With one CellNone left, wherever it is, a key is put only where it was, or into a CellGone ahead of it.
func TestPutKeyAtTheLastCellNone(t *testing.T) {
	for _, size := range []int{4, 8, 16, 32, 64} {
		for _, last := range []int{0, 1, size / 2, size - 1} {
			cells := make([]cell, size)
			for home := range size {
				cells[home] = cell{Key: keyAt(size, home, 0), Handle: home}
			}
			cells[last] = noneCell()
			full := tableOf(cells...)
			for home := range size {
				wantNoPut(t, full, keyAt(size, home, 1), 9)
				if home == last {
					wantNoPut(t, full, keyAt(size, home, 0), 9)
				} else if _, ok := put(t, full, keyAt(size, home, 0), 9); !ok {
					t.Errorf("a key that is there can't be put")
				}
			}
			wantPutIntoGone(t, full, last)
			wantPutOfOld(t, full, last)
		}
	}
}

// wantPutIntoGone has a CellGone just ahead of the last CellNone, then one just behind it.
func wantPutIntoGone(t *testing.T, full impl.Table, last int) {
	t.Helper()
	size := len(full.Cells)
	ahead := cloneTable(full)
	gone := (last + size - 1) % size
	ahead.Cells[gone] = goneCell()
	b, ok := put(t, ahead, keyAt(size, gone, 1), 9)
	if !ok || b.Cells[gone] != (cell{Key: keyAt(size, gone, 1), Handle: 9}) || b.Cells[last] != noneCell() {
		t.Errorf("beside the last CellNone a CellGone isn't taken: %v, %v", b, ok)
	}
	wantNoPut(t, ahead, keyAt(size, last, 1), 9)
	behind := cloneTable(full)
	gone = (last + 1) % size
	behind.Cells[gone] = goneCell()
	wantNoPut(t, behind, keyAt(size, last, 1), 9)
	if b, ok := put(t, behind, keyAt(size, gone, 1), 9); !ok || b.Cells[last] != noneCell() {
		t.Errorf("behind the last CellNone a CellGone isn't taken: %v, %v", b, ok)
	}
	// A second CellNone, wherever it is, lets the first one be taken.
	two := cloneTable(full)
	two.Cells[gone] = noneCell()
	b, ok = put(t, two, keyAt(size, last, 1), 9)
	if !ok || b.Cells[last].Handle != 9 {
		t.Errorf("one CellNone of two isn't taken: %v, %v", b, ok)
	}
}

// wantPutOfOld has a key in Old for which there is no cell in Cells.
func wantPutOfOld(t *testing.T, full impl.Table, last int) {
	t.Helper()
	size := len(full.Cells)
	key := cell{Key: keyAt(size, last, 1), Handle: 50}
	home := ruleHash(key.Key, 0) % (size / 2)
	a := growing(full.Cells, cellsWith(size/2, map[int]cell{home: key}), 0)
	wantRight(t, "a key in Old, one CellNone", a)
	wantNoPut(t, a, key.Key, 9)
	if handle, ok := impl.SeekKey(a, key.Key); handle != 50 || !ok {
		t.Errorf("SeekKey in Old = %d, %v; want 50, true", handle, ok)
	}
	b, ok := take(t, a, key.Key)
	if !ok || b.Old[home] != goneCell() || !slices.Equal(b.Cells, a.Cells) {
		t.Errorf("TakeKey in Old = %v, %v", b, ok)
	}
}

// A key behind CellGones, at each place of each way, is found, put where it was, and taken there.
func TestKeysBehindGoneCells(t *testing.T) {
	for _, size := range []int{4, 8, 16, 32, 64} {
		for home := range size {
			for step := range size - 1 {
				key, other := keyAt(size, home, 0), keyAt(size, home, 1)
				place := (home + step) % size
				cells := goneCells(size)
				cells[place] = cell{Key: key, Handle: 5}
				cells[(home+size-1)%size] = noneCell()
				a := tableOf(cells...)
				wantRight(t, "a key behind gone ones", a)
				wantSeek(t, a, key)
				wantSeek(t, a, other)
				b, ok := put(t, a, key, 8)
				if !ok || b.Cells[place] != (cell{Key: key, Handle: 8}) || len(impl.KeysOf(b)) != 1 {
					t.Fatalf("the key at %d of %v is put as %v, %v", place, a, b, ok)
				}
				b, ok = take(t, a, key)
				if !ok || b.Cells[place] != goneCell() {
					t.Fatalf("the key at %d of %v is taken as %v, %v", place, a, b, ok)
				}
				first := home
				if step == 0 {
					first = (home + 1) % size
				}
				b, ok = put(t, a, other, 9)
				if step == 0 && a.Cells[first] == noneCell() {
					continue
				}
				if !ok || b.Cells[first] != (cell{Key: other, Handle: 9}) || b.Cells[place] != a.Cells[place] {
					t.Fatalf("another key is put into %v as %v, %v", a, b, ok)
				}
			}
		}
	}
}

// A key takes the first cell without a key, be it CellGone or CellNone, also from the last cell on to the first.
func TestPutTakesTheFirstCellWithoutKey(t *testing.T) {
	for home := range 8 {
		one, two, key := keyAt(8, home, 0), keyAt(8, home, 1), keyAt(8, home, 2)
		at := func(step int) int { return (home + step) % 8 }
		for step := range 4 {
			for _, empty := range []cell{noneCell(), goneCell()} {
				cells := noneCells(8)
				for i := range step {
					cells[at(i)] = cell{Key: keyAt(8, home, 3+i), Handle: i}
				}
				cells[at(step)] = empty
				b, ok := put(t, tableOf(cells...), key, 9)
				if !ok || b.Cells[at(step)] != (cell{Key: key, Handle: 9}) {
					t.Errorf("from %d on, %d steps: %v, %v", home, step, b, ok)
				}
			}
		}
		// Of two CellGone the first one is taken, also with a key between.
		cells := cellsWith(8, map[int]cell{at(0): {Key: one, Handle: 1}, at(1): goneCell(), at(2): {Key: two, Handle: 2}, at(3): goneCell()})
		b, ok := put(t, tableOf(cells...), key, 9)
		if !ok || b.Cells[at(1)].Key != key || b.Cells[at(3)] != goneCell() {
			t.Errorf("of two CellGone the first one isn't taken: %v, %v", b, ok)
		}
		b, ok = put(t, tableOf(cells...), two, 9)
		if !ok || b.Cells[at(1)] != goneCell() || b.Cells[at(2)] != (cell{Key: two, Handle: 9}) {
			t.Errorf("a key behind a CellGone doesn't stay where it was: %v, %v", b, ok)
		}
	}
}

func TestPutOfAKeyInOld(t *testing.T) {
	for home := range 8 {
		key, other := keyAt(8, home, 0), keyAt(8, home, 1)
		old := cellsWith(4, map[int]cell{home % 4: {Key: other, Handle: 2}, (home + 1) % 4: {Key: key, Handle: 1}})
		a := growing(noneCells(8), old, 0)
		wantRight(t, "two in Old", a)
		b, ok := put(t, a, key, 9)
		want := growing(cellsWith(8, map[int]cell{home: {Key: key, Handle: 9}}), cellsWith(4, map[int]cell{home % 4: {Key: other, Handle: 2}, (home + 1) % 4: goneCell()}), 0)
		wantTable(t, "PutKey of a key in Old", a, b, want, ok, true)
		b, ok = put(t, a, other, 9)
		want = growing(cellsWith(8, map[int]cell{home: {Key: other, Handle: 9}}), cellsWith(4, map[int]cell{home % 4: goneCell(), (home + 1) % 4: {Key: key, Handle: 1}}), 0)
		wantTable(t, "PutKey of the first of two in Old", a, b, want, ok, true)
		wantSeek(t, b, key)
		wantSeek(t, b, other)
	}
}

func TestTakeKeyCells(t *testing.T) {
	for home := range 8 {
		one, two := cell{Key: keyAt(8, home, 0), Handle: 1}, cell{Key: keyAt(8, home, 1), Handle: 2}
		next := (home + 1) % 8
		a := growing(cellsWith(8, map[int]cell{home: one, next: two}), goneCells(4), 4)
		b, ok := take(t, a, one.Key)
		wantTable(t, "TakeKey", a, b, growing(cellsWith(8, map[int]cell{home: goneCell(), next: two}), goneCells(4), 4), ok, true)
		if handle, there := impl.SeekKey(b, two.Key); handle != 2 || !there {
			t.Errorf("behind one that is taken: %d, %v; want 2, true", handle, there)
		}
		if again, ok := impl.TakeKey(b, one.Key); !sameTable(again, impl.Table{}) || ok {
			t.Errorf("a key is taken twice: %v, %v", again, ok)
		}
		c, ok := take(t, b, two.Key)
		wantTable(t, "TakeKey", b, c, growing(cellsWith(8, map[int]cell{home: goneCell(), next: goneCell()}), goneCells(4), 4), ok, true)
	}
}

func TestGrowTableSizes(t *testing.T) {
	for _, size := range []int{4, 8, 16, 32, 64} {
		cells := cellsWith(size, map[int]cell{0: {Key: keyAt(size, 0, 0), Handle: 3}, 1: goneCell(), 2: {Key: keyAt(size, 1, 0), Handle: 4}})
		for _, a := range []impl.Table{tableOf(noneCells(size)...), tableOf(cells...)} {
			b, ok := grow(t, a)
			if ok != (size < 64) {
				t.Errorf("GrowTable of %d cells: %v", size, ok)
			}
			if ok && (len(b.Cells) != 2*size || !slices.Equal(b.Old, a.Cells) || b.Moved != 0) {
				t.Errorf("GrowTable(%v) = %v", a, b)
			}
		}
		for _, moved := range []int{0, 1, size / 2} {
			a := growing(cells, goneCells(size/2), moved)
			wantRight(t, "with Old", a)
			if b, ok := impl.GrowTable(a); !sameTable(b, impl.Table{}) || ok {
				t.Errorf("GrowTable with Old = %v, %v; want none, false", b, ok)
			}
		}
	}
}

func TestMoveSomeSteps(t *testing.T) {
	for _, size := range []int{4, 8, 16, 32} {
		cells := noneCells(size)
		for home := 0; home+1 < size; home += 2 {
			cells[home] = cell{Key: keyAt(size, home, 0), Handle: home}
		}
		cells[1] = goneCell()
		a, ok := grow(t, tableOf(cells...))
		if !ok {
			t.Fatalf("GrowTable of %d cells is false", size)
		}
		for _, steps := range []int{0, -1, -2, math.MinInt} {
			wantTable(t, "MoveSome", a, impl.MoveSome(a, steps), a, true, true)
		}
		for steps := 1; steps <= size+2; steps++ {
			b := move(t, a, steps)
			if steps < size && (b.Moved != steps || len(b.Old) != size) || steps >= size && (b.Moved != 0 || len(b.Old) != 0) {
				t.Errorf("MoveSome %d of %d = %v", steps, size, b)
			}
			wantRight(t, "moved", b)
			// What is moved in two goes is moved as in one.
			for first := 1; first < steps; first++ {
				wantTable(t, "MoveSome in two goes", a, move(t, move(t, a, first), steps-first), b, true, true)
			}
		}
		all := move(t, a, size)
		for _, steps := range []int{size + 1, 1000, impl.MaxNumber, math.MaxInt - 1, math.MaxInt} {
			wantTable(t, "MoveSome of more than there are", a, impl.MoveSome(a, steps), all, true, true)
			wantTable(t, "MoveSome without Old", all, impl.MoveSome(all, steps), all, true, true)
			half := move(t, a, size/2)
			wantTable(t, "MoveSome of the rest and more", half, impl.MoveSome(half, steps), all, true, true)
		}
	}
}

// Where all are moved already, one step lets go of Old; none lets it stay.
func TestMoveSomeWhereAllAreMoved(t *testing.T) {
	a := growing(cellsWith(8, map[int]cell{3: goneCell()}), goneCells(4), 4)
	for _, steps := range []int{1, 2, math.MaxInt} {
		wantTable(t, "MoveSome", a, impl.MoveSome(a, steps), tableOf(a.Cells...), true, true)
	}
	for _, steps := range []int{0, -1, math.MinInt} {
		wantTable(t, "MoveSome", a, impl.MoveSome(a, steps), a, true, true)
	}
}

func TestMoveSomeStopsWithoutACell(t *testing.T) {
	for last := range 8 {
		cells := make([]cell, 8)
		for home := range cells {
			cells[home] = cell{Key: keyAt(8, home, 0), Handle: home}
		}
		cells[last] = noneCell()
		for place := range 4 {
			old := cellsWith(4, map[int]cell{place: {Key: keyAt(4, place, 9), Handle: 70}})
			a := growing(cells, old, 0)
			wantRight(t, "a key for which there is no cell", a)
			stopped := growing(cells, slices.Clone(old), place)
			copy(stopped.Old, goneCells(place))
			for _, steps := range []int{place + 1, place + 2, 4, 1000, math.MaxInt} {
				wantTable(t, "MoveSome", a, impl.MoveSome(a, steps), stopped, true, true)
				wantTable(t, "MoveSome where it stopped", stopped, impl.MoveSome(stopped, steps), stopped, true, true)
			}
			// A cell that becomes free lets it go on.
			free, ok := take(t, stopped, keyAt(8, (last+1)%8, 0))
			if !ok {
				t.Fatalf("TakeKey of %v is false", stopped)
			}
			moved := move(t, free, 1000)
			if _, ok := impl.SeekKey(moved, keyAt(4, place, 9)); !ok {
				t.Errorf("the key is lost: %v", moved)
			}
		}
	}
}

func TestCleanTableLimits(t *testing.T) {
	for _, size := range []int{4, 8, 16, 32, 64} {
		for _, inOld := range []int{0, 1, 2} {
			for inCells := 0; inCells < size; inCells++ {
				a := tableOf(noneCells(size)...)
				if inOld > 0 {
					a.Old = goneCells(size / 2)
				}
				for n := range inCells {
					a.Cells[n] = cell{Key: keyAt(size, n, 0), Handle: n}
				}
				for n := range inOld {
					key := keyAt(size, size-1-n, 5)
					a.Old[ruleHash(key, 0)%len(a.Old)] = cell{Key: key, Handle: 90 + n}
				}
				wantRight(t, "to clean", a)
				b, ok := clean(t, a)
				if want := inCells+inOld < size; ok != want {
					t.Errorf("CleanTable of %d and %d keys in %d cells = %v; want %v", inCells, inOld, size, ok, want)
				}
				if ok && (len(b.Cells) != size || len(b.Old) != 0 || b.Moved != 0 || slices.Contains(b.Cells, goneCell())) {
					t.Errorf("CleanTable(%v) = %v", a, b)
				}
			}
		}
	}
}

// Keys are laid ascending, whatever the order in which they were put, and be they in Cells or in Old.
func TestCleanTableOrder(t *testing.T) {
	var keys []string
	for n := range 4 {
		keys = append(keys, keyAt(8, 6, n))
	}
	slices.Sort(keys)
	want := noneCells(8)
	for n, key := range keys {
		want[(6+n)%8] = cell{Key: key, Handle: n}
	}
	for _, order := range orders(4) {
		a := tableOf(noneCells(8)...)
		for _, n := range order {
			a, _ = put(t, a, keys[n], n)
		}
		b, ok := clean(t, a)
		wantTable(t, "CleanTable", a, b, tableOf(want...), ok, true)
		for n := 1; n < 4; n++ {
			some := growing(slices.Clone(a.Cells), cellsWith(4, map[int]cell{2: {Key: keys[n], Handle: n}}), 0)
			at := ruleWhere(some.Cells, keys[n])
			some.Cells[at] = goneCell()
			b, ok := clean(t, some)
			wantTable(t, "CleanTable with Old", some, b, tableOf(want...), ok, true)
		}
	}
	// Bytes are compared, not letters: one above 127 is behind all others, and a beginning is less.
	a := tableOf(noneCells(16)...)
	for n, key := range []string{"\xff", "b", "B", "ab", "a", "\x00", "é", "a\x00"} {
		a, _ = put(t, a, key, n)
	}
	if got, want := impl.KeysOf(a), []string{"\x00", "B", "a", "a\x00", "ab", "b", "é", "\xff"}; !slices.Equal(got, want) {
		t.Errorf("KeysOf = %q; want %q", got, want)
	}
	clean(t, a)
}

func TestKeysOfNone(t *testing.T) {
	for _, a := range []impl.Table{
		tableOf(noneCells(4)...), tableOf(noneCells(64)...), tableOf(append(goneCells(3), noneCell())...),
		growing(noneCells(8), noneCells(4), 0), growing(noneCells(8), goneCells(4), 4),
	} {
		wantRight(t, "no keys", a)
		if keys := impl.KeysOf(a); len(keys) != 0 {
			t.Errorf("KeysOf(%v) = %q; want none", a, keys)
		}
		clean(t, a)
	}
}

// eachAnswer calls every function that answers with a table, and hands its answer on.
func eachAnswer(a impl.Table, keys []string, back func(string, impl.Table)) {
	for _, key := range keys {
		b, _ := impl.PutKey(a, key, 9)
		back("PutKey", b)
		b, _ = impl.TakeKey(a, key)
		back("TakeKey", b)
		impl.SeekKey(a, key)
	}
	b, _ := impl.GrowTable(a)
	back("GrowTable", b)
	b, _ = impl.CleanTable(a)
	back("CleanTable", b)
	for _, steps := range []int{-1, 0, 1, 2, 1000} {
		back("MoveSome", impl.MoveSome(a, steps))
	}
	impl.TableOk(a)
	impl.KeysOf(a)
}

// withSpareCells has the same cells, and others in the spare room behind them.
func withSpareCells(list []cell) []cell {
	spare := append(slices.Clone(list), cell{Key: "spare", Handle: 3}, goneCell(), noneCell())
	return spare[:len(list)]
}

func tablesToKeep() ([]impl.Table, []string) {
	one, two, three := keyAt(8, 1, 0), keyAt(8, 1, 1), keyAt(8, 5, 0)
	cells := cellsWith(8, map[int]cell{1: goneCell(), 2: {Key: one, Handle: 4}})
	old := []cell{goneCell(), {Key: two, Handle: 5}, {Key: three, Handle: 6}, noneCell()}
	keys := []string{one, two, three, "new one", ""}
	return []impl.Table{
		tableOf(cells...), growing(cells, old, 0), growing(cells, old, 1), growing(cells, goneCells(4), 4),
		growing(cells, old, 2), growing(cells, old[:3], 0), growing(cells, cells, 8), {}, // these are not right
	}, keys
}

func TestTableArgumentsStay(t *testing.T) {
	tables, keys := tablesToKeep()
	for _, a := range tables {
		given := growing(withSpareCells(a.Cells), withSpareCells(a.Old), a.Moved)
		cells, old := slices.Clone(given.Cells[:len(a.Cells)+3]), slices.Clone(given.Old[:len(a.Old)+3])
		eachAnswer(given, keys, func(what string, b impl.Table) {
			// Nothing that is written into an answer comes to the argument, either.
			for _, list := range [][]cell{b.Cells[:cap(b.Cells)], b.Old[:cap(b.Old)]} {
				for i := range list {
					list[i] = cell{Key: "written", Handle: 1000}
				}
			}
			if !slices.Equal(given.Cells[:len(cells)], cells) || !slices.Equal(given.Old[:len(old)], old) {
				t.Fatalf("%s: the argument %v, %v has become %v, %v", what, cells, old, given.Cells[:len(cells)], given.Old[:len(old)])
			}
		})
	}
}

// sharesCells tells whether what is written into one list, or its spare room, is seen in the other.
func sharesCells(a, b []cell) bool {
	a, b = a[:cap(a)], b[:cap(b)]
	before := slices.Clone(b)
	for i := range a {
		a[i].Handle += 1000
	}
	seen := !slices.Equal(before, b)
	for i := range a {
		a[i].Handle -= 1000
	}
	return seen
}

func TestTablesAreNewMemory(t *testing.T) {
	tables, keys := tablesToKeep()
	for _, a := range tables {
		var texts []string
		for _, c := range slices.Concat(a.Cells, a.Old) {
			texts = append(texts, c.Key)
		}
		texts = append(texts, keys...)
		wantNewTexts := func(what string, list ...string) {
			for _, text := range list {
				for _, given := range texts {
					if text != "" && shares(text, given) {
						t.Fatalf("%s of %v keeps the text %q of an argument", what, a, text)
					}
				}
			}
		}
		eachAnswer(a, keys, func(what string, b impl.Table) {
			if sharesCells(b.Cells, b.Old) {
				t.Errorf("%s of %v: Cells and Old share memory", what, a)
			}
			for _, c := range slices.Concat(b.Cells, b.Old) {
				wantNewTexts(what, c.Key)
			}
		})
		wantNewTexts("KeysOf", impl.KeysOf(a)...)
	}
	one, _ := impl.TableNew(4)
	other, _ := impl.TableNew(4)
	if sharesCells(one.Cells, other.Cells) {
		t.Error("two answers of TableNew share cells")
	}
}

// Cells and Old that are handed in as pieces of one list are worked on as two.
func TestTableOfOneList(t *testing.T) {
	list := noneCells(6)
	for _, a := range []impl.Table{growing(list[:4], list[2:4], 0), growing(list[:4], list[4:6], 0), growing(list[:4], list[:2], 0)} {
		wantRight(t, "pieces of one list", a)
		wantTable(t, "MoveSome", a, impl.MoveSome(a, 1), growing(noneCells(4), []cell{goneCell(), noneCell()}, 1), true, true)
		wantTable(t, "MoveSome of none", a, impl.MoveSome(a, 0), growing(noneCells(4), noneCells(2), 0), true, true)
		for n := range 8 {
			put(t, a, "k"+strconv.Itoa(n), n)
		}
		if !slices.Equal(list, noneCells(6)) {
			t.Fatalf("the list has become %v", list)
		}
	}
}
