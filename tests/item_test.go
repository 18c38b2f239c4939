package tests

import (
	"math"
	"slices"
	"strings"
	"testing"

	"loop.example/g00180/impl"
)

func wantItems(t *testing.T, what string, list []item, want bool) {
	t.Helper()
	if ruleItems(list) != want {
		t.Fatalf("%s: by the rule it is %v that %v is right", what, !want, list)
	}
	if got := impl.ItemsOk(list); got != want {
		t.Errorf("%s: ItemsOk(%v) = %v; want %v", what, list, got, want)
	}
}

// wantItemAnywhere holds one item against what is wanted of it: alone, and ahead of, among and
// behind others; its Key is ahead of all that begin with n, and behind all that begin with l.
func wantItemAnywhere(t *testing.T, what string, x item, want bool) {
	t.Helper()
	for _, ahead := range []int{0, 1, 5, 11} {
		for _, behind := range []int{0, 1, 6, 11} {
			var list []item
			for at := range ahead {
				list = append(list, itemOf("l"+string(rune('a'+at)), "", 1))
			}
			list = append(list, x)
			for at := range behind {
				list = append(list, itemOf("n"+string(rune('a'+at)), "v", 9))
			}
			if len(list) <= 12 {
				wantItems(t, what, list, want)
			}
		}
	}
}

func TestItemsOkHowMany(t *testing.T) {
	wantItems(t, "nil", nil, true)
	wantItems(t, "no items", []item{}, true)
	for count := range 26 {
		wantItems(t, "right items", manyItems(count), count <= 12)
	}
}

func TestItemsOkKeys(t *testing.T) {
	for length := range 16 {
		wantItemAnywhere(t, "a Key", itemOf(strings.Repeat("m", length), "v", 5), length >= 1 && length <= 12)
	}
	wantItemAnywhere(t, "a Key of many bytes", itemOf(strings.Repeat("m", 300), "v", 5), false)
	for _, key := range []string{"\x00", "\xff", strings.Repeat("\x00", 12), strings.Repeat("\xff", 12)} {
		wantItems(t, "a Key of any bytes", []item{itemOf(key, "v", 5)}, true)
	}
}

func TestItemsOkVals(t *testing.T) {
	for length := range 24 {
		wantItemAnywhere(t, "a Val", itemOf("m", strings.Repeat("v", length), 5), length <= 20)
	}
	wantItemAnywhere(t, "a Val of many bytes", itemOf("m", strings.Repeat("v", 300), 5), false)
	wantItemAnywhere(t, "a Val of any bytes", itemOf("m", strings.Repeat("\x00\xff", 10), 5), true)
}

func TestItemsOkVers(t *testing.T) {
	for ver, want := range map[int]bool{math.MinInt: false, -1000000000: false, -1: false, 0: false, 1: true, 2: true, 999999999: true, 1000000000: true, 1000000001: false, math.MaxInt: false} {
		wantItemAnywhere(t, "a Ver", itemOf("m", "v", ver), want)
	}
}

func TestItemsOkAscending(t *testing.T) {
	for size := 2; size <= 12; size++ {
		for at := 1; at < size; at++ {
			same, down := manyItems(size), manyItems(size)
			same[at].Key = same[at-1].Key
			wantItems(t, "two of one Key", same, false)
			same[at].Val, same[at].Ver = same[at-1].Val, same[at-1].Ver
			wantItems(t, "one item twice", same, false)
			down[at-1], down[at] = down[at], down[at-1]
			wantItems(t, "two the other way round", down, false)
		}
		whole := manyItems(size)
		slices.Reverse(whole)
		wantItems(t, "all the other way round", whole, false)
		first := manyItems(size)
		first[size-1].Key = first[0].Key
		wantItems(t, "the last one with the Key of the first one", first, false)
	}
	// A beginning is less; bytes are compared as numbers from 0 to 255.
	ascending := []string{"\x00", "\x00\x00", "A", "Z", "a", "a\x00", "aa", "ab", "b", "\x7f", "\x80", "\xff"}
	for at, less := range ascending {
		for other, more := range ascending {
			wantItems(t, "two Keys", []item{itemOf(less, "", 1), itemOf(more, "", 1)}, at < other)
		}
	}
}

func TestItemsOkOfWrongLists(t *testing.T) {
	for _, w := range wrongLists() {
		wantItems(t, w.what, w.list, false)
	}
	for _, list := range rightLists() {
		wantItems(t, "a right list", list, true)
	}
}

// putItem holds PutItem against what is wanted, and against the rule.
func putItem(t *testing.T, what string, list []item, x item, want []item) {
	t.Helper()
	if by := rulePutItem(list, x); !sameItems(by, want) {
		t.Fatalf("%s: by the rule %v with %v is %v, not %v", what, list, x, by, want)
	}
	if got := impl.PutItem(list, x); !sameItems(got, want) {
		t.Errorf("%s: PutItem(%v, %v) = %v; want %v", what, list, x, got, want)
	}
}

func TestPutItemNew(t *testing.T) {
	a, c, e := itemOf("a", "1", 7), itemOf("c", "", 1), itemOf("e", "3", 9)
	for _, x := range []item{itemOf("d", "new", 1), itemOf("d", "", 1000000000), itemOf("cc", "new", 5), itemOf("d", strings.Repeat("v", 20), 5), itemOf("d2345678901e", "v", 5)} {
		putItem(t, "into nil", nil, x, []item{x})
		putItem(t, "into an empty list", []item{}, x, []item{x})
		putItem(t, "ahead of all", []item{e}, x, []item{x, e})
		putItem(t, "in the midst", []item{a, c, e}, x, []item{a, c, x, e})
		putItem(t, "behind all", []item{a, c}, x, []item{a, c, x})
	}
	putItem(t, "a beginning of a Key", []item{itemOf("aa", "", 1)}, itemOf("a", "", 1), []item{itemOf("a", "", 1), itemOf("aa", "", 1)})
	putItem(t, "a Key that goes on", []item{itemOf("a", "", 1)}, itemOf("a\x00", "", 1), []item{itemOf("a", "", 1), itemOf("a\x00", "", 1)})
	putItem(t, "a high byte", []item{itemOf("a", "", 1)}, itemOf("\xff", "", 1), []item{itemOf("a", "", 1), itemOf("\xff", "", 1)})
}

// A Key that is there: only a greater Ver is taken, be the Val the same or another.
func TestPutItemOfKeyThatIsThere(t *testing.T) {
	for _, size := range []int{1, 2, 3, 11, 12} {
		for at := range size {
			for _, ver := range []int{1, 2, 500, 999999999, 1000000000} {
				list := manyItems(size)
				list[at].Ver = ver
				key := list[at].Key
				for _, val := range []string{list[at].Val, "", "another", strings.Repeat("w", 20)} {
					putItem(t, "a lesser Ver", list, itemOf(key, val, ver-1), list)
					putItem(t, "the same Ver", list, itemOf(key, val, ver), list)
					putItem(t, "the least Ver", list, itemOf(key, val, 1), list)
					want := slices.Clone(list)
					if ver < 1000000000 {
						want[at] = itemOf(key, val, ver+1)
					}
					putItem(t, "a greater Ver", list, itemOf(key, val, ver+1), want)
					if ver < 1000000000 {
						want[at] = itemOf(key, val, 1000000000)
						putItem(t, "the greatest Ver", list, itemOf(key, val, 1000000000), want)
					}
				}
			}
		}
	}
}

// Into 11 items a twelfth comes; into 12 none does, wherever its place were.
func TestPutItemIntoManyItems(t *testing.T) {
	for _, key := range []string{"A", "b0", "c0", "f0", "k0", "zz"} {
		x := itemOf(key, "new", 1000000000)
		eleven, twelve := manyItems(11), manyItems(12)
		at := 0
		for at < 11 && eleven[at].Key < key {
			at++
		}
		putItem(t, "into 11", eleven, x, slices.Insert(slices.Clone(eleven), at, x))
		putItem(t, "into 12", twelve, x, twelve)
		putItem(t, "into 13", manyItems(13), x, manyItems(13))
	}
	list := manyItems(11)
	for _, full := range []string{"Z", "zz"} {
		x := itemOf(full, "twelfth", 1)
		list = impl.PutItem(list, x)
		if len(list) != 12 || impl.ItemOf(list, "Z") != itemOf("Z", "twelfth", 1) || impl.ItemOf(list, "zz") != (item{}) {
			t.Fatalf("12 items with %v are %v", x, list)
		}
	}
}

func TestPutItemThatIsNotRight(t *testing.T) {
	for _, w := range wrongItems() {
		for _, list := range rightLists() {
			putItem(t, w.what, list, w.item, list)
		}
		has := []item{itemOf("a", "", 1), itemOf("m", "v", 1), itemOf("z", "", 1)}
		putItem(t, w.what+" of a Key that is there", has, w.item, has)
	}
}

func TestPutItemIntoWrongList(t *testing.T) {
	for _, w := range wrongLists() {
		for _, key := range []string{"A", "m", "zz", w.list[0].Key, w.list[len(w.list)-1].Key, ""} {
			putItem(t, w.what, w.list, itemOf(key, "new", 1000000000), w.list)
		}
		putItem(t, w.what, w.list, item{}, w.list)
	}
}

// Whatever is put, and in whatever order, the list has the newest of each Key, as long as there is room.
func TestPutItemInDrawnOrders(t *testing.T) {
	full := 0
	for seed := range 300 {
		var list []item
		newest := map[string]item{}
		keys := 3 + seed%13
		for _, drawn := range drawnNumbers(120, seed) {
			n := int(uint64(drawn) >> 8)
			x := itemOf("key"+strings.Repeat("y", n%keys%3)+string(rune('a'+n%keys)), strings.Repeat("v", n/100%23), n/10000%40)
			before := slices.Clone(list)
			got := impl.PutItem(list, x)
			if want := rulePutItem(before, x); !sameItems(got, want) {
				t.Fatalf("PutItem(%v, %v) = %v; want %v", before, x, got, want)
			}
			had, has := newest[x.Key]
			if len(x.Val) <= 20 && x.Ver > had.Ver && (has || len(newest) < 12) {
				newest[x.Key] = x
			}
			list = got
		}
		if len(list) != len(newest) || !impl.ItemsOk(list) {
			t.Fatalf("%d items of %d Keys: %v", len(list), len(newest), list)
		}
		for key, x := range newest {
			if got := impl.ItemOf(list, key); got != x {
				t.Fatalf("the item of %q is %v; want %v", key, got, x)
			}
		}
		if len(list) == 12 {
			full++
		}
	}
	if full < 50 {
		t.Errorf("only %d lists were full", full)
	}
}

func wantItemOf(t *testing.T, list []item, key string, want item) {
	t.Helper()
	if by := ruleItemOf(list, key); by != want {
		t.Fatalf("by the rule the item of %q is %v, not %v", key, by, want)
	}
	if got := impl.ItemOf(list, key); got != want {
		t.Errorf("ItemOf(%v, %q) = %v; want %v", list, key, got, want)
	}
}

func TestItemOf(t *testing.T) {
	for _, list := range rightLists() {
		for _, x := range list {
			wantItemOf(t, list, x.Key, x)
		}
		for _, key := range []string{"", "A", "not there", "zz", "a\x01", strings.Repeat("k", 13), strings.Repeat("k", 20001)} {
			wantItemOf(t, list, key, item{})
		}
	}
	list := []item{itemOf("ab", "1", 1), itemOf("cd", "2", 2), itemOf("ef", "3", 3)}
	wantItemOf(t, list, "ab", list[0])
	wantItemOf(t, list, "cd", list[1])
	wantItemOf(t, list, "ef", list[2])
	for _, key := range []string{"a", "abc", "b", "c", "d", "e", "efg", "", "AB"} {
		wantItemOf(t, list, key, item{})
	}
}

// A list that is not right is looked through as well: the item of a Key is the first one that has it.
func TestItemOfWrongList(t *testing.T) {
	for _, w := range wrongLists() {
		for at, x := range w.list {
			first := slices.IndexFunc(w.list, func(other item) bool { return other.Key == x.Key })
			if first > at {
				t.Fatalf("%s: %q is first at %d, and at %d", w.what, x.Key, first, at)
			}
			wantItemOf(t, w.list, x.Key, w.list[first])
		}
		wantItemOf(t, w.list, "not there", item{})
	}
	twice := []item{itemOf("b", "first", 1), itemOf("a", "", 9), itemOf("b", "second", 5)}
	wantItemOf(t, twice, "b", twice[0])
	wantItemOf(t, twice, "a", twice[1])
	wantItemOf(t, []item{itemOf("a", "", 1), itemOf("", "empty", -5)}, "", itemOf("", "empty", -5))
	wantItemOf(t, nil, "", item{})
	wantItemOf(t, nil, "a", item{})
	wantItemOf(t, []item{}, "", item{})
}
