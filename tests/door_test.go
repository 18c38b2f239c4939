package tests

import (
	"math"
	"strconv"
	"strings"
	"testing"

	"loop.example/g00180/impl"
)

// The chapter's rules, word by word.

func ruleDoorRight(d impl.Door) bool { return d.Bits >= 0 && d.Bits <= 4294967295 }

// rulePlaces are the places of both bits of a key.
func rulePlaces(key string) [2]int {
	return [2]int{ruleHash(key, 7) % 32, ruleHash(key, 8) % 32}
}

// bitAt is the number that has the bit of this place alone.
func bitAt(place int) int {
	number := 1
	for range place {
		number *= 2
	}
	return number
}

func hasBit(bits, place int) bool { return bits/bitAt(place)%2 == 1 }

func ruleSeen(d impl.Door, key string) bool {
	places := rulePlaces(key)
	return ruleDoorRight(d) && hasBit(d.Bits, places[0]) && hasBit(d.Bits, places[1])
}

func ruleMark(d impl.Door, key string) impl.Door {
	if !ruleDoorRight(d) {
		return d
	}
	for _, place := range rulePlaces(key) {
		if !hasBit(d.Bits, place) {
			d.Bits += bitAt(place)
		}
	}
	return d
}

// seen asks for a key, and holds the answer against the rule.
func seen(t *testing.T, d impl.Door, key string) bool {
	t.Helper()
	got, want := impl.SeenKey(d, key), ruleSeen(d, key)
	if got != want {
		t.Fatalf("SeenKey(%v, %.20q) = %v; want %v", d, key, got, want)
	}
	return got
}

func mark(t *testing.T, d impl.Door, key string) impl.Door {
	t.Helper()
	got, want := impl.MarkKey(d, key), ruleMark(d, key)
	if got != want {
		t.Fatalf("MarkKey(%v, %.20q) = %v; want %v", d, key, got, want)
	}
	return got
}

// sameBitKeys have one bit alone, that of their place here: both of theirs are the same.
func sameBitKeys() []string {
	return []string{
		"k1832", "k1846", "k592", "k285", "k476", "k6", "k99", "k243", "k2469", "k1614", "k398",
		"k553", "k3578", "k3540", "k8627", "k205", "k1", "k358", "k195", "k397", "k1813", "k98",
		"k302", "k515", "k9", "k834", "k306", "k439", "k2785", "k5281", "k240", "k301",
	}
}

// keysByPlaces has a key for each two places of bits.
func keysByPlaces(t *testing.T) map[[2]int]string {
	t.Helper()
	keys := map[[2]int]string{}
	for n := range 20000 {
		key := "k" + strconv.Itoa(n)
		if _, ok := keys[rulePlaces(key)]; !ok {
			keys[rulePlaces(key)] = key
		}
	}
	if len(keys) != 32*32 {
		t.Fatalf("keys for %d pairs of bits alone; want all %d", len(keys), 32*32)
	}
	return keys
}

func doorKeys() []string {
	return append(sketchKeys(), sameBitKeys()...)
}

func wantRightDoor(t *testing.T, d impl.Door) {
	t.Helper()
	if !impl.DoorOk(d) {
		t.Errorf("DoorOk(%v) = false", d)
	}
	for _, key := range doorKeys() {
		seen(t, d, key)
		mark(t, d, key)
	}
}

// wantWrongDoor asks for the answers that each function has for a door that is not right.
func wantWrongDoor(t *testing.T, d impl.Door) {
	t.Helper()
	if impl.DoorOk(d) {
		t.Errorf("DoorOk(%v) = true", d)
	}
	for _, key := range doorKeys() {
		if impl.SeenKey(d, key) {
			t.Errorf("SeenKey(%v, %.20q) = true", d, key)
		}
		if got := impl.MarkKey(d, key); got != d {
			t.Errorf("MarkKey(%v, %.20q) = %v; want it as it is", d, key, got)
		}
	}
}

func TestLimitsOfDoors(t *testing.T) {
	if impl.DoorBits != 32 {
		t.Errorf("DoorBits = %d; want 32", impl.DoorBits)
	}
}

func TestDoorOkEdges(t *testing.T) {
	for bits, want := range map[int]bool{
		math.MinInt: false, math.MinInt + 1: false, -4294967297: false, -4294967296: false, -4294967295: false,
		-2147483648: false, -2: false, -1: false, 0: true, 1: true, 2: true,
		2147483647: true, 2147483648: true, 4294967294: true, 4294967295: true,
		4294967296: false, 4294967297: false, 8589934591: false, math.MaxInt - 1: false, math.MaxInt: false,
	} {
		d := impl.Door{Bits: bits}
		if got := impl.DoorOk(d); got != want {
			t.Errorf("DoorOk(%v) = %v; want %v", d, got, want)
		}
		if want {
			wantRightDoor(t, d)
		} else {
			wantWrongDoor(t, d)
		}
	}
}

// One bit alone, all bits below it, and each with a minus ahead: from the place 32 on none is right.
func TestDoorOkEachBit(t *testing.T) {
	for place := range 63 {
		one, below := bitAt(place), bitAt(place)-1
		if place < 32 {
			wantRightDoor(t, impl.Door{Bits: one})
		} else {
			wantWrongDoor(t, impl.Door{Bits: one})
		}
		if place <= 32 {
			wantRightDoor(t, impl.Door{Bits: below})
		} else {
			wantWrongDoor(t, impl.Door{Bits: below})
		}
		wantWrongDoor(t, impl.Door{Bits: -one})
	}
}

// A door is not right for one bit too many, though it has those of the key.
func TestWrongDoorWithTheBitsOfTheKey(t *testing.T) {
	for _, key := range doorKeys() {
		marked := impl.MarkKey(impl.Door{}, key)
		for place := 32; place < 63; place++ {
			wantWrongDoor(t, impl.Door{Bits: marked.Bits + bitAt(place)})
		}
		wantWrongDoor(t, impl.Door{Bits: math.MinInt + marked.Bits})
		wantWrongDoor(t, impl.Door{Bits: -marked.Bits})
	}
}

// Each seed has its own place for a key: these were worked out apart from this program.
func TestMarkKeyPlaces(t *testing.T) {
	for key, places := range map[string][2]int{
		"": {16, 17}, "a": {27, 8}, "b": {6, 17}, "key": {21, 26}, "\x00": {8, 27},
		"\xff": {2, 29}, "\x80\xff": {11, 22}, "é": {14, 11},
		"twelve bytes": {9, 8}, "thirteen here": {5, 14},
		strings.Repeat("\xfe", 12): {7, 1}, strings.Repeat("x", 13): {17, 5}, strings.Repeat("long ", 5000): {30, 9},
		"k1832": {0, 0}, "k301": {31, 31}, "k1109": {0, 31}, "k2106": {31, 0},
	} {
		if got := rulePlaces(key); got != places {
			t.Fatalf("the bits of %.20q are at %v by the rule of this test; want %v", key, got, places)
		}
		want := impl.Door{Bits: 1<<places[0] | 1<<places[1]}
		if got := impl.MarkKey(impl.Door{}, key); got != want {
			t.Errorf("MarkKey of an empty door and %.20q = %v; want %v", key, got, want)
		}
		if !impl.SeenKey(want, key) {
			t.Errorf("SeenKey(%v, %.20q) = false", want, key)
		}
	}
}

func TestLowestAndGreatestBit(t *testing.T) {
	for _, c := range []struct {
		key  string
		bits int
	}{{"k1832", 1}, {"k301", 2147483648}, {"k1109", 2147483649}, {"k2106", 2147483649}} {
		d := mark(t, impl.Door{}, c.key)
		if d.Bits != c.bits || !impl.DoorOk(d) || !seen(t, d, c.key) {
			t.Errorf("MarkKey of an empty door and %q = %v; want Bits %d", c.key, d, c.bits)
		}
	}
	if d := mark(t, mark(t, impl.Door{}, "k1832"), "k301"); d.Bits != 2147483649 || !seen(t, d, "k1109") || !seen(t, d, "k2106") {
		t.Errorf("the lowest and the greatest bit marked make %v", d)
	}
}

// Whichever places the bits of a key have: both of them are asked for, and no other one.
func TestEachPairOfBits(t *testing.T) {
	const full = 4294967295
	for places, key := range keysByPlaces(t) {
		one, other := bitAt(places[0]), bitAt(places[1])
		both := one | other
		if d := mark(t, impl.Door{}, key); d.Bits != both {
			t.Fatalf("MarkKey of an empty door and %q = %v; want Bits %d", key, d, both)
		}
		for bits, want := range map[int]bool{
			0: false, both: true, full: true, full - both: false, full - one: false, full - other: false,
		} {
			if got := seen(t, impl.Door{Bits: bits}, key); got != want {
				t.Fatalf("SeenKey(%d, %q) = %v; want %v", bits, key, got, want)
			}
			if got := mark(t, impl.Door{Bits: bits}, key); got.Bits != bits|both {
				t.Fatalf("MarkKey(%d, %q) = %v; want Bits %d", bits, key, got, bits|both)
			}
		}
		for _, alone := range []int{one, other} {
			if got := seen(t, impl.Door{Bits: alone}, key); got != (one == other) {
				t.Fatalf("%q, whose bits are at %v, is seen by %d alone: %v", key, places, alone, got)
			}
			if got := mark(t, impl.Door{Bits: alone}, key); got.Bits != both {
				t.Fatalf("MarkKey(%d, %q) = %v; want Bits %d", alone, key, got, both)
			}
		}
	}
}

// A key both of whose bits are one has that one alone, marked once or again.
func TestBitsThatAreTheSame(t *testing.T) {
	all := impl.Door{}
	for place, key := range sameBitKeys() {
		if rulePlaces(key) != [2]int{place, place} {
			t.Fatalf("the bits of %q are at %v; want both at %d", key, rulePlaces(key), place)
		}
		d := impl.Door{}
		for range 3 {
			d = mark(t, d, key)
			if d.Bits != bitAt(place) || !impl.SeenKey(d, key) {
				t.Fatalf("%q, both of whose bits are at %d, marked makes %v", key, place, d)
			}
		}
		if without := (impl.Door{Bits: 4294967295 - bitAt(place)}); impl.SeenKey(without, key) {
			t.Errorf("SeenKey(%v, %q) = true without its bit", without, key)
		}
		for other, one := range sameBitKeys() {
			if impl.SeenKey(d, one) != (other == place) {
				t.Errorf("SeenKey(%v, %q) = %v", d, one, impl.SeenKey(d, one))
			}
		}
		all = mark(t, all, key)
	}
	if all.Bits != 4294967295 || !impl.DoorOk(all) {
		t.Errorf("all 32 bits marked one by one make %v", all)
	}
}

// Beside a, whose bits are at 27 and 8.
func TestKeysThatShareBits(t *testing.T) {
	a := mark(t, impl.Door{}, "a")
	for _, both := range []string{"k2767", "k4443", "k653", "k818", "\x00"} {
		if d := mark(t, impl.Door{}, both); d != a || !seen(t, a, both) || !seen(t, d, "a") {
			t.Errorf("%q, which shares both bits with a, makes %v; a makes %v", both, d, a)
		}
		if got := mark(t, a, both); got != a {
			t.Errorf("MarkKey(%v, %q) = %v; want it as it is", a, both, got)
		}
	}
	for _, one := range []string{"k4", "k20", "k21", "k77", "twelve bytes"} {
		d := mark(t, impl.Door{}, one)
		if d.Bits&a.Bits == 0 || seen(t, a, one) || seen(t, d, "a") {
			t.Errorf("%q, which shares one bit with a, makes %v; a makes %v", one, d, a)
		}
		if got := mark(t, a, one); got != mark(t, d, "a") || !seen(t, got, "a") || !seen(t, got, one) {
			t.Errorf("a and %q marked make %v", one, got)
		}
	}
	// k21 and k4 have one bit of a each: a is seen, though it was not marked.
	if d := mark(t, mark(t, impl.Door{}, "k21"), "k4"); !seen(t, d, "a") {
		t.Errorf("SeenKey(%v, a) = false; others have set both of its bits", d)
	}
}

// Keys that no entry may have are marked as all others are.
func TestMarkKeyOfEachLength(t *testing.T) {
	for _, length := range []int{0, 1, 2, 11, 12, 13, 20, 600, 601, 20000, 20001, 100000} {
		for _, b := range []string{"x", "\x00", "\x7f", "\x80", "\xff"} {
			key := strings.Repeat(b, length)
			d := mark(t, impl.Door{}, key)
			if d.Bits == 0 || !impl.DoorOk(d) || !seen(t, d, key) {
				t.Errorf("%d times %q marked makes %v", length, b, d)
			}
		}
	}
}

func TestMarkKeyOfEachByte(t *testing.T) {
	for b := range 256 {
		for _, key := range []string{
			string([]byte{byte(b)}), string([]byte{'k', byte(b)}), string([]byte{byte(b), 'k'}),
			strings.Repeat(string([]byte{byte(b)}), 12),
		} {
			if d := mark(t, impl.Door{}, key); !seen(t, d, key) {
				t.Errorf("%q marked is not seen", key)
			}
		}
	}
}

// A door is a value: what was handed in is as it was, and the same is answered again.
func TestDoorArgumentsStay(t *testing.T) {
	for _, bits := range []int{math.MinInt, -1, 0, 1, 4294967295, 4294967296, math.MaxInt} {
		d := impl.Door{Bits: bits}
		for _, key := range doorKeys() {
			first, saw := impl.MarkKey(d, key), impl.SeenKey(d, key)
			if d.Bits != bits || impl.MarkKey(d, key) != first || impl.SeenKey(d, key) != saw {
				t.Errorf("%v, %.20q: answers or arguments have changed", d, key)
			}
		}
	}
}
