package tests

import (
	"math"
	"slices"
	"strconv"
	"strings"
	"testing"

	"loop.example/g00180/impl"
)

func queueWith(most int, keys ...string) impl.Queue { return impl.Queue{Most: most, Keys: keys} }

// sameQueue holds two queues against each other, an empty list being as good as nil.
func sameQueue(a, b impl.Queue) bool {
	return a.Most == b.Most && slices.Equal(a.Keys, b.Keys)
}

// The chapter's rules, word by word.

func ruleQueueRight(q impl.Queue) bool {
	times := map[string]int{}
	for _, key := range q.Keys {
		times[key]++
		if !ruleKey(key) || times[key] > 1 {
			return false
		}
	}
	return q.Most >= 0 && q.Most <= 24 && len(q.Keys) <= q.Most
}

func ruleDrop(q impl.Queue, key string) (impl.Queue, bool) {
	at := slices.Index(q.Keys, key)
	if !ruleQueueRight(q) || at < 0 {
		return impl.Queue{}, false
	}
	return impl.Queue{Most: q.Most, Keys: slices.Delete(slices.Clone(q.Keys), at, at+1)}, true
}

func ruleTouch(q impl.Queue, key string) (impl.Queue, bool) {
	rest, ok := ruleDrop(q, key)
	if !ok {
		return impl.Queue{}, false
	}
	return impl.Queue{Most: q.Most, Keys: slices.Insert(rest.Keys, 0, key)}, true
}

func rulePush(q impl.Queue, key string) (impl.Queue, string, bool) {
	if !ruleQueueRight(q) || !ruleKey(key) || slices.Contains(q.Keys, key) || q.Most == 0 {
		return impl.Queue{}, "", false
	}
	keys, left := slices.Insert(slices.Clone(q.Keys), 0, key), ""
	if len(keys) > q.Most {
		left, keys = keys[len(keys)-1], keys[:len(keys)-1]
	}
	return impl.Queue{Most: q.Most, Keys: keys}, left, true
}

// touch touches a key, and holds the answer against the rule.
func touch(t *testing.T, q impl.Queue, key string) (impl.Queue, bool) {
	t.Helper()
	got, ok := impl.Touch(q, key)
	want, wantOk := ruleTouch(q, key)
	if !sameQueue(got, want) || ok != wantOk {
		t.Fatalf("Touch(%v, %.20q) = %v, %v; want %v, %v", q, key, got, ok, want, wantOk)
	}
	return got, ok
}

func push(t *testing.T, q impl.Queue, key string) (impl.Queue, string, bool) {
	t.Helper()
	got, left, ok := impl.Push(q, key)
	want, wantLeft, wantOk := rulePush(q, key)
	if !sameQueue(got, want) || left != wantLeft || ok != wantOk {
		t.Fatalf("Push(%v, %.20q) = %v, %q, %v; want %v, %q, %v", q, key, got, left, ok, want, wantLeft, wantOk)
	}
	return got, left, ok
}

func drop(t *testing.T, q impl.Queue, key string) (impl.Queue, bool) {
	t.Helper()
	got, ok := impl.Drop(q, key)
	want, wantOk := ruleDrop(q, key)
	if !sameQueue(got, want) || ok != wantOk {
		t.Fatalf("Drop(%v, %.20q) = %v, %v; want %v, %v", q, key, got, ok, want, wantOk)
	}
	return got, ok
}

// wantQueueByRule holds every function against its rule, for the keys of the queue and others.
func wantQueueByRule(t *testing.T, q impl.Queue) {
	t.Helper()
	if got := impl.QueueOk(q); got != ruleQueueRight(q) {
		t.Fatalf("QueueOk(%v) = %v", q, got)
	}
	for _, key := range slices.Concat(q.Keys, queueKeys()) {
		touch(t, q, key)
		push(t, q, key)
		drop(t, q, key)
		if got := impl.HasKey(q, key); got != slices.Contains(q.Keys, key) {
			t.Fatalf("HasKey(%v, %.20q) = %v", q, key, got)
		}
	}
}

func wantRightQueue(t *testing.T, what string, q impl.Queue) {
	t.Helper()
	if !ruleQueueRight(q) || !impl.QueueOk(q) {
		t.Fatalf("%s: %v is not right", what, q)
	}
	wantQueueByRule(t, q)
}

// wantWrongQueue asks for the answers that each function has for a queue that is not right.
func wantWrongQueue(t *testing.T, what string, q impl.Queue) {
	t.Helper()
	if impl.QueueOk(q) {
		t.Errorf("%s: QueueOk(%v) = true", what, q)
	}
	for _, key := range slices.Concat(q.Keys, queueKeys()) {
		if got, ok := impl.Touch(q, key); ok || got.Most != 0 || len(got.Keys) != 0 {
			t.Errorf("%s: Touch of %.20q = %v, %v", what, key, got, ok)
		}
		if got, left, ok := impl.Push(q, key); ok || left != "" || got.Most != 0 || len(got.Keys) != 0 {
			t.Errorf("%s: Push of %.20q = %v, %q, %v", what, key, got, left, ok)
		}
		if got, ok := impl.Drop(q, key); ok || got.Most != 0 || len(got.Keys) != 0 {
			t.Errorf("%s: Drop of %.20q = %v, %v", what, key, got, ok)
		}
		if got := impl.HasKey(q, key); got != slices.Contains(q.Keys, key) {
			t.Errorf("%s: HasKey of %.20q = %v", what, key, got)
		}
	}
}

// queueKeys are keys of each kind, also such as no queue may have.
func queueKeys() []string {
	return []string{
		"", "a", "b", "A", "aa", "key", "\x00", "\x00\x00", "\xff", "\x80\xff", "é", "twelve bytes", "thirteen here",
		strings.Repeat("x", 11), strings.Repeat("x", 12), strings.Repeat("x", 13), strings.Repeat("long ", 5000),
	}
}

// queueNames are so many keys that are right, of 1 to 12 bytes.
func queueNames(count int) []string {
	var names []string
	for n := range count {
		name := strconv.Itoa(n)
		names = append(names, name+strings.Repeat("-", n%(13-len(name))))
	}
	return names
}

func fullQueue(size int) impl.Queue { return queueWith(size, queueNames(size)...) }

func TestQueueOkMost(t *testing.T) {
	for most, want := range map[int]bool{
		math.MinInt: false, math.MinInt + 1: false, -25: false, -24: false, -2: false, -1: false,
		0: true, 1: true, 2: true, 12: true, 23: true, 24: true,
		25: false, 26: false, 48: false, 64: false, 256: false, 1 << 32: false, 1<<32 + 1: false,
		math.MaxInt - 1: false, math.MaxInt: false,
	} {
		for _, keys := range [][]string{nil, {}, {"a"}, {"a", "b"}} {
			q := queueWith(most, keys...)
			if want && len(keys) <= most {
				wantRightQueue(t, "Most in 0 .. 24", q)
			} else {
				wantWrongQueue(t, "Most "+strconv.Itoa(most), q)
			}
		}
	}
}

func TestQueueOkNumberOfKeys(t *testing.T) {
	for most := -1; most <= 26; most++ {
		for size := range 28 {
			q := queueWith(most, queueNames(size)...)
			if most >= 0 && most <= 24 && size <= most {
				wantRightQueue(t, "as many keys as there may be", q)
			} else {
				wantWrongQueue(t, "too many keys", q)
			}
		}
	}
	wantRightQueue(t, "the zero value", impl.Queue{})
	wantWrongQueue(t, "very many keys", queueWith(24, queueNames(2000)...))
}

// At each place, a key of 1 to 12 bytes alone is right.
func TestQueueOkKeys(t *testing.T) {
	for _, size := range []int{1, 2, 3, 24} {
		for place := range size {
			for _, length := range []int{0, 1, 2, 11, 12, 13, 14, 20, 600, 100000} {
				for _, b := range []string{"x", "\x00", "\x80", "\xff"} {
					q := fullQueue(size)
					q.Keys[place] = strings.Repeat(b, length)
					if length >= 1 && length <= 12 {
						wantRightQueue(t, "a key of 1 to 12 bytes", q)
					} else {
						wantWrongQueue(t, "a key of "+strconv.Itoa(length)+" bytes", q)
					}
				}
			}
		}
	}
}

func TestQueueOkTwice(t *testing.T) {
	for size := 2; size <= 24; size++ {
		for one := range size {
			for other := range one {
				q := fullQueue(size)
				q.Keys[one] = strings.Clone(q.Keys[other])
				wantWrongQueue(t, "a key twice", q)
			}
		}
	}
	wantWrongQueue(t, "a key everywhere", queueWith(24, slices.Repeat([]string{"k"}, 24)...))
	wantWrongQueue(t, "keys twice, in room for more", queueWith(24, "a", "b", "b", "a"))
	alike := []string{
		"a", "A", "aa", "aaa", "a ", " a", "a\x00", "\x00", "\x00\x00", "é", "e", "\xc3", "\xa9", "\xff", "\xfe",
		"\xff\xff", "xxxxxxxxxxxx", "xxxxxxxxxxxy", "yxxxxxxxxxxx", "xxxxxxxxxxx", "\xef\xbf\xbd", "\xed\xa0\x80",
	}
	wantRightQueue(t, "keys that are nearly alike", queueWith(24, alike...))
}

// Every queue of up to four keys, each at an edge, beside each Most about it.
func TestSmallQueues(t *testing.T) {
	some := []string{"", "a", "b", strings.Repeat("k", 12), strings.Repeat("k", 13)}
	for size := range 5 {
		eachPick(size, len(some), func(pick []int) {
			for most := -1; most <= 5; most++ {
				q := impl.Queue{Most: most}
				for _, n := range pick {
					q.Keys = append(q.Keys, some[n])
				}
				wantQueueByRule(t, q)
			}
		})
	}
}

// Most 0: nothing is pushed, whatever the key is, and nothing is there.
func TestQueueOfMost0(t *testing.T) {
	for _, q := range []impl.Queue{{}, queueWith(0), {Keys: []string{}}, {Keys: queueNames(5)[:0]}} {
		wantRightQueue(t, "Most 0", q)
		for _, key := range queueKeys() {
			if got, left, ok := impl.Push(q, key); ok || left != "" || got.Most != 0 || len(got.Keys) != 0 {
				t.Errorf("Push(%v, %.20q) = %v, %q, %v", q, key, got, left, ok)
			}
			if impl.HasKey(q, key) {
				t.Errorf("HasKey(%v, %.20q) = true", q, key)
			}
		}
	}
}

// Of Most 1, each push leaves out the key that was there.
func TestQueueOfMost1(t *testing.T) {
	q, left, ok := impl.Push(queueWith(1), "a")
	if !sameQueue(q, queueWith(1, "a")) || left != "" || !ok {
		t.Fatalf("Push of a, where there is room for one, = %v, %q, %v", q, left, ok)
	}
	if got, ok := impl.Touch(q, "a"); !sameQueue(got, q) || !ok {
		t.Errorf("Touch of the only key = %v, %v", got, ok)
	}
	if got, ok := impl.Drop(q, "a"); !sameQueue(got, queueWith(1)) || !ok {
		t.Errorf("Drop of the only key = %v, %v", got, ok)
	}
	before := "a"
	for _, key := range queueNames(30) {
		q, left, ok = impl.Push(q, key)
		if !sameQueue(q, queueWith(1, key)) || left != before || !ok {
			t.Fatalf("Push of %q behind %q = %v, %q, %v", key, before, q, left, ok)
		}
		wantRightQueue(t, "Most 1", q)
		before = key
	}
}

// No Keys: nothing to touch or drop; nil and a list of none have the same answers.
func TestQueueWithoutKeys(t *testing.T) {
	for most := range 25 {
		for _, keys := range [][]string{nil, {}, queueNames(3)[:0], make([]string, 0, 30)} {
			q := queueWith(most, keys...)
			wantRightQueue(t, "no Keys", q)
			for _, key := range queueKeys() {
				if got, ok := impl.Touch(q, key); ok || got.Most != 0 || len(got.Keys) != 0 {
					t.Errorf("Touch(%v, %.20q) = %v, %v", q, key, got, ok)
				}
				if got, ok := impl.Drop(q, key); ok || got.Most != 0 || len(got.Keys) != 0 {
					t.Errorf("Drop(%v, %.20q) = %v, %v", q, key, got, ok)
				}
			}
			if got, left, ok := impl.Push(q, "k"); most > 0 && (!sameQueue(got, queueWith(most, "k")) || left != "" || !ok) {
				t.Errorf("Push(%v, k) = %v, %q, %v", q, got, left, ok)
			}
		}
	}
}

// Full: the last key is left out, and told. One less: there is room, and nothing is told.
func TestPushAtTheEdgeOfRoom(t *testing.T) {
	for most := 1; most <= 24; most++ {
		names := queueNames(most)
		got, left, ok := impl.Push(queueWith(most, names...), "new")
		want := queueWith(most, slices.Concat([]string{"new"}, names[:most-1])...)
		if !sameQueue(got, want) || left != names[most-1] || !ok {
			t.Errorf("Push of a new key into %q, which is full, = %v, %q, %v", names, got, left, ok)
		}
		wantRightQueue(t, "pushed into a full one", got)
		got, left, ok = impl.Push(queueWith(most, names[1:]...), "new")
		want = queueWith(most, slices.Concat([]string{"new"}, names[1:])...)
		if !sameQueue(got, want) || left != "" || !ok {
			t.Errorf("Push of a new key into %q, with room for one, = %v, %q, %v", names[1:], got, left, ok)
		}
		wantRightQueue(t, "pushed into room for one", got)
	}
}

func TestPushOfKeys(t *testing.T) {
	for _, q := range []impl.Queue{queueWith(3), queueWith(3, "k"), queueWith(3, "k", "l"), queueWith(3, "k", "l", "m")} {
		for _, b := range []string{"x", "\x00", "\x80", "\xff"} {
			for _, length := range []int{0, 1, 2, 11, 12, 13, 14, 600, 100000} {
				key := strings.Repeat(b, length)
				_, _, ok := push(t, q, key)
				if ok != (length >= 1 && length <= 12) {
					t.Errorf("Push(%v, %d bytes) is %v", q, length, ok)
				}
			}
		}
	}
}

// A key that is there is not pushed, wherever it is, be there room or not.
func TestPushOfAKeyThatIsThere(t *testing.T) {
	for size := 1; size <= 24; size++ {
		for most := size; most <= 24; most++ {
			for _, key := range queueNames(size) {
				q := queueWith(most, queueNames(size)...)
				if got, left, ok := impl.Push(q, strings.Clone(key)); ok || left != "" || got.Most != 0 || len(got.Keys) != 0 {
					t.Errorf("Push(%v, %q) = %v, %q, %v", q, key, got, left, ok)
				}
			}
		}
	}
}

// The first key, the last one, each in between, the only one: in a queue that is full, and in one with room.
func TestTouchAndDropAtEachPlace(t *testing.T) {
	for size := 1; size <= 24; size++ {
		for _, most := range []int{size, min(size+1, 24), 24} {
			names := queueNames(size)
			q := queueWith(most, names...)
			for place, key := range names {
				rest := slices.Concat(names[:place], names[place+1:])
				got, ok := impl.Touch(q, strings.Clone(key))
				if want := queueWith(most, slices.Concat([]string{key}, rest)...); !sameQueue(got, want) || !ok {
					t.Errorf("Touch(%v, %q) = %v, %v; want %v, true", q, key, got, ok, want)
				}
				got, ok = impl.Drop(q, strings.Clone(key))
				if want := queueWith(most, rest...); !sameQueue(got, want) || !ok {
					t.Errorf("Drop(%v, %q) = %v, %v; want %v, true", q, key, got, ok, want)
				}
			}
		}
	}
}

func TestTouchAndDropOfAKeyThatIsNotThere(t *testing.T) {
	for size := range 25 {
		q := queueWith(24, queueNames(size)...)
		for _, key := range append(queueKeys(), queueNames(30)[size:]...) {
			if got, ok := impl.Touch(q, key); ok || got.Most != 0 || len(got.Keys) != 0 {
				t.Errorf("Touch(%v, %.20q) = %v, %v", q, key, got, ok)
			}
			if got, ok := impl.Drop(q, key); ok || got.Most != 0 || len(got.Keys) != 0 {
				t.Errorf("Drop(%v, %.20q) = %v, %v", q, key, got, ok)
			}
			if impl.HasKey(q, key) {
				t.Errorf("HasKey(%v, %.20q) = true", q, key)
			}
		}
	}
}

// Whatever is wrong with a queue, a key is there or not.
func TestHasKeyAtWrongQueues(t *testing.T) {
	long := strings.Repeat("k", 13)
	for what, q := range map[string]impl.Queue{
		"Most below 0":        queueWith(-1, "a", "b"),
		"the least Most":      queueWith(math.MinInt, "a", "b"),
		"Most above MaxSlots": queueWith(25, "a", "b"),
		"the greatest Most":   queueWith(math.MaxInt, "a", "b"),
		"one key too many":    queueWith(1, "a", "b"),
		"keys, and Most 0":    queueWith(0, "a", "b"),
		"a key twice":         queueWith(3, "a", "b", "a"),
		"a key that is empty": queueWith(3, "a", "", "b"),
		"a key too long":      queueWith(3, "a", "b", long),
		"all of these":        queueWith(-1, "a", "", "b", long, "a"),
	} {
		wantWrongQueue(t, what, q)
		for _, key := range []string{"a", "b"} {
			if !impl.HasKey(q, key) {
				t.Errorf("%s: HasKey of %q = false", what, key)
			}
		}
		if impl.HasKey(q, "c") || impl.HasKey(q, "ab") {
			t.Errorf("%s: HasKey of a key that is not there = true", what)
		}
	}
	if !impl.HasKey(queueWith(3, "a", ""), "") || !impl.HasKey(queueWith(3, long), long) {
		t.Error("HasKey of a key that no queue may have, and that is there, = false")
	}
}

// withSpareKeys has the same keys, and others in the spare room behind them.
func withSpareKeys(q impl.Queue) (impl.Queue, []string) {
	all := append(slices.Clone(q.Keys), "spare", "room", "spare")
	return impl.Queue{Most: q.Most, Keys: all[:len(q.Keys)]}, all
}

// The room behind the Keys is none of them.
func TestSpareRoomIsNoKey(t *testing.T) {
	for size := range 25 {
		q, _ := withSpareKeys(fullQueue(size))
		wantRightQueue(t, "keys with spare room behind them", q)
		if impl.HasKey(q, "spare") || impl.HasKey(q, "room") {
			t.Errorf("HasKey(%v) finds what is behind the keys", q)
		}
		if _, ok := impl.Touch(q, "room"); ok {
			t.Errorf("Touch(%v) finds what is behind the keys", q)
		}
		if _, ok := impl.Drop(q, "room"); ok {
			t.Errorf("Drop(%v) finds what is behind the keys", q)
		}
		if got, _, ok := push(t, q, "room"); size > 0 && (!ok || got.Keys[0] != "room") {
			t.Errorf("Push(%v, room) = %v, %v", q, got, ok)
		}
	}
}

// queuesToKeep are right ones, and some that are not, each in its own way.
func queuesToKeep() []impl.Queue {
	return []impl.Queue{
		{}, queueWith(1), queueWith(1, "key"), queueWith(3, "key"), queueWith(3, "key", "twelve bytes"),
		queueWith(3, "key", "one", "two"), fullQueue(24), queueWith(24, queueNames(23)...), queueWith(9, queueKeys()[3:7]...),
		queueWith(-1, "key", "one"), queueWith(25, "key", "one"), queueWith(1, "key", "one"), queueWith(4, "key", "one", "key"),
		queueWith(4, "key", ""), queueWith(4, "thirteen here", "key"),
	}
}

// eachQueue calls every function, and hands each queue that it answers on.
func eachQueue(q impl.Queue, back func(string, impl.Queue)) {
	for _, key := range slices.Concat(slices.Clone(q.Keys), queueKeys()) {
		touched, _ := impl.Touch(q, key)
		back("Touch", touched)
		pushed, _, _ := impl.Push(q, key)
		back("Push", pushed)
		dropped, _ := impl.Drop(q, key)
		back("Drop", dropped)
		impl.HasKey(q, key)
	}
	impl.QueueOk(q)
}

func TestQueueArgumentsStay(t *testing.T) {
	for _, q := range queuesToKeep() {
		given, all := withSpareKeys(q)
		before := slices.Clone(all)
		eachQueue(given, func(what string, got impl.Queue) {
			if !slices.Equal(all, before) {
				t.Fatalf("%s: the argument %q has become %q", what, before, all)
			}
			// Nothing that is written into an answer, or behind it, comes to the argument.
			room := got.Keys[:cap(got.Keys)]
			for i := range room {
				room[i] = "written"
			}
			if !slices.Equal(all, before) {
				t.Fatalf("%s of %v shares memory with its argument", what, q)
			}
		})
	}
}

// An answer stays what it was, whatever is written into what was handed in, or into another answer.
func TestQueueAnswersStay(t *testing.T) {
	for _, q := range queuesToKeep() {
		given, all := withSpareKeys(q)
		var answers, copies []impl.Queue
		eachQueue(given, func(_ string, got impl.Queue) {
			answers = append(answers, got)
			copies = append(copies, impl.Queue{Most: got.Most, Keys: slices.Clone(got.Keys)})
		})
		for i := range all {
			all[i] = "written"
		}
		for i := range answers {
			if !sameQueue(answers[i], copies[i]) {
				t.Fatalf("the answer %v has become %v", copies[i], answers[i])
			}
			room := answers[i].Keys[:cap(answers[i].Keys)]
			for j := range room {
				room[j] = "written, too"
			}
		}
	}
}

// The same is answered again, whatever was asked in between.
func TestQueuesAreAnsweredAgain(t *testing.T) {
	for _, q := range queuesToKeep() {
		var first, again []impl.Queue
		eachQueue(q, func(_ string, got impl.Queue) { first = append(first, got) })
		eachQueue(fullQueue(7), func(string, impl.Queue) {})
		eachQueue(q, func(_ string, got impl.Queue) { again = append(again, got) })
		if !slices.EqualFunc(first, again, sameQueue) {
			t.Errorf("%v is answered otherwise when it is asked again", q)
		}
	}
}

func TestQueueTextsAreNewMemory(t *testing.T) {
	q := queueWith(3, strings.Repeat("one", 3), strings.Repeat("two", 3), strings.Repeat("six", 3))
	key := strings.Repeat("new", 3)
	inMemoryOf := func(text string) bool {
		return shares(text, key) || slices.ContainsFunc(q.Keys, func(given string) bool { return shares(text, given) })
	}
	pushed, left, ok := impl.Push(q, key)
	if !ok || inMemoryOf(left) || slices.ContainsFunc(pushed.Keys, inMemoryOf) {
		t.Error("Push shares texts with its arguments")
	}
	touched, ok := impl.Touch(q, q.Keys[1])
	if !ok || slices.ContainsFunc(touched.Keys, inMemoryOf) {
		t.Error("Touch shares texts with its arguments")
	}
	dropped, ok := impl.Drop(q, q.Keys[1])
	if !ok || slices.ContainsFunc(dropped.Keys, inMemoryOf) {
		t.Error("Drop shares texts with its arguments")
	}
}
