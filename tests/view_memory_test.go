package tests

import (
	"slices"
	"strings"
	"testing"

	"loop.example/g00180/impl"
)

// withSpareItems are the same items with room behind them, filled with such as are no part of them.
func withSpareItems(list []item) []item {
	whole := append(slices.Clone(list), slices.Repeat([]item{itemOf("spare", "of none", 77)}, 15)...)
	return whole[:len(list)]
}

// listsToKeep are right ones, and such as are not.
func listsToKeep() [][]item {
	lists := rightLists()
	for _, w := range wrongLists() {
		lists = append(lists, w.list)
	}
	return lists
}

// itemsToPut are new ones, ones of the Keys of a list with each Ver, and such as are not right.
func itemsToPut(list []item) []item {
	some := []item{itemOf("A", "new", 5), itemOf("spare", "new", 78), itemOf("zz", "new", 5)}
	for _, x := range list {
		some = append(some, itemOf(x.Key, "other", x.Ver-1), itemOf(x.Key, "other", x.Ver), itemOf(x.Key, "other", x.Ver+1))
	}
	return append(some, itemOf("", "", 5), item{})
}

// itemsKept is a list with room behind it, and what was there.
type itemsKept struct {
	list   []item
	before []item
}

func keepItems(list []item) itemsKept {
	given := withSpareItems(list)
	return itemsKept{list: given, before: slices.Clone(wholeOf(given))}
}

func (k itemsKept) wantSame(t *testing.T, what string) {
	t.Helper()
	if !slices.Equal(wholeOf(k.list), k.before) {
		t.Fatalf("%s changed its items %v, or the room behind them", what, k.before)
	}
}

func TestViewsOkArgumentsStay(t *testing.T) {
	for _, views := range [][][]int{nil, {{}}, {{1}}, rightViews(5), rightViews(9), rightViews(10), {{1, 2, 3, 4, 5}}, {{1, 2}, {3, 3}}, {{4, 3}, {0}}} {
		given := make([][]int, 0, len(views)+5)
		for _, view := range views {
			given = append(given, withSpareNumbers(view))
		}
		for range 5 {
			given = append(given, withSpareNumbers([]int{9, 9}))
		}
		before := make([][]int, len(given))
		for at, view := range given {
			before[at] = slices.Clone(wholeOf(view))
		}
		if got, want := impl.ViewsOk(given[:len(views)]), ruleViews(views); got != want {
			t.Errorf("ViewsOk(%v) looks at what is behind: %v", views, got)
		}
		for at, view := range given {
			if !slices.Equal(wholeOf(view), before[at]) {
				t.Fatalf("ViewsOk(%v) changed its views, or the room behind them", views)
			}
		}
	}
}

// Nothing is written into the items that are handed in, and nothing behind them is looked at.
func TestItemArgumentsStay(t *testing.T) {
	for _, list := range listsToKeep() {
		kept := keepItems(list)
		if impl.ItemsOk(kept.list) != ruleItems(list) {
			t.Errorf("ItemsOk(%v) looks at what is behind the items", list)
		}
		kept.wantSame(t, "ItemsOk")
		for _, x := range itemsToPut(list) {
			if got, want := impl.PutItem(kept.list, x), rulePutItem(list, x); !sameItems(got, want) {
				t.Fatalf("PutItem(%v, %v) = %v; want %v", list, x, got, want)
			}
			kept.wantSame(t, "PutItem")
			if got, want := impl.ItemOf(kept.list, x.Key), ruleItemOf(list, x.Key); got != want {
				t.Fatalf("ItemOf(%v, %q) = %v; want %v", list, x.Key, got, want)
			}
			kept.wantSame(t, "ItemOf")
		}
	}
}

// What is written into a list that PutItem gave, also where it gave it as it is, changes neither
// the list that was handed in nor another answer; nor does what is written into that one.
func TestPutItemAnswersAreNewMemory(t *testing.T) {
	asIs, put := 0, 0
	for _, list := range listsToKeep() {
		for _, x := range itemsToPut(list) {
			kept := keepItems(list)
			first, second := impl.PutItem(kept.list, x), impl.PutItem(kept.list, x)
			want := slices.Clone(rulePutItem(list, x))
			fill(first, itemOf("written", "over", -9))
			kept.wantSame(t, "writing into an answer")
			if !sameItems(second, want) {
				t.Fatalf("two answers of PutItem(%v, %v) share memory", list, x)
			}
			fill(kept.list, itemOf("written", "there", -8))
			if !sameItems(second, want) {
				t.Fatalf("an answer of PutItem(%v, %v) shares memory with the list", list, x)
			}
			if sameItems(want, list) {
				asIs++
			} else {
				put++
			}
		}
	}
	if asIs < 100 || put < 100 {
		t.Errorf("%d lists were as they are, %d were not", asIs, put)
	}
}

// textsOfItems are the texts of a list.
func textsOfItems(list []item) []string {
	var texts []string
	for _, x := range list {
		texts = append(texts, x.Key, x.Val)
	}
	return texts
}

// wantNewTexts wants no text in the memory of another one, be it given or one of the same answer.
func wantNewTexts(t *testing.T, what string, texts, given []string) {
	t.Helper()
	for at, text := range texts {
		if sharesAny(text, given) || sharesAny(text, texts[:at]) {
			t.Errorf("%s: the text %.20q is in other memory", what, text)
		}
	}
}

func TestItemTextsAreNewMemory(t *testing.T) {
	for _, list := range listsToKeep() {
		for _, x := range itemsToPut(list) {
			x.Key, x.Val = strings.Clone(x.Key), strings.Clone(x.Val)
			given := append(textsOfItems(list), x.Key, x.Val)
			first, second := impl.PutItem(list, x), impl.PutItem(list, x)
			wantNewTexts(t, "PutItem", append(textsOfItems(first), textsOfItems(second)...), given)
			found, again := impl.ItemOf(list, x.Key), impl.ItemOf(list, x.Key)
			wantNewTexts(t, "ItemOf", textsOfItems([]item{found, again}), given)
		}
	}
}

// An item that has one text as Key and as Val is given back with two.
func TestItemWithOneTextTwice(t *testing.T) {
	text := strings.Clone("one text")
	x := itemOf(text, text, 5)
	put := impl.PutItem(nil, x)
	again := impl.PutItem([]item{x}, x)
	wantNewTexts(t, "PutItem", textsOfItems(append(put, again...)), []string{text})
	wantNewTexts(t, "ItemOf", textsOfItems([]item{impl.ItemOf([]item{x}, text)}), []string{text})
	m := someMsg(impl.AskStore)
	m.Items = []item{x}
	written, _ := impl.MsgText(m)
	got, ok := impl.ReadMsg(written)
	if !ok || !sameMsg(got, m) {
		t.Fatalf("ReadMsg of the text of %v = %v, %v", m, got, ok)
	}
	wantNewTexts(t, "ReadMsg", textsOfItems(got.Items), []string{text, written})
}

func TestMsgArgumentsStay(t *testing.T) {
	all := rightMsgs()
	for _, w := range wrongMsgs() {
		all = append(all, w.msg)
	}
	for _, m := range all {
		kept := keepItems(m.Items)
		given := m
		given.Items = kept.list
		if impl.MsgOk(given) != ruleMsg(m) {
			t.Errorf("MsgOk(%v) looks at what is behind the Items", m)
		}
		kept.wantSame(t, "MsgOk")
		text, ok := impl.MsgText(given)
		if want, wantOk := ruleMsgText(m); text != want || ok != wantOk {
			t.Errorf("MsgText(%v) = %q, %v; want %q, %v", m, text, ok, want, wantOk)
		}
		kept.wantSame(t, "MsgText")
		again, _ := impl.MsgText(given)
		wantNewTexts(t, "MsgText", []string{text, again}, textsOfItems(m.Items))
	}
}

// What is written into a message that was read changes neither its text nor another answer.
func TestReadMsgAnswersAreNewMemory(t *testing.T) {
	withItems := 0
	for _, m := range rightMsgs() {
		text, _ := impl.MsgText(m)
		before := strings.Clone(text)
		first, _ := impl.ReadMsg(text)
		second, _ := impl.ReadMsg(text)
		wantNewTexts(t, "ReadMsg", append(textsOfItems(first.Items), textsOfItems(second.Items)...), append(textsOfItems(m.Items), text))
		fill(first.Items, itemOf("written", "over", -9))
		third, ok := impl.ReadMsg(text)
		if !sameMsg(second, m) || !sameMsg(third, m) || !ok || text != before {
			t.Fatalf("two answers of ReadMsg(%q) share memory", text)
		}
		if len(m.Items) > 0 {
			withItems++
		}
	}
	if withItems < 100 {
		t.Errorf("only %d messages have Items", withItems)
	}
}

// The same is answered again, whatever was asked between: nothing is kept, and no reading that was
// stopped is gone on with.
func TestMessagesAreAnsweredAgain(t *testing.T) {
	var texts []string
	for at, m := range msgsToTurn() {
		text := wantBack(t, m)
		inner := text[:len(text)-4]
		texts = append(texts, text, text[:at%len(text)], ruleSealed(inner[:len(inner)/2]), ruleSealed(inner+"\x00"), withByte(text, at%len(text), 99))
	}
	type answer struct {
		msg msg
		ok  bool
	}
	var first []answer
	for round := range 3 {
		for step := range texts {
			at := step
			if round == 1 {
				at = len(texts) - 1 - step
			}
			m, ok := impl.ReadMsg(texts[at])
			if round == 0 {
				first = append(first, answer{msg: m, ok: ok})
			} else if !sameMsg(m, first[at].msg) || ok != first[at].ok {
				t.Fatalf("ReadMsg(%q) is answered another way in round %d", texts[at], round)
			}
		}
	}
}
