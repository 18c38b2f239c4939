package tests

import (
	"math"
	"slices"
	"strings"

	"loop.example/g00180/impl"
)

type (
	item = impl.Item
	msg  = impl.Msg
)

func itemOf(key, val string, ver int) item { return item{Key: key, Val: val, Ver: ver} }

// sameItems holds two lists against each other; nil and an empty one are the same.
func sameItems(a, b []item) bool { return slices.Equal(a, b) }

func sameMsg(a, b msg) bool {
	return a.Kind == b.Kind && a.From == b.From && a.To == b.To && a.Epoch == b.Epoch && a.Num == b.Num && sameItems(a.Items, b.Items)
}

// ruleViews is the chapter's rule of views, with the numbers of the document written out.
func ruleViews(views [][]int) bool {
	for _, view := range views {
		has := map[int]int{}
		for _, node := range view {
			has[node]++
			if node < 1 || node > 6 || has[node] > 1 {
				return false
			}
		}
		if len(view) == 0 || len(view) > 4 {
			return false
		}
	}
	return len(views) >= 1 && len(views) <= 9
}

// ruleItems is the rule of lists: ascending is what is sorted and has no two alike.
func ruleItems(list []item) bool {
	var keys []string
	for _, x := range list {
		if !ruleKey(x.Key) || len(x.Val) > 20 || x.Ver < 1 || x.Ver > 1000000000 {
			return false
		}
		keys = append(keys, x.Key)
	}
	return len(list) <= 12 && slices.Equal(keys, slices.Compact(slices.Sorted(slices.Values(keys))))
}

// rulePutItem takes the item of the Key out, puts the other one behind all, and sorts them.
func rulePutItem(list []item, x item) []item {
	if !ruleItems(list) || !ruleItems([]item{x}) {
		return list
	}
	var others []item
	for _, other := range list {
		if other.Key != x.Key {
			others = append(others, other)
		} else if other.Ver >= x.Ver {
			return list
		}
	}
	if len(others) == 12 {
		return list
	}
	out := append(others, x)
	slices.SortFunc(out, func(a, b item) int { return strings.Compare(a.Key, b.Key) })
	return out
}

func ruleItemOf(list []item, key string) item {
	at := slices.IndexFunc(list, func(x item) bool { return x.Key == key })
	if at < 0 {
		return item{}
	}
	return list[at]
}

// ruleMost has, for each Kind, how few and how many Items its messages have.
func ruleMost() map[int][2]int {
	return map[int][2]int{1: {0, 0}, 2: {0, 12}, 3: {0, 12}, 4: {0, 0}, 5: {1, 1}, 6: {0, 0}, 7: {0, 0}, 8: {0, 0}}
}

func ruleMsg(m msg) bool {
	most, has := ruleMost()[m.Kind]
	nodes := ruleViews([][]int{{m.From}, {m.To}})
	numbers := m.Epoch >= 1 && m.Epoch <= 9 && m.Num >= 0 && m.Num <= 1000000000
	return has && nodes && numbers && len(m.Items) >= most[0] && len(m.Items) <= most[1] && ruleItems(m.Items)
}

// varBytes is a number in so many bytes: each but the last one has 128, whatever is left.
func varBytes(n, length int) string {
	var out []byte
	for range length - 1 {
		out = append(out, byte(n%128)|128)
		n /= 128
	}
	return string(append(out, byte(n)))
}

// varLength is how many bytes a number of 0 or more takes at least.
func varLength(n int) int {
	length := 1
	for ; n > 127; n /= 128 {
		length++
	}
	return length
}

func ruleVar(n int) string { return varBytes(n, varLength(n)) }

func ruleShort(s string) string { return ruleVar(len(s)) + s }

// ruleSealed has the sum behind it, however long it is.
func ruleSealed(text string) string { return text + sumText(stepSum(4294967295, text)) }

// msgPieces are the texts of which that of a message is made, one a number or a text, be it right
// or not; numbers below 0 have no such text.
func msgPieces(m msg) []string {
	pieces := []string{string([]byte{byte(m.Kind)}), string([]byte{byte(m.From)}), string([]byte{byte(m.To)}), string([]byte{byte(m.Epoch)}), ruleVar(m.Num), ruleVar(len(m.Items))}
	for _, x := range m.Items {
		pieces = append(pieces, ruleVar(len(x.Key)), x.Key, ruleVar(len(x.Val)), x.Val, ruleVar(x.Ver))
	}
	return pieces
}

// writtenMsg is a message as if it were right.
func writtenMsg(m msg) string { return ruleSealed(strings.Join(msgPieces(m), "")) }

func ruleMsgText(m msg) (string, bool) {
	if !ruleMsg(m) {
		return "", false
	}
	return writtenMsg(m), true
}

// looseReader takes numbers of any form, and texts of any length; what is not there is nothing.
type looseReader struct{ rest string }

func (r *looseReader) take(length int) string {
	length = min(max(length, 0), len(r.rest))
	taken := r.rest[:length]
	r.rest = r.rest[length:]
	return taken
}

func (r *looseReader) oneByte() int {
	if taken := r.take(1); taken != "" {
		return int(taken[0])
	}
	return 0
}

func (r *looseReader) number() int {
	n, weight := 0, 1
	for r.rest != "" {
		b := r.oneByte()
		n += b % 128 * weight
		weight *= 128
		if b < 128 {
			break
		}
	}
	return n
}

// ruleRead reads loosely, and has a message just where that one's text is what was read.
func ruleRead(text string) (msg, bool) {
	r := &looseReader{rest: text[:max(len(text)-4, 0)]}
	m := msg{Kind: r.oneByte(), From: r.oneByte(), To: r.oneByte(), Epoch: r.oneByte(), Num: r.number()}
	for count := r.number(); count > 0 && r.rest != ""; count-- {
		key := r.take(r.number())
		val := r.take(r.number())
		m.Items = append(m.Items, itemOf(key, val, r.number()))
	}
	if again, ok := ruleMsgText(m); !ok || again != text {
		return msg{}, false
	}
	return m, true
}

// manyItems are so many right items, their Keys and Vals of any length that they may have.
func manyItems(count int) []item {
	var list []item
	for at := range count {
		key := string(rune('a'+at)) + strings.Repeat("k", at%12)
		list = append(list, itemOf(key, strings.Repeat("v", at*7%21), 1+at*at*at*500000))
	}
	return list
}

// versToTry are the least and the greatest of each length of a VarText, within what a Ver may be.
func versToTry() []int {
	return []int{1, 2, 127, 128, 16383, 16384, 2097151, 2097152, 268435455, 268435456, 999999999, 1000000000}
}

// numsToTry are the same of a Num.
func numsToTry() []int { return append([]int{0}, versToTry()...) }

// wrongItem is an item that is not right, and in which way.
type wrongItem struct {
	what string
	item item
}

func wrongItems() []wrongItem {
	return []wrongItem{
		{"a Key of no bytes", itemOf("", "v", 5)},
		{"a Key of 13 bytes", itemOf(strings.Repeat("m", 13), "v", 5)},
		{"a Key of very many bytes", itemOf(strings.Repeat("m", 20001), "v", 5)},
		{"a Val of 21 bytes", itemOf("m", strings.Repeat("v", 21), 5)},
		{"a Val of very many bytes", itemOf("m", strings.Repeat("v", 20001), 5)},
		{"a Ver of 0", itemOf("m", "v", 0)},
		{"a Ver below 0", itemOf("m", "v", -1)},
		{"the least Ver", itemOf("m", "v", math.MinInt)},
		{"a Ver above MaxNumber", itemOf("m", "v", 1000000001)},
		{"the greatest Ver", itemOf("m", "v", math.MaxInt)},
		{"nothing at all", item{}},
	}
}

// wrongList is a list that is not right, and in which way.
type wrongList struct {
	what string
	list []item
}

// wrongLists have the wrong thing at the beginning, in the midst or at the end.
func wrongLists() []wrongList {
	lists := []wrongList{{"13 items", manyItems(13)}, {"25 items", manyItems(25)}}
	for _, size := range []int{1, 2, 3, 7, 12} {
		for at := range size {
			for _, w := range wrongItems() {
				list := manyItems(size)
				list[at] = w.item
				if w.item.Key == "m" {
					list[at].Key = manyItems(size)[at].Key
				}
				lists = append(lists, wrongList{w.what, list})
			}
			if at == 0 {
				continue
			}
			same, down := manyItems(size), manyItems(size)
			same[at].Key = same[at-1].Key
			down[at-1], down[at] = down[at], down[at-1]
			lists = append(lists, wrongList{"two of one Key", same}, wrongList{"Keys that descend", down})
		}
	}
	return lists
}

// rightLists have none, few and 12 items.
func rightLists() [][]item {
	lists := [][]item{nil, {}}
	for count := range 13 {
		lists = append(lists, manyItems(count))
	}
	lists = append(lists,
		[]item{itemOf("\x00", "", 1)},
		[]item{itemOf("\x00", "\x00", 127), itemOf("\x00\x00", "\xff", 128), itemOf("\xff", "\x80", 1000000000)},
		[]item{itemOf("a", "", 3), itemOf("aa", "", 2), itemOf("ab", "", 1), itemOf("b", "", 1)},
		[]item{itemOf(strings.Repeat("a", 12), strings.Repeat("\xfe", 20), 1000000000), itemOf(strings.Repeat("b", 12), strings.Repeat("x", 20), 1000000000)},
	)
	return lists
}

// rightMsgs are of each Kind, with as few and as many Items as it may have, and each other field
// at its least and its greatest.
func rightMsgs() []msg {
	var all []msg
	for kind := 1; kind <= 8; kind++ {
		for _, list := range rightLists() {
			for _, ends := range [][3]int{{1, 1, 1}, {6, 6, 9}, {1, 6, 5}, {6, 1, 1}, {3, 4, 9}} {
				for _, num := range []int{0, 1, 128, 1000000000} {
					m := msg{Kind: kind, From: ends[0], To: ends[1], Epoch: ends[2], Num: num, Items: list}
					if ruleMsg(m) {
						all = append(all, m)
					}
				}
			}
		}
	}
	return all
}

// someItem is what an AskStore asks for, and what a message with one item has.
func someItem() []item { return []item{itemOf("key", "value", 3001)} }

// someMsg is a right message of a Kind with as few Items as it may have.
func someMsg(kind int) msg {
	m := msg{Kind: kind, From: 2, To: 5, Epoch: 3, Num: 300}
	if kind == 5 {
		m.Items = someItem()
	}
	return m
}

// wrongMsg is a message that is not right, and in which way.
type wrongMsg struct {
	what string
	msg  msg
}

// wrongMsgs are not right in one way each.
func wrongMsgs() []wrongMsg {
	var all []wrongMsg
	add := func(what string, m msg) { all = append(all, wrongMsg{what, m}) }
	for kind := 1; kind <= 8; kind++ {
		for _, n := range []int{math.MinInt, -1, 0, 7, 255, 256, 257, math.MaxInt} {
			from, to := someMsg(kind), someMsg(kind)
			from.From, to.To = n, n
			add("From", from)
			add("To", to)
		}
		for _, n := range []int{math.MinInt, -1, 0, 10, 255, 256, 257, math.MaxInt} {
			epoch := someMsg(kind)
			epoch.Epoch = n
			add("Epoch", epoch)
		}
		for _, n := range []int{math.MinInt, -1, 1000000001, 34359738367, 34359738368, math.MaxInt} {
			num := someMsg(kind)
			num.Num = n
			add("Num", num)
		}
		for count := range 14 {
			items := someMsg(kind)
			items.Items = manyItems(count)
			if most := ruleMost()[kind]; count < most[0] || count > most[1] {
				add("how many Items", items)
			}
		}
		for _, w := range wrongLists() {
			items := someMsg(kind)
			items.Items = w.list
			add("Items: "+w.what, items)
		}
	}
	for _, kind := range []int{math.MinInt, -8, -1, 0, 9, 10, 128, 255, 256, 257, 261, math.MaxInt} {
		for _, list := range [][]item{nil, someItem(), manyItems(2)} {
			m := someMsg(1)
			m.Kind, m.Items = kind, list
			add("Kind", m)
		}
	}
	return all
}

// canBeWritten tells whether the bytes of a message that is not right tell the same fields.
func canBeWritten(m msg) bool {
	for _, n := range []int{m.Kind, m.From, m.To, m.Epoch} {
		if n < 0 || n > 255 {
			return false
		}
	}
	return m.Num >= 0 && !slices.ContainsFunc(m.Items, func(x item) bool { return x.Ver < 0 })
}

// drawnMsg is a right message whose fields are all drawn.
func drawnMsg(seed int) msg {
	numbers := drawnNumbers(100, seed)
	draw := func(of int) int {
		n := int(uint64(numbers[0]) >> 8 % uint64(of))
		numbers = numbers[1:]
		return n
	}
	m := msg{Kind: 1 + draw(8), From: 1 + draw(6), To: 1 + draw(6), Epoch: 1 + draw(9), Num: draw(1 << (1 + draw(29)))}
	most := ruleMost()[m.Kind]
	for range most[0] + draw(most[1]-most[0]+1) {
		x := itemOf(drawnText(1+draw(12), draw(1<<30)), drawnText(draw(21), draw(1<<30)), 1+draw(1<<draw(30)))
		m.Items = rulePutItem(m.Items, x)
	}
	return m
}

// drawnText has so many bytes of any worth.
func drawnText(length, seed int) string {
	var out []byte
	for _, n := range drawnNumbers(length, seed) {
		out = append(out, byte(n>>8))
	}
	return string(out)
}
