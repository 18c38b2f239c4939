package tests

import (
	"fmt"
	"slices"
	"strings"
	"testing"
)

// zeros is the line of the numbers of so many events of which none is refused.
func zeros(count int) string {
	return strings.Join(slices.Repeat([]string{"0"}, count), " ")
}

func TestConsoleWithoutEvents(t *testing.T) {
	wantTold(t, "a view of one", "view 1\n", "serves 1")
	wantTold(t, "another one", "view 6", "serves 6")
	wantTold(t, "the first one serves", textOf("view 3,1,2"), "serves 3")
	wantTold(t, "the first view counts", textOf("view 4,1", "view 1", "view 2"), "serves 4")
	wantTold(t, "with remarks", textOf("# a", "", "view 5", "  # b"), "serves 5")
}

func TestConsoleNumbers(t *testing.T) {
	wantTold(t, "one that is done", textOf("view 1", "fall 2"), "0", "serves 1")
	wantTold(t, "one that is refused", textOf("view 1", "deliver 0"), "1", "serves 1")
	wantTold(t, "none that is 0", textOf("view 1,2", "get 2 k", "adopt 1", "deliver 7", "drop 0", "copy 1000000000", "put 3 k v"), "1 1 1 1 1 1", "serves 1")
	wantTold(t, "none that is 1", textOf("view 1,2", "get 1 k", "copy 1000000000", "deliver 0", "drop 0", "deliver 2", "adopt 6", "fall 6"), "0 0 0 0 0 1 0", "get k ", "serves 1")
	wantTold(t, "some of both", textOf("view 1,2", "adopt 1", "fall 2", "drop 0", "fall 3", "fall 4", "adopt 4"), "1 0 1 0 0 1", "serves 1")
	wantTold(t, "none that is 1", textOf("view 1,2", "view 2", "put 1 k v", "copy 0", "deliver 0", "drop 0", "deliver 0", "adopt 2", "get 2 k", "fall 2"), zeros(8), "put k", "get k v", "serves 1")
	for count := 1; count <= 70; count++ {
		falls := slices.Repeat([]string{"fall 2"}, count)
		wantTold(t, "so many", textOf(append([]string{"view 1"}, falls...)...), zeros(count), "serves 1")
	}
}

// A put tells its Key, a get its Key and what it got.
func TestConsoleCallsThatAreDone(t *testing.T) {
	wantTold(t, "a put", textOf("view 1", "put 1 key val"), "0", "put key", "serves 1")
	wantTold(t, "a put and a get", textOf("view 1", "put 1 key val", "get 1 key"), "0 0", "put key", "get key val", "serves 1")
	wantTold(t, "a get of what was put last", textOf("view 1", "put 1 k one", "get 1 k", "put 1 k two", "get 1 k"), "0 0 0 0", "put k", "get k one", "put k", "get k two", "serves 1")
	wantTold(t, "several Keys", textOf("view 1", "put 1 b one", "put 1 a two", "get 1 a", "get 1 b", "get 1 c"), "0 0 0 0 0", "put b", "put a", "get a two", "get b one", "get c ", "serves 1")
	key, val := strings.Repeat("k", 12), strings.Repeat("v", 20)
	wantTold(t, "the longest texts", textOf("view 1", "put 1 "+key+" "+val, "get 1 "+key), "0 0", "put "+key, "get "+key+" "+val, "serves 1")
	wantTold(t, "texts like other parts", textOf("view 1", "put 1 #a put", "put 1 get 1,2", "get 1 #a", "get 1 get"), "0 0 0 0", "put #a", "put get", "get #a put", "get get 1,2", "serves 1")
}

// The blank behind the Key stays where nothing was got.
func TestConsoleGetOfNothing(t *testing.T) {
	wantTold(t, "a get of nothing", textOf("view 1", "get 1 k"), "0", "get k ", "serves 1")
	wantTold(t, "two of them", textOf("view 1", "get 1 k", "put 1 l v", "get 1 k", "get 1 kk"), "0 0 0 0", "get k ", "put l", "get k ", "get kk ", "serves 1")
	wantTold(t, "one that asks another member", textOf("view 1,2", "get 1 k", "deliver 0", "deliver 0", "fall 1"), "0 0 0 0", "get k ")
}

// A call that is not done is not told: one that is refused, that waits, that is lost, or whose member fell.
func TestConsoleCallsThatAreNotDone(t *testing.T) {
	wantTold(t, "refused", textOf("view 1", "put 2 k v", "get 3 k"), "1 1", "serves 1")
	wantTold(t, "under way", textOf("view 1,2", "put 1 k v"), "0", "serves 1")
	wantTold(t, "under way", textOf("view 1,2", "get 1 k", "deliver 0"), "0 0", "serves 1")
	wantTold(t, "refused behind one under way", textOf("view 1,2", "get 1 k", "get 1 l", "deliver 0", "deliver 0", "get 1 m"), "0 1 0 0 0", "get k ", "serves 1")
	wantTold(t, "lost", textOf("view 1,2", "put 1 k v", "drop 0", "get 1 k"), "0 0 1", "serves 1")
	wantTold(t, "whose member fell", textOf("view 1,2", "put 1 k v", "deliver 0", "fall 1", "deliver 0"), "0 0 0 0")
	wantTold(t, "between others that are done", textOf("view 1", "put 1 a x", "put 2 b y", "get 1 a", "get 2 b", "put 1 c z"), "0 1 0 1 0", "put a", "get a x", "put c", "serves 1")
}

// Calls are told in the order in which they began, not in that in which they were done.
func TestConsoleOrderOfCalls(t *testing.T) {
	text := textOf("view 1,2", "view 2,3",
		"put 1 old one", "deliver 0", "adopt 2", "deliver 1", "deliver 1",
		"put 2 new two", "deliver 1", "deliver 1", "deliver 0")
	wantTold(t, "the later one is done ahead", text, zeros(9), "put old", "put new", "serves 1", "serves 2")
	wantTold(t, "the earlier one is not done yet", strings.TrimSuffix(text, "deliver 0\n"), zeros(8), "put new", "serves 1", "serves 2")
	wantTold(t, "and what both get", text+textOf("get 1 old", "get 2 old", "deliver 1", "deliver 1", "get 2 new"), zeros(14), "put old", "put new", "get old one", "serves 1", "serves 2")
}

// None serves, one does, several do, each in an Epoch of its own; they are told by their Ids.
func TestConsoleWhoServes(t *testing.T) {
	wantTold(t, "none", textOf("view 1", "fall 1"), "0")
	wantTold(t, "none, and a call that is done", textOf("view 1", "put 1 k v", "fall 1"), "0 0", "put k")
	wantTold(t, "none yet", textOf("view 1,2", "view 2,1", "fall 1", "adopt 2"), "0 0")
	views, adopts := []string{}, []string{}
	for node := 6; node >= 2; node-- {
		// Each has the entries of the view before, so it need not seal that one, whose first one serves on.
		views = append(views, fmt.Sprintf("view %d,%d", node, node-1))
		if node < 6 {
			adopts = append(adopts, fmt.Sprint("adopt ", node), "deliver 0", "deliver 0")
		}
		var told []string
		if len(adopts) > 0 {
			told = append(told, zeros(len(adopts)))
		}
		for id := node; id <= 6; id++ {
			told = append(told, fmt.Sprint("serves ", id))
		}
		wantTold(t, "several", textOf(slices.Concat(views, adopts)...), told...)
	}
	last := slices.Concat(views, []string{"view 1"}, adopts, []string{"adopt 1"})
	all := []string{"serves 1", "serves 2", "serves 3", "serves 4", "serves 5", "serves 6"}
	wantTold(t, "all", textOf(last...), append([]string{zeros(13)}, all...)...)
	wantTold(t, "one of several fell", textOf(append(last, "fall 4")...), append([]string{zeros(14)}, slices.Delete(slices.Clone(all), 3, 4)...)...)
	wantTold(t, "one that was sealed", textOf("view 3", "view 1", "adopt 1", "deliver 0"), zeros(2))
	wantTold(t, "the other one in its place", textOf("view 3", "view 1", "adopt 1", "deliver 0", "deliver 0"), zeros(3), "serves 1")
}

// Where there is a fault, nothing else is told.
func TestConsoleFault(t *testing.T) {
	wantTold(t, "no view", "", "fault 1")
	wantTold(t, "no view", "# a\n\n", "fault 1")
	wantTold(t, "the first line", "view 0", "fault 1")
	wantTold(t, "a later line", textOf("view 1", "put 1 k v", "", "put 1 k"), "fault 4")
	wantTold(t, "line 100", "view 1\n"+strings.Repeat("#\n", 98)+"no", "fault 100")
	wantTold(t, "too many lines", "view 1\n"+strings.Repeat("#\n", 99)+"fall 1", "fault -1")
	wantTold(t, "too many bytes", stuffed("view 1\n", 4001), "fault -1")
}
