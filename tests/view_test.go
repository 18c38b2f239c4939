package tests

import (
	"math"
	"slices"
	"testing"

	"loop.example/g00180/impl"
)

func wantViews(t *testing.T, views [][]int, want bool) {
	t.Helper()
	if ruleViews(views) != want {
		t.Fatalf("by the rule it is %v that %v are right", !want, views)
	}
	if got := impl.ViewsOk(views); got != want {
		t.Errorf("ViewsOk(%v) = %v; want %v", views, got, want)
	}
}

// rightViews are so many, of 1 to 4 nodes each.
func rightViews(count int) [][]int {
	kinds := [][]int{{1}, {6, 1}, {3, 2, 1}, {2, 4, 6, 5}, {6}, {4, 3}, {1, 6, 3}, {1, 2, 3, 4}}
	var views [][]int
	for at := range count {
		views = append(views, slices.Clone(kinds[at%len(kinds)]))
	}
	return views
}

// wantViewAnywhere holds one view against what is wanted of it: alone, and ahead of, among and
// behind others that are right.
func wantViewAnywhere(t *testing.T, view []int, want bool) {
	t.Helper()
	for _, count := range []int{1, 2, 5, 9} {
		for at := range count {
			views := rightViews(count)
			views[at] = view
			wantViews(t, views, want)
		}
	}
}

func TestViewLimits(t *testing.T) {
	if impl.MaxEpoch != 9 {
		t.Errorf("MaxEpoch is %d; want 9", impl.MaxEpoch)
	}
	kinds := [8]int{impl.AskSeal, impl.TellState, impl.AskInstall, impl.TellDone, impl.AskStore, impl.TellStored, impl.AskSure, impl.TellSure}
	if kinds != [8]int{1, 2, 3, 4, 5, 6, 7, 8} {
		t.Errorf("the Kinds are %v; want 1 to 8", kinds)
	}
}

func TestViewsOkHowManyViews(t *testing.T) {
	wantViews(t, nil, false)
	wantViews(t, [][]int{}, false)
	for count := 1; count <= 12; count++ {
		wantViews(t, rightViews(count), count <= 9)
		wantViews(t, slices.Repeat([][]int{{1, 2}}, count), count <= 9)
	}
	wantViews(t, slices.Repeat([][]int{{1}}, 1000), false)
}

func TestViewsOkHowManyNodes(t *testing.T) {
	wantViewAnywhere(t, nil, false)
	wantViewAnywhere(t, []int{}, false)
	up, down := []int{1, 2, 3, 4, 5, 6}, []int{6, 5, 4, 3, 2, 1}
	for count := 1; count <= 6; count++ {
		wantViewAnywhere(t, up[:count], count <= 4)
		wantViewAnywhere(t, down[:count], count <= 4)
	}
}

func TestViewsOkNodes(t *testing.T) {
	for node, want := range map[int]bool{math.MinInt: false, -6: false, -1: false, 0: false, 1: true, 6: true, 7: false, 255: false, 257: false, math.MaxInt: false} {
		for _, others := range [][]int{{}, {2}, {2, 5}, {5, 2, 3}} {
			for at := range len(others) + 1 {
				wantViewAnywhere(t, slices.Insert(slices.Clone(others), at, node), want)
			}
		}
	}
}

func TestViewsOkUnlikeNodes(t *testing.T) {
	for _, view := range [][]int{{2, 4}, {1, 6, 3}, {6, 4, 2, 1}} {
		wantViewAnywhere(t, view, true)
		for at := range view {
			for other := range at {
				twice := slices.Clone(view)
				twice[at] = twice[other]
				wantViewAnywhere(t, twice, false)
			}
		}
	}
	wantViews(t, [][]int{{1, 2}, {2, 1}, {1, 2}}, true)
	wantViews(t, slices.Repeat([][]int{{3}}, 9), true)
}

// Each view of up to 4 nodes from 0 to 7 is held against the rule, alone and as the last of three.
func TestViewsOkOfAllSmallViews(t *testing.T) {
	right := 0
	for count := range 5 {
		eachPick(count, 8, func(pick []int) {
			for _, views := range [][][]int{{pick}, {{1}, {2, 3}, pick}} {
				got := impl.ViewsOk(views)
				if want := ruleViews(views); got != want {
					t.Fatalf("ViewsOk(%v) = %v; want %v", views, got, want)
				}
				if got {
					right++
				}
			}
		})
	}
	if want := 2 * (6 + 6*5 + 6*5*4 + 6*5*4*3); right != want {
		t.Errorf("%d views are right; want %d", right, want)
	}
}
