package tests

import "testing"

// With all answers there but one, the last one has it done, in whatever order they come.
func TestCallIsDoneByTheLastAnswer(t *testing.T) {
	for _, order := range [][]int{{2, 3, 4}, {4, 3, 2}, {3, 4, 2}, {3, 2, 4}} {
		s := newLifeScene(t, []int{1, 4, 2, 3})
		x := itemOf("k", "v", 1001)
		s.do(t, beginPut(1, "k", "v"), 0)
		for at, node := range order {
			s.wantCalls(t, putCall(0, "k", "v"))
			s.deliver(t, askStore(1, node, 1, 1, x))
			s.wantCalls(t, putCall(0, "k", "v"))
			s.deliver(t, tellStored(node, 1, 1, 1))
			if at < 2 {
				s.wantCalls(t, putCall(0, "k", "v"))
			}
		}
		s.wantCalls(t, doneCall(putCall(0, "k", "v"), 6, 1001, 1, 1, ""))
	}
}

// An answer that is told twice stands for nobody else, and changes nothing of a call that is done.
func TestCallAndAnswersThatAreToldTwice(t *testing.T) {
	s := newLifeScene(t, []int{1, 2, 3})
	s.do(t, beginGet(1, "k"), 0)
	s.twice(t, askSure(1, 2, 1, 1))
	s.deliver(t, askSure(1, 2, 1, 1), askSure(1, 2, 1, 1))
	s.twice(t, tellSure(2, 1, 1, 1))
	s.deliver(t, tellSure(2, 1, 1, 1), tellSure(2, 1, 1, 1))
	s.wantCalls(t, getCall(0, "k"))
	s.deliver(t, askSure(1, 3, 1, 1))
	s.twice(t, tellSure(3, 1, 1, 1))
	s.deliver(t, tellSure(3, 1, 1, 1))
	done := doneCall(getCall(0, "k"), s.place()-1, 0, 1, 1, "")
	s.wantCalls(t, done)
	s.deliver(t, tellSure(3, 1, 1, 1), tellSure(2, 1, 1, 1))
	s.wantCalls(t, done)
	s.wantFlying(t)
	// Nor do old answers count for the next call.
	s.do(t, beginGet(1, "k"), 0)
	s.lose(t, askSure(1, 2, 1, 2))
	s.deliver(t, askSure(1, 3, 1, 2))
	s.twice(t, tellSure(3, 1, 1, 2))
	s.deliver(t, tellSure(3, 1, 1, 2), tellSure(3, 1, 1, 2))
	s.wantCalls(t, done, getCall(done.Done+3, "k"))
}

// A question that is told twice has two answers; the second one, late, is of no weight for the next call.
func TestLateAnswerAndTheNextCall(t *testing.T) {
	s := newLifeScene(t, []int{1, 2})
	s.do(t, beginPut(1, "k", "one"), 0)
	s.do(t, copyAt(0), 0)
	s.do(t, deliverAt(0), 0)
	s.do(t, deliverAt(1), 0)
	first := doneCall(putCall(0, "k", "one"), 3, 1001, 1, 1, "")
	s.wantCalls(t, first)
	s.do(t, beginPut(1, "k", "two"), 0)
	s.do(t, deliverAt(0), 0)
	s.deliver(t, tellStored(2, 1, 1, 1))
	s.wantCalls(t, first, putCall(4, "k", "two"))
	s.deliver(t, askStore(1, 2, 1, 2, itemOf("k", "two", 1002)), tellStored(2, 1, 1, 2))
	s.wantCalls(t, first, doneCall(putCall(4, "k", "two"), 8, 1002, 1, 2, ""))
}

// The answer flies already when a later view is adopted: the call is done in its old Epoch, at the place of the answer.
func TestCallIsDoneBehindALaterView(t *testing.T) {
	s := newLifeScene(t, []int{1, 2}, []int{2, 3})
	x := itemOf("k", "one", 1001)
	s.do(t, beginPut(1, "k", "one"), 0)
	s.deliver(t, askStore(1, 2, 1, 1, x))
	s.do(t, adoptBy(2), 0)
	s.deliver(t, askInstall(2, 3, 2, x), tellDone(3, 2, 2))
	s.do(t, beginPut(2, "k", "two"), 0)
	s.deliver(t, askStore(2, 3, 2, 1, itemOf("k", "two", 2001)), tellStored(3, 2, 2, 1))
	second := doneCall(putCall(5, "k", "two"), 7, 2001, 2, 1, "")
	s.wantCalls(t, putCall(0, "k", "one"), second)
	s.deliver(t, tellStored(2, 1, 1, 1))
	s.wantCalls(t, doneCall(putCall(0, "k", "one"), 8, 1001, 1, 1, ""), second)
	s.wantMembers(t, counted(serving(1, 1, x), 1), counted(serving(2, 2, itemOf("k", "two", 2001)), 1), based(3, 2, itemOf("k", "two", 2001)))
	// The old one serves on, but who was with it is gone: its next call is never done.
	s.do(t, beginGet(1, "k"), 0)
	s.do(t, beginGet(2, "k"), 0)
	s.calm(t)
	s.wantCalls(t, doneCall(putCall(0, "k", "one"), 8, 1001, 1, 1, ""), second, getCall(9, "k"), doneCall(getCall(10, "k"), 13, 2001, 2, 2, "two"))
}

// A get that is done late has what its member had, and not what was put in a later Epoch meanwhile.
func TestGetIsDoneBehindALaterView(t *testing.T) {
	s := newLifeScene(t, []int{1, 2}, []int{2})
	s.do(t, beginPut(1, "k", "one"), 0)
	s.calm(t)
	s.do(t, beginGet(1, "k"), 0)
	s.deliver(t, askSure(1, 2, 1, 2))
	s.do(t, adoptBy(2), 0)
	s.do(t, beginPut(2, "k", "two"), 0)
	s.do(t, beginGet(2, "k"), 0)
	s.deliver(t, tellSure(2, 1, 1, 2))
	s.wantCalls(t,
		doneCall(putCall(0, "k", "one"), 2, 1001, 1, 1, ""), doneCall(getCall(3, "k"), 8, 1001, 1, 2, "one"),
		doneCall(putCall(6, "k", "two"), 6, 2001, 2, 1, ""), doneCall(getCall(7, "k"), 7, 2001, 2, 2, "two"))
}

// Who answered falls, and the answer comes all the same; who asked falls, and the call is never done.
func TestCallAndWhoFalls(t *testing.T) {
	s := newLifeScene(t, []int{1, 2, 3}, []int{1, 2})
	x := itemOf("k", "v", 1001)
	s.do(t, beginPut(1, "k", "v"), 0)
	s.deliver(t, askStore(1, 2, 1, 1, x), askStore(1, 3, 1, 1, x))
	asked := s.branch()
	s.do(t, fallBy(2), 0)
	s.do(t, fallBy(3), 0)
	s.deliver(t, tellStored(3, 1, 1, 1), tellStored(2, 1, 1, 1))
	s.wantCalls(t, doneCall(putCall(0, "k", "v"), 6, 1001, 1, 1, ""))
	s.wantMembers(t, counted(serving(1, 1, x), 1), fallen(2, 1), fallen(3, 1))
	asked.deliver(t, tellStored(3, 1, 1, 1))
	asked.do(t, fallBy(1), 0)
	asked.deliver(t, tellStored(2, 1, 1, 1))
	asked.wantCalls(t, putCall(0, "k", "v"))
	asked.do(t, adoptBy(1), 0)
	asked.calm(t)
	asked.do(t, beginGet(1, "k"), 0)
	asked.calm(t)
	// What was being put is there, but the call of the put is told nothing of it.
	if calls := asked.now.Calls; calls[0] != putCall(0, "k", "v") || calls[1] != doneCall(getCall(calls[1].When, "k"), asked.place()-1, 1001, 2, 1, "v") {
		t.Errorf("the calls are %+v", calls)
	}
}

// Who adopts a later view drops what it had begun; the answers of the old Epoch come to nothing, though its Nums begin anew.
func TestCallAndWhoAdopts(t *testing.T) {
	s := newLifeScene(t, []int{1, 2}, []int{1, 2})
	x := itemOf("k", "one", 1001)
	s.do(t, beginPut(1, "k", "one"), 0)
	s.deliver(t, askStore(1, 2, 1, 1, x))
	s.do(t, adoptBy(1), 0)
	s.deliver(t, askInstall(1, 2, 2), tellDone(2, 1, 2))
	s.do(t, beginPut(1, "k", "two"), 0)
	s.deliver(t, tellStored(2, 1, 1, 1))
	s.wantCalls(t, putCall(0, "k", "one"), putCall(5, "k", "two"))
	s.deliver(t, askStore(1, 2, 2, 1, itemOf("k", "two", 2001)), tellStored(2, 1, 2, 1))
	s.wantCalls(t, putCall(0, "k", "one"), doneCall(putCall(5, "k", "two"), 8, 2001, 2, 1, ""))
}

// Two members that serve in Epochs of their own have calls at once; each is told to the one that asked.
func TestCallsOfTwoThatServe(t *testing.T) {
	s := newLifeScene(t, []int{1, 2, 3}, []int{4, 2, 3})
	s.do(t, beginPut(4, "k", "none"), 1)
	s.do(t, beginPut(1, "k", "old"), 0)
	x := itemOf("k", "old", 1001)
	s.deliver(t, askStore(1, 3, 1, 1, x), askStore(1, 2, 1, 1, x))
	s.do(t, adoptBy(4), 0)
	s.deliver(t, askSeal(4, 3, 2), tellState(3, 4, 2, x), askInstall(4, 2, 2, x), askInstall(4, 3, 2, x), tellDone(2, 4, 2), tellDone(3, 4, 2))
	s.do(t, beginGet(4, "k"), 0)
	s.deliver(t, askSure(4, 2, 2, 1), askSure(4, 3, 2, 1), tellSure(2, 4, 2, 1), tellStored(2, 1, 1, 1), tellSure(3, 4, 2, 1), tellStored(3, 1, 1, 1))
	s.wantCalls(t, putCall(0, "k", "none"), doneCall(putCall(1, "k", "old"), 17, 1001, 1, 1, ""), doneCall(getCall(11, "k"), 16, 1001, 2, 1, "old"))
}
