package tests

import (
	"fmt"
	"slices"
	"testing"

	"loop.example/janitor/impl"
)

// empty is three empty stores.
func empty() []impl.StoStore {
	return stores(store(), store(), store())
}

// loggedIn is the stores after a login of user 1 with session 2 as transaction 0.
func loggedIn() []impl.StoStore {
	return stores(store(item("s2", 1)), store(), store(item("a0", impl.OpIn)))
}

// logged is the coordinator with a log and nothing active, though something should be.
func logged(notes ...impl.LogNote) impl.FroState {
	return front(allSafe(notes...))
}

// withLogs is a system with operations and logs; nobody has to be able to get there.
func withLogs(f impl.FroState, ops []impl.OpOp, disks ...impl.LogDisk) impl.WldWorld {
	return world(f, disks, nil, ops, nil)
}

// TestViewsNothing: nothing is committed, nothing is there, nobody is in doubt, whatever was started.
func TestViewsNothing(t *testing.T) {
	wantViews(t, "no operation", impl.WldNew(), agreed(nil, empty()))
	wantViews(t, "operations without a trace", idle(impl.TxMost+1), agreed(nil, empty()))
	wantViews(t, "started", mustRun(t, impl.WldNew(), evDo(opIn(1, 2)), evDo(opOut(1, 2))), agreed(nil, empty()))
	wantViews(t, "messages and outcomes", withOuts(withNet(idle(2), msgYes(1, 0), msgCan(2, 1)), reported(0, true)...), agreed(nil, empty()))
	wantViews(t, "something of all", goodWorld(), agreed([]int{0, 1}, stores(store(item("s2", 1)), store(item("c3", 1, 5672)), store(item("a0", 1), item("a1", 2))), 1, 2))
}

// glance is an event, and what the views are after it.
type glance struct {
	e    impl.EvEvent
	want views
}

// wantGlances also wants the same views if then a place crashes and keeps so many records that are not forced.
func wantGlances(t *testing.T, w impl.WldWorld, keeps []int, list []glance) impl.WldWorld {
	t.Helper()
	for i, g := range list {
		w = mustRun(t, w, g.e)
		wantViews(t, fmt.Sprint("glance ", i, ", ", g.e), w, g.want)
		for place := range impl.PlcMany {
			for _, keep := range keeps {
				wantViews(t, fmt.Sprint("glance ", i, ", crash of ", place), mustRun(t, w, evFall(place, keep)), g.want)
			}
		}
	}
	return w
}

// TestViewsCommit: a login counts from the moment when the coordinator has logged its commit, whether all, some or none of its services know of it; in doubt it is from the first one that has prepared it to the last one that is told.
func TestViewsCommit(t *testing.T) {
	before, doubted := agreed(nil, empty()), agreed(nil, empty(), 0)
	unknown, known := agreed([]int{0}, loggedIn(), 0), agreed([]int{0}, loggedIn())
	asked := mustRun(t, impl.WldNew(), evDo(opIn(1, 2)))
	voted := wantGlances(t, asked, []int{-1, 1000}, []glance{{impl.EvEvent{}, before}, {evHear(0), doubted}, {evHear(0), doubted}, {evHear(0), doubted}})
	wantGlances(t, voted, []int{-1, 1000}, []glance{
		{evHear(0), unknown}, {evHear(0), unknown}, {evHear(0), unknown}, {evHear(0), known},
		{evHear(0), known}, {evHear(0), known}, {evHear(0), known},
	})
	wantGlances(t, voted, []int{-1, 1000}, []glance{
		{evHear(0), unknown}, {evHear(2), unknown}, {evLose(0), unknown}, {evFall(0, 0), unknown}, {evFall(1, 0), unknown}, {evTick(1), unknown},
		{evLose(0), unknown}, {evLose(0), unknown}, {evHear(0), unknown}, {evHear(0), known},
	})
	lost := mustRun(t, mustRun(t, voted, evHear(0)), evFall(0, -1), evFall(1, -1), evFall(2, -1), evFall(3, -1), evLose(0), evLose(0), evLose(0))
	wantViews(t, "known to nobody but the coordinator's log", lost, unknown)
	wantViews(t, "known to all again", impl.WldCalm(lost, 1), known)
}

// TestViewsPrepared: a transaction that all its services have prepared is in doubt, and nowhere else, as long as the coordinator has not logged its commit; and for good, if it crashes before.
func TestViewsPrepared(t *testing.T) {
	start := played(t, impl.WldNew(), newModel(), opIn(1, 2))
	only, doubted := agreed([]int{0}, loggedIn()), agreed([]int{0}, loggedIn(), 1)
	prepared := wantGlances(t, mustRun(t, start, evDo(opLet(1, 2, 3, 7))), []int{-1, 1000}, []glance{
		{impl.EvEvent{}, only}, {evHear(1), doubted}, {evHear(0), doubted}, {evHear(0), doubted}, {evHear(2), doubted}, {evHear(1), doubted},
	})
	committed := agreed([]int{0, 1}, stores(store(item("s2", 1)), store(item("c3", 1, 5672)), store(item("a0", 1), item("a1", 2))), 1)
	wantGlances(t, prepared, []int{-1, 1000}, []glance{{evHear(0), committed}, {evHear(1), committed}, {evHear(1), committed}})
	crashed := wantGlances(t, prepared, []int{-1, 1000}, []glance{{evFall(0, 0), doubted}, {evHear(0), doubted}, {evHear(0), doubted}})
	wantViews(t, "everybody has asked", impl.WldCalm(crashed, 1), only)
}

// TestViewsAborted: what was aborted is nowhere; in doubt it is until its last service is told, and again after a crash that takes the record of the abort.
func TestViewsAborted(t *testing.T) {
	none, doubted := agreed(nil, empty()), agreed(nil, empty(), 0)
	asked := mustRun(t, impl.WldNew(), evDo(opLet(1, 2, 3, 7)))
	told := wantGlances(t, asked, []int{1000}, []glance{
		{evHear(1), doubted}, {evHear(1), doubted}, {evHear(0), doubted}, {evHear(2), doubted},
		{evHear(0), doubted}, {evHear(0), doubted}, {evHear(0), doubted}, {evHear(0), doubted}, {evHear(0), none},
	})
	for _, place := range []int{impl.PlcMay, impl.PlcDone} {
		wantViews(t, "the record of the abort is lost", mustRun(t, told, evFall(place, 0)), doubted)
		wantViews(t, "and there again", impl.WldCalm(mustRun(t, told, evFall(place, 0)), 1), none)
	}
	wantViews(t, "the others have no such record", mustRun(t, told, evFall(0, 0), evFall(impl.PlcIn, 0)), none)
	given := mustRun(t, impl.WldNew(), evDo(opIn(1, 2)), evHear(0), evHear(0), evGive(0))
	wantViews(t, "given up", given, doubted)
	wantViews(t, "all are told", mustRun(t, given, evHear(2), evHear(2)), none)
}

// TestViewsOrder: the order is that of the commits in the log of the coordinator, not that of the numbers, and not that in which a service got to know of them.
func TestViewsOrder(t *testing.T) {
	w := mustRun(t, impl.WldNew(), evDo(opIn(1, 2)), evDo(opIn(3, 4)), evDo(opIn(5, 6)))
	w = mustRun(t, w, hears(6)...)
	list := stores(store(item("s2", 1), item("s4", 3), item("s6", 5)), store(), store(item("a0", 1), item("a1", 1), item("a2", 1)))
	w = mustRun(t, w, evHear(4), evHear(4), evHear(0), evHear(0), evHear(0), evHear(0))
	wantViews(t, "the last one first", w, agreed([]int{2, 0, 1}, list, 0, 1, 2))
	wantViews(t, "all is over", impl.WldCalm(w, 1), agreed([]int{2, 0, 1}, list))
	needed := []impl.OpOp{opTrade(3, 7, 4), opLet(1, 2, 3, 7), opIn(1, 2)}
	disks := logs(
		allSafe(ready(1, []string{"s2"}), readyTo(2, set("s2", 1)), yes(2), yes(1)),
		allSafe(readyTo(0, del("c3"), set("f4", 1, 1, 1)), readyTo(1, set("c3", 1, 5672)), yes(0), yes(1)),
		allSafe(readyTo(0, set("a0", 3)), yes(0), readyTo(1, set("a1", 2)), yes(1), readyTo(2, set("a2", 1)), yes(2)))
	all := stores(store(item("s2", 1)), store(item("f4", 1, 1, 1)), store(item("a0", 3), item("a1", 2), item("a2", 1)))
	wantViews(t, "each behind the one that it needs", withLogs(logged(yes(2), yes(1), yes(0)), needed, disks...), agreed([]int{2, 1, 0}, all))
	upside := views{order: []int{0, 1, 2}, places: stores(at(all, 1), store(item("c3", 1, 5672), item("f4", 1, 1, 1)), at(all, 3)), whole: empty()}
	wantViews(t, "the other way round", withLogs(logged(yes(0), yes(1), yes(2)), needed, disks...), upside)
}

// TestViewsSameKey: of two transactions that write one key the later one in the order of the coordinator counts; what a removed key was does not.
func TestViewsSameKey(t *testing.T) {
	ops := []impl.OpOp{opIn(1, 2), opOut(1, 2), opIn(3, 2)}
	sessions := allSafe(readyTo(0, set("s2", 1)), readyTo(1, del("s2")), readyTo(2, set("s2", 3)), yes(2), yes(1), yes(0))
	audit := allSafe(readyTo(0, set("a0", 1)), readyTo(1, set("a1", 5)), readyTo(2, set("a2", 1)))
	audited := store(item("a0", 1), item("a1", 5), item("a2", 1))
	for _, x := range []struct {
		order []int
		in    impl.StoStore
		whole []impl.StoStore
	}{
		{[]int{0, 1, 2}, store(item("s2", 3)), stores(store(item("s2", 3)), store(), audited)},
		{[]int{0, 2, 1}, store(), loggedIn()},
		{[]int{2, 0, 1}, store(), stores(store(item("s2", 3)), store(), store(item("a2", 1)))},
		{[]int{2, 1, 0}, store(item("s2", 1)), stores(store(item("s2", 3)), store(), store(item("a2", 1)))},
		{[]int{1, 0, 2}, store(item("s2", 3)), empty()},
		{[]int{1, 2, 0}, store(item("s2", 1)), empty()},
	} {
		w := withLogs(logged(yes(x.order[0]), yes(x.order[1]), yes(x.order[2])), ops, sessions, disk(0), audit)
		ok := slices.IsSorted(x.order)
		wantViews(t, fmt.Sprint(x.order), w, views{x.order, stores(x.in, store(), audited), x.whole, ok, []int{0, 1, 2}})
	}
}

// TestViewsOnce: a transaction whose commit is logged more than once is listed, and executed, once: where its first record is. Ends change nothing.
func TestViewsOnce(t *testing.T) {
	ops := []impl.OpOp{opIn(3, 4), opIn(1, 2), opOut(1, 2)}
	disks := logs(allSafe(readyTo(0, set("s4", 3)), readyTo(1, set("s2", 1)), readyTo(2, del("s2"))), disk(0), disk(0))
	whole := stores(store(item("s4", 3)), store(), store(item("a0", 1), item("a1", 1), item("a2", 5)))
	for _, notes := range [][]impl.LogNote{
		{yes(1), yes(0), yes(2)}, {yes(1), yes(0), yes(1), yes(2), yes(0), yes(1)}, {yes(1), yes(1), yes(0), yes(0), yes(2), yes(2)},
		{yes(1), end(1), yes(0), yes(2), yes(1), end(2), end(0)}, {end(2), end(0), yes(1), yes(0), end(2), yes(2), end(1), yes(1)},
	} {
		for safe := range 3 {
			w := withLogs(front(disk(safe, notes...)), ops, disks...)
			wantViews(t, fmt.Sprint(notes), w, views{[]int{1, 0, 2}, stores(store(item("s4", 3)), store(), store()), whole, true, []int{0, 1, 2}})
		}
	}
	ended := withLogs(logged(end(0), end(2)), ops, disks...)
	wantViews(t, "ends alone", ended, agreed(nil, empty(), 0, 1, 2))
}
