package tests

import (
	"math/rand"
	"slices"
	"testing"

	"loop.example/janitor/impl"
)

// goodFront has two transactions that wait, one that is committed, one that a crash has left, and one that is over.
func goodFront() impl.FroState {
	d := disk(3, yes(6), yes(3), end(3), yes(20))
	return front(d, waiting(0, opIn(1, 2), 1), waiting(5, opLet(1, 2, 3, 7)), told(6, opOut(1, 2), []int{1, 2, 3}, 2), resumed(20))
}

// withNote has one more record, ahead of all others.
func withNote(f impl.FroState, n impl.LogNote) impl.FroState {
	out := copyFront(f)
	out.Disk.Notes = slices.Insert(out.Disk.Notes, 0, n)
	out.Disk.Safe++
	return out
}

// badServiceLists are no lists of services in ascending order.
func badServiceLists() [][]int {
	out := [][]int{{1, 1}, {2, 1}, {3, 2}, {1, 3, 2}, {1, 2, 2}, {1, 2, 3, 3}, {1, 2, 3, 4}, {0, 1, 2, 3}, {3, 2, 1}}
	for _, place := range badPlaces() {
		out = append(out, []int{place}, []int{1, place}, []int{place, 3})
	}
	return out
}

// invalidFronts changes one part of a valid coordinator at a time.
func invalidFronts() []impl.FroState {
	good := goodFront()
	var out []impl.FroState
	for _, d := range invalidDisks()[:60] {
		out = append(out, impl.FroState{Disk: d})
	}
	for _, n := range []impl.LogNote{ready(7, nil), readyTo(7, set("a7", 1)), no(7), no(6), ready(6, nil)} {
		out = append(out, withNote(good, n), front(allSafe(n)), front(disk(0, yes(1), n)))
	}
	for _, safe := range []int{-1, len(good.Disk.Notes) + 1, 1<<63 - 1} {
		bad := copyFront(good)
		bad.Disk.Safe = safe
		out = append(out, bad)
	}
	out = append(out, front(padded(impl.LogMost+1)), front(padded(impl.LogMost+1, yes(5)), resumed(5)))
	return slices.Concat(out, outOfOrder(), badWays())
}

// outOfOrder has active transactions twice, in another order, too many of them, or with numbers out of their bounds.
func outOfOrder() []impl.FroState {
	var out []impl.FroState
	good := goodFront()
	for i := 1; i < len(good.Way); i++ {
		swapped, twice := copyFront(good), copyFront(good)
		swapped.Way[i-1], swapped.Way[i] = swapped.Way[i], swapped.Way[i-1]
		twice.Way = slices.Insert(twice.Way, i, twice.Way[i])
		out = append(out, swapped, twice)
	}
	all := impl.FroState{}
	for tx := range impl.TxMost + 1 {
		all.Way = append(all.Way, waiting(tx, opIn(1, 2)))
	}
	for _, w := range []impl.FroTx{all.Way[0], all.Way[impl.TxMost], waiting(impl.TxMost+1, opIn(1, 2))} {
		out = append(out, front(all.Disk, append(slices.Clone(all.Way), w)...))
	}
	out = append(out, front(all.Disk, append([]impl.FroTx{waiting(-1, opIn(1, 2))}, all.Way...)...))
	out = append(out, front(all.Disk, slices.Repeat(all.Way, 2)...))
	for _, tx := range badTxs() {
		out = append(out, front(impl.LogDisk{}, waiting(tx, opIn(1, 2))), front(impl.LogDisk{}, resumed(tx)))
	}
	return out
}

// badWays has one active transaction each that does not fit the log, or itself.
func badWays() []impl.FroState {
	good := goodFront()
	var out []impl.FroState
	for _, w := range good.Way {
		other := w
		other.Yes = !w.Yes
		out = append(out, withWay(good, other), withWay(good, told(7, opIn(1, 2), []int{1, 3})), withWay(good, resumed(7)), withWay(good, waiting(3, opIn(1, 2))))
		for _, list := range badServiceLists() {
			can, know := w, w
			can.Can, know.Know = list, list
			out = append(out, withWay(good, can), withWay(good, know))
		}
	}
	for _, o := range append(invalidOps(), impl.OpOp{}) {
		out = append(out, front(impl.LogDisk{}, waiting(5, o)), withWay(good, waiting(5, o, 1, 2, 3)))
	}
	for _, know := range [][]int{{1}, {2}, {3}, {1, 2, 3}} {
		w := waiting(5, opIn(1, 2), 1)
		w.Know = know
		out = append(out, withWay(good, w), front(impl.LogDisk{}, w))
	}
	return out
}

func wantFroOk(t *testing.T, what string, f impl.FroState, want bool) {
	t.Helper()
	if impl.FroOk(f) != want {
		t.Errorf("%s: %v: want %v", what, f, want)
	}
}

// TestPromise36: in a valid coordinator an active transaction is committed if and only if that is logged; one that is committed without being logged makes it invalid.
func TestPromise36(t *testing.T) {
	count := map[bool]int{}
	everyFront(t, 36, func(r *rand.Rand, f impl.FroState) {
		wantFroOk(t, "from a run, or by its parts", f, true)
		for _, w := range f.Way {
			if logged := impl.DiskOf(f.Disk, w.Tx) == impl.LogYes; logged != w.Yes {
				t.Fatalf("%d is committed %v: %v", w.Tx, w.Yes, f)
			}
			other := told(w.Tx, w.Op, w.Can)
			if w.Yes {
				other = waiting(w.Tx, opIn(1, 2), w.Can...)
			}
			wantFroOk(t, "the other way round", withWay(f, other), false)
			if len(f.Disk.Notes) < impl.LogMost {
				wantFroOk(t, "one more commit in the log", withNote(f, yes(w.Tx)), w.Yes)
				wantFroOk(t, "one more end in the log", withNote(f, end(w.Tx)), true)
			}
			count[w.Yes]++
		}
	})
	if count[true] < 1000 || count[false] < 1000 {
		t.Errorf("committed and not: %v", count)
	}
}

// TestPromise36Logged: without its record in the log a committed transaction makes the coordinator invalid; the record of another one, or an end, does not help.
func TestPromise36Logged(t *testing.T) {
	good := goodFront()
	for _, tx := range []int{6, 20} {
		less := copyFront(good)
		less.Disk.Notes = slices.DeleteFunc(less.Disk.Notes, func(n impl.LogNote) bool { return n.Tx == tx })
		wantFroOk(t, "not logged", less, false)
		wantFroOk(t, "only an end is logged", withNote(less, end(tx)), false)
		wantFroOk(t, "another one is logged", withNote(less, yes(7)), false)
		wantFroOk(t, "logged", withNote(less, yes(tx)), true)
		wantFroOk(t, "not active", withoutWay(less, tx), true)
	}
	for _, tx := range []int{0, 5} {
		wantFroOk(t, "logged without being committed", withNote(good, yes(tx)), false)
		wantFroOk(t, "an end without a commit", withNote(good, end(tx)), true)
	}
}

// TestPromise36Edges: no transaction, all of them, the first and the last one, any operation of a committed one, all votes without a commit, votes of other services, commits that nobody remembers, a full log.
func TestPromise36Edges(t *testing.T) {
	wantFroOk(t, "nothing", impl.FroState{}, true)
	wantFroOk(t, "empty lists", impl.FroState{Disk: impl.LogDisk{Notes: []impl.LogNote{}}, Way: []impl.FroTx{}}, true)
	wantFroOk(t, "several", goodFront(), true)
	wantFroOk(t, "commits alone", front(disk(1, yes(3), yes(3), end(3), end(4), yes(0), yes(29))), true)
	wantFroOk(t, "a full log", front(padded(impl.LogMost, yes(5)), waiting(4, opIn(1, 2)), resumed(5)), true)
	all, allYes := impl.FroState{}, impl.FroState{}
	for tx := range impl.TxMost + 1 {
		all.Way = append(all.Way, waiting(tx, opNext(9, 99), 1, 2, 3))
		allYes.Way = append(allYes.Way, told(tx, opNext(9, 99), []int{2, 3}, 1, 2, 3))
		allYes.Disk.Notes = append(allYes.Disk.Notes, yes(tx))
	}
	wantFroOk(t, "all are active", all, true)
	wantFroOk(t, "all are committed", allYes, true)
	for _, o := range append(invalidOps(), someOps()...) {
		wantFroOk(t, "a committed operation", front(allSafe(yes(5)), told(5, o, nil)), true)
	}
	for _, o := range someOps() {
		for _, list := range [][]int{nil, {}, {1}, {2}, {3}, {1, 2}, {1, 3}, {2, 3}, {1, 2, 3}} {
			wantFroOk(t, "votes", front(impl.LogDisk{}, waiting(5, o, list...)), true)
			wantFroOk(t, "votes", front(disk(0, yes(5)), told(5, o, list)), true)
			wantFroOk(t, "acknowledgements", front(disk(0, yes(5)), told(5, o, nil, list...)), true)
		}
	}
}

// TestPromise36Invalid: a log with a record of another kind, active transactions out of order or too many, one that does not fit the log, one that waits with an invalid operation or with acknowledgements, lists that are none of services.
func TestPromise36Invalid(t *testing.T) {
	for _, f := range invalidFronts() {
		wantFroOk(t, "invalid", f, false)
	}
	for _, d := range invalidDisks() {
		wantFroOk(t, "an invalid log", impl.FroState{Disk: d}, false)
	}
}

// TestPromise36Model: any changed part.
func TestPromise36Model(t *testing.T) {
	count := map[bool]int{}
	everyFront(t, 360, func(r *rand.Rand, f impl.FroState) {
		changed := copyFront(f)
		if len(f.Way) == 0 {
			return
		}
		w := &changed.Way[r.Intn(len(f.Way))]
		switch r.Intn(7) {
		case 0:
			w.Tx += r.Intn(5) - 2
		case 1:
			w.Yes = !w.Yes
		case 2:
			w.Op.Who += r.Intn(3) - 1
		case 3:
			w.Can = append(w.Can, r.Intn(5))
		case 4:
			w.Know = append(w.Know, r.Intn(5))
		case 5:
			changed.Disk.Notes = append(changed.Disk.Notes, impl.LogNote{Kind: 1 + r.Intn(4), Tx: w.Tx})
		case 6:
			changed.Disk.Notes = changed.Disk.Notes[:r.Intn(len(f.Disk.Notes)+1)]
		}
		want := modelFroOk(changed)
		wantFroOk(t, "changed", changed, want)
		count[want]++
	})
	if count[true] < 400 || count[false] < 400 {
		t.Errorf("valid and not: %v", count)
	}
}
