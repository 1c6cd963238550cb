package tests

import (
	"math/rand"
	"slices"
	"testing"

	"loop.example/janitor/impl"
)

// TestPromise39: FroGive of an active transaction that is not committed removes it, reports false, and tells its services; for all others it changes nothing.
func TestPromise39(t *testing.T) {
	count := map[string]int{}
	everyFront(t, 39, func(r *rand.Rand, f impl.FroState) {
		for tx := -1; tx <= impl.TxMost+1; tx++ {
			what := situation(f, tx)
			count[what]++
			if what != "waiting" {
				wantFroGive(t, what, f, tx, f, nil)
				continue
			}
			w, _ := wayOf(f, tx)
			wantFroGive(t, what, f, tx, withoutWay(f, tx), noAll(tx, impl.OpPlaces(w.Op)...), reported(tx, false)...)
		}
	})
	for _, what := range []string{"committed", "logged", "waiting", "unknown"} {
		if count[what] < 1000 {
			t.Errorf("%s: only %d", what, count[what])
		}
	}
}

// TestPromise39Edges: every kind of operation with any votes, a committed transaction with and without acknowledgements, one that is over, one that nobody started, and numbers out of their bounds.
func TestPromise39Edges(t *testing.T) {
	d := disk(1, yes(3), yes(6))
	for _, o := range someOps() {
		for _, can := range [][]int{nil, {1}, {2}, {3}, {1, 2}, {1, 2, 3}} {
			f := front(d, waiting(2, o, can...), resumed(3), waiting(5, o, can...), told(6, o, can, 1, 2), waiting(7, o))
			given := front(d, waiting(2, o, can...), resumed(3), told(6, o, can, 1, 2), waiting(7, o))
			places := modelPlaces(o.Kind)
			wantFroGive(t, "in the middle", f, 5, given, noAll(5, places...), reported(5, false)...)
			wantFroGive(t, "the first one", f, 2, front(d, f.Way[1:]...), noAll(2, places...), reported(2, false)...)
			wantFroGive(t, "the last one", f, 7, front(d, f.Way[:4]...), noAll(7, places...), reported(7, false)...)
			wantFroGive(t, "again", given, 5, given, nil)
			for _, tx := range append(badTxs(), 3, 6, 0, 4, 29) {
				wantFroGive(t, "not waiting", f, tx, f, nil)
			}
			full := front(padded(impl.LogMost), waiting(5, o, can...))
			wantFroGive(t, "a full log", full, 5, front(full.Disk), noAll(5, places...), reported(5, false)...)
			late := impl.FroState{Disk: d, Way: given.Way}
			wantFroHear(t, "a vote for what was given up", late, msgCan(3, 5), late, noAll(5, 3))
		}
	}
	over := front(disk(1, yes(3), end(3)))
	wantFroGive(t, "over", over, 3, over, nil)
}

// TestPromise40: FroTick sends MsgAsk to every service that has not prepared, and MsgYes to every service that has not acknowledged; and nothing else.
func TestPromise40(t *testing.T) {
	count := map[int]int{}
	everyFront(t, 40, func(r *rand.Rand, f impl.FroState) {
		sent := impl.FroTick(f)
		for _, w := range f.Way {
			for _, place := range services() {
				ask := !w.Yes && slices.Contains(impl.OpPlaces(w.Op), place) && !slices.Contains(w.Can, place)
				tell := w.Yes && !slices.Contains(w.Know, place)
				if ask {
					sent = wantNext(t, f, sent, msgAsk(place, w.Tx, w.Op))
					count[impl.MsgAsk]++
				}
				if tell {
					sent = wantNext(t, f, sent, msgYes(place, w.Tx))
					count[impl.MsgYes]++
				}
			}
		}
		if len(sent) > 0 {
			t.Fatalf("nobody waits for %v: %v", sent, f)
		}
	})
	if count[impl.MsgAsk] < 1000 || count[impl.MsgYes] < 1000 {
		t.Errorf("sent: %v", count)
	}
}

// wantNext takes the first message off a list.
func wantNext(t *testing.T, f impl.FroState, sent []impl.MsgMsg, m impl.MsgMsg) []impl.MsgMsg {
	t.Helper()
	if len(sent) == 0 || sent[0] != m || !impl.MsgOk(m) {
		t.Fatalf("the next one is not %v of %v: %v", m, sent, f)
	}
	return sent[1:]
}

// TestPromise40Edges: no active transaction, one that waits for votes, one that waits for acknowledgements, and several, in the order of their numbers.
func TestPromise40Edges(t *testing.T) {
	wantFroTick(t, "nothing", impl.FroState{})
	wantFroTick(t, "nothing is active", front(disk(2, yes(3), end(4), end(3))))
	wantFroTick(t, "logged, and not active", front(allSafe(yes(3))))
	for _, o := range someOps() {
		for _, list := range [][]int{nil, {1}, {2}, {3}, {1, 2}, {1, 3}, {2, 3}, {1, 2, 3}} {
			asked := askAll(5, o, without(modelPlaces(o.Kind), list)...)
			tellings := yesAll(5, without(services(), list)...)
			wantFroTick(t, "waiting for votes", front(impl.LogDisk{}, waiting(5, o, list...)), asked...)
			for _, can := range [][]int{nil, {2}, {1, 2, 3}} {
				wantFroTick(t, "waiting for acknowledgements", front(allSafe(yes(5)), told(5, o, can, list...)), tellings...)
			}
			wantFroTick(t, "after a crash", front(allSafe(yes(5)), told(5, impl.OpOp{}, nil, list...)), tellings...)
		}
	}
	want := slices.Concat(askAll(0, opIn(1, 2), 3), askAll(5, opLet(1, 2, 3, 7), 1, 2, 3), yesAll(6, 1, 3), yesAll(20, 1, 2, 3))
	wantFroTick(t, "several", goodFront(), want...)
}

// TestPromise40Many: many active transactions come in the order of their numbers in every call.
func TestPromise40Many(t *testing.T) {
	var f impl.FroState
	var want []impl.MsgMsg
	for tx := range impl.TxMost + 1 {
		f = mustBegin(t, f, tx, opNext(tx%10, 1))
		want = append(want, askAll(tx, opNext(tx%10, 1), 2, 3)...)
	}
	for range 20 {
		wantFroTick(t, "all", f, want...)
		again, _, _ := impl.FroHear(f, msgKnow(1, 7))
		if !sameFront(again, f) {
			t.Fatalf("got %v, want %v", again, f)
		}
	}
}

// TestPromise41: after FroFall the coordinator is valid, its log has the remaining records, and active are exactly the transactions that are committed and not acknowledged by all.
func TestPromise41(t *testing.T) {
	count := map[string]int{}
	everyFront(t, 41, func(r *rand.Rand, f impl.FroState) {
		for _, keep := range []int{-1 << 63, -1, 0, 1, 2, 3, impl.LogMost, 1<<63 - 1} {
			got := impl.FroFall(f, keep)
			if !impl.FroOk(got) || !modelFroOk(got) {
				t.Fatalf("invalid: %v, %d: %v", f, keep, got)
			}
			wantDisk(t, "the remaining records", got.Disk, impl.DiskFall(f.Disk, keep))
			n := 0
			for tx := range impl.TxMost + 1 {
				committed := slices.ContainsFunc(got.Disk.Notes, func(n impl.LogNote) bool { return sameNote(n, yes(tx)) })
				ended := slices.ContainsFunc(got.Disk.Notes, func(n impl.LogNote) bool { return sameNote(n, end(tx)) })
				w, active := wayOf(got, tx)
				if active != (committed && !ended) || active && !sameWay(w, resumed(tx)) {
					t.Fatalf("%d is active %v: %v, %d: %v", tx, active, f, keep, got)
				}
				if active {
					n++
					count[situation(f, tx)]++
				}
			}
			if n != len(got.Way) {
				t.Fatalf("active are %v: %v, %d", got.Way, f, keep)
			}
		}
	})
	// What a crash makes active was committed, or its end was not forced.
	if count["committed"] < 500 || count["logged"] < 100 || count["waiting"]+count["unknown"] > 0 {
		t.Errorf("active after a crash: %v", count)
	}
}

// TestPromise41Edges: a crash that leaves none, some and all of the records that are not forced; a commit ahead of another one with a smaller number, a commit twice, an end ahead of its commit, a commit that is not forced.
func TestPromise41Edges(t *testing.T) {
	notes := []impl.LogNote{yes(9), yes(2), yes(4), end(4), end(9), end(2)}
	f := front(disk(3, notes...), waiting(1, opIn(1, 2), 1), told(2, opIn(1, 2), []int{1, 3}, 1, 2, 3), waiting(12, opIn(1, 2)))
	for keep, active := range map[int][]int{-1 << 63: {2, 4, 9}, -1: {2, 4, 9}, 0: {2, 4, 9}, 1: {2, 9}, 2: {2}, 3: nil, 4: nil, 1<<63 - 1: nil} {
		want := front(allSafe(notes[:3+min(max(keep, 0), 3)]...))
		for _, tx := range active {
			want.Way = append(want.Way, resumed(tx))
		}
		wantFroFall(t, "some are left", f, keep, want)
	}
	lost := front(disk(0, yes(5), yes(6)), told(5, opIn(1, 2), nil, 1), resumed(6))
	wantFroFall(t, "commits that were not forced", lost, 0, impl.FroState{})
	wantFroFall(t, "one commit is left", lost, 1, front(allSafe(yes(5)), resumed(5)))
	wantFroFall(t, "both commits are left", lost, 2, front(allSafe(yes(5), yes(6)), resumed(5), resumed(6)))
	wantFroFall(t, "a commit twice", front(allSafe(yes(5), yes(5))), 0, front(allSafe(yes(5), yes(5)), resumed(5)))
	wantFroFall(t, "an end ahead of its commit", front(allSafe(end(5), yes(5)), resumed(5)), 0, front(allSafe(end(5), yes(5))))
	wantFroFall(t, "an end without a commit", front(allSafe(end(5), yes(6))), 0, front(allSafe(end(5), yes(6)), resumed(6)))
	full := padded(impl.LogMost, yes(5))
	wantFroFall(t, "a full log", front(full, told(5, opIn(1, 2), nil, 1, 2, 3)), 0, front(full, resumed(5)))
	var all impl.FroState
	for tx := impl.TxMost; tx >= 0; tx-- {
		all.Disk.Notes = append(all.Disk.Notes, yes(tx))
	}
	got := impl.FroFall(all, 200)
	for tx := range impl.TxMost + 1 {
		if len(got.Way) != impl.TxMost+1 || !sameWay(got.Way[tx], resumed(tx)) {
			t.Fatalf("not all are active in order: %v", got)
		}
	}
}

// TestPromise41Again: two crashes are as one that leaves as much.
func TestPromise41Again(t *testing.T) {
	everyFront(t, 410, func(r *rand.Rand, f impl.FroState) {
		keep := r.Intn(4)
		once := impl.FroFall(f, keep)
		wantFroFall(t, "again", once, r.Intn(4), once)
	})
}
