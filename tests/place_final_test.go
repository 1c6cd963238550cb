package tests

import (
	"math/rand"
	"slices"
	"testing"

	"loop.example/janitor/impl"
)

// lastReady returns the last prepared record of a transaction.
func lastReady(notes []impl.LogNote, tx int) impl.LogNote {
	var out impl.LogNote
	for _, n := range notes {
		if n.Kind == impl.LogReady && n.Tx == tx {
			out = n
		}
	}
	return out
}

func sortedLocks(d impl.LogDisk) []string {
	return slices.Sorted(slices.Values(impl.DiskLocks(d)))
}

func holdsAll(d impl.LogDisk, keys []string) bool {
	held := impl.DiskLocks(d)
	return !slices.ContainsFunc(keys, func(key string) bool { return !slices.Contains(held, key) })
}

// TestPromise81: a service that answers MsgCan has logged that it is prepared or committed; after a crash that leaves only forced records it answers the same, and holds the same locks.
func TestPromise81(t *testing.T) {
	count := map[int]int{}
	everyHeard(t, 81, func(h heard) {
		if h.m.Kind != impl.MsgAsk || !slices.Equal(h.sent, []impl.MsgMsg{msgCan(h.place, h.m.Tx)}) {
			return
		}
		kind := impl.DiskOf(h.after, h.m.Tx)
		if kind != impl.LogReady && kind != impl.LogYes {
			t.Fatalf("neither prepared nor committed: %v", h)
		}
		left := impl.DiskFall(h.after, 0)
		wantHeard(t, "after a crash", h.place, left, h.m, left, h.sent...)
		if impl.DiskOf(left, h.m.Tx) != kind || !holdsAll(left, impl.DiskLocks(h.after)) {
			t.Fatalf("a crash leaves %v: %v", left, h)
		}
		// A crash that takes an abort of another transaction brings back the locks of that one; without such an abort the locks are the same.
		if h.after.Safe == len(h.after.Notes) && !slices.Equal(impl.DiskLocks(left), impl.DiskLocks(h.after)) {
			t.Fatalf("a crash leaves the locks %v: %v", impl.DiskLocks(left), h)
		}
		if kind == impl.LogReady && !holdsAll(left, lastReady(h.after.Notes, h.m.Tx).Locks) {
			t.Fatalf("a crash leaves the locks %v: %v", impl.DiskLocks(left), h)
		}
		count[kind]++
	})
	if count[impl.LogReady] < 200 || count[impl.LogYes] < 50 {
		t.Errorf("prepared and committed: %v", count)
	}
}

// TestPromise81Edges: the vote forces also the records before it, so that an abort that was not forced survives with it.
func TestPromise81Edges(t *testing.T) {
	for place, life := range lives() {
		for tx, x := range life[:2] {
			d := hearAll(place, impl.LogDisk{}, msgAsk(place, tx, x.o))
			wantDisk(t, "the vote survives", impl.DiskFall(d, 0), allSafe(x.ready))
		}
		o := life[0].o
		aborted := hearAll(place, impl.LogDisk{}, msgAsk(place, 7, o), msgNo(place, 7))
		d := hearAll(place, aborted, msgAsk(place, 8, o))
		left := impl.DiskFall(d, 0)
		wantDisk(t, "the abort survives with the vote", left, d)
		wantOpen(t, "the abort survives with the vote", left, []int{8}, modelPlan(place, store(), 8, o).Locks)
		wantHeard(t, "the vote after the crash", place, left, msgAsk(place, 8, o), left, msgCan(place, 8))
		wantHeard(t, "the abort after the crash", place, left, msgAsk(place, 7, o), left, msgCant(place, 7))
	}
}

// TestPromise82: if a service can prepare two transactions, one after the other, it can in either order; locks and store are the same afterwards.
func TestPromise82(t *testing.T) {
	r := rand.New(rand.NewSource(82))
	count := map[int]int{}
	check := func(h heard) {
		txs := unusedTxs(h.after)
		if len(txs) < 2 {
			return
		}
		r.Shuffle(len(txs), func(i, k int) { txs[i], txs[k] = txs[k], txs[i] })
		first, second := nextAsk(r, h.place, h.after, txs[0]), nextAsk(r, h.place, h.after, txs[1])
		if wantEitherOrder(t, h.place, h.after, first, second) {
			count[h.place]++
		}
	}
	everyHeard(t, 820, check)
	everyLog(t, 821, check)
	for _, place := range services() {
		if count[place] < 200 {
			t.Errorf("place %d: only %d were prepared both", place, count[place])
		}
	}
}

// unusedTxs lists the transactions of which a log says nothing.
func unusedTxs(d impl.LogDisk) []int {
	var out []int
	for tx := range impl.TxMost + 1 {
		if modelKind(d.Notes, tx) == 0 {
			out = append(out, tx)
		}
	}
	return out
}

// canPrepare returns the log afterwards, and whether a record was written.
func canPrepare(place int, d impl.LogDisk, m impl.MsgMsg) (impl.LogDisk, bool) {
	h := hear(place, d, m)
	n, added := h.added()
	return h.after, added && n.Kind == impl.LogReady && slices.Equal(h.sent, []impl.MsgMsg{msgCan(place, m.Tx)})
}

func wantEitherOrder(t *testing.T, place int, d impl.LogDisk, first, second impl.MsgMsg) bool {
	t.Helper()
	one, ok := canPrepare(place, d, first)
	both, ok2 := canPrepare(place, one, second)
	if !ok || !ok2 {
		return false
	}
	two, ok := canPrepare(place, d, second)
	back, ok2 := canPrepare(place, two, first)
	if !ok || !ok2 {
		t.Fatalf("place %d, %v: %v and %v cannot be prepared in the other order", place, d, first, second)
	}
	if !slices.Equal(sortedLocks(both), sortedLocks(back)) || !sameStore(impl.DiskFold(both), impl.DiskFold(back)) {
		t.Fatalf("place %d, %v: %v and %v leave %v, in the other order %v", place, d, first, second, both, back)
	}
	for _, m := range []impl.MsgMsg{first, second} {
		if !sameNote(lastReady(both.Notes, m.Tx), lastReady(back.Notes, m.Tx)) {
			t.Fatalf("place %d, %v: %v leads to another record in the other order", place, d, m)
		}
	}
	return true
}

// TestPromise82Edges: two users, two sessions, two codes; also with room for just the two, and not with room for one less.
func TestPromise82Edges(t *testing.T) {
	may := []impl.LogNote{readyTo(9, set("c3", 1, 5672), set("f4", 2, 1, 1), set("f5", 3, 2, 1)), yes(9)}
	for _, x := range []struct {
		place         int
		notes         []impl.LogNote
		first, second impl.OpOp
	}{
		{impl.PlcIn, nil, opIn(1, 2), opIn(1, 3)},
		{impl.PlcIn, []impl.LogNote{readyTo(9, set("s2", 1), set("s3", 1)), yes(9)}, opLet(1, 2, 3, 7), opOut(1, 3)},
		{impl.PlcMay, may, opTrade(3, 7, 6), opNext(4, 1)},
		{impl.PlcMay, may, opNext(5, 1), opNext(4, 1)},
		{impl.PlcMay, may, opOut(3, 1), opNext(4, 1)},
		{impl.PlcMay, may, opLet(1, 2, 4, 7), opTrade(3, 7, 6)},
		{impl.PlcDone, nil, opIn(1, 2), opIn(1, 2)},
	} {
		first, second := msgAsk(x.place, 1, x.first), msgAsk(x.place, 2, x.second)
		for _, d := range []impl.LogDisk{allSafe(x.notes...), padded(impl.LogMost-4, x.notes...)} {
			if !wantEitherOrder(t, x.place, d, first, second) {
				t.Errorf("place %d: %v and %v are not prepared both", x.place, x.first, x.second)
			}
		}
		if d := padded(impl.LogMost-3, x.notes...); wantEitherOrder(t, x.place, d, first, second) || wantEitherOrder(t, x.place, d, second, first) {
			t.Errorf("place %d: %v and %v are prepared both without room", x.place, x.first, x.second)
		}
	}
}

// TestPromise83: a service that is told to commit a prepared transaction has its writes in its store, also after a crash; its locks are released, and a later abort has no effect.
func TestPromise83(t *testing.T) {
	count := 0
	everyHeard(t, 83, func(h heard) {
		for _, tx := range modelOpen(h.after.Notes) {
			wantFinal(t, h.place, h.after, tx)
			if commonKey(impl.DiskLocks(hearAll(h.place, h.after, msgYes(h.place, tx))), lastReady(h.after.Notes, tx).Locks) {
				t.Fatalf("%d is committed with its locks: %v", tx, h.after)
			}
			count++
		}
	})
	everyLog(t, 830, func(h heard) {
		for _, tx := range modelOpen(h.before.Notes) {
			if len(h.before.Notes) < impl.LogMost {
				wantFinal(t, h.place, h.before, tx)
			}
		}
	})
	if count < 1000 {
		t.Errorf("only %d are committed", count)
	}
}

func wantFinal(t *testing.T, place int, d impl.LogDisk, tx int) {
	t.Helper()
	h := hear(place, d, msgYes(place, tx))
	want := modelDo(modelFold(d.Notes), lastReady(d.Notes, tx).Writes)
	left := impl.DiskFall(h.after, 0)
	if !sameStore(impl.DiskFold(h.after), want) || !sameStore(impl.DiskFold(left), want) {
		t.Fatalf("the store is not %v: %v", want, h)
	}
	for _, x := range []impl.LogDisk{h.after, left} {
		if slices.Contains(impl.DiskOpen(x), tx) || impl.DiskOf(x, tx) != impl.LogYes {
			t.Fatalf("not committed: %v", h)
		}
		// The locks that are left are those of the transactions that were open besides.
		others := slices.DeleteFunc(slices.Clone(d.Notes), func(n impl.LogNote) bool { return n.Tx == tx })
		if !slices.Equal(impl.DiskLocks(x), modelLocks(others)) {
			t.Fatalf("locked are %v: %v", impl.DiskLocks(x), h)
		}
		wantHeard(t, "a later abort", place, x, msgNo(place, tx), x)
		wantHeard(t, "a later commit", place, x, msgYes(place, tx), x, msgKnow(place, tx))
	}
}

// TestPromise83Edges: a commit at each service, then an abort, crashes, and a transaction that needs what was locked.
func TestPromise83Edges(t *testing.T) {
	for _, x := range []struct {
		place      int
		o, next    impl.OpOp
		items      []impl.StoItem
		locks      []string
		nextLocks  []string
		nextWrites []impl.StoWrite
	}{
		{impl.PlcIn, opIn(1, 2), opOut(1, 2), []impl.StoItem{item("s2", 1)}, []string{"s2"}, []string{"s2"}, []impl.StoWrite{del("s2")}},
		{impl.PlcMay, opLet(1, 2, 3, 7), opTrade(3, 7, 4), []impl.StoItem{item("c3", 1, 5672)}, []string{"c3"}, []string{"c3", "f4", "u1"}, []impl.StoWrite{del("c3"), set("f4", 1, 1, 1)}},
		{impl.PlcDone, opNext(4, 1), opIn(1, 2), []impl.StoItem{item("a5", 4)}, []string{"a5"}, []string{"a6"}, []impl.StoWrite{set("a6", 1)}},
	} {
		d := hearAll(x.place, impl.LogDisk{}, msgAsk(x.place, 5, x.o))
		wantOpen(t, "prepared", d, []int{5}, x.locks)
		wantFold(t, "prepared", d)
		d = hearAll(x.place, d, msgYes(x.place, 5))
		for _, later := range []impl.LogDisk{d, impl.DiskFall(d, 0), impl.DiskFall(hearAll(x.place, d, msgNo(x.place, 5)), 0), hearAll(x.place, impl.DiskFall(d, 0), msgNo(x.place, 5))} {
			wantDisk(t, "committed", later, d)
			wantOpen(t, "committed", later, nil, nil)
			wantFold(t, "committed", later, x.items...)
			wantHeard(t, "the next one", x.place, later, msgAsk(x.place, 6, x.next), after(later, ready(6, x.nextLocks, x.nextWrites...)), msgCan(x.place, 6))
		}
	}
}
