package tests

import (
	"fmt"
	"math/rand"
	"slices"
	"testing"

	"loop.example/janitor/impl"
)

// TestViewsPreparedTwice: of what a service has prepared for a transaction the last record counts, wherever outcomes are in its log.
func TestViewsPreparedTwice(t *testing.T) {
	ops := []impl.OpOp{opIn(1, 2), opIn(3, 4)}
	s0, s1, other := readyTo(0, set("s2", 1)), readyTo(0, set("s3", 5)), readyTo(1, set("s4", 3))
	whole := loggedIn()
	for _, x := range []struct {
		d     impl.LogDisk
		in    impl.StoStore
		doubt []int
	}{
		{allSafe(s0, s1), store(item("s3", 5)), []int{0}},
		{allSafe(s1, s0), store(item("s2", 1)), []int{0}},
		{allSafe(s0, yes(0), s1), store(item("s3", 5)), []int{0}},
		{allSafe(s0, s1, yes(0)), store(item("s3", 5)), nil},
		{allSafe(s0, no(0), s1), store(item("s3", 5)), []int{0}},
		{allSafe(s0, yes(0), s1, yes(0)), store(item("s3", 5)), nil},
		{allSafe(s0, s1, no(0)), store(item("s3", 5)), nil},
		{allSafe(s0, ready(0, nil)), store(), []int{0}},
		{allSafe(s0, ready(0, []string{"s2"}), yes(0)), store(), nil},
		{allSafe(s0, readyTo(0, del("s2"))), store(), []int{0}},
		{disk(1, s0, other, s1, other), store(item("s3", 5)), []int{0, 1}},
		{disk(0, s1, s0, other, no(1)), store(item("s2", 1)), []int{0}},
	} {
		w := withLogs(logged(yes(0)), ops, x.d, disk(0), disk(0))
		wantViews(t, fmt.Sprint(x.d), w, views{[]int{0}, stores(x.in, store(), store()), whole, true, x.doubt})
	}
}

// TestViewsMissing: a service that has not prepared a committed transaction goes without it; the others, and the atomic execution, do not. What only a service takes as committed is not.
func TestViewsMissing(t *testing.T) {
	ops := []impl.OpOp{opIn(1, 2), opIn(3, 4), opIn(5, 6)}
	s0, s1, s2 := readyTo(0, set("s2", 1)), readyTo(1, set("s4", 3)), readyTo(2, set("s6", 5))
	a0, a1, a2 := readyTo(0, set("a0", 1)), readyTo(1, set("a1", 1)), readyTo(2, set("a2", 1))
	whole := stores(store(item("s2", 1), item("s4", 3), item("s6", 5)), store(), store(item("a0", 1), item("a1", 1), item("a2", 1)))
	three, none := []int{0, 1, 2}, disk(0)
	w := withLogs(logged(yes(0), yes(1), yes(2)), ops, allSafe(s0, s2), none, allSafe(a0, a1, a2))
	wantViews(t, "sessions without one", w, views{three, stores(store(item("s2", 1), item("s6", 5)), store(), at(whole, 3)), whole, true, three})
	w = withLogs(logged(yes(0), yes(1), yes(2)), ops, allSafe(s0, s1, s2, yes(1)), none, allSafe(a1, yes(1), yes(0), no(2)))
	wantViews(t, "the audit log has one", w, views{three, stores(at(whole, 1), store(), store(item("a1", 1))), whole, true, []int{0, 2}})
	w = withLogs(logged(yes(0), yes(1), yes(2)), ops, none, none, none)
	wantViews(t, "nobody has prepared", w, views{three, empty(), whole, true, nil})
	w = withLogs(logged(yes(1)), ops, allSafe(s0, s1, yes(1), yes(0)), none, allSafe(a0, yes(0), a1, yes(1), a2))
	one := stores(store(item("s4", 3)), store(), store(item("a1", 1)))
	wantViews(t, "the coordinator has one", w, agreed([]int{1}, one, 2))
	w = withLogs(logged(yes(1)), ops, allSafe(s0, s1, no(1), no(0)), none, allSafe(a0, no(0), a1))
	wantViews(t, "a service has aborted what is committed", w, agreed([]int{1}, one, 1))
	w = withLogs(logged(yes(0)), ops, allSafe(s0), allSafe(readyTo(0, set("c1", 1, 1))), allSafe(a0))
	wantViews(t, "somebody else has prepared it too", w, views{[]int{0}, stores(store(item("s2", 1)), store(item("c1", 1, 1)), store(item("a0", 1))), loggedIn(), true, []int{0}})
}

// TestViewsImpossible: at the first operation that is not possible the execution ends, with the stores before it; what is behind it is not executed. The services are not asked.
func TestViewsImpossible(t *testing.T) {
	in, again, let, out, other := opIn(1, 2), opIn(3, 2), opLet(1, 2, 3, 7), opOut(3, 2), opIn(5, 6)
	s := readyTo(0, set("s2", 1))
	let1 := stores(store(item("s2", 1)), store(item("c3", 1, 5672)), store(item("a0", 1), item("a1", 2)))
	for _, x := range []struct {
		ops   []impl.OpOp
		whole []impl.StoStore
	}{
		{[]impl.OpOp{again, in, other}, stores(store(item("s2", 3)), store(), store(item("a0", 1)))},
		{[]impl.OpOp{in, again, other}, loggedIn()},
		{[]impl.OpOp{let, in, other}, empty()},
		{[]impl.OpOp{out}, empty()},
		{[]impl.OpOp{in, let, again}, let1},
		{[]impl.OpOp{in, let, opTrade(3, 8, 4), opTrade(3, 7, 4)}, let1},
		{[]impl.OpOp{in, let, opNext(4, 1), opOut(1, 2)}, let1},
		{[]impl.OpOp{in, let, let, other}, let1},
	} {
		var notes []impl.LogNote
		var order []int
		for tx := range x.ops {
			notes, order = append(notes, yes(tx)), append(order, tx)
		}
		w := withLogs(logged(notes...), x.ops, allSafe(s), disk(0), disk(0))
		wantViews(t, fmt.Sprint(x.ops), w, views{order, stores(store(item("s2", 1)), store(), store()), x.whole, false, []int{0}})
	}
	w := withLogs(logged(yes(0), yes(2)), []impl.OpOp{in, again, other}, disk(0), disk(0), disk(0))
	both := stores(store(item("s2", 1), item("s6", 5)), store(), store(item("a0", 1), item("a2", 1)))
	wantViews(t, "what is not possible is not committed", w, views{[]int{0, 2}, empty(), both, true, nil})
}

// tens is the items a10 to a19, a20 to a29 and so on, each with the number of its transaction.
func tens(from, to int) []impl.StoItem {
	var out []impl.StoItem
	for n := 10 * from; n < 10*to; n++ {
		out = append(out, item(fmt.Sprint("a", n), n/10))
	}
	return out
}

// TestViewsFull: a service whose store has no room for what is committed goes on with an empty store, as its own log does.
func TestViewsFull(t *testing.T) {
	w := idle(9)
	for tx := 1; tx <= 8; tx++ {
		var writes []impl.StoWrite
		for _, it := range tens(tx, tx+1) {
			writes = append(writes, set(it.Key, it.Val...))
		}
		w.Disks[2].Notes = append(w.Disks[2].Notes, readyTo(tx, writes...))
	}
	for n, want := range [][]impl.StoItem{nil, tens(1, 2), tens(1, 3), tens(1, 4), tens(1, 5), nil, tens(6, 7), tens(6, 8), tens(6, 9)} {
		if n > 0 {
			w.Front.Disk.Notes = append(w.Front.Disk.Notes, yes(n))
			w.Disks[2].Notes = append(w.Disks[2].Notes, yes(n))
		}
		if got := impl.VuePlaces(w); !sameStores(got, stores(store(), store(), store(want...))) || !sameStore(got[2], impl.DiskFold(w.Disks[2])) {
			t.Errorf("%d commits: got %v, want %v", n, got, want)
		}
	}
}

// TestViewsDoubt: what is in doubt anywhere is listed once, in the order of the numbers, also if it is committed, and also if all of it is over for the coordinator.
func TestViewsDoubt(t *testing.T) {
	w := idle(impl.TxMost + 1)
	for _, x := range []struct {
		logs []impl.LogDisk
		want []int
	}{
		{logs(allSafe(ready(5, nil), ready(2, nil)), allSafe(ready(9, nil), ready(5, nil)), allSafe(ready(2, nil), ready(0, nil))), []int{0, 2, 5, 9}},
		{logs(disk(0, ready(29, nil), ready(0, nil), ready(29, nil)), disk(0), disk(0)), []int{0, 29}},
		{logs(disk(0), disk(0, ready(29, nil)), disk(0)), []int{29}},
		{logs(disk(0), disk(0), disk(0, ready(10, nil), ready(9, nil))), []int{9, 10}},
		{logs(allSafe(ready(3, nil), yes(3)), allSafe(ready(3, nil), no(3)), allSafe(ready(4, nil), ready(3, nil))), []int{3, 4}},
		{logs(allSafe(ready(3, nil), yes(3)), allSafe(ready(3, nil), no(3)), allSafe(yes(4), no(5))), nil},
		{logs(allSafe(yes(7), ready(7, nil)), allSafe(ready(8, nil), no(8), ready(8, nil)), disk(0)), []int{7, 8}},
	} {
		for _, f := range []impl.FroState{{}, front(allSafe(yes(3), yes(29), yes(9)), resumed(3)), front(allSafe(yes(2), end(2), yes(7), end(7))), front(disk(0), waiting(5, opIn(1, 2), 1))} {
			if got := impl.VueDoubt(withFront(withDisks(w, x.logs...), f)); !slices.Equal(got, x.want) {
				t.Errorf("%v: got %v, want %v", x.logs, got, x.want)
			}
		}
	}
	var all []int
	for tx := impl.TxMost; tx >= 0; tx-- {
		place := impl.PlcIn + tx%3
		w = withDisk(w, place, allSafe(append(logAt(w, place).Notes, ready(tx, nil))...))
		all = slices.Insert(all, 0, tx)
	}
	if got := impl.VueDoubt(w); !slices.Equal(got, all) {
		t.Errorf("all are in doubt: got %v", got)
	}
}

// invalidWorlds has each part invalid, missing, or one too many, beside commits and transactions in doubt.
func invalidWorlds() []impl.WldWorld {
	good := goodWorld()
	out := []impl.WldWorld{{}, {Ops: good.Ops}, withOps(good), withOps(good, good.Ops[:3]...), withOps(good, append(slices.Clone(good.Ops), impl.OpOp{})...)}
	out = append(out, withDisks(good), withDisks(good, good.Disks[:2]...), withDisks(good, append(slices.Clone(good.Disks), disk(0))...), withDisks(good, good.Disks[2], good.Disks[1], good.Disks[0]))
	out = append(out, withNet(good, noise(impl.NetMost+1)...), withNet(good, impl.MsgMsg{}), withNet(good, msgWhat(1, 4)), withOuts(good, impl.FroOut{Tx: -1}), withOuts(good, slices.Repeat(reported(0, true), impl.TxMost+2)...))
	out = append(out, idle(impl.TxMost+2), withFront(good, front(disk(0, no(0)))), withFront(good, front(disk(0, yes(4)))), withFront(good, front(disk(1))), withFront(good, front(disk(0), resumed(0))))
	for _, place := range services() {
		notes := logAt(good, place).Notes
		out = append(out, withDisk(good, place, disk(-1, notes...)), withDisk(good, place, allSafe(append(slices.Clone(notes), end(0))...)), withDisk(good, place, allSafe(append(slices.Clone(notes), ready(4, nil))...)))
		out = append(out, withDisk(good, place, allSafe(readyTo(0, set("u1", 1)))), withDisk(good, place, allSafe(ready(0, nil, set("s1", 1)))))
	}
	return out
}

// TestViewsInvalid: an invalid system has no views.
func TestViewsInvalid(t *testing.T) {
	for i, w := range invalidWorlds() {
		if impl.WldOk(w) {
			t.Errorf("system %d is valid: %v", i, w)
		}
		wantNoViews(t, fmt.Sprint("system ", i), w)
	}
	r := rand.New(rand.NewSource(800))
	count := map[bool]int{}
	for range 20 * worldRounds {
		w := changedWorld(r, randomWorld(r))
		valid := modelWldOk(w)
		if count[valid]++; valid {
			wantViews(t, fmt.Sprint(w), w, modelViews(w))
		} else {
			wantNoViews(t, fmt.Sprint(w), w)
		}
	}
	if count[true] < 100 || count[false] < 100 {
		t.Errorf("valid and not: %v", count)
	}
}

// reordered has the commits of the coordinator in any order, some of them twice.
func reordered(r *rand.Rand, w impl.WldWorld) impl.WldWorld {
	out := copyWorld(w)
	notes := out.Front.Disk.Notes
	r.Shuffle(len(notes), func(i, k int) { notes[i], notes[k] = notes[k], notes[i] })
	if len(notes) > 0 && len(notes) < impl.LogMost {
		out.Front.Disk.Notes = append(notes, notes[r.Intn(len(notes))])
	}
	return out
}

// TestViewsModel: any system, and any other order of its commits.
func TestViewsModel(t *testing.T) {
	t.Parallel()
	count := map[string]int{}
	check := func(r *rand.Rand, w impl.WldWorld) {
		for _, x := range []impl.WldWorld{w, reordered(r, w)} {
			want := modelViews(x)
			wantViews(t, fmt.Sprint(x), x, want)
			some := len(want.whole[2].Items) > 0
			count[fmt.Sprint(some, want.ok, sameStores(want.whole, want.places), slices.IsSorted(want.order))]++
		}
	}
	everyWorld(t, 801, check)
	everyTroubled(t, 802, 8, check)
	for _, label := range []string{"true true true true", "true true true false", "true false false true", "true false false false", "false false false true", "false false false false"} {
		if count[label] < 15 {
			t.Errorf("something is executed, all is possible, as the services have it, in the order of the numbers: %s: only %d", label, count[label])
		}
	}
}
