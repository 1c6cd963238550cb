package tests

import (
	"math/rand"
	"slices"
	"testing"

	"loop.example/janitor/impl"
)

// goodWorld has something in every part: a transaction that is over, one whose commit is under way, one that waits, one that was given up.
func goodWorld() impl.WldWorld {
	ops := []impl.OpOp{opIn(1, 2), opLet(1, 2, 3, 7), opTrade(4, 7, 4), opOut(5, 6)}
	w := impl.WldWorld{Ops: ops, Outs: []impl.FroOut{{Tx: 3}, {Tx: 0, Ok: true}, {Tx: 1, Ok: true}}}
	w.Front = front(disk(3, yes(0), end(0), yes(1)), told(1, ops[1], []int{1, 2, 3}, 1), waiting(2, ops[2], 3))
	sum := modelSum(7)
	w.Disks = logs(
		disk(4, readyTo(0, set("s2", 1)), yes(0), ready(1, []string{"s2"}), yes(1)),
		disk(2, ready(3, []string{"u5"}), readyTo(1, set("c3", 1, sum)), no(3)),
		disk(5, readyTo(0, set("a0", 1)), readyTo(1, set("a1", 2)), yes(0), readyTo(3, set("a3", 5)), readyTo(2, set("a2", 3)), no(3)))
	w.Net = []impl.MsgMsg{msgYes(2, 1), msgYes(3, 1), msgAsk(2, 2, ops[2]), msgWhat(3, 1), msgKnow(1, 1), msgNo(1, 3)}
	return w
}

func withOps(w impl.WldWorld, ops ...impl.OpOp) impl.WldWorld {
	out := copyWorld(w)
	out.Ops = ops
	return out
}

func withOuts(w impl.WldWorld, outs ...impl.FroOut) impl.WldWorld {
	out := copyWorld(w)
	out.Outs = outs
	return out
}

func withDisks(w impl.WldWorld, disks ...impl.LogDisk) impl.WldWorld {
	out := copyWorld(w)
	out.Disks = disks
	return out
}

func wantValid(t *testing.T, what string, w impl.WldWorld) {
	t.Helper()
	if !impl.WldOk(w) {
		t.Errorf("%s: invalid: %v", what, w)
	}
	wantStep(t, what, w, impl.EvEvent{}, w)
	wantWorld(t, what+", calm", impl.WldCalm(w, 0), w)
}

// wantInvalid wants the zero value of all functions, whatever the other arguments are.
func wantInvalid(t *testing.T, what string, w impl.WldWorld) {
	t.Helper()
	if impl.WldOk(w) {
		t.Errorf("%s: valid: %v", what, w)
	}
	events := []impl.EvEvent{{}, evDo(opIn(1, 2)), evHear(0), evLose(0), evTwice(0), evTick(0), evTick(9), evGive(2), evFall(0, 0), evFall(3, 1)}
	for _, e := range events {
		wantStep(t, what, w, e, impl.WldWorld{})
	}
	for _, n := range []int{0, len(events), impl.EvMaxRun + 1} {
		wantWorld(t, what+", run", impl.WldRun(w, slices.Repeat(events, 1+n/len(events))[:n]), impl.WldWorld{})
	}
	for _, n := range []int{-1, 0, 1, 2, impl.CalmMost, impl.CalmMost + 1} {
		wantWorld(t, what+", calm", impl.WldCalm(w, n), impl.WldWorld{})
	}
}

// TestWldOk: nothing, something in every part, as much as there may be, and slices that are empty instead of nil.
func TestWldOk(t *testing.T) {
	wantValid(t, "nothing", impl.WldNew())
	wantValid(t, "something", goodWorld())
	wantValid(t, "empty slices", impl.WldWorld{Disks: logs(disk(0), disk(0), disk(0)), Net: []impl.MsgMsg{}, Ops: []impl.OpOp{}, Outs: []impl.FroOut{}})
	full := withNet(idle(impl.TxMost+1), noise(impl.NetMost)...)
	full.Outs = slices.Repeat(reported(impl.TxMost, true), impl.TxMost+1)
	wantValid(t, "full", full)
	full.Front = front(padded(impl.LogMost, yes(29)), resumed(29))
	for _, place := range services() {
		full.Disks[place-1] = allSafe(slices.Repeat([]impl.LogNote{no(29)}, impl.LogMost)...)
	}
	wantValid(t, "full logs too", full)
	other := withFront(goodWorld(), front(disk(1, yes(1)), waiting(0, opNext(1, 1)), told(1, impl.OpOp{Kind: -1}, []int{2})))
	wantValid(t, "the coordinator has other operations", other)
	wantValid(t, "any message about any operation", withNet(idle(impl.TxMost+1), someMessages()[:impl.NetMost]...))
	wantValid(t, "one outcome twice, and the other one", withOuts(goodWorld(), impl.FroOut{Tx: 1}, impl.FroOut{Tx: 1}, impl.FroOut{Tx: 1, Ok: true}))
}

// TestWldOkWrites: each item that a write sets has to be valid by itself for the service; what is removed, and what results of all of them, does not matter.
func TestWldOkWrites(t *testing.T) {
	w := idle(4)
	for _, place := range services() {
		var every []impl.LogNote
		for _, it := range goodItems(place) {
			every = append(every, readyTo(0, set(it.Key, it.Val...)))
		}
		wantValid(t, "good items", withDisk(w, place, allSafe(every...)))
		for _, key := range []string{"s1", "s10", "c1", "c10", "f1", "f10", "a1", "a10", "u1", "z99"} {
			wantValid(t, "removed", withDisk(w, place, allSafe(readyTo(1, del(key)), yes(1))))
			wantValid(t, "removed", withDisk(w, place, allSafe(append(slices.Clone(every), readyTo(2, del("s1"), del(key), del("a1")))...)))
		}
		bad := badItems()
		for _, other := range without(services(), []int{place}) {
			bad = append(bad, goodItems(other)...)
		}
		for _, it := range bad {
			write := set(it.Key, it.Val...)
			wantInvalid(t, "alone", withDisk(w, place, disk(0, readyTo(0, write))))
			wantInvalid(t, "behind good ones", withDisk(w, place, disk(0, append(slices.Clone(every), readyTo(2, write))...)))
			wantInvalid(t, "aborted", withDisk(w, place, disk(0, readyTo(3, set(goodItems(place)[0].Key, goodItems(place)[0].Val...), write), no(3))))
			wantInvalid(t, "removed again", withDisk(w, place, disk(0, readyTo(3, write, del(it.Key)), yes(3))))
		}
	}
	var many []impl.LogNote
	for i := range 50 {
		many = append(many, readyTo(0, set(allKeys()[i], 1)), yes(0))
	}
	wantValid(t, "more items than a store has", withDisk(w, impl.PlcDone, allSafe(many...)))
}

// TestWldOkLogs: a log of a service that is invalid, or has a LogEnd, and another number of logs than three.
func TestWldOkLogs(t *testing.T) {
	w := idle(impl.TxMost + 1)
	for _, place := range services() {
		for _, d := range invalidDisks() {
			if impl.WldOk(withDisk(w, place, d)) {
				t.Errorf("a log at %d: valid: %v", place, d)
			}
		}
		for _, d := range invalidDisks()[:20] {
			wantInvalid(t, "a log", withDisk(w, place, d))
		}
		for _, d := range []impl.LogDisk{disk(0, end(0)), allSafe(end(3)), allSafe(no(0), end(0)), allSafe(ready(1, nil), yes(1), end(1), ready(2, nil)), allSafe(end(5), no(6), no(7))} {
			wantInvalid(t, "an end", withDisk(w, place, d))
			wantInvalid(t, "an end", withDisk(goodWorld(), place, d))
		}
	}
	empty := disk(0)
	for _, disks := range [][]impl.LogDisk{nil, {}, {empty}, {empty, empty}, {empty, empty, empty, empty}, slices.Repeat([]impl.LogDisk{empty}, 7)} {
		wantInvalid(t, "not three logs", withDisks(w, disks...))
		wantInvalid(t, "not three logs", withDisks(impl.WldNew(), disks...))
	}
	good := goodWorld().Disks
	for _, disks := range [][]impl.LogDisk{good[:2], good[1:], {good[0], good[1], good[2], empty}, {good[0], good[1], good[2], good[2]}, {good[2], good[1], good[0]}, {good[1], good[0], good[2]}, {good[0], good[2], good[1]}} {
		wantInvalid(t, "logs in another order or number", withDisks(goodWorld(), disks...))
	}
	wantInvalid(t, "nothing at all", impl.WldWorld{})
}

// TestWldOkParts: an invalid coordinator, message or operation; too many messages, operations or outcomes.
func TestWldOkParts(t *testing.T) {
	w := idle(impl.TxMost + 1)
	for _, f := range invalidFronts() {
		if impl.WldOk(withFront(w, f)) {
			t.Errorf("valid: %v", f)
		}
	}
	for i, f := range invalidFronts() {
		if i%20 == 0 {
			wantInvalid(t, "a coordinator", withFront(w, f))
		}
	}
	for i, m := range invalidMessages() {
		if impl.WldOk(withNet(w, m)) {
			t.Errorf("valid: %v", m)
		}
		if i%200 == 0 {
			wantInvalid(t, "a message", withNet(w, slices.Insert(noise(5), i%6, m)...))
		}
	}
	for i, o := range append(invalidOps(), impl.OpOp{}) {
		if impl.WldOk(withOps(w, o)) {
			t.Errorf("valid: %v", o)
		}
		if i%20 == 0 {
			wantInvalid(t, "an operation", withOps(goodWorld(), slices.Insert(slices.Clone(goodWorld().Ops), i%5, o)...))
		}
	}
	for _, more := range []int{1, 2, 100} {
		wantInvalid(t, "too many messages", withNet(w, noise(impl.NetMost+more)...))
		wantInvalid(t, "too many operations", idle(impl.TxMost+1+more))
		wantInvalid(t, "too many outcomes", withOuts(w, slices.Repeat(reported(0, true), impl.TxMost+1+more)...))
	}
}

// TestWldOkTx: every transaction that is named anywhere has an operation; with one operation less the system is invalid.
func TestWldOkTx(t *testing.T) {
	for n := range impl.TxMost + 1 {
		for _, tx := range []int{n, n - 1, n + 1, impl.TxMost, 0, -1, impl.TxMost + 1} {
			check := wantInvalid
			if tx >= 0 && tx < n {
				check = wantValid
			}
			w := idle(n)
			check(t, "in the log of the coordinator", withFront(w, front(allSafe(end(tx)))))
			check(t, "committed and active", withFront(w, front(allSafe(yes(tx)), resumed(tx))))
			check(t, "active", withFront(w, front(disk(0), waiting(tx, opIn(1, 2)))))
			for _, place := range services() {
				check(t, "in a log", withDisk(w, place, disk(0, no(tx))))
				check(t, "in a log", withDisk(w, place, disk(0, ready(tx, nil))))
			}
			check(t, "in a message", withNet(w, msgWhat(1, tx)))
			check(t, "in a message", withNet(w, msgAsk(3, tx, opIn(1, 2))))
			check(t, "in an outcome", withOuts(w, impl.FroOut{Tx: tx}))
			if n > 0 {
				check(t, "behind others", withNet(w, append(noise(5), msgWhat(1, tx))...))
				check(t, "behind others", withOuts(w, impl.FroOut{Tx: 0}, impl.FroOut{Tx: tx, Ok: true}))
				check(t, "behind others", withDisk(w, 3, allSafe(no(0), yes(0), no(tx))))
			}
		}
	}
	wantInvalid(t, "one operation less", withOps(goodWorld(), goodWorld().Ops[:3]...))
	wantInvalid(t, "no operation", withOps(goodWorld()))
	for _, tx := range badTxs() {
		wantInvalid(t, "an outcome", withOuts(goodWorld(), impl.FroOut{Tx: tx, Ok: true}))
	}
}

// TestWldOkModel: any system, as it is and with any part of it changed.
func TestWldOkModel(t *testing.T) {
	count := map[bool]int{}
	everyWorld(t, 703, func(r *rand.Rand, w impl.WldWorld) {
		if !impl.WldOk(w) || !modelWldOk(w) {
			t.Fatalf("invalid: %v", w)
		}
		changed := changedWorld(r, w)
		want := modelWldOk(changed)
		if impl.WldOk(changed) != want {
			t.Fatalf("%v: want %v", changed, want)
		}
		count[want]++
	})
	if count[true] < 200 || count[false] < 200 {
		t.Errorf("valid and not: %v", count)
	}
}

// changedWorld has one part changed, which often, but not always, makes it invalid.
func changedWorld(r *rand.Rand, w impl.WldWorld) impl.WldWorld {
	out := copyWorld(w)
	place := 1 + r.Intn(3)
	d := &out.Disks[place-1]
	tx := r.Intn(len(w.Ops) + 2)
	switch r.Intn(9) {
	case 0:
		out.Ops = out.Ops[:r.Intn(len(out.Ops)+1)]
	case 1:
		out.Ops = append(out.Ops, opIn(r.Intn(12), 2))
	case 2:
		out.Net = append(out.Net, sentBy(1+r.Intn(8), r.Intn(5), tx))
	case 3:
		out.Outs = append(out.Outs, impl.FroOut{Tx: tx})
	case 4:
		d.Notes = append(d.Notes, impl.LogNote{Kind: 2 + r.Intn(3), Tx: tx})
	case 5:
		d.Notes = append(d.Notes, readyTo(0, randomWrites(r, []string{"s1", "s11", "c1", "f1", "a1", "a11"}, 1)...))
	case 6:
		d.Safe += r.Intn(5) - 2
	case 7:
		out.Front.Disk.Notes = append(out.Front.Disk.Notes, impl.LogNote{Kind: 2 + 2*r.Intn(2), Tx: tx})
	case 8:
		out.Disks = out.Disks[:2+r.Intn(2)]
	}
	return out
}
