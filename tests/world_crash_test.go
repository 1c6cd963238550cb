package tests

import (
	"fmt"
	"math/rand"
	"slices"
	"testing"

	"loop.example/janitor/impl"
)

// played executes operations one after the other, each with calm rounds behind it, in the system and in the model of the server.
func played(t *testing.T, w impl.WldWorld, m modelWhole, ops ...impl.OpOp) impl.WldWorld {
	t.Helper()
	for _, o := range ops {
		tx := len(w.Ops)
		w = impl.WldCalm(mustRun(t, w, evDo(o)), 1)
		wantOutcomeOf(t, fmt.Sprint("played ", o), w, m, tx, m.do(tx, o), true)
	}
	return w
}

// wantRest wants nobody to wait for anything, and the services to have exactly what the model has.
func wantRest(t *testing.T, what string, w impl.WldWorld, m modelWhole) {
	t.Helper()
	if !impl.WldOk(w) || len(w.Net) > 0 || len(w.Front.Way) > 0 || !sameStores(committedAt(w), m.stores()) {
		t.Fatalf("%s: got %v, want %v", what, w, m.stores())
	}
	for _, d := range w.Disks {
		if len(impl.DiskOpen(d)) > 0 || len(impl.DiskLocks(d)) > 0 {
			t.Fatalf("%s: somebody is in doubt: %v", what, w)
		}
	}
}

// wantOutcomeOf wants the last transaction to be over, with its outcome in the log of the coordinator and of every service, and reported if it could be.
func wantOutcomeOf(t *testing.T, what string, w impl.WldWorld, m modelWhole, tx int, ok, told bool) {
	t.Helper()
	wantRest(t, what, w, m)
	kind, outs := 0, reported(tx, ok)
	if ok {
		kind = impl.LogYes
	}
	if !told {
		outs = nil
	}
	ended := slices.ContainsFunc(w.Front.Disk.Notes, func(n impl.LogNote) bool { return n.Tx == tx && n.Kind == impl.LogEnd })
	if impl.DiskOf(w.Front.Disk, tx) != kind || ended != ok {
		t.Fatalf("%s: the log of the coordinator is %v", what, w.Front.Disk)
	}
	for _, place := range services() {
		kind := impl.DiskOf(w.Disks[place-1], tx)
		if ok != (kind == impl.LogYes) && slices.Contains(modelPlaces(w.Ops[tx].Kind), place) {
			t.Fatalf("%s: the log of service %d is %v", what, place, w.Disks[place-1])
		}
	}
	got := slices.DeleteFunc(slices.Clone(w.Outs), func(out impl.FroOut) bool { return out.Tx != tx })
	if !slices.Equal(got, outs) {
		t.Fatalf("%s: reported are %v, want %v", what, got, outs)
	}
}

// commits lists operations that are possible, each behind those that it needs.
func commits() [][]impl.OpOp {
	in, let, trade, next := opIn(1, 2), opLet(1, 2, 3, 7), opTrade(3, 7, 4), opNext(4, 1)
	return [][]impl.OpOp{{in}, {in, let}, {in, let, trade}, {in, let, trade, next}, {in, let, trade, next, next}, {in, let, trade, opOut(1, 2)}}
}

// hearings lists orders in which messages are heard: the first one, the last one, or any.
func hearings() []func(r *rand.Rand, n int) int {
	return []func(r *rand.Rand, n int) int{
		func(r *rand.Rand, n int) int { return 0 },
		func(r *rand.Rand, n int) int { return n - 1 },
		func(r *rand.Rand, n int) int { return r.Intn(n) },
	}
}

// everyCommitStep hands the system at every step of a commit to a check: the operation is started behind those that it needs, and then messages are heard until there are none.
func everyCommitStep(t *testing.T, check func(r *rand.Rand, w impl.WldWorld, ops []impl.OpOp)) {
	t.Helper()
	r := rand.New(rand.NewSource(720))
	for _, ops := range commits() {
		for _, hearing := range hearings() {
			last := len(ops) - 1
			w := mustRun(t, played(t, impl.WldNew(), newModel(), ops[:last]...), evDo(ops[last]))
			check(r, w, ops)
			for len(w.Net) > 0 {
				w = mustRun(t, w, evHear(hearing(r, len(w.Net))))
				check(r, w, ops)
			}
		}
	}
}

// modelPlayed is the server after operations of which the last one may be left out.
func modelPlayed(ops []impl.OpOp, all bool) modelWhole {
	m := newModel()
	for tx, o := range ops {
		if tx < len(ops)-1 || all {
			m.do(tx, o)
		}
	}
	return m
}

// TestCoordinatorCrash: whenever the coordinator crashes during a commit, whatever remains, calm rounds commit exactly what it had logged; a commit was reported before the crash, an abort never is.
func TestCoordinatorCrash(t *testing.T) {
	count := map[bool]int{}
	everyCommitStep(t, func(_ *rand.Rand, w impl.WldWorld, ops []impl.OpOp) {
		tx := len(ops) - 1
		committed := impl.DiskOf(w.Front.Disk, tx) == impl.LogYes
		count[committed]++
		for _, keep := range []int{-1, 0, 1, 2, 1000} {
			down := mustRun(t, w, evFall(0, keep))
			if logged := impl.DiskOf(down.Front.Disk, tx) == impl.LogYes; logged != committed {
				t.Fatalf("%v: keep %d: got %v", w, keep, down)
			}
			for _, rounds := range []int{1, 2, 3, 20, impl.CalmMost} {
				got := impl.WldCalm(down, rounds)
				wantOutcomeOf(t, fmt.Sprint(ops, " keep ", keep, " rounds ", rounds), got, modelPlayed(ops, committed), tx, committed, committed)
				wantWorld(t, "by the model", got, modelCalm(down, min(rounds, 3)))
			}
		}
	})
	if count[true] < 50 || count[false] < 50 {
		t.Errorf("committed or not when the coordinator crashes: %v", count)
	}
}

// TestCoordinatorCrashTwice: a second crash before all is over changes nothing of that; nor do services that crash too, or messages that are lost with the coordinator.
func TestCoordinatorCrashTwice(t *testing.T) {
	everyCommitStep(t, func(r *rand.Rand, w impl.WldWorld, ops []impl.OpOp) {
		tx := len(ops) - 1
		committed := impl.DiskOf(w.Front.Disk, tx) == impl.LogYes
		gone := withNet(mustRun(t, w, evFall(0, r.Intn(3)-1)))
		for n := range 12 {
			ticks := []impl.EvEvent{evTick(0), evTick(1), evTick(2), evTick(3)}
			again := mustRun(t, gone, append(append(ticks, hears(n)...), evFall(0, r.Intn(3)-1), evFall(1+r.Intn(3), r.Intn(3)-1))...)
			got := impl.WldCalm(again, 2)
			wantOutcomeOf(t, fmt.Sprint(ops, " twice ", n), got, modelPlayed(ops, committed), tx, committed, committed)
		}
	})
}

// TestCoordinatorCrashThenMore: after a crash the server goes on: what was lost can be done again under the next number, what was committed cannot.
func TestCoordinatorCrashThenMore(t *testing.T) {
	everyCommitStep(t, func(_ *rand.Rand, w impl.WldWorld, ops []impl.OpOp) {
		committed := impl.DiskOf(w.Front.Disk, len(ops)-1) == impl.LogYes
		got := impl.WldCalm(mustRun(t, w, evFall(0, 0)), 2)
		played(t, got, modelPlayed(ops, committed), ops[len(ops)-1], opIn(5, 6), opOut(1, 2), opOut(5, 6))
		soon, m := mustRun(t, w, evFall(0, 0), evDo(opIn(5, 6))), modelPlayed(ops, committed)
		m.do(len(ops), opIn(5, 6))
		wantOutcomeOf(t, "started at once", impl.WldCalm(soon, 2), m, len(ops), true, true)
	})
}

// TestCoordinatorCrashTwo: of two transactions that are under way the crash aborts those that are not committed.
func TestCoordinatorCrashTwo(t *testing.T) {
	count := map[string]int{}
	r := rand.New(rand.NewSource(721))
	for range 15 {
		w := mustRun(t, impl.WldNew(), evDo(opIn(1, 2)), evDo(opIn(3, 4)))
		for len(w.Net) > 0 {
			w = mustRun(t, w, evHear(r.Intn(len(w.Net))))
			m, logged := newModel(), ""
			for tx, o := range w.Ops {
				if impl.DiskOf(w.Front.Disk, tx) == impl.LogYes {
					m.do(tx, o)
					logged += fmt.Sprint(tx)
				}
			}
			count[logged]++
			got := impl.WldCalm(mustRun(t, w, evFall(0, r.Intn(4)-1)), 2)
			wantRest(t, "two", got, m)
			if !slices.Equal(got.Outs, w.Outs) || len(w.Outs) != len(logged) {
				t.Fatalf("reported are %v, before the crash %v, logged is %s", got.Outs, w.Outs, logged)
			}
		}
	}
	for _, logged := range []string{"", "0", "1", "01"} {
		if count[logged] < 5 {
			t.Errorf("logged as committed when the coordinator crashes: %s: only %d", logged, count[logged])
		}
	}
}

// TestCoordinatorCrashEnd: an end that a crash takes is logged again, when all services have acknowledged again; one that remains is not.
func TestCoordinatorCrashEnd(t *testing.T) {
	w := played(t, impl.WldNew(), newModel(), opIn(1, 2))
	wantDisk(t, "the end is not forced", w.Front.Disk, disk(1, yes(0), end(0)))
	lost := mustRun(t, w, evFall(0, 0))
	wantWorld(t, "lost", lost, withFront(w, front(allSafe(yes(0)), resumed(0))))
	asked := mustRun(t, lost, evTick(0))
	wantWorld(t, "all are told again", asked, withNet(lost, yesAll(0, 1, 2, 3)...))
	wantWorld(t, "all acknowledge again", mustRun(t, asked, hears(3)...), withNet(lost, knowAll(0)...))
	wantWorld(t, "over again", impl.WldCalm(lost, 1), w)
	wantWorld(t, "not lost", mustRun(t, w, evFall(0, 1)), withFront(w, front(allSafe(yes(0), end(0)))))
}

// TestCoordinatorCrashVotes: votes that come after the crash are answered with an abort, and so is a question that a service hears only then.
func TestCoordinatorCrashVotes(t *testing.T) {
	o := opIn(1, 2)
	s2, a0 := readyTo(0, set("s2", 1)), readyTo(0, set("a0", impl.OpIn))
	ops, none := []impl.OpOp{o}, disk(0)
	off := front(none)
	start := mustRun(t, impl.WldNew(), evDo(o), evHear(0), evFall(0, 0))
	wantStages(t, start, []stage{
		{evTick(0), world(off, logs(allSafe(s2), none, none), []impl.MsgMsg{msgAsk(3, 0, o), msgCan(1, 0)}, ops, nil)},
		{evHear(1), world(off, logs(allSafe(s2), none, none), []impl.MsgMsg{msgAsk(3, 0, o), msgNo(1, 0)}, ops, nil)},
		{evHear(1), world(off, logs(disk(1, s2, no(0)), none, none), []impl.MsgMsg{msgAsk(3, 0, o)}, ops, nil)},
		{evHear(0), world(off, logs(disk(1, s2, no(0)), none, allSafe(a0)), []impl.MsgMsg{msgCan(3, 0)}, ops, nil)},
		{evHear(0), world(off, logs(disk(1, s2, no(0)), none, allSafe(a0)), []impl.MsgMsg{msgNo(3, 0)}, ops, nil)},
		{evHear(0), world(off, logs(disk(1, s2, no(0)), none, disk(1, a0, no(0))), nil, ops, nil)},
	})
}
