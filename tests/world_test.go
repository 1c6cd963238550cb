package tests

import (
	"fmt"
	"math/rand"
	"slices"
	"testing"

	"loop.example/janitor/impl"
)

// TestWorldConstants: the numbers of the document's table.
func TestWorldConstants(t *testing.T) {
	got := []int{impl.EvDo, impl.EvHear, impl.EvLose, impl.EvTwice, impl.EvTick, impl.EvGive, impl.EvFall, impl.NetMost, impl.EvMaxRun, impl.CalmMost}
	if !slices.Equal(got, []int{1, 2, 3, 4, 5, 6, 7, 60, 250, 60}) {
		t.Errorf("the constants are %v", got)
	}
}

// TestWldNew: the initial system is valid, has three empty logs and nothing else, and is the same every time.
func TestWldNew(t *testing.T) {
	for range 2 {
		w := impl.WldNew()
		wantWorld(t, "new", w, impl.WldWorld{Disks: logs(disk(0), disk(0), disk(0))})
		if !impl.WldOk(w) {
			t.Errorf("invalid: %v", w)
		}
		w.Disks[1] = allSafe(no(0))
	}
}

// stage is an event, and what the system is after it.
type stage struct {
	e    impl.EvEvent
	want impl.WldWorld
}

// wantStages goes through all stages, one event at a time and all at once.
func wantStages(t *testing.T, w impl.WldWorld, list []stage) {
	t.Helper()
	start, events := w, []impl.EvEvent{}
	for i, s := range list {
		wantStep(t, fmt.Sprint("stage ", i), w, s.e, s.want)
		events = append(events, s.e)
		wantWorld(t, fmt.Sprint("all up to stage ", i), impl.WldRun(start, events), s.want)
		w = s.want
	}
}

// TestStepCommit: a login is started, prepared by its two services, committed, and acknowledged by all three; the messages are heard in the order in which they were sent.
func TestStepCommit(t *testing.T) {
	o := opIn(1, 2)
	ops, outs := []impl.OpOp{o}, reported(0, true)
	s2, a0 := readyTo(0, set("s2", 1)), readyTo(0, set("a0", impl.OpIn))
	none, r1, r3, y1, y3 := disk(0), allSafe(s2), allSafe(a0), allSafe(s2, yes(0)), allSafe(a0, yes(0))
	asks, cans, tell, know := askAll(0, o, 1, 3), votesOf(0, o), yesAll(0, 1, 2, 3), knowAll(0)
	on := func(can ...int) impl.FroState { return front(none, waiting(0, o, can...)) }
	done := func(know ...int) impl.FroState { return front(allSafe(yes(0)), told(0, o, []int{1, 3}, know...)) }
	over := front(disk(1, yes(0), end(0)))
	wantStages(t, impl.WldNew(), []stage{
		{evDo(o), world(on(), logs(none, none, none), asks, ops, nil)},
		{evHear(0), world(on(), logs(r1, none, none), messages(asks[1:], cans[:1]), ops, nil)},
		{evHear(0), world(on(), logs(r1, none, r3), cans, ops, nil)},
		{evHear(0), world(on(1), logs(r1, none, r3), cans[1:], ops, nil)},
		{evHear(0), world(done(), logs(r1, none, r3), tell, ops, outs)},
		{evHear(0), world(done(), logs(y1, none, r3), messages(tell[1:], know[:1]), ops, outs)},
		{evHear(0), world(done(), logs(y1, none, r3), messages(tell[2:], know[:2]), ops, outs)},
		{evHear(0), world(done(), logs(y1, none, y3), know, ops, outs)},
		{evHear(0), world(done(1), logs(y1, none, y3), know[1:], ops, outs)},
		{evHear(0), world(done(1, 2), logs(y1, none, y3), know[2:], ops, outs)},
		{evHear(0), world(over, logs(y1, none, y3), nil, ops, outs)},
		{evHear(0), world(over, logs(y1, none, y3), nil, ops, outs)},
	})
}

// TestStepRefuse: a logout without a login is refused by the session service; the other services have prepared it before or after that, and are told to abort.
func TestStepRefuse(t *testing.T) {
	o := opOut(1, 2)
	ops, outs := []impl.OpOp{o}, reported(0, false)
	u1, a0 := ready(0, []string{"u1"}), readyTo(0, set("a0", impl.OpOut))
	none, r2, r3 := disk(0), allSafe(u1), allSafe(a0)
	n2, n3 := disk(1, u1, no(0)), disk(1, a0, no(0))
	asks, stop := askAll(0, o, 1, 2, 3), noAll(0, 1, 2, 3)
	can2, can3, cant1 := msgCan(2, 0), msgCan(3, 0), msgCant(1, 0)
	on, off := front(none, waiting(0, o)), front(none)
	wantStages(t, impl.WldNew(), []stage{
		{evDo(o), world(on, logs(none, none, none), asks, ops, nil)},
		{evHear(1), world(on, logs(none, r2, none), []impl.MsgMsg{asks[0], asks[2], can2}, ops, nil)},
		{evHear(0), world(on, logs(none, r2, none), []impl.MsgMsg{asks[2], can2, cant1}, ops, nil)},
		{evHear(2), world(off, logs(none, r2, none), messages([]impl.MsgMsg{asks[2], can2}, stop), ops, outs)},
		{evHear(0), world(off, logs(none, r2, r3), messages([]impl.MsgMsg{can2}, stop, []impl.MsgMsg{can3}), ops, outs)},
		{evHear(3), world(off, logs(none, r2, n3), []impl.MsgMsg{can2, stop[0], stop[1], can3}, ops, outs)},
		{evHear(1), world(off, logs(none, r2, n3), []impl.MsgMsg{can2, stop[1], can3}, ops, outs)},
		{evHear(2), world(off, logs(none, r2, n3), []impl.MsgMsg{can2, stop[1], stop[2]}, ops, outs)},
		{evHear(0), world(off, logs(none, r2, n3), []impl.MsgMsg{stop[1], stop[2], stop[1]}, ops, outs)},
		{evHear(0), world(off, logs(none, n2, n3), []impl.MsgMsg{stop[2], stop[1]}, ops, outs)},
		{evHear(1), world(off, logs(none, n2, n3), stop[2:], ops, outs)},
		{evHear(0), world(off, logs(none, n2, n3), nil, ops, outs)},
	})
}

// TestStepGive: a login is given up while one service has prepared it; what was prepared is aborted, what was asked before is prepared and asked about.
func TestStepGive(t *testing.T) {
	o := opIn(1, 2)
	ops, outs := []impl.OpOp{o}, reported(0, false)
	s2, a0 := readyTo(0, set("s2", 1)), readyTo(0, set("a0", impl.OpIn))
	none, r1, r3, n1 := disk(0), allSafe(s2), allSafe(a0), disk(1, s2, no(0))
	ask3, can1, can3, stop := msgAsk(3, 0, o), msgCan(1, 0), msgCan(3, 0), noAll(0, 1, 3)
	off := front(none)
	w := mustRun(t, impl.WldNew(), evDo(o), evHear(0))
	wantStages(t, w, []stage{
		{evGive(0), world(off, logs(r1, none, none), []impl.MsgMsg{ask3, can1, stop[0], stop[1]}, ops, outs)},
		{evGive(0), world(off, logs(r1, none, none), []impl.MsgMsg{ask3, can1, stop[0], stop[1]}, ops, outs)},
		{evHear(3), world(off, logs(r1, none, none), []impl.MsgMsg{ask3, can1, stop[0]}, ops, outs)},
		{evHear(2), world(off, logs(n1, none, none), []impl.MsgMsg{ask3, can1}, ops, outs)},
		{evHear(0), world(off, logs(n1, none, r3), []impl.MsgMsg{can1, can3}, ops, outs)},
		{evLose(1), world(off, logs(n1, none, r3), []impl.MsgMsg{can1}, ops, outs)},
		{evLose(0), world(off, logs(n1, none, r3), nil, ops, outs)},
		{evTick(3), world(off, logs(n1, none, r3), []impl.MsgMsg{msgWhat(3, 0)}, ops, outs)},
		{evHear(0), world(off, logs(n1, none, r3), stop[1:], ops, outs)},
		{evHear(0), world(off, logs(n1, none, disk(1, a0, no(0))), nil, ops, outs)},
	})
}

// TestStepTwo: two logins are under way together; with two sessions both are committed, with one only the one whose question the session service hears first.
func TestStepTwo(t *testing.T) {
	for _, in := range []int{2, 3} {
		for first := range 2 {
			w := mustRun(t, impl.WldNew(), evDo(opIn(1, 2)), evDo(opIn(5, in)))
			asks := messages(askAll(0, opIn(1, 2), 1, 3), askAll(1, opIn(5, in), 1, 3))
			wantWorld(t, "both are started", w, world(front(disk(0), waiting(0, opIn(1, 2)), waiting(1, opIn(5, in))), logs(disk(0), disk(0), disk(0)), asks, []impl.OpOp{opIn(1, 2), opIn(5, in)}, nil))
			w = mustRun(t, w, evHear(2*first))
			if locks := impl.DiskLocks(w.Disks[0]); !slices.Equal(locks, []string{fmt.Sprint("s", []int{2, in}[first])}) {
				t.Fatalf("%d is asked first: locked are %v", first, locks)
			}
			w = mustRun(t, w, hears(30)...)
			want := newModel()
			for _, tx := range []int{first, 1 - first} {
				ok := want.do(tx, w.Ops[tx])
				if !slices.Contains(w.Outs, impl.FroOut{Tx: tx, Ok: ok}) {
					t.Errorf("%d is asked first: reported are %v, but for %d not %v", first, w.Outs, tx, ok)
				}
			}
			if len(w.Outs) != 2 || len(w.Net) > 0 || len(w.Front.Way) > 0 || !sameStores(committedAt(w), want.stores()) {
				t.Errorf("%d is asked first: got %v, want %v", first, w, want.stores())
			}
		}
	}
}

// TestStepOthers: an event does not look at the fields that its kind does not have.
func TestStepOthers(t *testing.T) {
	w := mustRun(t, impl.WldNew(), evDo(opIn(1, 2)), evDo(opIn(1, 3)), evHear(0), evHear(0), evHear(2), evTwice(1))
	for _, e := range []impl.EvEvent{evDo(opLet(1, 2, 3, 7)), evHear(1), evLose(2), evTwice(0), evTick(1), evGive(1), evFall(1, 1)} {
		want := impl.WldStep(w, e)
		if sameWorld(want, w) && e.Kind != impl.EvFall {
			t.Errorf("%v changes nothing", e)
		}
		for _, n := range []int{1, -1, 99, 1<<63 - 1} {
			other := e
			if e.Kind != impl.EvDo {
				other.Op = impl.OpOp{Kind: n, Who: n, Gen: n}
			}
			if slices.Contains([]int{impl.EvDo, impl.EvTick, impl.EvFall}, e.Kind) {
				other.At = n
			}
			if e.Kind < impl.EvTick || e.Kind == impl.EvGive {
				other.Place = n
			}
			if e.Kind != impl.EvFall {
				other.Keep = n
			}
			wantStep(t, "other fields", w, other, want)
		}
	}
}

// TestStepModel: every event of random runs, and of any valid system, does what the model does.
func TestStepModel(t *testing.T) {
	everyWorldRun(t, 700, func(_ *rand.Rand, run []worldStep) {
		for _, s := range run {
			wantWorld(t, s.String(), s.after, modelStep(s.before, s.e))
		}
	})
}

// TestStepModelAny: the same for systems that no run gets to, among them full ones.
func TestStepModelAny(t *testing.T) {
	count := map[string]int{}
	everyWorld(t, 701, func(r *rand.Rand, w impl.WldWorld) {
		s := stepOf(w, eventOf(r, w, anyKind(r)))
		wantWorld(t, s.String(), s.after, modelStep(w, s.e))
		count[s.label()]++
	})
	wantChanges(t, count, 2, "1 front", "6 front", "6 front net", "6 front false")
}
