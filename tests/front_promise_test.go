package tests

import (
	"math/rand"
	"slices"
	"testing"

	"loop.example/janitor/impl"
)

// TestPromise7: after FroHear the coordinator is valid; it commits, forced, only when the last of its services has prepared; it aborts only when one refuses; and it reports each outcome once.
func TestPromise7(t *testing.T) {
	everyFrontHeard(t, 7, func(s frontStep) {
		wantDecision(t, s)
		if len(s.outs) > 0 && !s.outs[0].Ok && s.m.Kind != impl.MsgCant {
			t.Fatalf("aborted, and nobody refused: %v", s)
		}
	})
	anyFrontHeard(t, 700, func(s frontStep) {
		wantDecision(t, s)
		full := len(s.before.Disk.Notes) == impl.LogMost
		if len(s.outs) > 0 && !s.outs[0].Ok && s.m.Kind != impl.MsgCant && !full {
			t.Fatalf("aborted, and nobody refused: %v", s)
		}
	})
}

// wantDecision looks at what has been decided, and at all that must not have changed.
func wantDecision(t *testing.T, s frontStep) {
	t.Helper()
	w, active := wayOf(s.before, s.m.Tx)
	_, still := wayOf(s.after, s.m.Tx)
	was := len(s.before.Disk.Notes)
	n, added := s.added(), len(s.after.Disk.Notes) > was
	if len(s.after.Disk.Notes) < was || len(s.after.Disk.Notes) > was+1 {
		t.Fatalf("not what it was with at most one more record: %v", s)
	}
	if !impl.FroOk(s.after) || !modelFroOk(s.after) {
		t.Fatalf("the coordinator is invalid: %v", s)
	}
	if !sameFront(withoutWay(front(disk(0, s.after.Disk.Notes[:was]...), s.after.Way...), s.m.Tx), withoutWay(front(disk(0, s.before.Disk.Notes...), s.before.Way...), s.m.Tx)) {
		t.Fatalf("something else has changed: %v", s)
	}
	commits := added && n.Kind == impl.LogYes
	aborts := active && !still && !w.Yes
	var outs []impl.FroOut
	switch {
	case commits:
		outs = reported(s.m.Tx, true)
		if w.Yes || !active || s.m.Kind != impl.MsgCan || !hasAll(joinedTo(w.Can, s.m.From), modelPlaces(w.Op.Kind)) {
			t.Fatalf("not the last of the votes: %v", s)
		}
		if !sameNote(n, yes(s.m.Tx)) || s.after.Disk.Safe != was+1 {
			t.Fatalf("not forced: %v", s)
		}
	case aborts:
		outs = reported(s.m.Tx, false)
	}
	if !slices.Equal(s.outs, outs) {
		t.Fatalf("reported %v, want %v: %v", s.outs, outs, s)
	}
}

// TestPromise7Run: in a run every number has one outcome at most: true if and only if all its services have voted for it since it was started, and then it is logged from there on; false only if it is never logged.
func TestPromise7Run(t *testing.T) {
	count := map[bool]int{}
	everyFrontRun(t, 77, func(run []frontStep) {
		ops, votes, outcome := map[int]impl.OpOp{}, map[int][]int{}, map[int]bool{}
		for _, s := range run {
			committed := impl.DiskOf(s.before.Disk, s.tx) == impl.LogYes
			switch {
			case s.event == "begin" && s.ok:
				ops[s.tx] = s.o
			case s.event == "fall":
				votes = map[int][]int{}
			case s.event == "hear" && s.m.Kind == impl.MsgCan && situation(s.before, s.tx) == "waiting":
				votes[s.tx] = joinedTo(votes[s.tx], s.m.From)
				committed = hasAll(votes[s.tx], modelPlaces(ops[s.tx].Kind))
			}
			if s.event != "fall" && committed != (impl.DiskOf(s.after.Disk, s.tx) == impl.LogYes) {
				t.Fatalf("committed is not %v, the votes are %v: %v", committed, votes[s.tx], s)
			}
			for _, out := range s.outs {
				if _, again := outcome[out.Tx]; again || len(s.outs) > 1 || out.Tx != s.tx {
					t.Fatalf("reported again: %v", s)
				}
				outcome[out.Tx] = out.Ok
				count[out.Ok]++
			}
		}
		last := run[len(run)-1].after
		for tx := range impl.TxMost + 1 {
			if logged := impl.DiskOf(last.Disk, tx) == impl.LogYes; logged != outcome[tx] {
				t.Fatalf("%d: logged %v, reported %v: %v", tx, logged, outcome, last)
			}
		}
	})
	if count[true] < 200 || count[false] < 200 {
		t.Errorf("reported: %v", count)
	}
}

// TestPromise37: afterwards the transaction is the last active one, and every service at which it is executed is asked to prepare it; a transaction that is active or logged cannot be started.
func TestPromise37(t *testing.T) {
	count := map[bool]int{}
	everyFront(t, 37, func(r *rand.Rand, f impl.FroState) {
		for range 3 {
			tx, o := r.Intn(impl.TxMost+1), randomOp(r)
			s := beginStep(f, tx, o)
			if situation(f, tx) == "waiting" || impl.DiskOf(f.Disk, tx) != 0 {
				wantFroBegin(t, "active or logged", f, tx, o, f, nil, false)
			}
			count[s.ok]++
			if !s.ok {
				wantFroBegin(t, "not started", f, tx, o, f, nil, false)
				continue
			}
			n := len(f.Way)
			last := s.after.Way[n]
			if !sameWay(last, waiting(tx, o)) || !sameFront(front(s.after.Disk, s.after.Way[:n]...), f) || !impl.FroOk(s.after) {
				t.Fatalf("not the last one, or something else has changed: %v", s)
			}
			if !slices.Equal(s.sent, askAll(tx, o, impl.OpPlaces(o)...)) {
				t.Fatalf("asked are %v", s)
			}
			wantFroBegin(t, "again", s.after, tx, o, s.after, nil, false)
		}
	})
	if count[true] < 300 || count[false] < 300 {
		t.Errorf("started and not: %v", count)
	}
}

// TestPromise37Edges: every kind of operation; a transaction that is active, waiting or committed, one that is logged, with and without an end; numbers less than, equal to and greater than that of the last active one, which are logged or not.
func TestPromise37Edges(t *testing.T) {
	for _, o := range someOps() {
		for _, tx := range []int{0, 1, impl.TxMost} {
			wantFroBegin(t, "the first one", impl.FroState{}, tx, o, front(impl.LogDisk{}, waiting(tx, o)), askAll(tx, o, modelPlaces(o.Kind)...), true)
		}
	}
	f, o := goodFront(), opNext(4, 1)
	for tx := range impl.TxMost + 1 {
		want := withWay(f, waiting(tx, o))
		if tx <= 20 {
			wantFroBegin(t, "active, logged, or less than the last one", f, tx, o, f, nil, false)
		} else {
			wantFroBegin(t, "greater than the last one", f, tx, o, want, askAll(tx, o, 2, 3), true)
		}
	}
	for _, d := range []impl.LogDisk{allSafe(yes(7)), disk(0, yes(7)), disk(1, yes(7), end(7)), allSafe(end(7), yes(7))} {
		for _, f := range []impl.FroState{front(d), front(d, waiting(5, o))} {
			wantFroBegin(t, "logged, not active", f, 7, o, f, nil, false)
			wantFroBegin(t, "another one is logged", f, 8, o, withWay(f, waiting(8, o)), askAll(8, o, 2, 3), true)
			wantFroBegin(t, "less than one that is logged and not active", f, 6, o, withWay(f, waiting(6, o)), askAll(6, o, 2, 3), true)
		}
	}
	only := front(allSafe(end(7)))
	wantFroBegin(t, "an end alone", only, 7, o, withWay(only, waiting(7, o)), askAll(7, o, 2, 3), true)
	after := frontAll(mustBegin(t, impl.FroState{}, 7, o), msgCant(2, 7))
	wantFroBegin(t, "aborted before", after, 7, o, front(impl.LogDisk{}, waiting(7, o)), askAll(7, o, 2, 3), true)
}

// TestPromise37Room: a transaction is started with room for just the records that may still come, two for each active one and for itself, and not with room for one less; then all of them can be committed and end, which fills the log.
func TestPromise37Room(t *testing.T) {
	o := opOut(1, 2)
	for active := range 9 {
		for committed := 0; committed <= active; committed++ {
			var notes []impl.LogNote
			var way []impl.FroTx
			for i := range active {
				if i < committed {
					notes, way = append(notes, yes(i+10)), append(way, resumed(i+10))
				} else {
					way = append(way, waiting(i+10, o))
				}
			}
			just := front(padded(impl.LogMost-2*active-2, notes...), way...)
			begun := withWay(just, waiting(25, o))
			wantFroBegin(t, "just room", just, 25, o, begun, askAll(25, o, 1, 2, 3), true)
			wantAllEnd(t, begun, impl.LogMost-committed)
			for less := 1; less <= 2*active+2; less++ {
				f := front(padded(impl.LogMost-2*active-2+less, notes...), way...)
				wantFroBegin(t, "less room", f, 25, o, f, nil, false)
			}
		}
	}
}

// wantAllEnd lets all active transactions be committed, and then end.
func wantAllEnd(t *testing.T, f impl.FroState, records int) {
	t.Helper()
	way := f.Way
	for _, w := range way {
		if !w.Yes {
			f = frontAll(f, votesOf(w.Tx, w.Op)...)
		}
	}
	for _, w := range way {
		f = frontAll(f, knowAll(w.Tx)...)
	}
	if len(f.Way) > 0 || len(f.Disk.Notes) != records {
		t.Errorf("%d records, want %d, active are %v", len(f.Disk.Notes), records, f.Way)
	}
	for _, w := range way {
		if impl.DiskOf(f.Disk, w.Tx) != impl.LogYes {
			t.Errorf("%d is not committed", w.Tx)
		}
	}
}

// TestPromise37Invalid: an operation that is invalid, and a number out of its bounds; also where the transaction would not be started.
func TestPromise37Invalid(t *testing.T) {
	for _, f := range []impl.FroState{{}, goodFront(), front(padded(impl.LogMost))} {
		for _, o := range append(invalidOps(), impl.OpOp{}) {
			for _, tx := range []int{0, 21} {
				wantFroBegin(t, "an invalid operation", f, tx, o, impl.FroState{}, nil, false)
			}
		}
		for _, tx := range badTxs() {
			wantFroBegin(t, "an invalid number", f, tx, opIn(1, 2), impl.FroState{}, nil, false)
		}
	}
}

// TestPromise38: asked about an outcome, a coordinator answers commit if that is logged; nothing if the transaction is active and not committed; and abort otherwise.
func TestPromise38(t *testing.T) {
	count := map[string]int{}
	everyFront(t, 38, func(r *rand.Rand, f impl.FroState) {
		place := 1 + r.Intn(3)
		for tx := range impl.TxMost + 1 {
			what := situation(f, tx)
			var want []impl.MsgMsg
			switch what {
			case "committed", "logged":
				want = yesAll(tx, place)
			case "unknown":
				want = noAll(tx, place)
			}
			wantFroHear(t, what, f, msgWhat(place, tx), f, want)
			if what != "waiting" {
				wantFroHear(t, what, f, msgCan(place, tx), f, want)
			}
			count[what]++
		}
	})
	for _, what := range []string{"committed", "logged", "waiting", "unknown"} {
		if count[what] < 1000 {
			t.Errorf("%s: only %d", what, count[what])
		}
	}
}

// TestPromise38Crash: a coordinator that has lost a transaction that was not committed presumes that it is aborted; one that was committed is never lost.
func TestPromise38Crash(t *testing.T) {
	for _, o := range someOps() {
		votes := votesOf(5, o)
		for _, keep := range []int{-1, 0, 1, 9} {
			f := frontAll(mustBegin(t, impl.FroState{}, 5, o), votes[1:]...)
			lost := impl.FroFall(f, keep)
			for _, place := range services() {
				wantFroHear(t, "before the crash", f, msgWhat(place, 5), f, nil)
				wantFroHear(t, "lost", lost, msgWhat(place, 5), impl.FroState{}, noAll(5, place))
			}
			wantFroHear(t, "a vote after the crash", lost, votes[0], impl.FroState{}, noAll(5, votes[0].From))
			left := impl.FroFall(frontAll(f, votes[0]), keep)
			over := impl.FroFall(frontAll(left, knowAll(5)...), keep)
			for _, place := range services() {
				wantFroHear(t, "committed", left, msgWhat(place, 5), left, yesAll(5, place))
				wantFroHear(t, "over", over, msgWhat(place, 5), over, yesAll(5, place))
			}
		}
	}
}
