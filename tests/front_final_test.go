package tests

import (
	"math/rand"
	"slices"
	"testing"

	"loop.example/janitor/impl"
)

// begun are coordinators that have just started transaction 25, the last two of them among others.
func begun(t *testing.T, o impl.OpOp) []impl.FroState {
	t.Helper()
	full := front(padded(impl.LogMost-2*4-2, yes(6), yes(20)), goodFront().Way...)
	var out []impl.FroState
	for _, f := range []impl.FroState{{}, front(disk(1, yes(3), end(3))), goodFront(), full} {
		out = append(out, mustBegin(t, f, 25, o))
	}
	return out
}

// TestPromise67: when a coordinator has started a transaction, its services may report in either order that they have prepared; it is committed after the last of them, and the coordinator is the same.
func TestPromise67(t *testing.T) {
	for _, o := range someOps() {
		for _, f := range begun(t, o) {
			wantVotes(t, f, 25, o)
		}
	}
	r := rand.New(rand.NewSource(67))
	for range frontRounds / 3 {
		for _, s := range randomFrontRun(r, 100) {
			if s.ok {
				wantVotes(t, s.after, s.tx, s.o)
			}
		}
	}
}

// wantVotes is for a transaction that was just started.
func wantVotes(t *testing.T, f impl.FroState, tx int, o impl.OpOp) {
	t.Helper()
	done := withWay(f, told(tx, o, impl.OpPlaces(o)))
	done.Disk = allSafe(append(done.Disk.Notes, yes(tx))...)
	for _, list := range orders(votesOf(tx, o)) {
		got, can, last := f, []int(nil), len(list)-1
		for _, m := range list[:last] {
			can = joinedTo(can, m.From)
			want := withWay(f, waiting(tx, o, can...))
			wantFroHear(t, "not the last vote", got, m, want, nil)
			// A vote that arrives again, or an inquiry in between, is no other vote.
			wantFroHear(t, "a vote again", want, m, want, nil)
			wantFroHear(t, "an inquiry", want, msgWhat(m.From, tx), want, nil)
			got = want
		}
		wantFroHear(t, "the last vote", got, list[last], done, yesAll(tx, 1, 2, 3), reported(tx, true)...)
	}
	if t.Failed() {
		t.FailNow()
	}
}

// TestPromise67Two: also the votes about two transactions may come in any order; only the log tells which of them is committed first.
func TestPromise67Two(t *testing.T) {
	first, second := opIn(1, 2), opTrade(3, 7, 4)
	f := mustBegin(t, mustBegin(t, impl.FroState{}, 3, first), 8, second)
	votes := slices.Concat(votesOf(3, first), votesOf(8, second))
	for _, list := range orders(votes) {
		want := front(allSafe(yes(3), yes(8)), told(3, first, []int{1, 3}), told(8, second, []int{2, 3}))
		if list[3].Tx == 3 {
			want.Disk = allSafe(yes(8), yes(3))
		}
		if got := frontAll(f, list...); !sameFront(got, want) {
			t.Fatalf("%v: got %v, want %v", list, got, want)
		}
	}
}

// TestPromise68: if a coordinator receives the same message again at once, it is unchanged and reports nothing more.
func TestPromise68(t *testing.T) {
	check := func(s frontStep) {
		again := hearStep(s.after, s.m)
		if !sameFront(again.after, s.after) || len(again.outs) > 0 {
			t.Fatalf("again %v: %v", again, s)
		}
	}
	everyFrontHeard(t, 68, check)
	anyFrontHeard(t, 680, check)
}

// TestPromise68Edges: every message that changes something, three times, and what is sent for it then.
func TestPromise68Edges(t *testing.T) {
	o := opIn(1, 2)
	for _, x := range []struct {
		what  string
		f     impl.FroState
		m     impl.MsgMsg
		want  impl.FroState
		sent  []impl.MsgMsg
		outs  []impl.FroOut
		again []impl.MsgMsg
	}{
		{"the first vote", front(impl.LogDisk{}, waiting(5, o)), msgCan(1, 5), front(impl.LogDisk{}, waiting(5, o, 1)), nil, nil, nil},
		{"the last vote", front(impl.LogDisk{}, waiting(5, o, 3)), msgCan(1, 5), front(allSafe(yes(5)), told(5, o, []int{1, 3})), yesAll(5, 1, 2, 3), reported(5, true), yesAll(5, 1)},
		{"the last vote without room", front(padded(impl.LogMost), waiting(5, o, 3)), msgCan(1, 5), front(padded(impl.LogMost)), noAll(5, 1, 3), reported(5, false), noAll(5, 1)},
		{"another vote", front(impl.LogDisk{}, waiting(5, o)), msgCan(2, 5), front(impl.LogDisk{}, waiting(5, o, 2)), nil, nil, nil},
		{"a refusal", front(impl.LogDisk{}, waiting(5, o, 3)), msgCant(1, 5), impl.FroState{}, noAll(5, 1, 3), reported(5, false), nil},
		{"an acknowledgement", front(allSafe(yes(5)), told(5, o, nil, 1)), msgKnow(2, 5), front(allSafe(yes(5)), told(5, o, nil, 1, 2)), nil, nil, nil},
		{"the last acknowledgement", front(allSafe(yes(5)), told(5, o, nil, 1, 3)), msgKnow(2, 5), front(disk(1, yes(5), end(5))), nil, nil, nil},
		{"the last acknowledgement without room", front(padded(impl.LogMost, yes(5)), told(5, o, nil, 1, 3)), msgKnow(2, 5), front(padded(impl.LogMost, yes(5)), told(5, o, nil, 1, 2, 3)), nil, nil, nil},
		{"an inquiry about a commit", front(allSafe(yes(5))), msgWhat(2, 5), front(allSafe(yes(5))), yesAll(5, 2), nil, yesAll(5, 2)},
		{"an inquiry about nothing", impl.FroState{}, msgWhat(2, 5), impl.FroState{}, noAll(5, 2), nil, noAll(5, 2)},
	} {
		wantFroHear(t, x.what, x.f, x.m, x.want, x.sent, x.outs...)
		for range 2 {
			wantFroHear(t, x.what+" again", x.want, x.m, x.want, x.again)
		}
	}
}

// TestPromise69: when a coordinator has started a transaction, all services have prepared and all have acknowledged: commit and end are logged; it is no longer active; and inquiries are answered with commit.
func TestPromise69(t *testing.T) {
	for _, o := range someOps() {
		for _, f := range begun(t, o) {
			for _, votes := range orders(votesOf(25, o)) {
				for _, known := range orders(knowAll(25)) {
					wantOverFront(t, f, 25, frontAll(frontAll(f, votes...), known...))
				}
			}
		}
	}
	r := rand.New(rand.NewSource(69))
	for range frontRounds / 3 {
		for _, s := range randomFrontRun(r, 100) {
			if s.ok {
				votes, known := votesOf(s.tx, s.o), knowAll(s.tx)
				r.Shuffle(len(votes), func(i, j int) { votes[i], votes[j] = votes[j], votes[i] })
				r.Shuffle(len(known), func(i, j int) { known[i], known[j] = known[j], known[i] })
				wantOverFront(t, s.after, s.tx, frontAll(frontAll(s.after, votes...), known...))
			}
		}
	}
}

// wantOverFront compares a coordinator with what it was when it had just started the transaction.
func wantOverFront(t *testing.T, f impl.FroState, tx int, got impl.FroState) {
	t.Helper()
	notes := append(copyDisk(f.Disk).Notes, yes(tx), end(tx))
	if want := withoutWay(front(disk(len(notes)-1, notes...), f.Way...), tx); !sameFront(got, want) {
		t.Fatalf("got %v, want %v", got, want)
	}
	for _, left := range []impl.FroState{got, impl.FroFall(got, 1), frontAll(impl.FroFall(got, 0), knowAll(tx)...)} {
		if _, active := wayOf(left, tx); active || impl.DiskOf(left.Disk, tx) != impl.LogYes || !slices.ContainsFunc(left.Disk.Notes, func(n impl.LogNote) bool { return sameNote(n, end(tx)) }) {
			t.Fatalf("%d is not over: %v", tx, left)
		}
		for _, place := range services() {
			wantFroHear(t, "an inquiry", left, msgWhat(place, tx), left, yesAll(tx, place))
			wantFroHear(t, "a late vote", left, msgCan(place, tx), left, yesAll(tx, place))
			wantFroHear(t, "a late refusal", left, msgCant(place, tx), left, nil)
			wantFroHear(t, "a late acknowledgement", left, msgKnow(place, tx), left, nil)
		}
		wantFroGive(t, "given up too late", left, tx, left, nil)
		wantFroBegin(t, "started again", left, tx, opIn(1, 2), left, nil, false)
	}
}

// TestPromise69Early: an acknowledgement ahead of the last vote does not count, and one ahead of the end is not enough.
func TestPromise69Early(t *testing.T) {
	o := opIn(1, 2)
	f := front(impl.LogDisk{}, waiting(5, o, 1))
	early := frontAll(f, knowAll(5)...)
	if !sameFront(early, f) {
		t.Errorf("got %v, want %v", early, f)
	}
	done := frontAll(early, msgCan(3, 5))
	for _, list := range orders(knowAll(5)) {
		for n := range 3 {
			if _, active := wayOf(frontAll(done, list[:n]...), 5); !active {
				t.Errorf("over after %v", list[:n])
			}
		}
	}
}

// notesOf lists the records of a transaction, in order.
func notesOf(d impl.LogDisk, tx int) []impl.LogNote {
	return slices.DeleteFunc(slices.Clone(d.Notes), func(n impl.LogNote) bool { return n.Tx != tx })
}

// sameForEach compares what is active, and what is logged for each transaction.
func sameForEach(a, b impl.FroState) bool {
	for tx := range impl.TxMost + 1 {
		if !slices.EqualFunc(notesOf(a.Disk, tx), notesOf(b.Disk, tx), sameNote) {
			return false
		}
	}
	return slices.EqualFunc(a.Way, b.Way, sameWay)
}

// wantCommuteFront returns whether both messages have changed something.
func wantCommuteFront(t *testing.T, f impl.FroState, a, b impl.MsgMsg) bool {
	t.Helper()
	first, second := hearStep(f, a), hearStep(f, b)
	ab, ba := hearStep(first.after, b), hearStep(second.after, a)
	if !sameForEach(ab.after, ba.after) {
		t.Fatalf("%v: %v and %v lead to %v, in the other order to %v", f, a, b, ab.after, ba.after)
	}
	if !slices.Equal(first.sent, ba.sent) || !slices.Equal(first.outs, ba.outs) || !slices.Equal(second.sent, ab.sent) || !slices.Equal(second.outs, ab.outs) {
		t.Fatalf("%v: for %v or %v something else is sent or reported in the other order", f, a, b)
	}
	return !sameFront(first.after, f) && !sameFront(second.after, f)
}

// TestPromise84: two messages to the coordinator about two transactions have the same effect in either order on what is active and on what is logged for each.
func TestPromise84(t *testing.T) {
	changed := 0
	check := func(r *rand.Rand, f impl.FroState) {
		// Where no run from the empty coordinator leads, there may be room for one record but not for two.
		if len(f.Disk.Notes)+2 > impl.LogMost {
			return
		}
		for range 4 {
			a, b := nextFrontMessage(r, f), nextFrontMessage(r, f)
			if a.Tx != b.Tx && wantCommuteFront(t, f, a, b) {
				changed++
			}
		}
	}
	everyFront(t, 84, check)
	if changed < 800 {
		t.Errorf("only %d pairs changed something", changed)
	}
}

// TestPromise84Edges: all pairs of messages about transactions in every situation; two commits, two ends, a commit and an end, a commit and an abort.
func TestPromise84Edges(t *testing.T) {
	o := opIn(1, 2)
	d := disk(2, yes(1), yes(2), yes(3), end(4), yes(8))
	f := front(d, told(1, o, []int{1, 3}, 1, 2), told(2, o, nil, 1, 2), resumed(3), waiting(5, o, 1), waiting(6, o, 1), waiting(7, o))
	wantFroOk(t, "every situation", f, true)
	var list []impl.MsgMsg
	for tx := 1; tx <= 8; tx++ {
		for _, place := range services() {
			list = append(list, msgCan(place, tx), msgCant(place, tx), msgKnow(place, tx), msgWhat(place, tx))
		}
	}
	for i, a := range list {
		for _, b := range list[:i] {
			if a.Tx != b.Tx {
				wantCommuteFront(t, f, a, b)
			}
		}
	}
	just := front(padded(impl.LogMost-2, d.Notes...), f.Way...)
	for _, x := range [][2]impl.MsgMsg{{msgCan(3, 5), msgCan(3, 6)}, {msgKnow(3, 1), msgKnow(3, 2)}, {msgCan(3, 5), msgKnow(3, 1)}, {msgCan(3, 5), msgCant(1, 6)}} {
		if !wantCommuteFront(t, f, x[0], x[1]) || !wantCommuteFront(t, just, x[0], x[1]) {
			t.Errorf("%v and %v do not change something both", x[0], x[1])
		}
	}
}
