package tests

import (
	"math/rand"
	"slices"
	"testing"

	"loop.example/janitor/impl"
)

// TestFrontModel: FroHear, FroBegin, FroGive, FroTick and FroFall do with every valid coordinator what the document says.
func TestFrontModel(t *testing.T) {
	check := func(s frontStep) {
		want, sent, outs := modelFroHear(s.before, s.m)
		wantFroHear(t, "model", s.before, s.m, want, sent, outs...)
	}
	everyFrontHeard(t, 70, check)
	anyFrontHeard(t, 71, check)
	everyFront(t, 72, func(r *rand.Rand, f impl.FroState) {
		tx, o, keep := r.Intn(impl.TxMost+1), randomOp(r), r.Intn(8)-2
		want, sent, ok := modelFroBegin(f, tx, o)
		wantFroBegin(t, "model", f, tx, o, want, sent, ok)
		wantFroTick(t, "model", f, modelFroTick(f)...)
		wantFroFall(t, "model", f, keep, modelFroFall(f, keep))
		var outs []impl.FroOut
		want, sent, outs = f, nil, nil
		if w, active := wayOf(f, tx); active && !w.Yes {
			want, sent, outs = modelAbort(f, w)
		}
		wantFroGive(t, "model", f, tx, want, sent, outs...)
	})
}

// TestFrontLife: an authorization is started, prepared by all three services, committed, and acknowledged by all three.
func TestFrontLife(t *testing.T) {
	o := opLet(1, 2, 3, 7)
	f := front(impl.LogDisk{}, waiting(0, o))
	wantFroBegin(t, "started", impl.FroState{}, 0, o, f, askAll(0, o, 1, 2, 3), true)
	wantFroTick(t, "started", f, askAll(0, o, 1, 2, 3)...)
	one := front(impl.LogDisk{}, waiting(0, o, 2))
	wantFroHear(t, "one vote", f, msgCan(2, 0), one, nil)
	wantFroTick(t, "one vote", one, askAll(0, o, 1, 3)...)
	two := front(impl.LogDisk{}, waiting(0, o, 1, 2))
	wantFroHear(t, "two votes", one, msgCan(1, 0), two, nil)
	wantFroTick(t, "two votes", two, askAll(0, o, 3)...)
	yesSafe := allSafe(yes(0))
	all := front(yesSafe, told(0, o, []int{1, 2, 3}))
	wantFroHear(t, "three votes", two, msgCan(3, 0), all, yesAll(0, 1, 2, 3), reported(0, true)...)
	wantFroTick(t, "three votes", all, yesAll(0, 1, 2, 3)...)
	know := front(yesSafe, told(0, o, []int{1, 2, 3}, 3))
	wantFroHear(t, "one knows", all, msgKnow(3, 0), know, nil)
	wantFroTick(t, "one knows", know, yesAll(0, 1, 2)...)
	know2 := front(yesSafe, told(0, o, []int{1, 2, 3}, 1, 3))
	wantFroHear(t, "two know", know, msgKnow(1, 0), know2, nil)
	wantFroTick(t, "two know", know2, yesAll(0, 2)...)
	over := front(disk(1, yes(0), end(0)))
	wantFroHear(t, "all know", know2, msgKnow(2, 0), over, nil)
	wantFroTick(t, "all know", over)
	wantFroFall(t, "the end is lost", over, 0, front(yesSafe, resumed(0)))
	wantFroFall(t, "the end is left", over, 1, front(allSafe(yes(0), end(0))))
}

// TestFrontRefused: a transaction that one of its services refuses is aborted at once, whoever has voted before, and whoever refuses.
func TestFrontRefused(t *testing.T) {
	for _, o := range someOps() {
		for _, place := range services() {
			for _, can := range [][]int{nil, {1}, {3}, {2, 3}} {
				f := front(allSafe(yes(3)), waiting(4, opIn(1, 1), 1), waiting(6, o, can...), waiting(8, o))
				want := front(allSafe(yes(3)), waiting(4, opIn(1, 1), 1), waiting(8, o))
				wantFroHear(t, "refused", f, msgCant(place, 6), want, noAll(6, modelPlaces(o.Kind)...), reported(6, false)...)
				wantFroHear(t, "refused again", want, msgCant(place, 6), want, nil)
				wantFroHear(t, "a vote after it", want, msgCan(place, 6), want, noAll(6, place))
				wantFroHear(t, "an inquiry after it", want, msgWhat(place, 6), want, noAll(6, place))
			}
		}
	}
}

// TestFrontUnknown: what is neither logged nor active was never committed, also if it has an end in the log; only a vote and an inquiry are answered.
func TestFrontUnknown(t *testing.T) {
	for _, f := range []impl.FroState{
		{}, front(allSafe(yes(4), end(4), yes(6)), told(6, opIn(1, 2), []int{1, 3})), front(disk(0, end(5), end(29))),
		front(padded(impl.LogMost)), front(impl.LogDisk{}, waiting(4, opIn(1, 2), 1), waiting(6, opIn(1, 2), 3)),
	} {
		for _, tx := range []int{0, 5, 29} {
			for _, place := range services() {
				wantFroHear(t, "unknown", f, msgWhat(place, tx), f, noAll(tx, place))
				wantFroHear(t, "unknown", f, msgCan(place, tx), f, noAll(tx, place))
				wantFroHear(t, "unknown", f, msgCant(place, tx), f, nil)
				wantFroHear(t, "unknown", f, msgKnow(place, tx), f, nil)
			}
		}
	}
}

// TestFrontWaiting: an inquiry about an active transaction that is not committed is not answered, nor is an acknowledgement of it.
func TestFrontWaiting(t *testing.T) {
	for _, o := range someOps() {
		for _, can := range [][]int{nil, {1}, {2}, {3}, {1, 2}} {
			for _, d := range []impl.LogDisk{{}, allSafe(yes(4), end(4)), disk(0, end(5)), padded(impl.LogMost, yes(4))} {
				f := front(d, waiting(5, o, can...), waiting(6, o))
				for _, place := range services() {
					wantFroHear(t, "waiting", f, msgWhat(place, 5), f, nil)
					wantFroHear(t, "waiting", f, msgKnow(place, 5), f, nil)
				}
			}
		}
	}
}

// TestFrontCommitted: a vote and an inquiry about a committed transaction, active or not, with or without an end, are answered with the commit; a refusal comes too late.
func TestFrontCommitted(t *testing.T) {
	for _, f := range []impl.FroState{
		front(allSafe(yes(5)), told(5, opIn(1, 2), []int{1, 3})), front(allSafe(yes(5)), told(5, opIn(1, 2), []int{1, 3}, 1, 3)),
		front(allSafe(yes(5)), resumed(5)), front(allSafe(yes(5))), front(disk(1, yes(5), end(5))), front(allSafe(end(5), yes(5))),
		front(disk(0, yes(5), end(5), yes(6)), resumed(5)), front(padded(impl.LogMost, yes(5)), resumed(5)),
	} {
		for _, place := range services() {
			wantFroHear(t, "committed", f, msgWhat(place, 5), f, yesAll(5, place))
			wantFroHear(t, "committed", f, msgCan(place, 5), f, yesAll(5, place))
			wantFroHear(t, "committed", f, msgCant(place, 5), f, nil)
		}
	}
	for _, f := range []impl.FroState{front(allSafe(yes(5))), front(disk(1, yes(5), end(5)))} {
		wantFroHear(t, "acknowledged, and not active", f, msgKnow(2, 5), f, nil)
	}
}

// TestFrontTwice: a second vote, and a second acknowledgement, of the same service count once.
func TestFrontTwice(t *testing.T) {
	o := opLet(1, 2, 3, 7)
	for _, place := range services() {
		others := without(services(), []int{place})
		f := front(impl.LogDisk{}, waiting(5, o, place))
		wantFroHear(t, "the second vote", f, msgCan(place, 5), f, nil)
		f = front(impl.LogDisk{}, waiting(5, o, others...))
		wantFroHear(t, "the third vote of two", f, msgCan(others[0], 5), f, nil)
		f = front(allSafe(yes(5)), told(5, o, services(), place))
		wantFroHear(t, "the second acknowledgement", f, msgKnow(place, 5), f, nil)
		f = front(allSafe(yes(5)), told(5, o, services(), others...))
		wantFroHear(t, "the third acknowledgement of two", f, msgKnow(others[1], 5), f, nil)
	}
}

// TestFrontOtherVote: the vote of a service at which the operation is not executed is kept, but nobody waits for it; if all votes are there without a commit, any vote commits.
func TestFrontOtherVote(t *testing.T) {
	for _, x := range []struct {
		o     impl.OpOp
		other int
		mine  []int
	}{{opIn(1, 2), 2, []int{1, 3}}, {opTrade(3, 7, 4), 1, []int{2, 3}}, {opNext(4, 1), 1, []int{2, 3}}} {
		f := front(impl.LogDisk{}, waiting(5, x.o))
		kept := front(impl.LogDisk{}, waiting(5, x.o, x.other))
		wantFroHear(t, "another vote", f, msgCan(x.other, 5), kept, nil)
		wantFroHear(t, "another vote again", kept, msgCan(x.other, 5), kept, nil)
		wantFroTick(t, "another vote", kept, askAll(5, x.o, x.mine...)...)
		both := front(impl.LogDisk{}, waiting(5, x.o, joinedTo(x.mine[:1], x.other)...))
		wantFroHear(t, "another vote and one", kept, msgCan(x.mine[0], 5), both, nil)
		done := front(allSafe(yes(5)), told(5, x.o, services()))
		wantFroHear(t, "another vote and all", both, msgCan(x.mine[1], 5), done, yesAll(5, 1, 2, 3), reported(5, true)...)
		without := front(allSafe(yes(5)), told(5, x.o, x.mine))
		wantFroHear(t, "all", front(impl.LogDisk{}, waiting(5, x.o, x.mine[1])), msgCan(x.mine[0], 5), without, yesAll(5, 1, 2, 3), reported(5, true)...)
		full := front(impl.LogDisk{}, waiting(5, x.o, x.mine...))
		wantFroTick(t, "nobody is missing", full)
		wantFroHear(t, "all were there", full, msgCan(x.other, 5), done, yesAll(5, 1, 2, 3), reported(5, true)...)
		wantFroHear(t, "all were there", full, msgCan(x.mine[0], 5), without, yesAll(5, 1, 2, 3), reported(5, true)...)
		wantFroHear(t, "another one refuses", f, msgCant(x.other, 5), front(impl.LogDisk{}), noAll(5, x.mine...), reported(5, false)...)
	}
}

// TestFrontAcknowledgements: all three services acknowledge a commit, also if the operation is executed at two of them only.
func TestFrontAcknowledgements(t *testing.T) {
	for _, o := range someOps() {
		begun := mustBegin(t, impl.FroState{}, 5, o)
		for _, list := range orders(knowAll(5)) {
			f := frontAll(begun, votesOf(5, o)...)
			can := modelPlaces(o.Kind)
			var know []int
			for _, m := range list[:2] {
				know = joinedTo(know, m.From)
				want := front(allSafe(yes(5)), told(5, o, can, know...))
				wantFroHear(t, "not all", f, m, want, nil)
				wantFroTick(t, "not all", want, yesAll(5, without(services(), know)...)...)
				f = want
			}
			wantFroHear(t, "all", f, list[2], front(disk(1, yes(5), end(5))), nil)
		}
	}
}

// TestFrontForced: a commit forces all records before it, an end none.
func TestFrontForced(t *testing.T) {
	f := front(disk(1, yes(3), end(3), end(4)), waiting(5, opIn(1, 2), 1))
	want := front(allSafe(yes(3), end(3), end(4), yes(5)), told(5, opIn(1, 2), []int{1, 3}))
	wantFroHear(t, "a commit", f, msgCan(3, 5), want, yesAll(5, 1, 2, 3), reported(5, true)...)
	f = front(disk(1, yes(3), yes(5), end(3)), told(5, opIn(1, 2), []int{1, 3}, 1, 2))
	wantFroHear(t, "an end", f, msgKnow(3, 5), front(disk(1, yes(3), yes(5), end(3), end(5))), nil)
}

// TestFrontFull: a last vote for which the log has no room aborts; a last acknowledgement without room leaves the transaction active, and is taken up again as soon as there is room.
func TestFrontFull(t *testing.T) {
	for _, o := range someOps() {
		places := modelPlaces(o.Kind)
		can, last := places[:len(places)-1], places[len(places)-1]
		f := front(padded(impl.LogMost, yes(3)), waiting(4, o), waiting(5, o, can...))
		wantFroHear(t, "the last vote without room", f, msgCan(last, 5), front(f.Disk, waiting(4, o)), noAll(5, places...), reported(5, false)...)
		wantFroHear(t, "the first vote without room", f, msgCan(last, 4), front(f.Disk, waiting(4, o, last), f.Way[1]), nil)
		f = front(padded(impl.LogMost-1, yes(3)), waiting(5, o, can...))
		want := front(padded(impl.LogMost, yes(3), yes(5)), told(5, o, places))
		wantFroHear(t, "the last vote with the last room", f, msgCan(last, 5), want, yesAll(5, 1, 2, 3), reported(5, true)...)
	}
	full := front(padded(impl.LogMost, yes(5)), told(5, opIn(1, 2), []int{1, 3}, 1, 2))
	known := front(full.Disk, told(5, opIn(1, 2), []int{1, 3}, 1, 2, 3))
	wantFroHear(t, "the last acknowledgement without room", full, msgKnow(3, 5), known, nil)
	for _, place := range services() {
		wantFroHear(t, "one more acknowledgement without room", known, msgKnow(place, 5), known, nil)
		room := front(padded(impl.LogMost-1, yes(5)), told(5, opIn(1, 2), nil, 1, 2, 3))
		wantFroHear(t, "one more acknowledgement with room", room, msgKnow(place, 5), front(disk(119, padded(impl.LogMost, yes(5), end(5)).Notes...)), nil)
	}
	wantFroTick(t, "all know", known)
	room := front(padded(impl.LogMost-1, yes(5)), told(5, opIn(1, 2), nil, 2, 3))
	wantFroHear(t, "the last acknowledgement with the last room", room, msgKnow(1, 5), front(disk(119, padded(impl.LogMost, yes(5), end(5)).Notes...)), nil)
}

// TestFrontInvalid: every function returns zero values for an invalid coordinator, also where it would change nothing.
func TestFrontInvalid(t *testing.T) {
	for _, f := range invalidFronts() {
		for _, tx := range []int{0, 5, 29, -1, 30} {
			wantFroBegin(t, "an invalid coordinator", f, tx, opIn(1, 2), impl.FroState{}, nil, false)
			wantFroGive(t, "an invalid coordinator", f, tx, impl.FroState{}, nil)
		}
		for _, m := range []impl.MsgMsg{msgCan(1, 5), msgCan(3, 0), msgCant(1, 5), msgKnow(2, 6), msgWhat(2, 6), msgWhat(1, 20)} {
			wantFroHear(t, "an invalid coordinator", f, m, impl.FroState{}, nil)
		}
		wantFroTick(t, "an invalid coordinator", f)
		for _, keep := range []int{-1, 0, 1, 200} {
			wantFroFall(t, "an invalid coordinator", f, keep, impl.FroState{})
		}
	}
}

// TestFrontMessageInvalid: an invalid message, and one that is addressed to a service.
func TestFrontMessageInvalid(t *testing.T) {
	f := front(allSafe(yes(17), yes(18)), waiting(1, opIn(1, 2), 1), told(17, opIn(1, 2), nil, 1, 2))
	for _, m := range invalidMessages() {
		wantFroHear(t, "an invalid message", f, m, impl.FroState{}, nil)
	}
	for _, m := range someMessages() {
		if m.To != impl.PlcFront {
			wantFroHear(t, "to a service", f, m, impl.FroState{}, nil)
			wantFroHear(t, "to a service", impl.FroState{}, m, impl.FroState{}, nil)
			back := m
			back.To, back.From = m.From, m.To
			wantFroHear(t, "exchanged", f, back, impl.FroState{}, nil)
		}
	}
}

// TestFrontNoChange: whatever leaves the coordinator as it is returns the coordinator, not the zero value, also the empty one.
func TestFrontNoChange(t *testing.T) {
	f := front(allSafe(yes(6)), waiting(5, opIn(1, 2), 1), told(6, opIn(1, 2), nil, 1, 2), waiting(7, opIn(1, 2)))
	for _, tx := range append(badTxs(), 0, 4, 6, 8, impl.TxMost) {
		wantFroGive(t, "not waiting", f, tx, f, nil)
		wantFroGive(t, "nothing is active", impl.FroState{}, tx, impl.FroState{}, nil)
	}
	wantFroTick(t, "nothing is active", impl.FroState{})
	wantFroFall(t, "nothing is active", impl.FroState{}, 3, impl.FroState{})
	if way := slices.Clone(f.Way); !impl.FroOk(impl.FroState{Disk: f.Disk, Way: way[:0]}) {
		t.Error("an empty list of active transactions is invalid")
	}
}
