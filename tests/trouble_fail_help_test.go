package tests

import (
	"math/rand"
	"slices"
	"testing"

	"loop.example/janitor/impl"
)

// attempts lists operations of which the last one is watched: it is committed behind those that it needs, or refused: without a login, with another secret, with a session or a code that somebody is in doubt about.
func attempts() [][]impl.OpOp {
	in, let := opIn(1, 2), opLet(1, 2, 3, 7)
	return append(commits(), []impl.OpOp{opOut(1, 2)}, []impl.OpOp{in, let, opTrade(3, 8, 4)}, []impl.OpOp{opLet(5, 6, 3, 7)}, []impl.OpOp{in, opLet(1, 2, 8, 7)})
}

// enough messages are heard, however an operation ends.
const enough = 500

// numbersOf lists which messages are as wanted.
func numbersOf(net []impl.MsgMsg, wanted func(m impl.MsgMsg) bool) []int {
	var out []int
	for at, m := range net {
		if wanted(m) {
			out = append(out, at)
		}
	}
	return out
}

// hearIf hears, in any order, all messages that are as wanted, and the answers to them.
func hearIf(t *testing.T, r *rand.Rand, w impl.WldWorld, wanted func(m impl.MsgMsg) bool) impl.WldWorld {
	t.Helper()
	for range enough {
		some := numbersOf(w.Net, wanted)
		if len(some) == 0 {
			return w
		}
		w = mustRun(t, w, evHear(some[r.Intn(len(some))]))
	}
	t.Fatalf("there are always more messages: %v", w)
	return w
}

// watched starts the last one of some operations, as others are under way: two logins are committed and their acknowledgements are in the network; two authorizations were given up, and all three services are still to hear of that.
func watched(t *testing.T, r *rand.Rand, ops []impl.OpOp) (impl.WldWorld, int) {
	t.Helper()
	last := len(ops) - 1
	w := played(t, impl.WldNew(), newModel(), append([]impl.OpOp{opIn(5, 6), opIn(6, 7)}, ops[:last]...)...)
	w = mustRun(t, w, evDo(opIn(7, 8)), evDo(opIn(8, 9)))
	w = hearIf(t, r, w, func(m impl.MsgMsg) bool { return m.Kind != impl.MsgKnow })
	first := len(w.Ops)
	w = mustRun(t, w, evDo(opLet(5, 6, 8, 1)), evDo(opLet(6, 7, 9, 1)))
	w = hearIf(t, r, w, func(m impl.MsgMsg) bool { return m.Kind == impl.MsgAsk })
	w.Net = slices.DeleteFunc(w.Net, func(m impl.MsgMsg) bool { return m.Kind == impl.MsgCan })
	return mustRun(t, w, evGive(first), evGive(first+1), evDo(ops[last])), first + 2
}

// fails lets each place crash with no record left that is not forced, with one, and with all: the coordinator has logged that both logins are over, each service that both authorizations are aborted. Or the attempt is given up. Some more happens behind that.
func (x troubles) fails(w impl.WldWorld, tx int) {
	x.t.Helper()
	w = hearIf(x.t, x.r, w, func(m impl.MsgMsg) bool { return m.Tx != tx })
	events := []impl.EvEvent{evGive(tx)}
	for place := range impl.PlcMany {
		events = append(events, evFall(place, -x.r.Intn(2)), evFall(place, 1), evFall(place, 3+x.r.Intn(2)*1000))
	}
	for _, e := range events {
		x.storm(x.next(w, e), anyWeather(x.r), 2)
	}
}

// everyFailure goes through the steps of all attempts, with the messages about them heard in three orders, and lets each of them fail.
func (x troubles) everyFailure() {
	x.t.Helper()
	for _, ops := range attempts() {
		for _, hearing := range hearings() {
			w, tx := watched(x.t, x.r, ops)
			x.fails(w, tx)
			for range enough {
				about := numbersOf(w.Net, func(m impl.MsgMsg) bool { return m.Tx == tx })
				if len(about) == 0 || x.t.Failed() {
					break
				}
				w = x.next(w, evHear(about[hearing(x.r, len(about))]))
				x.fails(w, tx)
			}
		}
	}
}

// rivals lists operations of one user that are possible behind those of the start, and of which most get into the way of others.
func rivals() (start, list []impl.OpOp) {
	start = []impl.OpOp{opIn(1, 2), opLet(1, 2, 3, 7), opLet(1, 2, 6, 7), opTrade(6, 7, 5), opNext(5, 1)}
	list = []impl.OpOp{opIn(1, 4), opIn(3, 4), opLet(1, 2, 8, 7), opLet(1, 2, 8, 9), opTrade(3, 7, 4), opTrade(3, 7, 9), opNext(5, 1), opNext(5, 2), opOut(1, 2)}
	return start, list
}

// everyPair starts each two of the rivals together, in any order of the messages.
func (x troubles) everyPair() {
	x.t.Helper()
	before, list := rivals()
	start := played(x.t, impl.WldNew(), newModel(), before...)
	for _, a := range list {
		for _, b := range list {
			for range 8 {
				if x.pair(start, a, b); x.t.Failed() {
					return
				}
			}
		}
	}
}

// pair doubles some questions, and sometimes gives one of the two operations up. Messages of one kind are slow: as long as there are others, these are heard first, and then the coordinator repeats itself once.
func (x troubles) pair(w impl.WldWorld, a, b impl.OpOp) {
	x.t.Helper()
	for _, e := range []impl.EvEvent{evDo(a), evDo(b), evTwice(x.r.Intn(4)), evTwice(x.r.Intn(4))} {
		w = x.next(w, e)
	}
	given, slow, repeated := x.r.Intn(24), impl.MsgAsk+x.r.Intn(impl.MsgWhat), false
	for n := 0; n < enough && len(w.Net) > 0; n++ {
		if n == given {
			w = x.next(w, evGive(len(w.Ops)-1-n%2))
		}
		at, found := fastOne(x.r, w.Net, slow)
		if !found && !repeated {
			w, repeated = x.next(w, evTick(impl.PlcFront)), true
			continue
		}
		w = x.next(w, evHear(at))
	}
}

// fastOne returns the number of any message of another kind; false if there is none, and then the number of any message.
func fastOne(r *rand.Rand, net []impl.MsgMsg, slow int) (int, bool) {
	for _, at := range r.Perm(len(net)) {
		if net[at].Kind != slow {
			return at, true
		}
	}
	return r.Intn(len(net)), false
}
