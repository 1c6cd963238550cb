package tests

import (
	"math/rand"
	"slices"
	"testing"

	"loop.example/janitor/impl"
)

// attempts lists operations of which the last one is watched: it is committed behind those that it needs, or refused: without a login, with another secret, with a session or a code that somebody is in doubt about.
func attempts() [][]impl.OpOp {
	in, let := opIn(1, 2), opLet(1, 2, 3, 7)
	return append(commits(), []impl.OpOp{opOut(1, 2)}, []impl.OpOp{in, let, opTrade(3, 8, 4)}, []impl.OpOp{opLet(5, 6, 3, 7)}, []impl.OpOp{in, opLet(1, 2, 8, 7)})
}

// hearIf hears, in any order, all messages that are about transactions as wanted.
func hearIf(t *testing.T, r *rand.Rand, w impl.WldWorld, wanted func(m impl.MsgMsg) bool) impl.WldWorld {
	t.Helper()
	for {
		var some []int
		for at, m := range w.Net {
			if wanted(m) {
				some = append(some, at)
			}
		}
		if len(some) == 0 {
			return w
		}
		w = mustRun(t, w, evHear(some[r.Intn(len(some))]))
	}
}

// watched starts the last one of some operations, as others are under way: two logins are committed and their acknowledgements are in the network; two authorizations were given up, and all three services are still to hear of that.
func watched(t *testing.T, r *rand.Rand, ops []impl.OpOp) (impl.WldWorld, int) {
	t.Helper()
	last := len(ops) - 1
	w := played(t, impl.WldNew(), newModel(), append([]impl.OpOp{opIn(5, 6), opIn(6, 7)}, ops[:last]...)...)
	w = mustRun(t, w, evDo(opIn(7, 8)), evDo(opIn(8, 9)))
	w = hearIf(t, r, w, func(m impl.MsgMsg) bool { return m.Kind != impl.MsgKnow })
	first := len(w.Ops)
	w = mustRun(t, w, evDo(opLet(5, 6, 8, 1)), evDo(opLet(6, 7, 9, 1)))
	w = hearIf(t, r, w, func(m impl.MsgMsg) bool { return m.Kind == impl.MsgAsk })
	w.Net = slices.DeleteFunc(w.Net, func(m impl.MsgMsg) bool { return m.Kind == impl.MsgCan })
	return mustRun(t, w, evGive(first), evGive(first+1), evDo(ops[last])), first + 2
}

// fails lets each place crash with no record left that is not forced, with one, and with all: the coordinator has logged that both logins are over, each service that both authorizations are aborted. Or the attempt is given up. Some more happens behind that.
func (x troubles) fails(t *testing.T, w impl.WldWorld, tx int) {
	t.Helper()
	w = hearIf(t, x.r, w, func(m impl.MsgMsg) bool { return m.Tx != tx })
	events := []impl.EvEvent{evGive(tx)}
	for place := range impl.PlcMany {
		events = append(events, evFall(place, -x.r.Intn(2)), evFall(place, 1), evFall(place, 3+x.r.Intn(2)*1000))
	}
	for _, e := range events {
		s := stepOf(w, e)
		x.step(s)
		x.storm(s.after, anyWeather(x.r), 2)
	}
}

// everyFailure goes through the steps of all attempts, with the messages about them heard in three orders, and lets each of them fail.
func (x troubles) everyFailure(t *testing.T) {
	t.Helper()
	for _, ops := range attempts() {
		for _, hearing := range hearings() {
			w, tx := watched(t, x.r, ops)
			for !t.Failed() {
				x.fails(t, w, tx)
				var about []int
				for at, m := range w.Net {
					if m.Tx == tx {
						about = append(about, at)
					}
				}
				if len(about) == 0 {
					break
				}
				s := stepOf(w, evHear(about[hearing(x.r, len(about))]))
				x.step(s)
				w = s.after
			}
		}
	}
}

// rivals lists operations of one user that are possible behind those of the start, and of which most get into the way of others.
func rivals() (start, list []impl.OpOp) {
	start = []impl.OpOp{opIn(1, 2), opLet(1, 2, 3, 7), opLet(1, 2, 6, 7), opTrade(6, 7, 5), opNext(5, 1)}
	list = []impl.OpOp{opIn(1, 4), opIn(3, 4), opLet(1, 2, 8, 7), opLet(1, 2, 8, 9), opTrade(3, 7, 4), opTrade(3, 7, 9), opNext(5, 1), opNext(5, 2), opOut(1, 2)}
	return start, list
}

// everyPair starts each two of the rivals together, in any order of the messages.
func (x troubles) everyPair(t *testing.T) {
	t.Helper()
	before, list := rivals()
	start := played(t, impl.WldNew(), newModel(), before...)
	for _, a := range list {
		for _, b := range list {
			for range 8 {
				if x.pair(start, a, b); t.Failed() {
					return
				}
			}
		}
	}
}

// pair doubles some questions, and sometimes gives one of the two operations up. Messages of one kind are slow: as long as there are others, these are heard first, and then the coordinator repeats itself once.
func (x troubles) pair(w impl.WldWorld, a, b impl.OpOp) {
	next := func(e impl.EvEvent) {
		s := stepOf(w, e)
		x.step(s)
		w = s.after
	}
	next(evDo(a))
	next(evDo(b))
	next(evTwice(x.r.Intn(len(w.Net))))
	next(evTwice(x.r.Intn(len(w.Net))))
	given, slow, repeated := x.r.Intn(24), impl.MsgAsk+x.r.Intn(impl.MsgWhat), false
	for n := 0; len(w.Net) > 0; n++ {
		if n == given {
			next(evGive(len(w.Ops) - 1 - n%2))
		}
		at, found := fastOne(x.r, w.Net, slow)
		if !found && !repeated {
			repeated = true
			next(evTick(impl.PlcFront))
			continue
		}
		next(evHear(at))
	}
}

// fastOne returns the number of any message of another kind; false if there is none, and then the number of any message.
func fastOne(r *rand.Rand, net []impl.MsgMsg, slow int) (int, bool) {
	for _, at := range r.Perm(len(net)) {
		if net[at].Kind != slow {
			return at, true
		}
	}
	return r.Intn(len(net)), false
}
