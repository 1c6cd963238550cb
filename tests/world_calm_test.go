package tests

import (
	"fmt"
	"math/rand"
	"slices"
	"testing"

	"loop.example/janitor/impl"
)

// TestRunMost: WldRun of no events changes nothing; EvMaxRun events are executed, up to the last one; one more makes it the zero value.
func TestRunMost(t *testing.T) {
	for _, w := range []impl.WldWorld{impl.WldNew(), goodWorld(), idle(30)} {
		for _, none := range [][]impl.EvEvent{nil, {}} {
			wantWorld(t, "no events", impl.WldRun(w, none), w)
		}
		for _, e := range []impl.EvEvent{{}, evTick(0), evTwice(0), evHear(0), evDo(opIn(1, 2))} {
			for _, n := range []int{impl.EvMaxRun - 1, impl.EvMaxRun} {
				events := slices.Repeat([]impl.EvEvent{e}, n)
				events[n-1] = evFall(1, 3)
				wantWorld(t, fmt.Sprint(n, " events"), impl.WldRun(w, events), modelRun(w, events))
			}
			for _, n := range []int{impl.EvMaxRun + 1, impl.EvMaxRun + 2, 2 * impl.EvMaxRun, 5000} {
				wantWorld(t, fmt.Sprint(n, " events"), impl.WldRun(w, slices.Repeat([]impl.EvEvent{e}, n)), impl.WldWorld{})
			}
		}
	}
	last := append(make([]impl.EvEvent, impl.EvMaxRun-1), evDo(opIn(1, 2)))
	if got := impl.WldRun(impl.WldNew(), last); len(got.Ops) != 1 || len(got.Net) != 2 {
		t.Errorf("the last event is not executed: %v", got)
	}
	if got := impl.WldRun(impl.WldNew(), slices.Insert(last, 0, impl.EvEvent{})); got.Disks != nil || got.Ops != nil {
		t.Errorf("one event too many: %v", got)
	}
}

// TestRunSteps: a run is its events one after the other; it may be cut anywhere, and the system is valid there.
func TestRunSteps(t *testing.T) {
	everyWorldRun(t, 710, func(r *rand.Rand, run []worldStep) {
		var events []impl.EvEvent
		for _, s := range run {
			events = append(events, s.e)
			if !impl.WldOk(s.after) || !modelWldOk(s.after) {
				t.Fatalf("invalid: %v", s)
			}
		}
		last := run[len(run)-1].after
		wantWorld(t, "all events", impl.WldRun(impl.WldNew(), events), last)
		for range 5 {
			cut := r.Intn(len(events) + 1)
			first := impl.WldRun(impl.WldNew(), events[:cut])
			if cut > 0 {
				wantWorld(t, "the first events", first, run[cut-1].after)
			}
			wantWorld(t, "the other events", impl.WldRun(first, events[cut:]), last)
		}
	})
}

// TestRunAny: the same for systems that no run gets to.
func TestRunAny(t *testing.T) {
	everyWorld(t, 711, func(r *rand.Rand, w impl.WldWorld) {
		var events []impl.EvEvent
		for range r.Intn(6) {
			events = append(events, eventOf(r, w, anyKind(r)))
		}
		wantWorld(t, fmt.Sprint(w, events), impl.WldRun(w, events), modelRun(w, events))
	})
}

// TestRunNothing: without EvDo nothing is sent, logged or reported.
func TestRunNothing(t *testing.T) {
	r := rand.New(rand.NewSource(712))
	for range worldRounds {
		var events []impl.EvEvent
		for len(events) < impl.EvMaxRun {
			if e := eventOf(r, impl.WldNew(), anyKind(r)); e.Kind != impl.EvDo {
				events = append(events, e)
			}
		}
		got := impl.WldRun(impl.WldNew(), events)
		wantWorld(t, "a run", got, impl.WldNew())
		wantWorld(t, "calm rounds", impl.WldCalm(got, impl.CalmMost), impl.WldNew())
	}
}

// TestLoseAndTwiceAlone: a message that is lost or doubled changes the network, and nothing else.
func TestLoseAndTwiceAlone(t *testing.T) {
	everyWorldRun(t, 713, func(r *rand.Rand, run []worldStep) {
		for _, s := range run {
			at := r.Intn(len(s.before.Net) + 1)
			for _, e := range []impl.EvEvent{evLose(at), evTwice(at)} {
				got := impl.WldStep(s.before, e)
				if wantWorld(t, fmt.Sprint(e), withNet(got, s.before.Net...), s.before); t.Failed() {
					return
				}
			}
		}
	})
}

// TestCalmMost: no round changes nothing; CalmMost rounds are executed, up to the last one; one more makes it the zero value.
func TestCalmMost(t *testing.T) {
	for _, w := range []impl.WldWorld{impl.WldNew(), goodWorld()} {
		for _, n := range []int{0, -1, -2, -impl.CalmMost, -1 << 63} {
			wantWorld(t, fmt.Sprint(n, " rounds"), impl.WldCalm(w, n), w)
		}
		for _, n := range []int{1, 2, impl.CalmMost - 1, impl.CalmMost} {
			wantWorld(t, fmt.Sprint(n, " rounds"), impl.WldCalm(w, n), modelCalm(w, n))
		}
		for _, n := range []int{impl.CalmMost + 1, impl.CalmMost + 2, 1000, 1<<63 - 1} {
			wantWorld(t, fmt.Sprint(n, " rounds"), impl.WldCalm(w, n), impl.WldWorld{})
		}
	}
}

// calmEvents lists the events of one calm round: how many messages are heard is counted when each of the four times begins.
func calmEvents(w impl.WldWorld) []impl.EvEvent {
	events := []impl.EvEvent{evTick(0), evTick(1), evTick(2), evTick(3)}
	for range 4 {
		n := len(impl.WldRun(w, events).Net)
		events = append(events, hears(n)...)
	}
	return events
}

// TestCalmRound: a calm round is its events, and n rounds are one after the other; the system stays valid, and nothing is started.
func TestCalmRound(t *testing.T) {
	changed := map[int]int{}
	everyWorld(t, 714, func(r *rand.Rand, w impl.WldWorld) {
		if r.Intn(14) > 0 {
			return
		}
		last := w
		for n := 1; n <= 3; n++ {
			events := calmEvents(last)
			next := modelCalm(last, 1)
			if len(events) <= impl.EvMaxRun {
				wantWorld(t, "the events of a round", impl.WldRun(last, events), next)
			}
			wantWorld(t, "a round", impl.WldCalm(last, 1), next)
			wantWorld(t, fmt.Sprint(n, " rounds"), impl.WldCalm(w, n), next)
			if !impl.WldOk(next) || !slices.Equal(next.Ops, w.Ops) {
				t.Fatalf("%d rounds: %v: got %v", n, w, next)
			}
			if !sameWorld(next, last) {
				changed[n]++
			}
			last = next
		}
	})
	if changed[1] < 100 || changed[2] < 15 {
		t.Errorf("the rounds that change something: %v", changed)
	}
}

// TestCalmTimes: the four times are enough for a question, the votes, the outcome and the acknowledgements; a round hears the answers that come up within it, though there were fewer messages at first.
func TestCalmTimes(t *testing.T) {
	o := opLet(1, 2, 3, 7)
	start := mustRun(t, impl.WldCalm(mustRun(t, impl.WldNew(), evDo(opIn(1, 2))), 1), evDo(o))
	lost := mustRun(t, start, evLose(0), evLose(0), evLose(0))
	want := world(front(disk(3, yes(0), end(0), yes(1), end(1))), logs(
		allSafe(readyTo(0, set("s2", 1)), yes(0), ready(1, []string{"s2"}), yes(1)),
		allSafe(readyTo(1, set("c3", 1, 5672)), yes(1)),
		allSafe(readyTo(0, set("a0", 1)), yes(0), readyTo(1, set("a1", 2)), yes(1))), nil, []impl.OpOp{opIn(1, 2), o}, []impl.FroOut{{Tx: 0, Ok: true}, {Tx: 1, Ok: true}})
	for _, w := range []impl.WldWorld{start, lost} {
		wantWorld(t, "one round", impl.WldCalm(w, 1), want)
		wantWorld(t, "many rounds", impl.WldCalm(w, impl.CalmMost), want)
	}
	for i, n := range []int{3, 3, 3, 3} {
		events := append([]impl.EvEvent{evTick(0)}, hears(3*i)...)
		if got := mustRun(t, lost, events...); len(got.Net) != n {
			t.Errorf("time %d begins with %v", i, got.Net)
		}
	}
}

// TestCalmTicks: the places repeat in their order, the coordinator first: where there is little room, its messages take it.
func TestCalmTicks(t *testing.T) {
	for n := 56; n <= impl.NetMost; n++ {
		w := withNet(withFront(idle(4), front(allSafe(yes(1)), told(1, opIn(1, 2), []int{1, 3}, 1), waiting(2, opIn(3, 4), 1))), noise(n)...)
		w.Disks = logs(disk(0, readyTo(3, set("s4", 1))), disk(0, readyTo(3, set("c4", 1, 1))), disk(0, readyTo(3, set("a3", 1))))
		ticks := messages(yesAll(1, 2, 3), askAll(2, opIn(3, 4), 3), []impl.MsgMsg{msgWhat(1, 3), msgWhat(2, 3), msgWhat(3, 3)})
		heard := withNet(w, messages(w.Net, ticks[:impl.NetMost-n])...)
		for range 4 {
			heard = modelRun(heard, hears(len(heard.Net)))
		}
		wantWorld(t, fmt.Sprint(n, " messages"), impl.WldCalm(w, 1), heard)
		wantWorld(t, fmt.Sprint(n, " messages, two rounds"), impl.WldCalm(w, 2), impl.WldCalm(heard, 1))
	}
}

// TestCalmNoise: a full network is heard in one round, and only then is there room for what the places repeat.
func TestCalmNoise(t *testing.T) {
	o := opIn(1, 2)
	w := withNet(mustRun(t, idle(1), evDo(o)), noise(impl.NetMost)...)
	w.Net[impl.NetMost-1] = msgAsk(1, 1, o)
	once := impl.WldCalm(w, 1)
	s2, a1 := readyTo(1, set("s2", 1)), readyTo(1, set("a1", 1))
	wantWorld(t, "one round", once, world(front(disk(0), waiting(1, o, 1)), logs(allSafe(s2), disk(0), disk(0)), nil, w.Ops, nil))
	over := front(disk(1, yes(1), end(1)))
	wantWorld(t, "two rounds", impl.WldCalm(w, 2), world(over, logs(allSafe(s2, yes(1)), disk(0), allSafe(a1, yes(1))), nil, w.Ops, reported(1, true)))
}
