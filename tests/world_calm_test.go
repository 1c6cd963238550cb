package tests

import (
	"fmt"
	"math/rand"
	"slices"
	"testing"

	"loop.example/janitor/impl"
)

// TestRunMost: WldRun of no events changes nothing; EvMaxRun events are executed, up to the last one; one more makes it the zero value.
func TestRunMost(t *testing.T) {
	for _, w := range []impl.WldWorld{impl.WldNew(), goodWorld(), idle(30)} {
		for _, none := range [][]impl.EvEvent{nil, {}} {
			wantWorld(t, "no events", impl.WldRun(w, none), w)
		}
		for _, e := range []impl.EvEvent{{}, evTick(0), evTwice(0), evHear(0), evDo(opIn(1, 2))} {
			for _, n := range []int{impl.EvMaxRun - 1, impl.EvMaxRun} {
				events := slices.Repeat([]impl.EvEvent{e}, n)
				events[n-1] = evFall(1, 3)
				wantWorld(t, fmt.Sprint(n, " events"), impl.WldRun(w, events), modelRun(w, events))
			}
			for _, n := range []int{impl.EvMaxRun + 1, impl.EvMaxRun + 2, 2 * impl.EvMaxRun, 5000} {
				wantWorld(t, fmt.Sprint(n, " events"), impl.WldRun(w, slices.Repeat([]impl.EvEvent{e}, n)), impl.WldWorld{})
			}
		}
	}
	last := append(make([]impl.EvEvent, impl.EvMaxRun-1), evDo(opIn(1, 2)))
	if got := impl.WldRun(impl.WldNew(), last); len(got.Ops) != 1 || len(got.Net) != 2 {
		t.Errorf("the last event is not executed: %v", got)
	}
	if got := impl.WldRun(impl.WldNew(), slices.Insert(last, 0, impl.EvEvent{})); got.Disks != nil || got.Ops != nil {
		t.Errorf("one event too many: %v", got)
	}
}

// TestRunSteps: a run is its events one after the other; it may be cut anywhere, and the system is valid there.
func TestRunSteps(t *testing.T) {
	everyWorldRun(t, 710, func(r *rand.Rand, run []worldStep) {
		var events []impl.EvEvent
		for _, s := range run {
			events = append(events, s.e)
			if !impl.WldOk(s.after) || !modelWldOk(s.after) {
				t.Fatalf("invalid: %v", s)
			}
		}
		last := run[len(run)-1].after
		wantWorld(t, "all events", impl.WldRun(impl.WldNew(), events), last)
		for range 5 {
			cut := r.Intn(len(events) + 1)
			first := impl.WldRun(impl.WldNew(), events[:cut])
			if cut > 0 {
				wantWorld(t, "the first events", first, run[cut-1].after)
			}
			wantWorld(t, "the other events", impl.WldRun(first, events[cut:]), last)
		}
	})
}

// TestRunAny: the same for systems that no run gets to.
func TestRunAny(t *testing.T) {
	everyWorld(t, 711, func(r *rand.Rand, w impl.WldWorld) {
		var events []impl.EvEvent
		for range r.Intn(6) {
			events = append(events, eventOf(r, w, anyKind(r)))
		}
		wantWorld(t, fmt.Sprint(w, events), impl.WldRun(w, events), modelRun(w, events))
	})
}

// TestRunNothing: without EvDo nothing is sent, logged or reported.
func TestRunNothing(t *testing.T) {
	r := rand.New(rand.NewSource(712))
	for range worldRounds {
		var events []impl.EvEvent
		for len(events) < impl.EvMaxRun {
			if e := eventOf(r, impl.WldNew(), anyKind(r)); e.Kind != impl.EvDo {
				events = append(events, e)
			}
		}
		got := impl.WldRun(impl.WldNew(), events)
		wantWorld(t, "a run", got, impl.WldNew())
		wantWorld(t, "calm rounds", impl.WldCalm(got, impl.CalmMost), impl.WldNew())
	}
}

// TestLoseAndTwiceAlone: a message that is lost or doubled changes the network, and nothing else.
func TestLoseAndTwiceAlone(t *testing.T) {
	everyWorldRun(t, 713, func(r *rand.Rand, run []worldStep) {
		for _, s := range run {
			at := r.Intn(len(s.before.Net) + 1)
			for _, e := range []impl.EvEvent{evLose(at), evTwice(at)} {
				got := impl.WldStep(s.before, e)
				if wantWorld(t, fmt.Sprint(e), withNet(got, s.before.Net...), s.before); t.Failed() {
					return
				}
			}
		}
	})
}

// TestPromise50: for every system no round changes nothing, rounds leave the list of operations as it is, and too many rounds give the zero value.
func TestPromise50(t *testing.T) {
	everyWorld(t, 715, func(r *rand.Rand, w impl.WldWorld) {
		if r.Intn(14) > 0 {
			return
		}
		for _, n := range []int{0, -1 - r.Intn(1000)} {
			wantWorld(t, fmt.Sprint(n, " rounds"), impl.WldCalm(w, n), w)
		}
		for _, n := range []int{1, 2 + r.Intn(impl.CalmMost-2), impl.CalmMost} {
			if got := impl.WldCalm(w, n); !impl.WldOk(got) || !slices.Equal(got.Ops, w.Ops) {
				t.Fatalf("%d rounds: %v: got %v", n, w, got)
			}
		}
		wantWorld(t, "too many rounds", impl.WldCalm(w, impl.CalmMost+1+r.Intn(1000)), impl.WldWorld{})
	})
}

// TestPromise50Edges: no round changes nothing; CalmMost rounds are executed, up to the last one; one more makes it the zero value.
func TestPromise50Edges(t *testing.T) {
	for _, w := range []impl.WldWorld{impl.WldNew(), goodWorld()} {
		for _, n := range []int{0, -1, -2, -impl.CalmMost, -1 << 63} {
			wantWorld(t, fmt.Sprint(n, " rounds"), impl.WldCalm(w, n), w)
		}
		for _, n := range []int{1, 2, impl.CalmMost - 1, impl.CalmMost} {
			wantWorld(t, fmt.Sprint(n, " rounds"), impl.WldCalm(w, n), modelCalm(w, n))
		}
		for _, n := range []int{impl.CalmMost + 1, impl.CalmMost + 2, 1000, 1<<63 - 1} {
			wantWorld(t, fmt.Sprint(n, " rounds"), impl.WldCalm(w, n), impl.WldWorld{})
		}
	}
}

// TestPromise50Invalid: an invalid system gives the zero value, whatever the number of rounds is, none and too many among them.
func TestPromise50Invalid(t *testing.T) {
	list := []impl.WldWorld{{}, withOps(goodWorld()), withDisks(goodWorld(), goodWorld().Disks[:2]...), withNet(idle(1), noise(impl.NetMost+1)...), idle(impl.TxMost + 2)}
	list = append(list, withDisk(goodWorld(), 1, allSafe(end(0))), withFront(goodWorld(), front(disk(0, no(0)))), withOuts(goodWorld(), impl.FroOut{Tx: 4}))
	for i, w := range list {
		for n := -2; n <= impl.CalmMost+2; n++ {
			wantWorld(t, fmt.Sprint("system ", i, ", ", n, " rounds"), impl.WldCalm(w, n), impl.WldWorld{})
		}
	}
}

// calmEvents lists the events of one calm round: each place has its tick and, before the next place has its own, four times in which messages are heard; how many is counted when each time begins.
func calmEvents(w impl.WldWorld) []impl.EvEvent {
	var events []impl.EvEvent
	add := func(list ...impl.EvEvent) {
		events, w = append(events, list...), impl.WldRun(w, list)
	}
	for place := range impl.PlcMany {
		add(evTick(place))
		for range 4 {
			add(hears(len(w.Net))...)
		}
	}
	return events
}

// TestCalmRound: a calm round is its events, and n rounds are one after the other; the system stays valid, and nothing is started.
func TestCalmRound(t *testing.T) {
	changed := map[int]int{}
	everyWorld(t, 714, func(r *rand.Rand, w impl.WldWorld) {
		if r.Intn(14) > 0 {
			return
		}
		last := w
		for n := 1; n <= 3; n++ {
			events := calmEvents(last)
			next := modelCalm(last, 1)
			if len(events) <= impl.EvMaxRun {
				wantWorld(t, "the events of a round", impl.WldRun(last, events), next)
			}
			wantWorld(t, "a round", impl.WldCalm(last, 1), next)
			wantWorld(t, fmt.Sprint(n, " rounds"), impl.WldCalm(w, n), next)
			if !impl.WldOk(next) || !slices.Equal(next.Ops, w.Ops) {
				t.Fatalf("%d rounds: %v: got %v", n, w, next)
			}
			if !sameWorld(next, last) {
				changed[n]++
			}
			last = next
		}
	})
	if changed[1] < 100 || changed[2] < 15 {
		t.Errorf("the rounds that change something: %v", changed)
	}
}

// TestCalmTimes: the four times behind the coordinator's tick are enough for a question, the votes, the outcome and the acknowledgements; a round hears the answers that come up within it, though there were fewer messages at first.
func TestCalmTimes(t *testing.T) {
	o := opLet(1, 2, 3, 7)
	start := mustRun(t, impl.WldCalm(mustRun(t, impl.WldNew(), evDo(opIn(1, 2))), 1), evDo(o))
	lost := mustRun(t, start, evLose(0), evLose(0), evLose(0))
	want := world(front(disk(3, yes(0), end(0), yes(1), end(1))), logs(
		allSafe(readyTo(0, set("s2", 1)), yes(0), ready(1, []string{"s2"}), yes(1)),
		allSafe(readyTo(1, set("c3", 1, 5672)), yes(1)),
		allSafe(readyTo(0, set("a0", 1)), yes(0), readyTo(1, set("a1", 2)), yes(1))), nil, []impl.OpOp{opIn(1, 2), o}, []impl.FroOut{{Tx: 0, Ok: true}, {Tx: 1, Ok: true}})
	for _, w := range []impl.WldWorld{start, lost} {
		wantWorld(t, "one round", impl.WldCalm(w, 1), want)
		wantWorld(t, "many rounds", impl.WldCalm(w, impl.CalmMost), want)
	}
	for i, n := range []int{3, 3, 3, 3} {
		events := append([]impl.EvEvent{evTick(0)}, hears(3*i)...)
		if got := mustRun(t, lost, events...); len(got.Net) != n {
			t.Errorf("time %d begins with %v", i, got.Net)
		}
	}
}

// TestCalmPlaces: each place has its tick and its own four times before the next place has its tick: the audit service asks about the login that the crash has taken only when the other login is over.
func TestCalmPlaces(t *testing.T) {
	w := mustRun(t, impl.WldNew(), evDo(opIn(2, 1)), evHear(1), evHear(1), evFall(0, 1), evDo(opIn(2, 2)))
	want := world(front(disk(1, yes(1), end(1))), logs(
		disk(4, readyTo(0, set("s1", 2)), readyTo(1, set("s2", 2)), no(0), yes(1)),
		disk(0),
		disk(3, readyTo(0, set("a0", 1)), readyTo(1, set("a1", 1)), yes(1), no(0))), nil, []impl.OpOp{opIn(2, 1), opIn(2, 2)}, reported(1, true))
	for _, n := range []int{1, 2, impl.CalmMost} {
		wantWorld(t, fmt.Sprint(n, " rounds"), impl.WldCalm(w, n), want)
	}
}

// doubtful has three committed transactions: all but the service at place tx-1 of a list have acknowledged tx, and that one is in doubt about it.
func doubtful(places []int) impl.WldWorld {
	w := withFront(idle(4), front(allSafe(yes(1), yes(2), yes(3))))
	for i, place := range places {
		tx := i + 1
		w.Front.Way = append(w.Front.Way, told(tx, opIn(1, 2), nil, without(services(), []int{place})...))
		w.Disks[place-1] = allSafe(ready(tx, nil))
	}
	return w
}

// TestCalmOrder: the coordinator is the first place, and ends the commits in the order of their numbers; where it has no room in the network, the services come after it, in their order.
func TestCalmOrder(t *testing.T) {
	for _, places := range [][]int{{1, 2, 3}, {1, 3, 2}, {2, 1, 3}, {2, 3, 1}, {3, 1, 2}, {3, 2, 1}} {
		w := doubtful(places)
		want := withFront(w, front(disk(3, yes(1), yes(2), yes(3), end(1), end(2), end(3))))
		full := want
		full.Front = front(disk(3, yes(1), yes(2), yes(3)))
		for _, place := range services() {
			tx := 1 + slices.Index(places, place)
			want.Disks[place-1] = allSafe(ready(tx, nil), yes(tx))
			full.Front.Disk.Notes = append(full.Front.Disk.Notes, end(tx))
		}
		wantWorld(t, fmt.Sprint(places), impl.WldCalm(w, 1), want)
		wantWorld(t, fmt.Sprint(places, ", full"), impl.WldCalm(withNet(w, noise(impl.NetMost)...), 1), full)
	}
}

// TestCalmRoom: where there is little room, that is so for what the coordinator repeats; when a service has its tick, the network is empty.
func TestCalmRoom(t *testing.T) {
	for n := 56; n <= impl.NetMost; n++ {
		w := withNet(withFront(idle(4), front(allSafe(yes(1)), told(1, opIn(1, 2), []int{1, 3}, 1), waiting(2, opIn(3, 4), 1))), noise(n)...)
		w.Disks = logs(disk(0, readyTo(3, set("s4", 1))), disk(0, readyTo(3, set("c4", 1, 1))), disk(0, readyTo(3, set("a3", 1))))
		ticks := messages(yesAll(1, 2, 3), askAll(2, opIn(3, 4), 3))
		heard := modelFour(withNet(w, messages(w.Net, ticks[:min(3, impl.NetMost-n)])...))
		for _, place := range services() {
			// The last service has, where there was room, prepared the transaction 2, and is told of its commit at once.
			if open := modelOpen(heard.Disks[place-1].Notes); len(heard.Net) > 0 || !slices.Equal(open, []int{3}) {
				t.Fatalf("%d messages: place %d: %v", n, place, heard)
			}
			heard = modelFour(withNet(heard, msgWhat(place, 3)))
		}
		wantWorld(t, fmt.Sprint(n, " messages"), impl.WldCalm(w, 1), heard)
		wantWorld(t, fmt.Sprint(n, " messages, two rounds"), impl.WldCalm(w, 2), impl.WldCalm(heard, 1))
	}
}

// TestCalmFourTimes: twenty votes commit twenty transactions, and their acknowledgements fill the network; only the fourth time makes room for the question of a service.
func TestCalmFourTimes(t *testing.T) {
	w, want := idle(21), world(front(disk(20)), nil, nil, nil, nil)
	s0, asked := readyTo(0, set("s0", 1)), disk(40)
	w.Disks[0] = allSafe(s0)
	for tx := 1; tx <= 20; tx++ {
		w.Front.Way = append(w.Front.Way, waiting(tx, w.Ops[tx], 1))
		want.Front.Disk.Notes = append(want.Front.Disk.Notes, yes(tx))
		want.Outs = append(want.Outs, reported(tx, true)...)
		asked.Notes = append(asked.Notes, readyTo(tx, set(fmt.Sprint("a", tx), impl.OpIn)))
	}
	three := mustRun(t, w, append([]impl.EvEvent{evTick(0)}, hears(20+20+60)...)...)
	if len(three.Net) != impl.NetMost || !slices.Equal(three.Net[:3], knowAll(1)) {
		t.Fatalf("after three times: %v", three.Net)
	}
	for tx := 1; tx <= 20; tx++ {
		want.Front.Disk.Notes = append(want.Front.Disk.Notes, end(tx))
		asked.Notes = append(asked.Notes, yes(tx))
	}
	want.Disks, want.Ops = logs(disk(1, s0, no(0)), disk(0), asked), w.Ops
	wantWorld(t, "one round", impl.WldCalm(w, 1), want)
	wantWorld(t, "two rounds", impl.WldCalm(w, 2), want)
}

// TestCalmNoise: a full network is heard in one round, and only in the next one is there room for what the coordinator repeats.
func TestCalmNoise(t *testing.T) {
	o := opIn(1, 2)
	w := withNet(mustRun(t, idle(1), evDo(o)), noise(impl.NetMost)...)
	w.Net[impl.NetMost-1] = msgAsk(1, 1, o)
	once := impl.WldCalm(w, 1)
	s2, a1 := readyTo(1, set("s2", 1)), readyTo(1, set("a1", 1))
	wantWorld(t, "one round", once, world(front(disk(0), waiting(1, o, 1)), logs(allSafe(s2), disk(0), disk(0)), nil, w.Ops, nil))
	over := front(disk(1, yes(1), end(1)))
	wantWorld(t, "two rounds", impl.WldCalm(w, 2), world(over, logs(allSafe(s2, yes(1)), disk(0), allSafe(a1, yes(1))), nil, w.Ops, reported(1, true)))
}
