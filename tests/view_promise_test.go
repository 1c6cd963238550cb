package tests

import (
	"fmt"
	"math/rand"
	"slices"
	"testing"

	"loop.example/janitor/impl"
)

// TestPromise45: of operations that are executed one after the other, with calm rounds behind each, just those are committed that are possible, and just that is reported.
func TestPromise45(t *testing.T) {
	t.Parallel()
	r, count := rand.New(rand.NewSource(945)), map[string]int{}
	for range worldRounds {
		w, list, server := impl.WldNew(), impl.GloNew(), newModel()
		var outs []impl.FroOut
		for tx := range impl.TxMost + 1 {
			o := nextOp(r, list)
			next, possible := impl.GloDo(list, tx, o)
			w = impl.WldCalm(mustRun(t, w, evDo(o)), []int{1, 2, calmRounds}[r.Intn(3)])
			outs = append(outs, impl.FroOut{Tx: tx, Ok: possible})
			if server.do(tx, o) != possible || hasNote(w.Front.Disk, impl.LogYes, tx) != possible || !slices.Equal(w.Outs, outs) {
				t.Fatalf("%v is possible on %v: %v: got %v", o, list, possible, w)
			}
			wantRest(t, fmt.Sprint(o), w, server)
			list = next
			count[fmt.Sprint(o.Kind, possible)]++
		}
		wantStep(t, "there are no more numbers", w, evDo(opIn(1, 2)), w)
	}
	wantEveryKind(t, count, 20)
}

// wantComposed cuts a run at some places.
func wantComposed(t *testing.T, w impl.WldWorld, events []impl.EvEvent, cuts ...int) {
	t.Helper()
	whole := impl.WldRun(w, events)
	for _, cut := range cuts {
		first := impl.WldRun(w, events[:cut])
		if got := impl.WldRun(first, events[cut:]); !sameWorld(got, whole) {
			t.Fatalf("%v, %v, cut at %d: got %v, want %v", w, events, cut, got, whole)
		}
	}
}

// eventsOf is events as they come in a run.
func eventsOf(t *testing.T, r *rand.Rand, w impl.WldWorld, length int) []impl.EvEvent {
	t.Helper()
	var out []impl.EvEvent
	for range length {
		e := anyWeather(r).event(r, w)
		if r.Intn(10) == 0 {
			e = eventOf(r, w, anyKind(r))
		}
		out, w = append(out, e), mustRun(t, w, e)
	}
	return out
}

// TestPromise49: a run may be cut anywhere, and a run of one event is a step, for every system.
func TestPromise49(t *testing.T) {
	t.Parallel()
	r := rand.New(rand.NewSource(949))
	for range worldRounds {
		events := eventsOf(t, r, impl.WldNew(), impl.EvMaxRun)
		wantComposed(t, impl.WldNew(), events, 0, 1, 2, r.Intn(len(events)), r.Intn(len(events)), impl.EvMaxRun-1, impl.EvMaxRun)
	}
	everyWorld(t, 950, func(r *rand.Rand, w impl.WldWorld) {
		if r.Intn(5) > 0 {
			return
		}
		for _, e := range oneOfEach(r, w) {
			wantWorld(t, fmt.Sprint(w, e), impl.WldRun(w, []impl.EvEvent{e}), impl.WldStep(w, e))
		}
		events := eventsOf(t, r, w, 1+r.Intn(8))
		wantComposed(t, w, events, 0, r.Intn(len(events)+1), len(events))
	})
}

// TestPromise49Edges: cuts may also leave all events on one side; an invalid system has the zero value, in one run as in two. More events than there may be are none of a run.
func TestPromise49Edges(t *testing.T) {
	most := slices.Concat([]impl.EvEvent{evDo(opIn(1, 2)), evHear(0), evTwice(0)}, hears(impl.EvMaxRun-4), []impl.EvEvent{evFall(0, 0)})
	for _, w := range append(invalidWorlds(), impl.WldNew(), goodWorld(), idle(impl.TxMost+1)) {
		wantComposed(t, w, nil, 0)
		wantComposed(t, w, most, 0, 1, 3, impl.EvMaxRun-1, impl.EvMaxRun)
		wantWorld(t, "one event", impl.WldRun(w, most[:1]), impl.WldStep(w, most[0]))
		wantWorld(t, "too many", impl.WldRun(w, append(most, evTick(0))), impl.WldWorld{})
	}
	if got := impl.WldRun(impl.WldNew(), most); !impl.WldOk(got) || len(got.Outs) != 1 {
		t.Errorf("as many as there may be: got %v", got)
	}
}

// TestPromise51: of the network one message is lost, or a copy of one is added, if there is room; everything else is as it was.
func TestPromise51(t *testing.T) {
	t.Parallel()
	lengths := map[int]int{}
	check := func(r *rand.Rand, w impl.WldWorld) {
		n := len(w.Net)
		lengths[n]++
		for _, at := range []int{0, r.Intn(n + 1), n - 1, n, -1} {
			less, more := w.Net, w.Net
			if at >= 0 && at < n {
				less = slices.Concat(w.Net[:at], w.Net[at+1:])
				more = slices.Concat(w.Net, w.Net[at:at+1])[:min(n+1, impl.NetMost)]
			}
			wantWorld(t, fmt.Sprint("lost: ", at), impl.WldStep(w, evLose(at)), withNet(w, less...))
			wantWorld(t, fmt.Sprint("doubled: ", at), impl.WldStep(w, evTwice(at)), withNet(w, more...))
		}
	}
	everyTroubled(t, 951, 8, check)
	r := rand.New(rand.NewSource(952))
	for range worldRounds {
		w := mustRun(t, impl.WldNew(), evDo(opIn(1, 2)), evDo(opLet(1, 2, 3, 7)), evHear(0))
		for range impl.NetMost {
			w = mustRun(t, w, evTwice(r.Intn(len(w.Net))), evHear(r.Intn(len(w.Net))), evTwice(r.Intn(len(w.Net))))
		}
		check(r, w)
		check(r, impl.WldStep(w, evLose(r.Intn(impl.NetMost))))
	}
	for _, n := range []int{0, 1, impl.NetMost - 1, impl.NetMost} {
		if lengths[n] < 20 {
			t.Errorf("%d messages: only %d", n, lengths[n])
		}
	}
}

// TestPromise52: the order has the commits, each once, as they were reported; those in doubt ascend.
func TestPromise52(t *testing.T) {
	t.Parallel()
	unsorted := 0
	everyTroubled(t, 952, 1, func(_ *rand.Rand, w impl.WldWorld) {
		order := impl.VueOrder(w)
		if !slices.Equal(order, reportedAs(w, true)) || !slices.Equal(order, commitsIn(w.Front.Disk)) {
			t.Fatalf("%v: the order is %v", w, order)
		}
		if doubt := impl.VueDoubt(w); !ascending(doubt) || !slices.Equal(doubt, modelDoubt(w)) {
			t.Fatalf("%v: in doubt are %v", w, doubt)
		}
		if !slices.IsSorted(order) {
			unsorted++
		}
	})
	if unsorted < 500 {
		t.Errorf("commits in another order than that of their numbers: only %d", unsorted)
	}
	everyWorld(t, 953, func(r *rand.Rand, w impl.WldWorld) {
		for _, x := range []impl.WldWorld{w, reordered(r, w)} {
			order, doubt := impl.VueOrder(x), impl.VueDoubt(x)
			if !slices.Equal(order, modelOrder(x)) || !ascending(slices.Sorted(slices.Values(order))) {
				t.Fatalf("%v: the order is %v", x, order)
			}
			if !ascending(doubt) || !slices.Equal(doubt, modelDoubt(x)) {
				t.Fatalf("%v: in doubt are %v", x, doubt)
			}
		}
	})
}

// TestPromise53: what the services have, and what is executed, is three stores, each valid for its service, whether all is possible or not; an invalid system has neither.
func TestPromise53(t *testing.T) {
	t.Parallel()
	count := map[bool]int{}
	check := func(_ *rand.Rand, w impl.WldWorld) {
		places := impl.VuePlaces(w)
		whole, ok := impl.VueWhole(w)
		if !impl.GloOk(places) || !impl.GloOk(whole) {
			t.Fatalf("%v: got %v, %v", w, places, whole)
		}
		count[ok]++
	}
	everyTroubled(t, 953, 8, check)
	everyWorld(t, 954, func(r *rand.Rand, w impl.WldWorld) {
		check(r, w)
		check(r, reordered(r, w))
	})
	if count[true] < 1000 || count[false] < 500 {
		t.Errorf("all is possible, and not: %v", count)
	}
	for i, w := range invalidWorlds() {
		if whole, ok := impl.VueWhole(w); impl.VuePlaces(w) != nil || whole != nil || ok {
			t.Errorf("system %d: got %v, %v, %v", i, impl.VuePlaces(w), whole, ok)
		}
	}
}

// TestPromise70: without operations there is nothing at any step of any run, nor after calm rounds.
func TestPromise70(t *testing.T) {
	r := rand.New(rand.NewSource(970))
	for range worldRounds {
		w := impl.WldNew()
		for range impl.EvMaxRun {
			e := eventOf(r, w, anyKind(r))
			if e.Kind == impl.EvDo {
				continue
			}
			if w = impl.WldStep(w, e); !sameWorld(w, impl.WldNew()) || !sameViews(viewsOf(w), agreed(nil, empty())) {
				t.Fatalf("%v: got %v", e, w)
			}
		}
		wantWorld(t, "calm rounds", impl.WldCalm(w, r.Intn(impl.CalmMost+1)), impl.WldNew())
	}
	for kind := impl.EvHear; kind <= impl.EvFall; kind++ {
		for n := range 125 {
			e := impl.EvEvent{Kind: kind, Op: opIn(1, 2), At: n%5 - 1, Place: n/5%5 - 1, Keep: n/25 - 1}
			wantStep(t, "nothing", impl.WldNew(), e, impl.WldNew())
		}
	}
}
