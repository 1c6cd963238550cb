package tests

import (
	"fmt"
	"math/rand"
	"slices"
	"testing"

	"loop.example/janitor/impl"
)

func commonKey(a, b []string) bool {
	return slices.ContainsFunc(a, func(key string) bool { return slices.Contains(b, key) })
}

// executed returns the store after an operation, and false if it is refused.
func executed(place int, s impl.StoStore, tx int, o impl.OpOp) (impl.StoStore, bool) {
	p := impl.PlcPlan(place, s, tx, o)
	return impl.StoDo(s, p.Writes), p.Ok
}

// TestPromise1: what a service plans for an operation is the same after other operations were executed there that lock none of its keys.
func TestPromise1(t *testing.T) {
	r := rand.New(rand.NewSource(1))
	others := map[int]int{}
	for range 2 * opRounds {
		place, tx := services()[r.Intn(3)], r.Intn(impl.TxMost+1)
		s, o := randomPlaceStore(r, place), randomOpAt(r, place)
		want := copyPlan(impl.PlcPlan(place, s, tx, o))
		for range 8 {
			tx2, o2 := r.Intn(impl.TxMost+1), randomOpAt(r, place)
			next, ok := executed(place, s, tx2, o2)
			if !ok || commonKey(want.Locks, impl.PlcPlan(place, s, tx2, o2).Locks) {
				continue
			}
			s = next
			others[place]++
			wantPlan(t, fmt.Sprintf("after %v", o2), place, s, tx, o, want)
		}
	}
	for _, place := range services() {
		if others[place] < 100 {
			t.Errorf("only %d operations were executed at %d", others[place], place)
		}
	}
}

// TestPromise1Every: for every pair of kinds with small numbers, on stores of few items.
func TestPromise1Every(t *testing.T) {
	for _, place := range services() {
		for _, s := range smallStores(place) {
			for _, o := range smallOps(place) {
				p := impl.PlcPlan(place, s, 1, o)
				for _, o2 := range smallOps(place) {
					next, ok := executed(place, s, 2, o2)
					if ok && !commonKey(p.Locks, impl.PlcPlan(place, s, 2, o2).Locks) {
						wantPlan(t, fmt.Sprintf("after %v", o2), place, next, 1, o, p)
					}
				}
			}
		}
	}
}

// smallOps has users, sessions, codes, secrets, families and generations 0 to 2.
func smallOps(place int) []impl.OpOp {
	var out []impl.OpOp
	for a := range 3 {
		for b := range 3 {
			out = append(out, opIn(a, b), opNext(a, b), opOut(a, b), opTrade(a, b, a), opTrade(a, b, (a+1)%3), opLet(a, b, b, a), opLet(a, b, a, b))
		}
	}
	return slices.DeleteFunc(out, func(o impl.OpOp) bool { return !slices.Contains(modelPlaces(o.Kind), place) })
}

func smallStores(place int) []impl.StoStore {
	switch place {
	case impl.PlcIn:
		return []impl.StoStore{{}, store(item("s0", 0)), store(item("s0", 1), item("s1", 1)), store(item("s1", 0), item("s2", 2))}
	case impl.PlcMay:
		out := []impl.StoStore{{}}
		for who := range 3 {
			for alive := range 2 {
				out = append(out,
					store(item("c0", 0, impl.SecSum(0)), item("c1", who, impl.SecSum(1)), item("f0", who, 2, alive)),
					store(item("c0", who, impl.SecSum(2)), item("f1", who, 1, alive), item("f2", 1, 2, 1)),
					store(item("c2", 1, impl.SecSum(1)), item("f0", who, 1, 1), item("f2", who, 2, alive)))
			}
		}
		return out
	}
	return []impl.StoStore{{}, store(item("a0", 1)), store(item("a1", 1)), store(item("a2", 1)), store(item("a1", 3), item("a10", 2), item("a2", 1))}
}

// TestPromise1Locks: what two operations of one user depend on is a key that both lock, although they write different items.
func TestPromise1Locks(t *testing.T) {
	s := store(item("c3", 1, impl.SecSum(7)), item("f1", 1, 1, 1), item("f2", 2, 1, 1))
	out := impl.PlcPlan(impl.PlcMay, s, 0, opOut(1, 0))
	for _, o := range []impl.OpOp{opTrade(3, 7, 4), opNext(1, 1)} {
		p := impl.PlcPlan(impl.PlcMay, s, 1, o)
		if !p.Ok || !slices.Contains(p.Locks, "u1") || !slices.Contains(out.Locks, "u1") {
			t.Errorf("%v locks %v, and the logout %v", o, p.Locks, out.Locks)
		}
	}
	if p := impl.PlcPlan(impl.PlcMay, s, 1, opNext(2, 1)); !p.Ok || commonKey(p.Locks, out.Locks) {
		t.Errorf("a family of another user locks %v, and the logout %v", p.Locks, out.Locks)
	}
}

// TestPromise28: a plan that is Ok locks every key that it writes, each once; its writes are valid, and the store stays valid for the service; one that is not Ok writes nothing.
func TestPromise28(t *testing.T) {
	r := rand.New(rand.NewSource(28))
	count := map[string]int{}
	for range 4 * opRounds {
		place, tx := services()[r.Intn(3)], r.Intn(impl.TxMost+1)
		s, o := randomPlaceStore(r, place), randomOpAt(r, place)
		p := impl.PlcPlan(place, s, tx, o)
		wantPossible(t, place, s, tx, o, p)
		count[fmt.Sprint(place, o.Kind, p.Ok)]++
	}
	for _, place := range services() {
		for _, o := range someOps() {
			for _, ok := range []bool{false, true} {
				always := place == impl.PlcMay && o.Kind == impl.OpOut && !ok
				if slices.Contains(modelPlaces(o.Kind), place) && !always && count[fmt.Sprint(place, o.Kind, ok)] < 20 {
					t.Errorf("place %d, kind %d, %v: seldom", place, o.Kind, ok)
				}
			}
		}
	}
}

func wantPossible(t *testing.T, place int, s impl.StoStore, tx int, o impl.OpOp, p impl.OpPlan) {
	t.Helper()
	if !p.Ok {
		if len(p.Writes) != 0 || len(p.Locks) == 0 {
			t.Errorf("%v is refused with %v", o, p)
		}
		return
	}
	var keys []string
	for _, w := range p.Writes {
		keys = append(keys, w.Key)
		if !impl.WrtOk(w) || !slices.Contains(p.Locks, w.Key) {
			t.Errorf("%v plans %v", o, p)
		}
	}
	for _, list := range [][]string{keys, p.Locks} {
		slices.Sort(list)
		if len(slices.Compact(slices.Clone(list))) != len(list) {
			t.Errorf("%v has a key twice: %v", o, p)
		}
	}
	after := impl.StoDo(s, p.Writes)
	if !impl.PlcOk(place, after) || !sameStore(after, modelDo(s, p.Writes)) {
		t.Errorf("%v at %d leaves %v", o, place, after)
	}
	if !impl.NoteOk(ready(tx, p.Locks, p.Writes...)) {
		t.Errorf("%v plans %v, which is no record", o, p)
	}
}

// TestPromise28Life: the writes of a life cycle, from the empty stores on.
func TestPromise28Life(t *testing.T) {
	stores := map[int]impl.StoStore{impl.PlcIn: {}, impl.PlcMay: {}, impl.PlcDone: {}}
	life := []impl.OpOp{opIn(0, 0), opLet(0, 0, 0, 0), opTrade(0, 0, 0), opNext(0, 1), opNext(0, 2), opNext(0, 1), opLet(0, 0, 0, 99), opTrade(0, 99, 9), opOut(0, 0)}
	for tx, o := range life {
		for _, place := range impl.OpPlaces(o) {
			p := impl.PlcPlan(place, stores[place], tx, o)
			if !p.Ok {
				t.Fatalf("%v is refused at %d: %v", o, place, stores[place])
			}
			wantPossible(t, place, stores[place], tx, o, p)
			stores[place] = impl.StoDo(stores[place], p.Writes)
		}
	}
	wantStore(t, "sessions", stores[impl.PlcIn], store())
	wantStore(t, "grants", stores[impl.PlcMay], store(item("f0", 0, 3, 0), item("f9", 0, 1, 0)))
	if got := len(stores[impl.PlcDone].Items); got != len(life) {
		t.Errorf("%d audit items of %d", got, len(life))
	}
}

// TestPromise28Room: the last item that a store has room for is planned.
func TestPromise28Room(t *testing.T) {
	s := fullStore()
	s.Items = s.Items[:impl.StoMost-1]
	p := impl.PlcPlan(impl.PlcDone, s, 5, opIn(1, 1))
	wantPossible(t, impl.PlcDone, s, 5, opIn(1, 1), p)
	if after := impl.StoDo(s, p.Writes); !p.Ok || len(after.Items) != impl.StoMost {
		t.Errorf("%v leaves %v", p, after)
	}
}

// TestPromise75: at PlcIn and PlcMay the plan is the same for every transaction number; at PlcDone it depends only on that number and the kind.
func TestPromise75(t *testing.T) {
	r := rand.New(rand.NewSource(75))
	for range opRounds / 10 {
		for _, place := range []int{impl.PlcIn, impl.PlcMay} {
			s, o := randomPlaceStore(r, place), randomOpAt(r, place)
			first := impl.PlcPlan(place, s, 0, o)
			for tx := range impl.TxMost + 1 {
				wantPlan(t, "another transaction", place, s, tx, o, first)
			}
		}
		s, o := randomPlaceStore(r, impl.PlcDone), randomOp(r)
		for tx := range impl.TxMost + 1 {
			bare := impl.PlcPlan(impl.PlcDone, s, tx, impl.OpOp{Kind: o.Kind})
			wantPlan(t, "other fields", impl.PlcDone, s, tx, o, bare)
			key := fmt.Sprint("a", tx)
			if !slices.Equal(bare.Locks, []string{key}) || bare.Ok && !sameWrite(bare.Writes[0], set(key, o.Kind)) {
				t.Errorf("transaction %d, kind %d: %v", tx, o.Kind, bare)
			}
		}
	}
}

// TestPromise75Edges: the first and last transaction are planned, the ones next to them are not.
func TestPromise75Edges(t *testing.T) {
	for _, o := range someOps() {
		for _, place := range modelPlaces(o.Kind) {
			for _, tx := range []int{0, impl.TxMost} {
				if p := impl.PlcPlan(place, store(), tx, o); len(p.Locks) == 0 {
					t.Errorf("%v, transaction %d: %v", o, tx, p)
				}
			}
			for _, tx := range []int{-1, impl.TxMost + 1} {
				wantPlan(t, "past the first or last", place, store(), tx, o, impl.OpPlan{})
			}
		}
	}
}
