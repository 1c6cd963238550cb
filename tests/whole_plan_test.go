package tests

import (
	"fmt"
	"math/rand"
	"slices"
	"testing"

	"loop.example/janitor/impl"
)

// owner returns whose operation it is: the user that is named, or whose code or family it is; false if there is no such item.
func owner(may impl.StoStore, o impl.OpOp) (int, bool) {
	var val []int
	switch o.Kind {
	case impl.OpTrade:
		val = modelOf(may)[fmt.Sprint("c", o.Code)]
	case impl.OpNext:
		val = modelOf(may)[fmt.Sprint("f", o.Fam)]
	default:
		return o.Who, true
	}
	if val == nil {
		return 0, false
	}
	return val[0], true
}

// TestPromise61: what a service of sessions or grants has planned for a login, authorization, exchange or logout, and has written, it does not plan again for another transaction number.
func TestPromise61(t *testing.T) {
	r := rand.New(rand.NewSource(61))
	count := map[string]int{}
	for range 2 * opRounds {
		list := randomWhole(r)
		o := nextOp(r, list)
		for place, p := range plansOf(list, 3, o) {
			if o.Kind == impl.OpNext || place == impl.PlcDone || len(p.Writes) == 0 {
				continue
			}
			count[fmt.Sprint(place, o.Kind)]++
			next := impl.StoDo(at(list, place), p.Writes)
			for _, tx := range []int{0, 3, 4, impl.TxMost} {
				wantNotAgain(t, place, next, tx, o)
			}
		}
	}
	for _, what := range []string{"1 1", "2 2", "2 3", "1 5", "2 5"} {
		if count[what] < 50 {
			t.Errorf("place and kind %s: only %d", what, count[what])
		}
	}
}

// wantNotAgain wants a refusal, and of a logout at PlcMay, which refuses none, that it writes nothing.
func wantNotAgain(t *testing.T, place int, s impl.StoStore, tx int, o impl.OpOp) {
	t.Helper()
	p := impl.PlcPlan(place, s, tx, o)
	always := place == impl.PlcMay && o.Kind == impl.OpOut
	if p.Ok != always || len(p.Writes) != 0 {
		t.Errorf("%v at %d is planned again: %v", o, place, p)
	}
}

// TestPromise61Whole: neither is it executed again, whatever its number.
func TestPromise61Whole(t *testing.T) {
	everyRun(t, 61, func(run []step) {
		for _, s := range run {
			if !s.ok || s.o.Kind == impl.OpNext {
				continue
			}
			for tx := range impl.TxMost + 1 {
				wantRefused(t, "again", s.after, tx, s.o)
			}
		}
	})
}

// TestPromise62: OpTrade of an existing code and a family that does not exist is Ok only with the secret whose digest is stored.
func TestPromise62(t *testing.T) {
	for stored := range impl.SecTop + 1 {
		for sec := range impl.SecTop + 1 {
			list := stores(store(), store(item("c3", 1, modelSum(stored))), store())
			if p := impl.PlcPlan(impl.PlcMay, list[1], 0, opTrade(3, sec, 4)); p.Ok != (sec == stored) {
				t.Errorf("secret %d is stored, %d is presented: %v", stored, sec, p)
			}
			if _, ok := impl.GloDo(list, 0, opTrade(3, sec, 4)); ok != (sec == stored) {
				t.Errorf("secret %d is stored, %d is presented: %v", stored, sec, ok)
			}
		}
	}
}

// TestPromise62Digests: numbers that are the digest of no secret, among them the secrets themselves; and codes beside others with other secrets.
func TestPromise62Digests(t *testing.T) {
	digests := map[int]bool{}
	for sec := range impl.SecTop + 1 {
		digests[modelSum(sec)] = true
	}
	for _, number := range []int{0, 1, 7, 99, 103, 105, 5671, 5673, impl.ValTop} {
		for sec := range impl.SecTop + 1 {
			list := stores(store(), store(item("c3", 1, number)), store())
			if digests[number] {
				t.Fatalf("%d is a digest", number)
			}
			wantRefused(t, "no digest", list, 0, opTrade(3, sec, 4))
		}
	}
	list := mustDo(t, impl.GloNew(), 0, opIn(1, 2), opLet(1, 2, 3, 7), opLet(1, 2, 4, 8))
	wantRefused(t, "the secret of another code", list, 3, opTrade(3, 8, 1))
	wantRefused(t, "the secret of another code", list, 3, opTrade(4, 7, 1))
	mustDo(t, list, 3, opTrade(4, 8, 1), opTrade(3, 7, 2))
}

// TestPromise63: what is executed at PlcMay writes only items of one user: the one that is named, or whose code or family it is.
func TestPromise63(t *testing.T) {
	r := rand.New(rand.NewSource(63))
	count := map[int]int{}
	for range 4 * opRounds {
		list := randomWhole(r)
		o := nextOp(r, list)
		p := impl.PlcPlan(impl.PlcMay, list[1], 3, o)
		if !p.Ok {
			continue
		}
		count[o.Kind]++
		who, found := owner(list[1], o)
		if !found {
			t.Fatalf("%v is planned, but has no user", o)
		}
		wantOneUser(t, who, o, list[1], impl.StoDo(list[1], p.Writes))
		if next, ok := impl.GloDo(list, 3, o); ok {
			wantOneUser(t, who, o, list[1], next[1])
		}
	}
	for _, kind := range []int{impl.OpLet, impl.OpTrade, impl.OpNext, impl.OpOut} {
		if count[kind] < 50 {
			t.Errorf("kind %d: only %d", kind, count[kind])
		}
	}
}

// wantOneUser wants every item that differs to be that user's, before and after.
func wantOneUser(t *testing.T, who int, o impl.OpOp, before, after impl.StoStore) {
	t.Helper()
	was, is := modelOf(before), modelOf(after)
	for _, it := range append(slices.Clone(before.Items), after.Items...) {
		key := it.Key
		if slices.Equal(was[key], is[key]) {
			continue
		}
		for _, val := range [][]int{was[key], is[key]} {
			if val != nil && val[0] != who {
				t.Errorf("%v of user %d changes %s from %v to %v", o, who, key, was[key], is[key])
			}
		}
	}
}

// TestPromise76: OpLet at PlcIn locks exactly the session and writes nothing; it is Ok if and only if the user is logged in with it.
func TestPromise76(t *testing.T) {
	r := rand.New(rand.NewSource(76))
	for range opRounds / 10 {
		s := randomPlaceStore(r, impl.PlcIn)
		for who := range impl.NumTop + 1 {
			for in := range impl.NumTop + 1 {
				key := fmt.Sprint("s", in)
				want := impl.OpPlan{Ok: slices.Equal(modelOf(s)[key], []int{who}), Locks: []string{key}}
				wantPlan(t, "authorize", impl.PlcIn, s, 3, opLet(who, in, r.Intn(10), r.Intn(100)), want)
			}
		}
	}
	everyRun(t, 76, func(run []step) {
		for _, s := range run {
			if s.o.Kind == impl.OpLet {
				wantStore(t, "sessions after an authorization", s.after[0], s.before[0])
			}
		}
	})
}

// TestPromise77: OpOut at PlcMay is Ok and writes exactly the families of the user that are not revoked, revoking each; it locks these and one more key.
func TestPromise77(t *testing.T) {
	r := rand.New(rand.NewSource(77))
	several := 0
	for range opRounds {
		s := randomPlaceStore(r, impl.PlcMay)
		who := fewNumber(r, impl.NumTop)
		want := map[string][]int{}
		for _, it := range s.Items {
			if it.Key[0] == 'f' && it.Val[0] == who && it.Val[2] == 1 {
				want[it.Key] = []int{who, it.Val[1], 0}
			}
		}
		p := impl.PlcPlan(impl.PlcMay, s, 3, opOut(who, r.Intn(10)))
		if !p.Ok || len(p.Writes) != len(want) || len(p.Locks) != len(want)+1 {
			t.Fatalf("%v: user %d logs out with %v", s, who, p)
		}
		for _, w := range p.Writes {
			if w.Del || !slices.Equal(w.Val, want[w.Key]) || !slices.Contains(p.Locks, w.Key) {
				t.Fatalf("%v: user %d logs out with %v", s, who, p)
			}
			delete(want, w.Key)
		}
		if len(want) != 0 || !slices.Contains(p.Locks, fmt.Sprint("u", who)) {
			t.Fatalf("%v: user %d logs out with %v", s, who, p)
		}
		several += len(p.Writes) / 2
	}
	if several < 100 {
		t.Errorf("only %d logouts with several families", several)
	}
}
