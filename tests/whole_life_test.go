package tests

import (
	"fmt"
	"math/rand"
	"testing"

	"loop.example/janitor/impl"
)

// commonNumber tells whether two operations have a session number, code or family in common.
func commonNumber(a, b impl.OpOp) bool {
	for _, f := range opFields() {
		same := f.name == "In" || f.name == "Code" || f.name == "Fam"
		if same && f.has(a.Kind) && f.has(b.Kind) && *f.in(&a) == *f.in(&b) {
			return true
		}
	}
	return false
}

// wantCommute executes two operations in either order, and returns whether both were executed.
func wantCommute(t *testing.T, list []impl.StoStore, txA int, a impl.OpOp, txB int, b impl.OpOp) bool {
	t.Helper()
	one, okA := impl.GloDo(list, txA, a)
	one, okB := impl.GloDo(one, txB, b)
	two, okB2 := impl.GloDo(list, txB, b)
	two, okA2 := impl.GloDo(two, txA, a)
	if okA != okA2 || okB != okB2 || !sameStores(one, two) {
		t.Errorf("%v: %v and %v: got %v, %v, %v, and in the other order %v, %v, %v", list, a, b, okA, okB, one, okA2, okB2, two)
	}
	return okA && okB
}

// TestPromise65: two operations by two users, with different session numbers, codes and families, may be executed in either order.
func TestPromise65(t *testing.T) {
	r := rand.New(rand.NewSource(65))
	count := map[string]int{}
	for range 10 * opRounds {
		list := randomWhole(r)
		a, b := nextOp(r, list), nextOp(r, list)
		whoA, foundA := owner(list[1], a)
		whoB, foundB := owner(list[1], b)
		if !foundA || !foundB || whoA == whoB || commonNumber(a, b) {
			continue
		}
		if tx := r.Intn(impl.TxMost); wantCommute(t, list, tx, a, tx+1, b) {
			count[fmt.Sprint(a.Kind, b.Kind)]++
		}
	}
	for _, a := range kinds() {
		for _, b := range kinds() {
			if count[fmt.Sprint(a, b)] < 5 {
				t.Errorf("kinds %d and %d: only %d", a, b, count[fmt.Sprint(a, b)])
			}
		}
	}
}

// TestPromise65Lives: two users live side by side; however their operations are mixed, the sessions and grants are the same.
func TestPromise65Lives(t *testing.T) {
	one := []impl.OpOp{opIn(1, 1), opLet(1, 1, 1, 7), opTrade(1, 7, 1), opNext(1, 1), opNext(1, 2), opLet(1, 1, 3, 7), opOut(1, 1), opTrade(3, 7, 3)}
	two := []impl.OpOp{opIn(2, 2), opLet(2, 2, 2, 7), opTrade(2, 7, 2), opNext(2, 1), opNext(2, 1), opLet(2, 2, 4, 7), opTrade(4, 7, 4), opNext(4, 1)}
	r := rand.New(rand.NewSource(66))
	want := mustDo(t, mustDo(t, impl.GloNew(), 0, one...), 10, two...)
	wantStore(t, "sessions", want[0], store(item("s2", 2)))
	wantStore(t, "grants", want[1], store(item("f1", 1, 3, 0), item("f2", 2, 2, 0), item("f3", 1, 1, 1), item("f4", 2, 2, 1)))
	for range wholeRounds {
		list, a, b := impl.GloNew(), 0, 0
		for a < len(one) || b < len(two) {
			if b == len(two) || a < len(one) && r.Intn(2) == 0 {
				list = mustDo(t, list, a, one[a])
				a++
			} else {
				list = mustDo(t, list, 10+b, two[b])
				b++
			}
		}
		if !sameStores(list, want) {
			t.Fatalf("got %v, want %v", list, want)
		}
	}
}

// TestPromise65Edges: two users who each do anything, possible or not, in either order.
func TestPromise65Edges(t *testing.T) {
	ready := mustDo(t, impl.GloNew(), 0, opIn(1, 1), opIn(2, 2), opLet(1, 1, 1, 7), opLet(2, 2, 2, 7), opLet(1, 1, 3, 7), opTrade(3, 7, 3), opLet(2, 2, 3, 7), opTrade(3, 7, 4), opNext(3, 1), opNext(4, 1))
	ones := []impl.OpOp{opIn(1, 5), opLet(1, 1, 5, 7), opTrade(1, 7, 5), opTrade(1, 8, 5), opNext(3, 2), opNext(3, 1), opNext(3, 3), opOut(1, 1)}
	twos := []impl.OpOp{opIn(2, 6), opLet(2, 2, 6, 7), opTrade(2, 7, 6), opTrade(2, 8, 6), opNext(4, 2), opNext(4, 1), opNext(4, 3), opOut(2, 2)}
	for _, list := range [][]impl.StoStore{impl.GloNew(), ready} {
		for _, a := range ones {
			for _, b := range twos {
				wantCommute(t, list, 20, a, 21, b)
				wantCommute(t, list, 21, a, 20, b)
			}
		}
	}
}

// TestPromise78: GloDo of one operation with two numbers, neither of which is in the audit log, leaves the same sessions and grants, and one audit item each.
func TestPromise78(t *testing.T) {
	r := rand.New(rand.NewSource(78))
	count := map[string]int{}
	for range opRounds {
		list := randomWhole(r)
		o := nextOp(r, list)
		first, _ := freshTx(list)
		one, ok := impl.GloDo(list, first, o)
		count[fmt.Sprint(o.Kind, ok)]++
		for tx := range impl.TxMost + 1 {
			if auditHas(list, tx) {
				continue
			}
			audit := list[2]
			if ok {
				audit = modelDo(audit, []impl.StoWrite{set(fmt.Sprint("a", tx), o.Kind)})
			}
			wantGlo(t, "another number", list, tx, o, stores(one[0], one[1], audit), ok)
		}
	}
	for _, kind := range kinds() {
		if count[fmt.Sprint(kind, true)] < 50 || count[fmt.Sprint(kind, false)] < 50 {
			t.Errorf("kind %d: %v", kind, count)
		}
	}
}

// TestPromise78Edges: the first and last number, for every kind; and two numbers of which one is in the audit log.
func TestPromise78Edges(t *testing.T) {
	list := wholeOf()
	for _, o := range []impl.OpOp{opIn(1, 1), opLet(1, 2, 2, 7), opTrade(1, 7, 5), opNext(1, 5), opNext(1, 4), opOut(1, 2)} {
		list[2] = store()
		one, okOne := impl.GloDo(list, 0, o)
		two, okTwo := impl.GloDo(list, impl.TxMost, o)
		if !okOne || !okTwo || !sameStores(one[:2], two[:2]) {
			t.Errorf("%v: got %v and %v", o, one, two)
		}
		wantStore(t, "the first number", one[2], store(item("a0", o.Kind)))
		wantStore(t, "the last number", two[2], store(item("a29", o.Kind)))
		list[2] = one[2]
		wantRefused(t, "a number in the audit log", list, 0, o)
		wantGlo(t, "a number that is not", list, 29, o, stores(one[0], one[1], store(item("a0", o.Kind), item("a29", o.Kind))), true)
	}
}

// TestPromise79: a user logs in, authorizes, exchanges the code, refreshes several times, each time with the last token, and logs out: all of this is possible; but afterwards no token can be refreshed, neither the code nor the first token can be used again.
func TestPromise79(t *testing.T) {
	for _, n := range []impl.OpOp{{}, {Who: 1, In: 2, Code: 3, Sec: 7, Fam: 4}, {Who: 9, In: 9, Code: 9, Sec: 99, Fam: 9}} {
		for times := range 26 {
			ops := []impl.OpOp{opIn(n.Who, n.In), opLet(n.Who, n.In, n.Code, n.Sec), opTrade(n.Code, n.Sec, n.Fam)}
			for gen := 1; gen <= times; gen++ {
				ops = append(ops, opNext(n.Fam, gen))
			}
			ops = append(ops, opOut(n.Who, n.In))
			list := mustDo(t, impl.GloNew(), 0, ops...)
			wantStore(t, "sessions", list[0], store())
			wantStore(t, "grants", list[1], store(item(fmt.Sprint("f", n.Fam), n.Who, times+1, 0)))
			if len(list[2].Items) != len(ops) {
				t.Errorf("%d operations are audited as %v", len(ops), list[2])
			}
			if tx, found := freshTx(list); found {
				wantOver(t, list, tx, n)
			}
		}
	}
}

// wantOver presents every token, and the code with every secret, for the family and for all others.
func wantOver(t *testing.T, list []impl.StoStore, tx int, n impl.OpOp) {
	t.Helper()
	wantNoToken(t, list, tx, n.Fam)
	wantNoTrade(t, list, tx, n.Code)
	for fam := range impl.NumTop + 1 {
		wantRefused(t, "the code", list, tx, opTrade(n.Code, n.Sec, fam))
	}
	wantRefused(t, "the session, to authorize", list, tx, opLet(n.Who, n.In, n.Code, n.Sec))
	wantRefused(t, "the session, to log out", list, tx, opOut(n.Who, n.In))
}

// TestPromise80: after an exchange and several refreshes an older token is presented: that is executed, and no token of the family can be refreshed any more, neither the last one nor any other one.
func TestPromise80(t *testing.T) {
	for last := 2; last <= 24; last++ {
		list := refreshed(t, last)
		for old := 1; old < last; old++ {
			next := mustDo(t, list, 28, opNext(4, old))
			wantStore(t, "sessions", next[0], store(item("s2", 1)))
			wantStore(t, "grants", next[1], store(item("f4", 1, last, 0)))
			wantNoToken(t, next, 29, 4)
		}
	}
}

// TestPromise80Others: another family of the same user, and one of another user, stay usable.
func TestPromise80Others(t *testing.T) {
	list := mustDo(t, refreshed(t, 3), 5, opLet(1, 2, 3, 7), opTrade(3, 7, 5), opIn(2, 6), opLet(2, 6, 3, 8), opTrade(3, 8, 6))
	list = mustDo(t, list, 10, opNext(4, 2))
	wantNoToken(t, list, 11, 4)
	list = mustDo(t, list, 11, opNext(5, 1), opNext(6, 1), opNext(6, 2))
	wantStore(t, "grants", list[1], store(item("f4", 1, 3, 0), item("f5", 1, 2, 1), item("f6", 2, 3, 1)))
}

// TestPromise80Last: the last but one generation is still refreshed, the last one is not; and a family of that generation refuses older tokens too.
func TestPromise80Last(t *testing.T) {
	list := stores(store(), store(item("f4", 1, 98, 1)), store())
	wantGlo(t, "an older token", list, 0, opNext(4, 97), stores(store(), store(item("f4", 1, 98, 0)), store(item("a0", impl.OpNext))), true)
	list = mustDo(t, list, 0, opNext(4, 98))
	wantStore(t, "grants", list[1], store(item("f4", 1, 99, 1)))
	wantNoToken(t, list, 1, 4)
}
