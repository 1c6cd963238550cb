package tests

import (
	"fmt"
	"math/rand"
	"slices"
	"testing"

	"loop.example/janitor/impl"
)

// wholeOf is three valid stores with several items each.
func wholeOf() []impl.StoStore {
	return stores(
		store(item("s0", 0), item("s2", 1), item("s3", 1), item("s9", 9)),
		grants(),
		store(item("a0", impl.OpIn), item("a10", impl.OpLet), item("a29", impl.OpOut)))
}

// TestWholeModel: every sequence from GloNew on has the results of the model.
func TestWholeModel(t *testing.T) {
	everyRun(t, 4, func(run []step) {
		m := newModel()
		for i, s := range run {
			if ok := m.do(s.tx, s.o); ok != s.ok || !sameStores(s.after, m.stores()) {
				t.Fatalf("step %d, %v: got %v, %v, want %v, %v", i, s.o, s.after, s.ok, m.stores(), ok)
			}
		}
	})
}

// TestPromise2: after GloDo all stores are valid; if it is true, each of its services has its planned writes applied, and all others are unchanged; if it is false, all are unchanged; and it is true if and only if all plans are Ok.
func TestPromise2(t *testing.T) {
	r := rand.New(rand.NewSource(2))
	count := map[string]int{}
	for range 4 * opRounds {
		list, tx, o := randomWhole(r), r.Intn(impl.TxMost+1), randomOp(r)
		if r.Intn(2) == 0 {
			o = nextOp(r, list)
		}
		wantAtomic(t, list, tx, o)
		count[fmt.Sprint(o.Kind, refusing(list, tx, o))]++
	}
	for _, kind := range kinds() {
		for _, which := range refusals(kind) {
			if count[fmt.Sprint(kind, which)] < 20 {
				t.Errorf("kind %d, refused by %v: only %d", kind, which, count[fmt.Sprint(kind, which)])
			}
		}
	}
	everyRun(t, 2, func(run []step) {
		for _, s := range run {
			wantAtomic(t, s.before, s.tx, s.o)
		}
	})
}

// refusals lists every set of services that can refuse a kind; PlcMay never refuses a logout.
func refusals(kind int) [][]int {
	switch kind {
	case impl.OpIn, impl.OpOut:
		return [][]int{{}, {1}, {3}, {1, 3}}
	case impl.OpLet:
		return [][]int{{}, {1}, {2}, {3}, {1, 2}, {1, 3}, {2, 3}, {1, 2, 3}}
	}
	return [][]int{{}, {2}, {3}, {2, 3}}
}

func wantAtomic(t *testing.T, list []impl.StoStore, tx int, o impl.OpOp) {
	t.Helper()
	want, ok := copyStores(list), len(refusing(list, tx, o)) == 0
	for place, p := range plansOf(list, tx, o) {
		if ok {
			want[place-impl.PlcIn] = modelDo(at(want, place), p.Writes)
		}
	}
	wantGlo(t, "atomic", list, tx, o, want, ok)
	if got, _ := impl.GloDo(list, tx, o); !impl.GloOk(got) {
		t.Errorf("%v, transaction %d, %v: %v is invalid", list, tx, o, got)
	}
}

// TestPromise2OneRefuses: an operation that is refused at one service only, at the first, at the second and at the audit service, leaves all stores as they are.
func TestPromise2OneRefuses(t *testing.T) {
	list := wholeOf()
	for _, x := range []struct {
		what  string
		tx    int
		o     impl.OpOp
		place int
	}{
		{"log in with a session in use", 5, opIn(1, 2), impl.PlcIn},
		{"log in with a session of another user", 5, opIn(4, 9), impl.PlcIn},
		{"authorize without the session", 5, opLet(1, 1, 2, 7), impl.PlcIn},
		{"authorize with a session of another user", 5, opLet(2, 2, 2, 7), impl.PlcIn},
		{"log out without the session", 5, opOut(1, 1), impl.PlcIn},
		{"log out with a session of another user", 5, opOut(1, 9), impl.PlcIn},
		{"log out of a user with families and with a session of user 0", 5, opOut(2, 0), impl.PlcIn},
		{"authorize a code that exists", 5, opLet(1, 2, 1, 7), impl.PlcMay},
		{"exchange a code that does not exist", 5, opTrade(2, 7, 5), impl.PlcMay},
		{"exchange with a wrong secret", 5, opTrade(1, 8, 5), impl.PlcMay},
		{"exchange for a family that exists", 5, opTrade(1, 7, 1), impl.PlcMay},
		{"refresh a family that does not exist", 5, opNext(5, 1), impl.PlcMay},
		{"refresh with a token that was not issued yet", 5, opNext(1, 6), impl.PlcMay},
		{"refresh with generation 0", 5, opNext(1, 0), impl.PlcMay},
		{"refresh a revoked family", 5, opNext(3, 5), impl.PlcMay},
		{"refresh in the last generation", 5, opNext(7, 99), impl.PlcMay},
		{"log in, audited", 0, opIn(1, 1), impl.PlcDone},
		{"authorize, audited", 10, opLet(1, 2, 2, 7), impl.PlcDone},
		{"exchange, audited", 29, opTrade(1, 7, 5), impl.PlcDone},
		{"refresh with the last token, audited", 0, opNext(1, 5), impl.PlcDone},
		{"refresh with an older token, audited", 10, opNext(1, 4), impl.PlcDone},
		{"log out, audited", 29, opOut(1, 2), impl.PlcDone},
	} {
		if got := refusing(list, x.tx, x.o); !slices.Equal(got, []int{x.place}) {
			t.Errorf("%s: refused by %v", x.what, got)
		}
		wantRefused(t, x.what, list, x.tx, x.o)
	}
	wantRefused(t, "refused everywhere", list, 0, opLet(2, 2, 1, 7))
}

// TestPromise2Executed: what is executed in one call, at every service.
func TestPromise2Executed(t *testing.T) {
	list := wholeOf()
	for _, x := range []struct {
		what   string
		o      impl.OpOp
		in     []impl.StoWrite
		grants []impl.StoWrite
	}{
		{"log in", opIn(0, 1), []impl.StoWrite{set("s1", 0)}, nil},
		{"authorize", opLet(1, 2, 3, 7), nil, []impl.StoWrite{set("c3", 1, 5672)}},
		{"exchange", opTrade(1, 7, 5), nil, []impl.StoWrite{del("c1"), set("f5", 2, 1, 1)}},
		{"refresh with the last token", opNext(1, 5), nil, []impl.StoWrite{set("f1", 1, 6, 1)}},
		{"refresh with an older token", opNext(1, 4), nil, []impl.StoWrite{set("f1", 1, 5, 0)}},
		{"log out without a family", opOut(9, 9), []impl.StoWrite{del("s9")}, nil},
		{"log out with one family", opOut(0, 0), []impl.StoWrite{del("s0")}, []impl.StoWrite{set("f0", 0, 1, 0)}},
		{"log out with several", opOut(1, 3), []impl.StoWrite{del("s3")}, []impl.StoWrite{set("f1", 1, 5, 0), set("f4", 1, 1, 0), set("f9", 1, 99, 0)}},
	} {
		for _, tx := range []int{1, 5, 28} {
			audit := modelDo(list[2], []impl.StoWrite{set(fmt.Sprint("a", tx), x.o.Kind)})
			wantGlo(t, x.what, list, tx, x.o, stores(modelDo(list[0], x.in), modelDo(list[1], x.grants), audit), true)
		}
	}
}

// TestPromise2FullAudit: a full audit log refuses nothing, and StoDo without room is the empty store.
func TestPromise2FullAudit(t *testing.T) {
	list := stores(store(), store(), fullStore())
	wantGlo(t, "a full audit log", list, 5, opIn(1, 2), stores(store(item("s2", 1)), store(), store()), true)
	wantRefused(t, "a full audit log with the item", list, 10, opIn(1, 2))
	list[2].Items = list[2].Items[:impl.StoMost-1]
	audit := modelDo(list[2], []impl.StoWrite{set("a5", impl.OpIn)})
	wantGlo(t, "the last room", list, 5, opIn(1, 2), stores(store(item("s2", 1)), store(), audit), true)
}

// TestPromise29: GloNew is valid and empty; two of three valid stores are invalid, and so are four.
func TestPromise29(t *testing.T) {
	list := impl.GloNew()
	if len(list) != 3 || !impl.GloOk(list) {
		t.Errorf("GloNew is %v", list)
	}
	for _, s := range list {
		wantStore(t, "GloNew", s, store())
	}
	r := rand.New(rand.NewSource(29))
	for range opRounds {
		list := randomWhole(r)
		if !impl.GloOk(list) {
			t.Fatalf("%v is invalid", list)
		}
		for _, bad := range otherLengths(list) {
			if impl.GloOk(bad) {
				t.Fatalf("%d stores are valid: %v", len(bad), bad)
			}
		}
	}
}

// otherLengths leaves out every store, has every store twice, and has none at all.
func otherLengths(list []impl.StoStore) [][]impl.StoStore {
	out := [][]impl.StoStore{nil, {}, list[:1], list[:2], list[1:], append(slices.Clone(list), store()), append(stores(store()), list...), append(slices.Clone(list), list...)}
	for i := range list {
		out = append(out, slices.Delete(slices.Clone(list), i, i+1), slices.Insert(slices.Clone(list), i, list[i]))
	}
	return out
}

// invalidWholes has other lengths, a store that is valid for another service, and one that is valid for none or not at all, at every place.
func invalidWholes() [][]impl.StoStore {
	out := append(otherLengths(impl.GloNew()), otherLengths(wholeOf())...)
	long := fullStore()
	long.Items = append(long.Items, item("a5", 1))
	for _, place := range services() {
		good := goodItems(place)
		bad := []impl.StoStore{long, store(good[1], good[0]), store(good[0], good[0]), store(item("S1", 1)), store(item("a1")), store(item("s1", -1))}
		for _, it := range badItems() {
			bad = append(bad, store(it))
		}
		for _, other := range services() {
			if other != place {
				bad = append(bad, store(goodItems(other)...))
			}
		}
		for _, s := range bad {
			for _, list := range [][]impl.StoStore{impl.GloNew(), wholeOf()} {
				list[place-impl.PlcIn] = s
				out = append(out, list)
			}
		}
	}
	whole := wholeOf()
	return append(out, stores(whole[1], whole[0], whole[2]), stores(whole[2], whole[1], whole[0]), stores(whole[0], whole[2], whole[1]))
}

// TestPromise29Invalid: three stores are valid only if each is valid for its service, whichever the others are.
func TestPromise29Invalid(t *testing.T) {
	for _, list := range invalidWholes() {
		if impl.GloOk(list) {
			t.Errorf("%v is valid", list)
		}
	}
	for _, place := range services() {
		list := impl.GloNew()
		list[place-impl.PlcIn] = store(goodItems(place)...)
		if !impl.GloOk(list) {
			t.Errorf("%v is invalid", list)
		}
	}
	if !impl.GloOk(wholeOf()) {
		t.Error("three stores of several items are invalid")
	}
}

// TestGloDoInvalid: nil and false for invalid stores, also at a service at which the operation is not executed, an invalid operation, and a transaction out of its bounds; that counts before a refusal.
func TestGloDoInvalid(t *testing.T) {
	possible := []impl.OpOp{opIn(1, 1), opLet(1, 2, 2, 7), opTrade(1, 7, 5), opNext(1, 5), opOut(1, 2)}
	refused := []impl.OpOp{opIn(1, 2), opLet(2, 2, 2, 7), opTrade(1, 8, 5), opNext(1, 6), opOut(2, 2)}
	for _, o := range append(possible, refused...) {
		for _, list := range invalidWholes() {
			wantGlo(t, "invalid stores", list, 5, o, nil, false)
		}
		for _, tx := range badTxs() {
			wantGlo(t, "a transaction out of its bounds", wholeOf(), tx, o, nil, false)
			wantGlo(t, "a transaction out of its bounds", impl.GloNew(), tx, o, nil, false)
		}
	}
	for _, o := range invalidOps() {
		wantGlo(t, "an invalid operation", wholeOf(), 5, o, nil, false)
		wantGlo(t, "an invalid operation", impl.GloNew(), 0, o, nil, false)
		wantGlo(t, "an invalid operation that is audited", wholeOf(), 0, o, nil, false)
	}
	wantGlo(t, "the first transaction", impl.GloNew(), 0, opIn(1, 1), stores(store(item("s1", 1)), store(), store(item("a0", 1))), true)
	wantGlo(t, "the last transaction", impl.GloNew(), impl.TxMost, opIn(1, 1), stores(store(item("s1", 1)), store(), store(item("a29", 1))), true)
}
