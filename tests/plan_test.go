package tests

import (
	"fmt"
	"math/rand"
	"slices"
	"testing"

	"loop.example/janitor/impl"
)

// TestPlanModel: every plan is that of the document's table.
func TestPlanModel(t *testing.T) {
	r := rand.New(rand.NewSource(3))
	for range 4 * opRounds {
		place, tx := services()[r.Intn(3)], fewNumber(r, impl.TxMost)
		s, o := randomPlaceStore(r, place), randomOpAt(r, place)
		wantPlan(t, "random", place, s, tx, o, modelPlan(place, s, tx, o))
	}
}

// TestPlanExamples: the examples at the end of the document.
func TestPlanExamples(t *testing.T) {
	may := impl.StoStore{}
	wantPlan(t, "authorize", impl.PlcIn, store(item("s2", 1)), 0, opLet(1, 2, 3, 7), planned([]string{"s2"}))
	for _, x := range []struct {
		o    impl.OpOp
		want impl.OpPlan
	}{
		{opLet(1, 2, 3, 7), planned([]string{"c3"}, set("c3", 1, 5672))},
		{opTrade(3, 7, 4), planned([]string{"c3", "f4", "u1"}, del("c3"), set("f4", 1, 1, 1))},
		{opNext(4, 1), planned([]string{"f4", "u1"}, set("f4", 1, 2, 1))},
		{opNext(4, 1), planned([]string{"f4", "u1"}, set("f4", 1, 2, 0))},
		{opNext(4, 2), refused("f4")},
	} {
		wantPlan(t, "example", impl.PlcMay, may, 5, x.o, x.want)
		may = impl.StoDo(may, impl.PlcPlan(impl.PlcMay, may, 5, x.o).Writes)
	}
}

// TestPlanIn: a session that exists already, one that does not, and one of another user.
func TestPlanIn(t *testing.T) {
	s := store(item("s0", 0), item("s2", 1), item("s9", 9))
	for _, x := range []struct {
		what string
		o    impl.OpOp
		want impl.OpPlan
	}{
		{"log in", opIn(1, 3), planned([]string{"s3"}, set("s3", 1))},
		{"log in as user 0", opIn(0, 1), planned([]string{"s1"}, set("s1", 0))},
		{"log in with an own session", opIn(1, 2), refused("s2")},
		{"log in with a session of another user", opIn(2, 2), refused("s2")},
		{"log in with session 9", opIn(9, 9), refused("s9")},
		{"authorize", opLet(1, 2, 3, 4), planned([]string{"s2"})},
		{"authorize as user 0", opLet(0, 0, 3, 4), planned([]string{"s0"})},
		{"authorize as user 9", opLet(9, 9, 9, 99), planned([]string{"s9"})},
		{"authorize with a session of another user", opLet(2, 2, 3, 4), refused("s2")},
		{"authorize as user 0 with a session of another user", opLet(0, 2, 3, 4), refused("s2")},
		{"authorize without the session", opLet(1, 3, 3, 4), refused("s3")},
		{"authorize as user 0 without the session", opLet(0, 3, 0, 0), refused("s3")},
		{"log out", opOut(1, 2), planned([]string{"s2"}, del("s2"))},
		{"log out as user 0", opOut(0, 0), planned([]string{"s0"}, del("s0"))},
		{"log out with a session of another user", opOut(2, 2), refused("s2")},
		{"log out as user 0 with a session of another user", opOut(0, 2), refused("s2")},
		{"log out without the session", opOut(1, 3), refused("s3")},
		{"log out as user 0 without the session", opOut(0, 3), refused("s3")},
	} {
		wantPlan(t, x.what, impl.PlcIn, s, 0, x.o, x.want)
		wantPlan(t, x.what, impl.PlcIn, s, impl.TxMost, x.o, x.want)
	}
}

// grants has codes and families of several users; f3 and f6 are revoked, and f7 and f8 have the last generation.
func grants() impl.StoStore {
	return store(
		item("c0", 0, 104), item("c1", 2, 5672), item("c9", 9, 6191),
		item("f0", 0, 1, 1), item("f1", 1, 5, 1), item("f2", 2, 98, 1), item("f3", 1, 5, 0), item("f4", 1, 1, 1),
		item("f6", 6, 2, 0), item("f7", 7, 99, 1), item("f8", 7, 99, 0), item("f9", 1, 99, 1))
}

// TestPlanCodes: a code that exists and one that does not, a wrong secret, a family that exists.
func TestPlanCodes(t *testing.T) {
	for _, x := range []struct {
		what string
		o    impl.OpOp
		want impl.OpPlan
	}{
		{"authorize", opLet(3, 2, 2, 7), planned([]string{"c2"}, set("c2", 3, 5672))},
		{"authorize with the smallest numbers", opLet(0, 0, 2, 0), planned([]string{"c2"}, set("c2", 0, 104))},
		{"authorize with the largest numbers", opLet(9, 9, 8, 99), planned([]string{"c8"}, set("c8", 9, 6191))},
		{"authorize an own code again", opLet(2, 2, 1, 7), refused("c1")},
		{"authorize a code of another user", opLet(3, 2, 1, 8), refused("c1")},
		{"exchange", opTrade(1, 7, 5), planned([]string{"c1", "f5", "u2"}, del("c1"), set("f5", 2, 1, 1))},
		{"exchange code 0", opTrade(0, 0, 5), planned([]string{"c0", "f5", "u0"}, del("c0"), set("f5", 0, 1, 1))},
		{"exchange code 9", opTrade(9, 99, 5), planned([]string{"c9", "f5", "u9"}, del("c9"), set("f5", 9, 1, 1))},
		{"exchange with a wrong secret", opTrade(1, 8, 5), refused("c1", "f5")},
		{"exchange with secret 0", opTrade(1, 0, 5), refused("c1", "f5")},
		{"exchange with the secret of another code", opTrade(1, 99, 5), refused("c1", "f5")},
		{"exchange without the code", opTrade(2, 7, 5), refused("c2", "f5")},
		{"exchange for a family that exists", opTrade(1, 7, 2), refused("c1", "f2")},
		{"exchange for a revoked family", opTrade(1, 7, 3), refused("c1", "f3")},
		{"exchange with all of it wrong", opTrade(2, 8, 2), refused("c2", "f2")},
	} {
		wantPlan(t, x.what, impl.PlcMay, grants(), 0, x.o, x.want)
		wantPlan(t, x.what, impl.PlcMay, grants(), impl.TxMost, x.o, x.want)
	}
	digest := store(item("c1", 1, 7))
	wantPlan(t, "the digest as the secret", impl.PlcMay, digest, 0, opTrade(1, 7, 5), refused("c1", "f5"))
}

// TestPlanRefresh: Gen 0, below, equal to and above the stored generation, a revoked family, one that does not exist, the last generation.
func TestPlanRefresh(t *testing.T) {
	for _, x := range []struct {
		what string
		o    impl.OpOp
		want impl.OpPlan
	}{
		{"the last token", opNext(1, 5), planned([]string{"f1", "u1"}, set("f1", 1, 6, 1))},
		{"the first token", opNext(0, 1), planned([]string{"f0", "u0"}, set("f0", 0, 2, 1))},
		{"the last but one generation", opNext(2, 98), planned([]string{"f2", "u2"}, set("f2", 2, 99, 1))},
		{"an older token", opNext(1, 4), planned([]string{"f1", "u1"}, set("f1", 1, 5, 0))},
		{"the oldest token", opNext(1, 1), planned([]string{"f1", "u1"}, set("f1", 1, 5, 0))},
		{"the oldest token of many", opNext(2, 1), planned([]string{"f2", "u2"}, set("f2", 2, 98, 0))},
		{"generation 0", opNext(1, 0), refused("f1")},
		{"generation 0 of a new family", opNext(0, 0), refused("f0")},
		{"a token that was not issued yet", opNext(1, 6), refused("f1")},
		{"the second token before the first", opNext(0, 2), refused("f0")},
		{"the largest token", opNext(1, 99), refused("f1")},
		{"the last token of a revoked family", opNext(3, 5), refused("f3")},
		{"an older token of a revoked family", opNext(3, 4), refused("f3")},
		{"no family", opNext(5, 1), refused("f5")},
		{"no family, generation 0", opNext(5, 0), refused("f5")},
		{"the last generation", opNext(7, 99), refused("f7")},
		{"an older token in the last generation", opNext(7, 98), refused("f7")},
		{"the oldest token in the last generation", opNext(7, 1), refused("f7")},
		{"the last generation, revoked", opNext(8, 99), refused("f8")},
	} {
		wantPlan(t, x.what, impl.PlcMay, grants(), 0, x.o, x.want)
		wantPlan(t, x.what, impl.PlcMay, grants(), impl.TxMost, x.o, x.want)
	}
}

// TestPlanOut: a user without a family, with one, with several, with a revoked one only; PlcMay does not look at the session.
func TestPlanOut(t *testing.T) {
	several := planned([]string{"u1", "f1", "f4", "f9"}, set("f1", 1, 5, 0), set("f4", 1, 1, 0), set("f9", 1, 99, 0))
	for _, in := range []int{0, 4, impl.NumTop} {
		for _, x := range []struct {
			what string
			who  int
			want impl.OpPlan
		}{
			{"several families", 1, several},
			{"one family", 2, planned([]string{"u2", "f2"}, set("f2", 2, 98, 0))},
			{"user 0", 0, planned([]string{"u0", "f0"}, set("f0", 0, 1, 0))},
			{"one of two is revoked", 7, planned([]string{"u7", "f7"}, set("f7", 7, 99, 0))},
			{"a revoked family", 6, planned([]string{"u6"})},
			{"no family", 5, planned([]string{"u5"})},
			{"a code, but no family", 9, planned([]string{"u9"})},
		} {
			wantPlan(t, x.what, impl.PlcMay, grants(), 7, opOut(x.who, in), x.want)
		}
	}
	wantPlan(t, "an empty store", impl.PlcMay, store(), 0, opOut(3, 3), planned([]string{"u3"}))
}

// TestPlanOutAll: all families are of one user, and a log record has room for all of them.
func TestPlanOutAll(t *testing.T) {
	s, want := store(), planned([]string{"u8"})
	for n := range 10 {
		key := fmt.Sprint("f", n)
		s.Items = append(s.Items, item(key, 8, 10+n, 1))
		want.Locks, want.Writes = append(want.Locks, key), append(want.Writes, set(key, 8, 10+n, 0))
	}
	wantPlan(t, "all families", impl.PlcMay, s, 0, opOut(8, 0), want)
	if !impl.NoteOk(ready(0, want.Locks, want.Writes...)) {
		t.Errorf("%v is too long for a record", want)
	}
}

// TestPlanDone: the first and last transaction, and an audit item that exists, with one key a prefix of another.
func TestPlanDone(t *testing.T) {
	for _, o := range someOps() {
		for _, tx := range []int{0, 1, 2, 9, 10, 28, impl.TxMost} {
			key := fmt.Sprint("a", tx)
			want := planned([]string{key}, set(key, o.Kind))
			wantPlan(t, "an empty store", impl.PlcDone, store(), tx, o, want)
			wantPlan(t, "audited", impl.PlcDone, store(item(key, o.Kind)), tx, o, refused(key))
			wantPlan(t, "audited as another kind", impl.PlcDone, store(item(key, 0)), tx, o, refused(key))
			wantPlan(t, "other items", impl.PlcDone, store(item("a00", 1), item("a11", 1), item("a20", 1), item("a3", 1)), tx, o, want)
		}
	}
}

// TestPlanDoneFull: the document names no refusal for lack of room, and StoMost items are a valid store.
func TestPlanDoneFull(t *testing.T) {
	wantPlan(t, "a full store", impl.PlcDone, fullStore(), 5, opIn(1, 2), planned([]string{"a5"}, set("a5", impl.OpIn)))
	wantPlan(t, "a full store with the item", impl.PlcDone, fullStore(), 10, opIn(1, 2), refused("a10"))
}

// TestPlanInvalid: the zero value for a store that is not valid for the service, an invalid operation, a transaction out of its bounds, and a place that is no service or at which the operation is not executed.
func TestPlanInvalid(t *testing.T) {
	zero := impl.OpPlan{}
	for _, o := range someOps() {
		for _, place := range services() {
			good := store(goodItems(place)...)
			if !slices.Contains(modelPlaces(o.Kind), place) {
				wantPlan(t, "not executed there", place, good, 0, o, zero)
				wantPlan(t, "not executed there", place, store(), impl.TxMost, o, zero)
				continue
			}
			for _, tx := range badTxs() {
				wantPlan(t, "a transaction out of its bounds", place, good, tx, o, zero)
				wantPlan(t, "a transaction out of its bounds", place, store(), tx, o, zero)
			}
			for _, bad := range badItems() {
				wantPlan(t, "a store that is valid for no service", place, store(bad), 0, o, zero)
			}
			for _, other := range services() {
				if other != place {
					wantPlan(t, "a store of another service", place, store(goodItems(other)...), 0, o, zero)
				}
			}
			wantPlan(t, "an invalid store", place, store(good.Items[1], good.Items[0]), 0, o, zero)
		}
		for _, place := range badPlaces() {
			wantPlan(t, "no service", place, store(), 0, o, zero)
			wantPlan(t, "no service", place, store(item("s1", 1)), 0, o, zero)
		}
	}
	for _, o := range invalidOps() {
		for _, place := range append(services(), badPlaces()...) {
			wantPlan(t, "an invalid operation", place, store(), 0, o, zero)
		}
	}
}
