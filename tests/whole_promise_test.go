package tests

import (
	"fmt"
	"slices"
	"testing"

	"loop.example/janitor/impl"
)

// wantNoTrade presents a code with every secret, for a family that does not exist, if there is one.
func wantNoTrade(t *testing.T, list []impl.StoStore, tx, code int) {
	t.Helper()
	fam := 0
	for fam < impl.NumTop && numbersAt(list, impl.PlcMay, fmt.Sprint("f", fam)) != nil {
		fam++
	}
	for sec := range impl.SecTop + 1 {
		wantRefused(t, "an exchange of a code that is used up", list, tx, opTrade(code, sec, fam))
	}
}

// wantNoToken presents every token of a family.
func wantNoToken(t *testing.T, list []impl.StoStore, tx, fam int) {
	t.Helper()
	for gen := range impl.SecTop + 1 {
		wantRefused(t, "a refresh of a revoked family", list, tx, opNext(fam, gen))
	}
}

// TestPromise3: a code that was exchanged is not exchanged again until it is authorized again; and it is exchanged only with the secret with which it was authorized.
func TestPromise3(t *testing.T) {
	again := 0
	everyRun(t, 3, func(run []step) {
		secrets, used := map[int]int{}, map[int]bool{}
		for i, s := range run {
			switch {
			case s.ok && s.o.Kind == impl.OpLet:
				secrets[s.o.Code] = s.o.Sec
			case s.ok && s.o.Kind == impl.OpTrade:
				if sec, open := secrets[s.o.Code]; !open || sec != s.o.Sec {
					t.Fatalf("step %d: %v is executed, with the open codes %v", i, s.o, secrets)
				}
				if used[s.o.Code] {
					again++
				}
				delete(secrets, s.o.Code)
				used[s.o.Code] = true
				if tx, found := freshTx(s.after); found {
					wantNoTrade(t, s.after, tx, s.o.Code)
				}
			}
		}
	})
	if again < wholeRounds/3 {
		t.Errorf("only %d codes are exchanged, authorized and exchanged again", again)
	}
}

// TestPromise3Again: a code that was exchanged and is authorized again, by the same user and by another one, has its new secret only.
func TestPromise3Again(t *testing.T) {
	for _, who := range []int{1, 2} {
		list := mustDo(t, impl.GloNew(), 0, opIn(1, 1), opIn(2, 2), opLet(1, 1, 3, 7))
		wantRefused(t, "a wrong secret", list, 3, opTrade(3, 8, 4))
		list = mustDo(t, list, 3, opTrade(3, 7, 4))
		wantNoTrade(t, list, 4, 3)
		list = mustDo(t, list, 4, opLet(who, who, 3, 9))
		wantRefused(t, "the first secret", list, 5, opTrade(3, 7, 5))
		wantRefused(t, "the first family", list, 5, opTrade(3, 9, 4))
		list = mustDo(t, list, 5, opTrade(3, 9, 5))
		wantNoTrade(t, list, 6, 3)
		wantStore(t, "grants", list[1], store(item("f4", 1, 1, 1), item("f5", who, 1, 1)))
	}
}

// TestPromise3Unused: a refused exchange does not use up the code, and a code that exists is not authorized again.
func TestPromise3Unused(t *testing.T) {
	list := mustDo(t, impl.GloNew(), 0, opIn(1, 1), opIn(2, 2), opLet(1, 1, 3, 7))
	for _, sec := range []int{0, 6, 8, impl.SecTop} {
		list, _ = impl.GloDo(list, 3, opTrade(3, sec, 4))
	}
	for _, o := range []impl.OpOp{opLet(1, 1, 3, 7), opLet(1, 1, 3, 8), opLet(2, 2, 3, 8)} {
		wantRefused(t, "a code that exists", list, 3, o)
	}
	list = mustDo(t, list, 3, opTrade(3, 7, 4))
	wantStore(t, "grants", list[1], store(item("f4", 1, 1, 1)))
}

// TestPromise4: the next token of a family is issued only for the last one that was issued; whoever presents an older one revokes the family, and no token of it is usable any more.
func TestPromise4(t *testing.T) {
	issued, reused := 0, 0
	everyRun(t, 44, func(run []step) {
		last := map[int]int{}
		for i, s := range run {
			if s.o.Kind == impl.OpTrade && s.ok {
				last[s.o.Fam] = 1
			}
			for fam, gen := range last {
				next := s.ok && s.o.Kind == impl.OpNext && s.o.Fam == fam
				val := numbersAt(s.after, impl.PlcMay, fmt.Sprint("f", fam))
				switch {
				case next && s.o.Gen == gen:
					last[fam]++
					issued++
				case next && s.o.Gen < gen && val[2] == 0:
					reused++
					if tx, found := freshTx(s.after); found {
						wantNoToken(t, s.after, tx, fam)
					}
				case next:
					t.Fatalf("step %d: %v is executed, with the last token %d: %v", i, s.o, gen, val)
				}
				if val[1] != last[fam] {
					t.Fatalf("step %d, %v: the last token is %d, stored is %v", i, s.o, last[fam], val)
				}
			}
		}
	})
	if issued < wholeRounds || reused < wholeRounds/3 {
		t.Errorf("only %d tokens are issued, and %d are used again", issued, reused)
	}
}

// TestPromise4Tokens: the last token, an older one and one that was not issued yet, with an older one at any distance.
func TestPromise4Tokens(t *testing.T) {
	for last := 1; last <= 20; last++ {
		list := refreshed(t, last)
		for gen := range impl.SecTop + 1 {
			o, want := opNext(4, gen), copyStores(list)
			want[2] = modelDo(list[2], []impl.StoWrite{set("a29", impl.OpNext)})
			switch {
			case gen == last:
				want[1] = store(item("f4", 1, last+1, 1))
				wantGlo(t, "the last token", list, 29, o, want, true)
			case gen > 0 && gen < last:
				want[1] = store(item("f4", 1, last, 0))
				wantGlo(t, "an older token", list, 29, o, want, true)
				wantNoToken(t, want, 28, 4)
			default:
				wantRefused(t, "a token that was not issued", list, 29, o)
			}
		}
	}
}

// refreshed has family 4 of user 1 with a last token, from GloNew on.
func refreshed(t *testing.T, last int) []impl.StoStore {
	t.Helper()
	list := mustDo(t, impl.GloNew(), 0, opIn(1, 2), opLet(1, 2, 3, 7), opTrade(3, 7, 4))
	for gen := 1; gen < last; gen++ {
		list = mustDo(t, list, 2+gen, opNext(4, gen))
	}
	return list
}

// TestPromise5: directly after a user has logged out all token families of that user are revoked, and the session is gone; everything of other users is unchanged.
func TestPromise5(t *testing.T) {
	revoked := map[int]int{}
	everyRun(t, 5, func(run []step) {
		for _, s := range run {
			if s.ok && s.o.Kind == impl.OpOut {
				revoked[min(2, wantLoggedOut(t, s))]++
			}
		}
	})
	for n := range 3 {
		if revoked[n] < wholeRounds/10 {
			t.Errorf("only %d logouts with %d families", revoked[n], n)
		}
	}
}

// wantLoggedOut returns how many families were revoked.
func wantLoggedOut(t *testing.T, s step) int {
	t.Helper()
	gone := fmt.Sprint("s", s.o.In)
	if _, found := impl.StoGet(s.after[0], gone); found {
		t.Errorf("%v leaves the session: %v", s.o, s.after)
	}
	wantStore(t, "all other sessions", s.after[0], modelDo(s.before[0], []impl.StoWrite{del(gone)}))
	if len(s.after[1].Items) != len(s.before[1].Items) {
		t.Fatalf("%v leaves %v of %v", s.o, s.after[1], s.before[1])
	}
	revoked := 0
	for i, it := range s.after[1].Items {
		was := s.before[1].Items[i]
		mine := it.Key[0] == 'f' && was.Val[0] == s.o.Who
		if mine {
			revoked += was.Val[2]
			was = item(was.Key, was.Val[0], was.Val[1], 0)
		}
		if !sameItem(it, was) {
			t.Errorf("%v leaves %v, want %v", s.o, it, was)
		}
	}
	return revoked
}

// TestPromise5Families: a logout of a user without a family, with one and with several, beside families of another user; a second session of the user stays.
func TestPromise5Families(t *testing.T) {
	for many := range 4 {
		list := mustDo(t, impl.GloNew(), 0, opIn(1, 1), opIn(1, 3), opIn(2, 2), opLet(2, 2, 9, 5), opTrade(9, 5, 9), opLet(2, 2, 8, 5))
		for n := range many {
			list = mustDo(t, list, 6+2*n, opLet(1, 1, n, n), opTrade(n, n, n))
		}
		next := mustDo(t, list, 20, opOut(1, 1))
		wantStore(t, "sessions", next[0], store(item("s2", 2), item("s3", 1)))
		m := modelOf(list[1])
		for n := range many {
			m[fmt.Sprint("f", n)] = []int{1, 1, 0}
			wantNoToken(t, next, 21, n)
		}
		wantStore(t, "grants", next[1], storeOf(m))
		wantRefused(t, "a second logout", next, 21, opOut(1, 1))
		mustDo(t, next, 21, opNext(9, 1), opTrade(8, 5, 7), opOut(1, 3), opOut(2, 2))
	}
}

// TestPromise12: a revoked family stays revoked, and the generation of a family never decreases.
func TestPromise12(t *testing.T) {
	revoked := 0
	everyRun(t, 12, func(run []step) {
		for i, s := range run {
			for _, was := range s.before[1].Items {
				if was.Key[0] != 'f' {
					continue
				}
				val := numbersAt(s.after, impl.PlcMay, was.Key)
				if val == nil || val[0] != was.Val[0] || val[1] < was.Val[1] || val[2] > was.Val[2] {
					t.Fatalf("step %d: %v leaves %v of %v", i, s.o, val, was)
				}
				revoked += 1 - was.Val[2]
			}
		}
	})
	if revoked < 10*wholeRounds {
		t.Errorf("only %d revoked families", revoked)
	}
}

// TestPromise12Edges: neither the user, who logs in again, nor another code revives a revoked family, whether a logout or an older token has revoked it.
func TestPromise12Edges(t *testing.T) {
	for _, end := range [][]impl.OpOp{{opOut(1, 2), opIn(1, 2)}, {opNext(4, 1)}, {opNext(4, 2), opOut(1, 2), opIn(1, 2)}} {
		list := mustDo(t, refreshed(t, 3), 10, end...)
		list = mustDo(t, list, 15, opLet(1, 2, 3, 7), opIn(2, 5), opLet(2, 5, 6, 8))
		want := store(item("c3", 1, 5672), item("c6", 2, modelSum(8)), item("f4", 1, 3, 0))
		wantStore(t, "grants", list[1], want)
		wantNoToken(t, list, 20, 4)
		wantRefused(t, "a code for the revoked family", list, 20, opTrade(3, 7, 4))
		wantRefused(t, "a code of another user for the revoked family", list, 20, opTrade(6, 8, 4))
		list = mustDo(t, list, 20, opTrade(3, 7, 5), opNext(5, 1), opOut(1, 2))
		wantStore(t, "grants", list[1], store(want.Items[1], item("f4", 1, 3, 0), item("f5", 1, 2, 0)))
	}
}

// TestPromise30: there is an audit item for exactly those operations that were possible.
func TestPromise30(t *testing.T) {
	everyRun(t, 30, func(run []step) {
		done := map[string][]int{}
		for i, s := range run {
			key := fmt.Sprint("a", s.tx)
			if done[key] != nil && s.ok {
				t.Fatalf("step %d: transaction %d is executed twice", i, s.tx)
			}
			if s.ok {
				done[key] = []int{s.o.Kind}
			}
			if !sameStore(s.after[2], storeOf(done)) {
				t.Fatalf("step %d: audited are %v, want %v", i, s.after[2], storeOf(done))
			}
		}
	})
}

// TestPromise30Numbers: a number of a refused operation may be used, one of an executed operation may not, by any kind; all numbers may be, in any order.
func TestPromise30Numbers(t *testing.T) {
	list := mustDo(t, impl.GloNew(), 6, opIn(1, 2))
	wantRefused(t, "no session", list, 7, opLet(2, 2, 3, 7))
	list = mustDo(t, list, 7, opLet(1, 2, 3, 7))
	for _, o := range []impl.OpOp{opIn(1, 3), opLet(1, 2, 4, 7), opTrade(3, 7, 4), opOut(1, 2)} {
		wantRefused(t, "audited as a login", list, 6, o)
		wantRefused(t, "audited as an authorization", list, 7, o)
	}
	list = impl.GloNew()
	for tx := impl.TxMost; tx >= 0; tx-- {
		o := opIn(tx%10, tx%10)
		if tx/10 == 1 {
			o = opOut(tx%10, tx%10)
		}
		list = mustDo(t, list, tx, o)
	}
	if len(list[2].Items) != impl.TxMost+1 {
		t.Errorf("audited are %v", list[2])
	}
}

// TestPromise31: a user authorizes or logs out exactly if logged in with that session number and not logged out since; and nobody logs in with a session number that is in use.
func TestPromise31(t *testing.T) {
	everyRun(t, 31, func(run []step) {
		in := map[int]int{}
		for i, s := range run {
			who, used := in[s.o.In]
			mine, want := used && who == s.o.Who, s.ok
			switch s.o.Kind {
			case impl.OpIn:
				want = !used
			case impl.OpLet:
				want = mine && numbersAt(s.before, impl.PlcMay, fmt.Sprint("c", s.o.Code)) == nil
			case impl.OpOut:
				want = mine
			}
			if want = want && !auditHas(s.before, s.tx); s.ok != want {
				t.Fatalf("step %d: %v is %v, with the sessions %v", i, s.o, s.ok, in)
			}
			if s.ok && s.o.Kind == impl.OpIn {
				in[s.o.In] = s.o.Who
			}
			if s.ok && s.o.Kind == impl.OpOut {
				delete(in, s.o.In)
			}
		}
	})
}

// TestPromise31Edges: user and session 0, a session of another user, one that was logged out of, and one that another user has since.
func TestPromise31Edges(t *testing.T) {
	for _, o := range []impl.OpOp{opLet(0, 0, 0, 0), opOut(0, 0)} {
		wantRefused(t, "nobody is logged in", impl.GloNew(), 0, o)
	}
	list := mustDo(t, impl.GloNew(), 0, opIn(0, 0))
	for _, o := range []impl.OpOp{opIn(0, 0), opIn(1, 0), opLet(1, 0, 0, 0), opLet(0, 1, 0, 0), opOut(1, 0), opOut(0, 1)} {
		wantRefused(t, "another user or session", list, 1, o)
	}
	list = mustDo(t, list, 1, opLet(0, 0, 0, 0), opOut(0, 0))
	for _, o := range []impl.OpOp{opLet(0, 0, 1, 0), opOut(0, 0)} {
		wantRefused(t, "logged out", list, 3, o)
	}
	list = mustDo(t, list, 3, opIn(1, 0))
	for _, o := range []impl.OpOp{opLet(0, 0, 1, 0), opOut(0, 0), opIn(0, 0)} {
		wantRefused(t, "the session of another user since", list, 4, o)
	}
	mustDo(t, list, 4, opLet(1, 0, 1, 0), opOut(1, 0), opIn(0, 0), opLet(0, 0, 2, 0))
}

// TestPromise64: removing the operations that are not possible leaves the same stores.
func TestPromise64(t *testing.T) {
	everyRun(t, 64, func(run []step) {
		list := impl.GloNew()
		for i, s := range run {
			if !s.ok {
				continue
			}
			next, ok := impl.GloDo(list, s.tx, s.o)
			if !ok {
				t.Fatalf("step %d: %v is refused without the refused ones before it", i, s.o)
			}
			list = next
		}
		if last := run[len(run)-1].after; !sameStores(list, last) {
			t.Fatalf("got %v, want %v", list, last)
		}
	})
}

// TestPromise64Every: one refused operation of each kind before any step of a life cycle.
func TestPromise64Every(t *testing.T) {
	life := []impl.OpOp{opIn(1, 2), opLet(1, 2, 3, 7), opTrade(3, 7, 4), opNext(4, 1), opNext(4, 2), opOut(1, 2)}
	wrong := []impl.OpOp{opLet(2, 2, 3, 7), opTrade(3, 8, 4), opNext(4, 0), opNext(5, 1), opOut(2, 2)}
	want := mustDo(t, impl.GloNew(), 0, life...)
	for at := range life {
		for _, o := range wrong {
			list := mustDo(t, impl.GloNew(), 0, life[:at]...)
			list, ok := impl.GloDo(list, at, o)
			if list = mustDo(t, list, at, life[at:]...); ok || !slices.EqualFunc(list, want, sameStore) {
				t.Errorf("with %v before step %d, %v: got %v, want %v", o, at, ok, list, want)
			}
		}
	}
}
