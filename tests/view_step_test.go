package tests

import (
	"math/rand"
	"slices"
	"testing"

	"loop.example/janitor/impl"
)

// everyTroubled hands the systems of runs with all kinds of trouble to a check.
func everyTroubled(t *testing.T, seed int64, oneOf int, check func(r *rand.Rand, w impl.WldWorld)) {
	t.Helper()
	everyTrouble(t, seed, oneOf, func(r *rand.Rand, s worldStep) {
		t.Helper()
		if check(r, s.after); t.Failed() {
			t.Fatalf("after %v of %v", s.e, s.before)
		}
	})
}

// TestPromise8: at every step the services have, by the decisions of the coordinator, exactly what the operations make that were reported as committed, executed one after the other in that order.
func TestPromise8(t *testing.T) {
	t.Parallel()
	everyTroubled(t, 808, 1, func(_ *rand.Rand, w impl.WldWorld) {
		whole, ok := impl.VueWhole(w)
		server, possible := modelServer(w.Ops, reportedAs(w, true))
		if !ok || !possible {
			t.Fatalf("something is committed that is not possible: %v", w)
		}
		if places := impl.VuePlaces(w); !sameStores(places, whole) || !sameStores(whole, server.stores()) {
			t.Fatalf("%v: the services have %v, executed is %v, want %v", w, places, whole, server.stores())
		}
	})
}

// TestPromise9: what one service has committed, the coordinator has committed too, all its services have prepared, and nobody has aborted.
func TestPromise9(t *testing.T) {
	t.Parallel()
	everyTroubled(t, 809, 1, func(_ *rand.Rand, w impl.WldWorld) {
		for tx, o := range w.Ops {
			for _, place := range services() {
				if hasNote(logAt(w, place), impl.LogYes, tx) {
					wantAgreed(t, w, tx, modelPlaces(o.Kind))
				}
			}
		}
	})
}

func wantAgreed(t *testing.T, w impl.WldWorld, tx int, places []int) {
	t.Helper()
	if !hasNote(w.Front.Disk, impl.LogYes, tx) {
		t.Fatalf("%d is committed, but not by the coordinator: %v", tx, w)
	}
	for _, place := range services() {
		if hasNote(logAt(w, place), impl.LogNo, tx) {
			t.Fatalf("%d is committed, and aborted at %d: %v", tx, place, w)
		}
		if slices.Contains(places, place) && !hasNote(logAt(w, place), impl.LogReady, tx) {
			t.Fatalf("%d is committed, and not prepared at %d: %v", tx, place, w)
		}
	}
}

// TestPromise10: one outcome is reported for a transaction, and it is never taken back: true as long as it is in the log of the coordinator, false for what is never committed anywhere; also in calm rounds behind that.
func TestPromise10(t *testing.T) {
	t.Parallel()
	everyTrouble(t, 810, 1, func(r *rand.Rand, s worldStep) {
		if !startsWith(s.after.Outs, s.before.Outs) {
			t.Fatalf("reported before were %v: %v", s.before.Outs, s)
		}
		wantTrue(t, s.after)
		if r.Intn(50) == 0 {
			calm := impl.WldCalm(s.after, 20)
			if !startsWith(calm.Outs, s.after.Outs) {
				t.Fatalf("reported before the calm rounds were %v: %v", s.after.Outs, calm)
			}
			wantTrue(t, calm)
		}
	})
}

func wantTrue(t *testing.T, w impl.WldWorld) {
	t.Helper()
	var seen []int
	for _, out := range w.Outs {
		if slices.Contains(seen, out.Tx) {
			t.Fatalf("two outcomes of %d: %v", out.Tx, w)
		}
		seen = append(seen, out.Tx)
		if out.Ok != hasNote(w.Front.Disk, impl.LogYes, out.Tx) {
			t.Fatalf("reported is %v: %v", out, w)
		}
		for _, d := range w.Disks {
			if !out.Ok && hasNote(d, impl.LogYes, out.Tx) {
				t.Fatalf("reported is %v, and a service has committed it: %v", out, w)
			}
		}
	}
}

func commitsIn(d impl.LogDisk) []int {
	var out []int
	for _, n := range d.Notes {
		if n.Kind == impl.LogYes {
			out = append(out, n.Tx)
		}
	}
	return out
}

// TestPromise42: the coordinator's order of commits only grows; what a service has committed stays in its log, and in its store.
func TestPromise42(t *testing.T) {
	t.Parallel()
	everyTrouble(t, 842, 1, func(_ *rand.Rand, s worldStep) {
		if before, after := impl.VueOrder(s.before), impl.VueOrder(s.after); !startsWith(after, before) || !slices.Equal(after, commitsIn(s.after.Front.Disk)) {
			t.Fatalf("the order was %v and is %v: %v", before, after, s)
		}
		for i, d := range s.after.Disks {
			before, after := commitsIn(s.before.Disks[i]), commitsIn(d)
			if !startsWith(after, before) {
				t.Fatalf("service %d had committed %v: %v", i+1, before, s)
			}
			if len(after) == len(before) && !sameStore(impl.DiskFold(d), impl.DiskFold(s.before.Disks[i])) {
				t.Fatalf("service %d has committed nothing more, and its store is another one: %v", i+1, s)
			}
		}
	})
}

// TestPromise43: two transactions that are in doubt at a service have no key in common.
func TestPromise43(t *testing.T) {
	t.Parallel()
	everyTroubled(t, 843, 1, func(_ *rand.Rand, w impl.WldWorld) {
		for _, d := range w.Disks {
			locks := map[string]int{}
			for _, n := range d.Notes {
				if n.Kind != impl.LogReady || modelKind(d.Notes, n.Tx) != impl.LogReady {
					continue
				}
				for _, key := range n.Locks {
					if other, locked := locks[key]; locked && other != n.Tx {
						t.Fatalf("%d and %d have locked %s: %v", other, n.Tx, key, d)
					}
					locks[key] = n.Tx
				}
			}
		}
	})
}

// outcomesIn lists the outcomes in the log of a service.
func outcomesIn(d impl.LogDisk) []impl.FroOut {
	var out []impl.FroOut
	for _, n := range d.Notes {
		if n.Kind != impl.LogReady {
			out = append(out, impl.FroOut{Tx: n.Tx, Ok: n.Kind == impl.LogYes})
		}
	}
	return out
}

// TestPromise47: the log of a service gets an outcome only when it hears it from the coordinator: not when it asks, when it crashes, when it is asked, or when another place does something.
func TestPromise47(t *testing.T) {
	t.Parallel()
	count := map[bool]int{}
	everyTrouble(t, 847, 1, func(_ *rand.Rand, s worldStep) {
		for i, d := range s.after.Disks {
			before, after := outcomesIn(s.before.Disks[i]), outcomesIn(d)
			if startsWith(before, after) {
				continue
			}
			last := after[len(after)-1]
			tell := msgNo(i+1, last.Tx)
			if last.Ok {
				tell = msgYes(i+1, last.Tx)
			}
			if !slices.Equal(after[:len(after)-1], before) || s.e.Kind != impl.EvHear || s.before.Net[s.e.At] != tell {
				t.Fatalf("service %d has decided on its own: %v, had %v: %v", i+1, after, before, s)
			}
			count[last.Ok]++
		}
	})
	if count[true] < 300 || count[false] < 300 {
		t.Errorf("commits and aborts: %v", count)
	}
}

// TestPromise48: the system is valid after every step, and after calm rounds.
func TestPromise48(t *testing.T) {
	t.Parallel()
	everyTroubled(t, 848, 1, func(r *rand.Rand, w impl.WldWorld) {
		if !impl.WldOk(w) || !modelWldOk(w) {
			t.Fatalf("invalid: %v", w)
		}
		if r.Intn(100) > 0 {
			return
		}
		for _, n := range []int{0, 1, 2, 20, impl.CalmMost} {
			if got := impl.WldCalm(w, n); !impl.WldOk(got) || !modelWldOk(got) {
				t.Fatalf("invalid after %d rounds: %v", n, got)
			}
		}
	})
}

// TestPromise87: a service has exactly what the transactions that it has committed make, in the order of the coordinator, in whatever order it was told of them.
func TestPromise87(t *testing.T) {
	t.Parallel()
	other := 0
	everyTroubled(t, 887, 1, func(_ *rand.Rand, w impl.WldWorld) {
		for i, d := range w.Disks {
			known := slices.DeleteFunc(impl.VueOrder(w), func(tx int) bool { return impl.DiskOf(d, tx) != impl.LogYes })
			if !slices.Equal(known, commitsIn(d)) {
				other++
			}
			if got, want := impl.DiskFold(d), modelWritten(d, known); !sameStore(got, want) {
				t.Fatalf("service %d has committed %v and has %v, want %v", i+1, known, got, want)
			}
		}
	})
	if other < 200 {
		t.Errorf("told in another order: only %d", other)
	}
}
