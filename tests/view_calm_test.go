package tests

import (
	"fmt"
	"math/rand"
	"slices"
	"testing"

	"loop.example/janitor/impl"
)

// calmRounds is how many are enough, by promise 11.
const calmRounds = 20

func calmed(w impl.WldWorld) impl.WldWorld {
	return impl.WldCalm(w, calmRounds)
}

// serverOf is the server as those who were told of the outcomes know it.
func serverOf(t *testing.T, w impl.WldWorld) modelWhole {
	t.Helper()
	m, ok := modelServer(w.Ops, reportedAs(w, true))
	if !ok {
		t.Fatalf("reported are %v, which is not possible: %v", w.Outs, w)
	}
	return m
}

func storesOf(w impl.WldWorld) []impl.StoStore {
	var out []impl.StoStore
	for _, d := range w.Disks {
		out = append(out, impl.DiskFold(d))
	}
	return out
}

// wantNobodyWaits wants nothing to be active, nobody to be in doubt, and no key to be locked.
func wantNobodyWaits(t *testing.T, w impl.WldWorld) {
	t.Helper()
	if len(w.Front.Way) > 0 || len(impl.VueDoubt(w)) > 0 {
		t.Fatalf("active are %v, in doubt are %v: %v", w.Front.Way, impl.VueDoubt(w), w)
	}
	for _, d := range w.Disks {
		if len(impl.DiskOpen(d)) > 0 || len(impl.DiskLocks(d)) > 0 {
			t.Fatalf("open are %v, locked are %v: %v", impl.DiskOpen(d), impl.DiskLocks(d), w)
		}
	}
}

// wantAllKnow wants every service of a committed transaction to know that.
func wantAllKnow(t *testing.T, w impl.WldWorld, order []int) {
	t.Helper()
	for _, tx := range order {
		for _, place := range modelPlaces(w.Ops[tx].Kind) {
			if impl.DiskOf(logAt(w, place), tx) != impl.LogYes {
				t.Fatalf("service %d does not know that %d is committed: %v", place, tx, w)
			}
		}
	}
}

// TestPromise11: after 20 calm rounds nobody waits for anything, all services know all commits, and they have exactly what the atomic execution of these makes.
func TestPromise11(t *testing.T) {
	t.Parallel()
	everyTroubled(t, 911, 8, func(_ *rand.Rand, w impl.WldWorld) {
		calm := calmed(w)
		wantNobodyWaits(t, calm)
		wantAllKnow(t, calm, impl.VueOrder(calm))
		whole, ok := impl.VueWhole(calm)
		if got := storesOf(calm); !ok || !sameStores(got, whole) || !sameStores(got, serverOf(t, calm).stores()) {
			t.Fatalf("%v: the services have %v, executed is %v", calm, got, whole)
		}
	})
}

// TestPromise44: after calm rounds the audit service has one item for each commit, with the kind of its operation, and no other.
func TestPromise44(t *testing.T) {
	t.Parallel()
	everyTroubled(t, 944, 8, func(_ *rand.Rand, w impl.WldWorld) {
		calm := calmed(w)
		audit := map[string][]int{}
		for _, tx := range commitsIn(calm.Front.Disk) {
			audit[fmt.Sprint("a", tx)] = []int{calm.Ops[tx].Kind}
		}
		if got := impl.DiskFold(calm.Disks[2]); !sameStore(got, storeOf(audit)) || len(got.Items) != len(impl.VueOrder(calm)) {
			t.Fatalf("%v: audited are %v, want %v", calm, got, audit)
		}
	})
}

// TestPromise46: when a place crashes at rest, whatever remains, calm rounds bring everything back, and nothing more is reported.
func TestPromise46(t *testing.T) {
	t.Parallel()
	lost := map[int]int{}
	everyTroubled(t, 946, 24, func(r *rand.Rand, w impl.WldWorld) {
		rest := calmed(w)
		was := viewsOf(rest)
		for place := range impl.PlcMany {
			for _, keep := range []int{-r.Intn(2), 1, 1000} {
				down := impl.WldStep(rest, evFall(place, keep))
				if len(logAt(down, place).Notes) < len(logAt(rest, place).Notes) {
					lost[place]++
				}
				calm := calmed(down)
				if !sameStores(storesOf(calm), storesOf(rest)) || !sameViews(viewsOf(calm), was) || !slices.Equal(calm.Outs, rest.Outs) {
					t.Fatalf("place %d has crashed with %d records left: got %v, was %v", place, keep, calm, rest)
				}
			}
		}
	})
	for place := range impl.PlcMany {
		if lost[place] < 50 {
			t.Errorf("crashes of place %d that lose something: only %d", place, lost[place])
		}
	}
}

// undecided lists the active transactions that are not committed.
func undecided(w impl.WldWorld) []int {
	var out []int
	for _, active := range w.Front.Way {
		if !active.Yes {
			out = append(out, active.Tx)
		}
	}
	return out
}

// wantCommitted wants exactly some transactions to be committed, also at the services, and nobody to wait.
func wantCommitted(t *testing.T, calm impl.WldWorld, order []int) {
	t.Helper()
	wantNobodyWaits(t, calm)
	wantAllKnow(t, calm, order)
	server, ok := modelServer(calm.Ops, order)
	if got := impl.VueOrder(calm); !ok || !slices.Equal(got, order) || !sameStores(storesOf(calm), server.stores()) {
		t.Fatalf("%v: committed are %v, want %v, with %v", calm, got, order, server.stores())
	}
}

// TestPromise71: if everything is given up that is not committed, false is reported for exactly that, and what was committed is all that is committed after calm rounds.
func TestPromise71(t *testing.T) {
	t.Parallel()
	count := map[int]int{}
	everyTroubled(t, 971, 8, func(r *rand.Rand, w impl.WldWorld) {
		order, open := commitsIn(w.Front.Disk), undecided(w)
		given, outs := w, slices.Clone(w.Outs)
		for _, i := range r.Perm(len(open)) {
			given = impl.WldStep(given, evGive(open[i]))
			outs = append(outs, impl.FroOut{Tx: open[i]})
		}
		calm := calmed(given)
		if wantCommitted(t, calm, order); !slices.Equal(calm.Outs, outs) {
			t.Fatalf("%v: reported are %v, want %v", calm, calm.Outs, outs)
		}
		count[min(2, len(open))]++
	})
	if count[0] < 100 || count[1] < 100 || count[2] < 100 {
		t.Errorf("none, one or more that are not committed: %v", count)
	}
}

// TestPromise72: if the coordinator crashes, whatever remains, what it had logged as committed is all that is committed after calm rounds, and nobody is in doubt.
func TestPromise72(t *testing.T) {
	t.Parallel()
	count := map[bool]int{}
	everyTroubled(t, 972, 12, func(r *rand.Rand, w impl.WldWorld) {
		order := commitsIn(w.Front.Disk)
		for _, keep := range []int{-r.Intn(2), 1, 1000} {
			calm := calmed(impl.WldStep(w, evFall(impl.PlcFront, keep)))
			wantCommitted(t, calm, order)
		}
		count[len(undecided(w)) > 0]++
	})
	if count[false] < 100 || count[true] < 100 {
		t.Errorf("all decided when the coordinator crashes, and not: %v", count)
	}
}

// TestPromise85: after calm rounds no message is in the network, nobody sends one, and the end of every commit is logged.
func TestPromise85(t *testing.T) {
	t.Parallel()
	everyTroubled(t, 985, 8, func(_ *rand.Rand, w impl.WldWorld) {
		calm := calmed(w)
		if len(calm.Net) > 0 || len(impl.FroTick(calm.Front)) > 0 {
			t.Fatalf("the coordinator still sends, or somebody has sent: %v", calm)
		}
		for _, place := range services() {
			if len(impl.PlcTick(place, logAt(calm, place))) > 0 {
				t.Fatalf("service %d still sends: %v", place, calm)
			}
		}
		for place := range impl.PlcMany {
			wantWorld(t, "a tick at rest", impl.WldStep(calm, evTick(place)), calm)
		}
		for _, tx := range impl.VueOrder(calm) {
			if !hasNote(calm.Front.Disk, impl.LogEnd, tx) {
				t.Fatalf("the end of %d is not logged: %v", tx, calm)
			}
		}
	})
}

// TestPromise86: after calm rounds an operation is committed, and that is reported, just if it is possible on the stores.
func TestPromise86(t *testing.T) {
	t.Parallel()
	count := map[string]int{}
	everyTroubled(t, 986, 16, func(r *rand.Rand, w impl.WldWorld) {
		rest := calmed(w)
		tx := len(rest.Ops)
		if tx > impl.TxMost {
			return
		}
		for range 4 {
			o, server := nextOp(r, storesOf(rest)), serverOf(t, rest)
			whole, possible := impl.GloDo(storesOf(rest), tx, o)
			if possible != server.do(tx, o) || !sameStores(whole, server.stores()) {
				t.Fatalf("%v on %v: %v", o, storesOf(rest), possible)
			}
			calm := calmed(impl.WldStep(rest, evDo(o)))
			if hasNote(calm.Front.Disk, impl.LogYes, tx) != possible || !sameStores(storesOf(calm), whole) {
				t.Fatalf("%v is possible: %v: %v", o, possible, calm)
			}
			if outs := append(slices.Clone(rest.Outs), impl.FroOut{Tx: tx, Ok: possible}); !slices.Equal(calm.Outs, outs) {
				t.Fatalf("%v is possible: %v: reported are %v", o, possible, calm.Outs)
			}
			count[fmt.Sprint(o.Kind, possible)]++
		}
	})
	wantEveryKind(t, count, 20)
}

// wantEveryKind wants operations of every kind that are possible, and ones that are not.
func wantEveryKind(t *testing.T, count map[string]int, least int) {
	t.Helper()
	for _, kind := range kinds() {
		for _, ok := range []bool{false, true} {
			if label := fmt.Sprint(kind, ok); count[label] < least {
				t.Errorf("operations of kind %s: only %d", label, count[label])
			}
		}
	}
}
