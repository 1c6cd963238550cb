package tests

import (
	"fmt"
	"math/rand"
	"slices"
	"testing"

	"loop.example/janitor/impl"
)

// everyFirst hands the system to a check after every choice of the messages that are heard first, up to n of them.
func everyFirst(t *testing.T, w impl.WldWorld, n int, check func(w impl.WldWorld)) {
	t.Helper()
	if check(w); n == 0 || t.Failed() {
		return
	}
	for at := range w.Net {
		everyFirst(t, impl.WldStep(w, evHear(at)), n-1, check)
	}
}

// everyRival starts two operations, in both orders, together, or the second one when some messages about the first one were heard, and hands the system on to a check, whichever messages are heard first behind that; also if then all are heard, in any order.
func everyRival(t *testing.T, w impl.WldWorld, a, b impl.OpOp, check func(w impl.WldWorld)) {
	t.Helper()
	r := rand.New(rand.NewSource(973))
	for _, ops := range [][]impl.OpOp{{a, b}, {b, a}} {
		everyFirst(t, mustRun(t, w, evDo(ops[0]), evDo(ops[1])), 4, check)
		everyFirst(t, mustRun(t, w, evDo(ops[0])), 4, func(first impl.WldWorld) {
			both := mustRun(t, first, evDo(ops[1]))
			check(both)
			for len(both.Net) > 0 && !t.Failed() {
				both = impl.WldStep(both, evHear(r.Intn(len(both.Net))))
			}
			check(both)
		})
	}
}

// wantWinner wants true to be reported for exactly those of the last two transactions that are committed, which is one at most, and returns them.
func wantWinner(t *testing.T, calm impl.WldWorld) []int {
	t.Helper()
	rivals := len(calm.Ops) - 2
	early := func(tx int) bool { return tx < rivals }
	won := slices.DeleteFunc(commitsIn(calm.Front.Disk), early)
	told := slices.DeleteFunc(reportedAs(calm, true), early)
	if len(won) > 1 || !slices.Equal(won, told) {
		t.Fatalf("committed are %v, reported are %v: %v", won, told, calm)
	}
	if order := slices.DeleteFunc(impl.VueOrder(calm), early); !slices.Equal(won, order) {
		t.Fatalf("committed are %v, and in the order are %v: %v", won, order, calm)
	}
	return won
}

// TestPromise73: of two logins with one session number, by two users or by one, at most one is committed, after calm rounds: in fact the one that the session service is asked first about. For it true is reported, and for no other.
func TestPromise73(t *testing.T) {
	for _, who := range [][]int{{1, 2}, {0, 9}, {3, 3}} {
		count := map[string]int{}
		everyRival(t, impl.WldNew(), opIn(who[0], 2), opIn(who[1], 2), func(w impl.WldWorld) {
			calm := calmed(w)
			won := wantWinner(t, calm)
			count[fmt.Sprint(won)]++
			want := store()
			if len(won) > 0 {
				want = store(item("s2", calm.Ops[won[0]].Who))
			}
			if got := impl.DiskFold(calm.Disks[0]); !sameStore(got, want) {
				t.Fatalf("%v is committed, and the sessions are %v: %v", won, got, calm)
			}
			first := slices.IndexFunc(calm.Disks[0].Notes, func(n impl.LogNote) bool { return n.Kind == impl.LogReady })
			if len(won) == 1 && calm.Disks[0].Notes[first].Tx != won[0] {
				t.Fatalf("%v is committed: %v", won, calm)
			}
		})
		if count["[0]"] < 50 || count["[1]"] < 50 {
			t.Errorf("who logs in first: %v", count)
		}
	}
}

// TestPromise74: of two exchanges of one code for two families at most one is committed, after calm rounds: at most one family exists, and the code exists just if none does. With another secret an exchange has no success.
func TestPromise74(t *testing.T) {
	start := played(t, impl.WldNew(), newModel(), opIn(1, 2), opLet(1, 2, 3, 7))
	for _, x := range []struct {
		a, b impl.OpOp
		want map[string]bool
	}{
		{opTrade(3, 7, 4), opTrade(3, 7, 5), map[string]bool{"[2]": true, "[3]": true}},
		{opTrade(3, 7, 9), opTrade(3, 7, 0), map[string]bool{"[2]": true, "[3]": true}},
		{opTrade(3, 7, 4), opTrade(3, 8, 5), map[string]bool{"[2]": true, "[3]": true}},
		{opTrade(3, 6, 4), opTrade(3, 8, 5), map[string]bool{"[]": true}},
	} {
		count := map[string]int{}
		everyRival(t, start, x.a, x.b, func(w impl.WldWorld) {
			calm := calmed(w)
			won := wantWinner(t, calm)
			if count[fmt.Sprint(won)]++; !x.want[fmt.Sprint(won)] {
				t.Fatalf("%v is committed: %v", won, calm)
			}
			grants := impl.DiskFold(calm.Disks[1])
			want := store(item("c3", 1, 5672))
			if len(won) > 0 {
				want = store(item(fmt.Sprint("f", calm.Ops[won[0]].Fam), 1, 1, 1))
			}
			if !sameStore(grants, want) {
				t.Fatalf("%v is committed, and the grants are %v: %v", won, grants, calm)
			}
		})
		for label := range x.want {
			if count[label] < 50 {
				t.Errorf("%v, %v: %s is committed: only %d", x.a, x.b, label, count[label])
			}
		}
	}
}
