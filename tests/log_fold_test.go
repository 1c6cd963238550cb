package tests

import (
	"math/rand"
	"slices"
	"testing"

	"loop.example/janitor/impl"
)

func wantFold(t *testing.T, what string, d impl.LogDisk, items ...impl.StoItem) {
	t.Helper()
	wantStore(t, what, impl.DiskFold(d), store(items...))
}

// TestPromise22: DiskFold applies, for every committed transaction, the writes of its last prepared record, in commit order.
func TestPromise22(t *testing.T) {
	r := rand.New(rand.NewSource(22))
	for range logRounds {
		d := randomDisk(r, impl.LogMost)
		wantStore(t, "as a map does", impl.DiskFold(d), modelFold(d.Notes))
	}
}

// TestPromise22Others: records of aborts and acknowledgements change nothing, wherever they stand.
func TestPromise22Others(t *testing.T) {
	r := rand.New(rand.NewSource(2222))
	for range logRounds {
		d := randomDisk(r, 40)
		want := impl.DiskFold(d)
		less := slices.DeleteFunc(slices.Clone(d.Notes), func(n impl.LogNote) bool { return n.Kind == impl.LogNo || n.Kind == impl.LogEnd })
		wantStore(t, "without them", impl.DiskFold(disk(0, less...)), want)
		for _, n := range []impl.LogNote{no(1), end(1), no(impl.TxMost), end(0)} {
			more := slices.Insert(slices.Clone(d.Notes), r.Intn(len(d.Notes)+1), n)
			wantStore(t, "with one more", impl.DiskFold(disk(0, more...)), want)
		}
	}
}

// TestPromise22Edges: what is prepared counts only with a commit behind it, and only what was prepared last before it.
func TestPromise22Edges(t *testing.T) {
	one, two := readyTo(1, set("a1", 1), set("b1", 1)), readyTo(1, set("a1", 2))
	wantFold(t, "an empty log", impl.LogDisk{})
	wantFold(t, "prepared", disk(1, one))
	wantFold(t, "aborted", disk(1, one, no(1)))
	wantFold(t, "a LogYes alone", disk(0, yes(1)))
	wantFold(t, "a LogYes ahead of its LogReady", disk(0, yes(1), one))
	wantFold(t, "a LogYes of another transaction", disk(0, one, yes(2)))
	wantFold(t, "committed", disk(2, one, yes(1)), item("a1", 1), item("b1", 1))
	wantFold(t, "committed and not forced", disk(0, one, yes(1)), item("a1", 1), item("b1", 1))
	wantFold(t, "a LogEnd behind a LogYes", disk(3, one, yes(1), end(1)), item("a1", 1), item("b1", 1))
	wantFold(t, "a LogEnd between", disk(3, one, end(1), yes(1)), item("a1", 1), item("b1", 1))
	wantFold(t, "a LogNo between", disk(3, one, no(1), yes(1)), item("a1", 1), item("b1", 1))
	wantFold(t, "a LogNo behind it", disk(3, one, yes(1), no(1)), item("a1", 1), item("b1", 1))
	wantFold(t, "prepared twice", disk(0, one, two, yes(1)), item("a1", 2))
	wantFold(t, "prepared twice, the other order", disk(0, two, one, yes(1)), item("a1", 1), item("b1", 1))
	wantFold(t, "prepared again behind it", disk(0, one, yes(1), two), item("a1", 1), item("b1", 1))
	wantFold(t, "committed twice", disk(0, one, yes(1), two, yes(1)), item("a1", 2), item("b1", 1))
	wantFold(t, "a LogYes without effect between others", disk(0, one, yes(1), yes(5), yes(2)), item("a1", 1), item("b1", 1))
	wantFold(t, "without writes", disk(0, ready(1, []string{"a1"}), yes(1)))
	wantFold(t, "without writes behind others", disk(0, one, yes(1), ready(2, []string{"a1"}), yes(2)), item("a1", 1), item("b1", 1))
	wantFold(t, "prepared without writes last", disk(0, one, ready(1, nil), yes(1)))
}

// TestPromise22Order: the order of the commits counts, not that of the prepared records; a commit twice is applied twice.
func TestPromise22Order(t *testing.T) {
	one, two := readyTo(1, set("a1", 1), del("c1")), readyTo(2, set("a1", 2), set("c1", 2))
	wantFold(t, "1 first", disk(0, one, two, yes(1), yes(2)), item("a1", 2), item("c1", 2))
	wantFold(t, "2 first", disk(0, one, two, yes(2), yes(1)), item("a1", 1))
	wantFold(t, "2 first, prepared first", disk(0, two, one, yes(2), yes(1)), item("a1", 1))
	wantFold(t, "1 again", disk(0, one, two, yes(1), yes(2), yes(1)), item("a1", 1))
	wantFold(t, "2 again", disk(0, one, two, yes(2), yes(1), end(1), yes(2)), item("a1", 2), item("c1", 2))
	first, last := readyTo(0, set("a0", 1)), readyTo(impl.TxMost, set("a29", 1), del("a0"))
	wantFold(t, "the first and last transaction", disk(0, first, last, yes(0), yes(impl.TxMost)), item("a29", 1))
}

// TestPromise22Room: where StoDo has no room the store is empty, and the next commit starts with that.
func TestPromise22Room(t *testing.T) {
	var notes []impl.LogNote
	for tx := range 5 {
		var writes []impl.StoWrite
		for _, key := range manyKeys(10 * (tx + 1))[10*tx:] {
			writes = append(writes, set(key, tx))
		}
		notes = append(notes, readyTo(tx, writes...), yes(tx))
	}
	if got := impl.DiskFold(disk(0, notes[:8]...)); len(got.Items) != impl.StoMost {
		t.Errorf("%d items, want %d", len(got.Items), impl.StoMost)
	}
	wantFold(t, "no room", disk(0, notes...))
	wantFold(t, "no room, and nothing more committed", disk(0, append(slices.Clone(notes), no(1), end(1), yes(20))...))
	next := append(slices.Clone(notes), readyTo(7, set("a1", 5), del("x10")), yes(7))
	wantFold(t, "the next one", disk(0, next...), item("a1", 5))
	over := append(slices.Clone(notes[:8]), readyTo(7, set("y1", 1), del("y1")), yes(7))
	wantFold(t, "no room between two writes", disk(0, over...))
	fits := append(slices.Clone(notes[:8]), readyTo(7, del("x10"), set("y1", 1)), yes(7))
	if got := impl.DiskFold(disk(0, fits...)); len(got.Items) != impl.StoMost || got.Items[impl.StoMost-1].Key != "y1" {
		t.Errorf("room between two writes: %v", got)
	}
	again := append(slices.Clone(notes), yes(1))
	if got := impl.DiskFold(disk(0, again...)); len(got.Items) != 10 || got.Items[0].Key != "x20" {
		t.Errorf("an earlier one again: %v", got)
	}
}

// TestPromise22Invalid: an invalid log has no store.
func TestPromise22Invalid(t *testing.T) {
	for _, d := range invalidDisks() {
		wantFold(t, "an invalid log", d)
	}
}

// TestPromise23: DiskOpen lists the transactions that are prepared without an outcome; DiskLocks lists all their keys, each once.
func TestPromise23(t *testing.T) {
	r := rand.New(rand.NewSource(23))
	for range logRounds {
		d := randomDisk(r, 30)
		wantOpen(t, "as a map does", d, modelOpen(d.Notes), modelLocks(d.Notes))
		for tx := range impl.TxMost + 1 {
			if slices.Contains(impl.DiskOpen(d), tx) != (impl.DiskOf(d, tx) == impl.LogReady) {
				t.Fatalf("%d in %v: open are %v", tx, d, impl.DiskOpen(d))
			}
		}
	}
}

// TestPromise23Edges: two LogReady of one transaction, an outcome ahead of a LogReady, keys that occur twice, the order of both lists.
func TestPromise23Edges(t *testing.T) {
	a, b := ready(1, []string{"c1", "a1"}, set("a1", 1)), ready(2, []string{"b1", "b2"})
	wantOpen(t, "an empty log", impl.LogDisk{}, nil, nil)
	wantOpen(t, "one", disk(0, a), []int{1}, []string{"c1", "a1"})
	wantOpen(t, "committed", disk(0, a, yes(1)), nil, nil)
	wantOpen(t, "aborted", disk(0, a, no(1)), nil, nil)
	wantOpen(t, "acknowledged only", disk(0, a, end(1)), []int{1}, []string{"c1", "a1"})
	wantOpen(t, "a LogEnd behind a LogYes", disk(0, a, yes(1), end(1)), nil, nil)
	wantOpen(t, "a LogYes alone", disk(0, yes(1), no(2), end(3)), nil, nil)
	wantOpen(t, "an outcome of another one", disk(0, a, yes(2)), []int{1}, []string{"c1", "a1"})
	wantOpen(t, "two", disk(0, b, a), []int{2, 1}, []string{"b1", "b2", "c1", "a1"})
	wantOpen(t, "one of two", disk(0, b, a, no(2)), []int{1}, []string{"c1", "a1"})
	wantOpen(t, "an outcome ahead of a LogReady", disk(0, no(1), a), []int{1}, []string{"c1", "a1"})
	wantOpen(t, "prepared again", disk(0, ready(1, []string{"d1"}), b, no(1), a), []int{1, 2}, []string{"d1", "b1", "b2", "c1", "a1"})
	wantOpen(t, "twice", disk(0, a, ready(1, []string{"a1", "e1"})), []int{1}, []string{"c1", "a1", "e1"})
	wantOpen(t, "twice, then an outcome", disk(0, a, ready(1, []string{"a1", "e1"}), yes(1)), nil, nil)
	wantOpen(t, "twice, with another one between", disk(0, a, b, ready(1, []string{"e1"})), []int{1, 2}, []string{"c1", "a1", "b1", "b2", "e1"})
	wantOpen(t, "one key of two transactions", disk(0, a, ready(2, []string{"a1", "b1"})), []int{1, 2}, []string{"c1", "a1", "b1"})
	wantOpen(t, "a key that one has released", disk(0, a, ready(2, []string{"a1"}), yes(1)), []int{2}, []string{"a1"})
	wantOpen(t, "a key twice in a record", disk(0, ready(1, []string{"a1", "b1", "a1"})), []int{1}, []string{"a1", "b1"})
	wantOpen(t, "without keys", disk(0, ready(0, nil), ready(impl.TxMost, []string{})), []int{0, impl.TxMost}, nil)
}

// TestPromise23Many: every transaction open with NoteMost keys.
func TestPromise23Many(t *testing.T) {
	var d impl.LogDisk
	var open []int
	keys := allKeys()[:impl.NoteMost*(impl.TxMost+1)]
	for i := range impl.TxMost + 1 {
		tx := impl.TxMost - i
		open = append(open, tx)
		d.Notes = append(d.Notes, ready(tx, keys[impl.NoteMost*i:impl.NoteMost*(i+1)]))
	}
	wantOpen(t, "all", d, open, keys)
	for i := range 3 * (impl.TxMost + 1) {
		d.Notes = append(d.Notes, ready(i%(impl.TxMost+1), []string{"a0"}))
	}
	wantOpen(t, "all, four times", d, open, keys)
}

// TestPromise23Invalid: an invalid log has no open transactions and no locks.
func TestPromise23Invalid(t *testing.T) {
	for _, d := range invalidDisks() {
		if open, locks := impl.DiskOpen(d), impl.DiskLocks(d); open != nil || locks != nil {
			t.Errorf("%v: open are %v, locked are %v", d, open, locks)
		}
	}
}

// TestPromise59: a record that is appended and forced survives, with all before it, a crash that leaves nothing else; one that is not forced, only if one more is left.
func TestPromise59(t *testing.T) {
	r := rand.New(rand.NewSource(59))
	for range logRounds {
		d, n := randomDisk(r, 20), randomNote(r, fewTxs())
		longer := append(slices.Clone(d.Notes), n)
		all := disk(len(longer), longer...)
		forced, _ := impl.DiskAdd(d, n, true)
		for _, keep := range []int{-1, 0, 1, 50} {
			wantDisk(t, "forced", impl.DiskFall(forced, keep), all)
		}
		loose, _ := impl.DiskAdd(d, n, false)
		rest := len(d.Notes) - d.Safe
		wantDisk(t, "not forced", impl.DiskFall(loose, 0), disk(d.Safe, d.Notes[:d.Safe]...))
		wantDisk(t, "not forced, those before it left", impl.DiskFall(loose, rest), disk(len(d.Notes), d.Notes...))
		wantDisk(t, "not forced, one more left", impl.DiskFall(loose, rest+1), all)
	}
}

// TestPromise59Edges: the first record of a log, the last that has room, and one that has none.
func TestPromise59Edges(t *testing.T) {
	forced, _ := impl.DiskAdd(impl.LogDisk{}, yes(1), true)
	wantDisk(t, "the first, forced", impl.DiskFall(forced, 0), disk(1, yes(1)))
	loose, _ := impl.DiskAdd(impl.LogDisk{}, yes(1), false)
	wantDisk(t, "the first, not forced", impl.DiskFall(loose, 0), impl.LogDisk{})
	wantDisk(t, "the first, not forced and left", impl.DiskFall(loose, 1), disk(1, yes(1)))
	twice := impl.DiskFall(impl.DiskFall(loose, 1), 0)
	wantDisk(t, "what a crash has left survives the next one", twice, disk(1, yes(1)))
	last := longDisk(impl.LogMost-1, 0)
	forced, _ = impl.DiskAdd(last, no(1), true)
	wantDisk(t, "the last, forced", impl.DiskFall(forced, 0), disk(impl.LogMost, append(last.Notes, no(1))...))
	full := longDisk(impl.LogMost, 2)
	forced, _ = impl.DiskAdd(full, no(1), true)
	wantDisk(t, "one without room forces nothing", impl.DiskFall(forced, 0), disk(2, full.Notes[:2]...))
}

// TestPromise60: appending an abort or an acknowledgement does not change DiskFold; appending a commit of a prepared transaction applies its writes last.
func TestPromise60(t *testing.T) {
	r := rand.New(rand.NewSource(60))
	for range logRounds {
		d := randomDisk(r, 30)
		was := impl.DiskFold(d)
		for tx := range impl.TxMost + 1 {
			safe := r.Intn(2) == 0
			wantFoldAfter(t, d, no(tx), safe, was)
			wantFoldAfter(t, d, end(tx), safe, was)
			wantFoldAfter(t, d, randomReady(r, tx), safe, was)
			wantFoldAfter(t, d, yes(tx), safe, modelDo(was, lastWrites(d.Notes, tx)))
		}
	}
}

// TestPromise60Edges: a commit that sets, removes, and has no room, behind others.
func TestPromise60Edges(t *testing.T) {
	d := disk(2, readyTo(1, set("a1", 1), set("a2", 2)), yes(1), readyTo(2, set("a2", 5), del("a1"), set("a3", 0)))
	was := store(item("a1", 1), item("a2", 2))
	wantFoldAfter(t, d, yes(2), true, store(item("a2", 5), item("a3", 0)))
	wantFoldAfter(t, d, yes(2), false, store(item("a2", 5), item("a3", 0)))
	wantFoldAfter(t, d, yes(1), true, was)
	wantFoldAfter(t, d, yes(3), true, was)
	wantFoldAfter(t, d, no(2), false, was)
	wantFoldAfter(t, d, no(1), true, was)
	wantFoldAfter(t, d, end(1), false, was)
	wantFoldAfter(t, d, end(2), true, was)
	full := longDisk(impl.LogMost, 0)
	wantFoldAfter(t, full, yes(3), true, impl.DiskFold(full))
}

func wantFoldAfter(t *testing.T, d impl.LogDisk, n impl.LogNote, safe bool, want impl.StoStore) {
	t.Helper()
	more, _ := impl.DiskAdd(d, n, safe)
	wantStore(t, "DiskFold with one more record", impl.DiskFold(more), want)
}

// lastWrites lists the writes of the last LogReady of a transaction.
func lastWrites(notes []impl.LogNote, tx int) []impl.StoWrite {
	var out []impl.StoWrite
	for _, n := range notes {
		if n.Kind == impl.LogReady && n.Tx == tx {
			out = n.Writes
		}
	}
	return out
}
