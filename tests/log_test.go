package tests

import (
	"math/rand"
	"slices"
	"testing"

	"loop.example/janitor/impl"
)

// TestLogConstants holds the numbers of chapter 2 to the document's table.
func TestLogConstants(t *testing.T) {
	if impl.LogReady != 1 || impl.LogYes != 2 || impl.LogNo != 3 || impl.LogEnd != 4 {
		t.Error(impl.LogReady, impl.LogYes, impl.LogNo, impl.LogEnd)
	}
	if impl.LogMost != 120 || impl.TxMost != 29 || impl.NoteMost != 12 {
		t.Error(impl.LogMost, impl.TxMost, impl.NoteMost)
	}
}

// TestPromise18: a record of another kind with keys or writes is invalid; every write is to a locked key.
func TestPromise18(t *testing.T) {
	r := rand.New(rand.NewSource(18))
	for range logRounds {
		n := randomReady(r, r.Intn(impl.TxMost+1))
		wantNote(t, n, true)
		for _, kind := range []int{impl.LogYes, impl.LogNo, impl.LogEnd} {
			other := n
			other.Kind = kind
			wantNote(t, other, len(n.Locks) == 0)
			other.Writes = nil
			wantNote(t, other, len(n.Locks) == 0)
			other.Locks, other.Writes = nil, n.Writes
			wantNote(t, other, len(n.Writes) == 0)
			other.Writes = nil
			wantNote(t, other, true)
		}
		for _, w := range n.Writes {
			less := copyNote(n)
			less.Locks = slices.DeleteFunc(less.Locks, func(key string) bool { return key == w.Key })
			wantNote(t, less, false)
		}
	}
}

// TestPromise18Edges: the first and last transaction, no keys, NoteMost keys and NoteMost writes, a key without a write, two writes to one key.
func TestPromise18Edges(t *testing.T) {
	for _, tx := range []int{0, 1, impl.TxMost - 1, impl.TxMost} {
		for _, n := range []impl.LogNote{ready(tx, nil), ready(tx, []string{"a1"}, set("a1", 1)), yes(tx), no(tx), end(tx)} {
			wantNote(t, n, true)
		}
	}
	var writes []impl.StoWrite
	for i, key := range manyKeys(impl.NoteMost) {
		writes = append(writes, set(key, i))
	}
	wantNote(t, ready(1, manyKeys(impl.NoteMost)), true)
	wantNote(t, ready(1, manyKeys(impl.NoteMost), writes...), true)
	wantNote(t, ready(1, manyKeys(impl.NoteMost-1), writes[:impl.NoteMost-1]...), true)
	wantNote(t, ready(1, manyKeys(impl.NoteMost-1), writes...), false)
	wantNote(t, ready(1, []string{"a1"}, slices.Repeat([]impl.StoWrite{set("a1", 1)}, impl.NoteMost)...), true)
	wantNote(t, ready(1, []string{"b2", "a1"}, set("a1", 1), del("a1")), true)
	wantNote(t, ready(1, []string{"b2", "a1"}, del("a1"), set("b2", 0, impl.ValTop, 1)), true)
	empty := impl.LogNote{Kind: impl.LogYes, Tx: 1, Locks: []string{}, Writes: []impl.StoWrite{}}
	wantNote(t, empty, true)
}

// TestPromise18Invalid: one record of each invalid kind, alone and within a log.
func TestPromise18Invalid(t *testing.T) {
	for _, n := range invalidNotes() {
		wantNote(t, n, false)
	}
	for _, d := range invalidDisks() {
		if impl.DiskOk(d) {
			t.Errorf("valid: %v", d)
		}
	}
}

func wantNote(t *testing.T, n impl.LogNote, want bool) {
	t.Helper()
	if impl.NoteOk(n) != want || impl.DiskOk(disk(0, n)) != want || impl.DiskOk(disk(1, yes(1), n)) != want {
		t.Errorf("%v: NoteOk is %v, want %v", n, impl.NoteOk(n), want)
	}
}

// TestDiskOkEdges: LogMost records are valid, and so is every Safe from 0 to their number.
func TestDiskOkEdges(t *testing.T) {
	for _, d := range []impl.LogDisk{{}, {Notes: []impl.LogNote{}}, disk(0, yes(1)), disk(1, yes(1)), disk(0, no(0), end(0)), disk(2, no(0), end(0))} {
		if !impl.DiskOk(d) {
			t.Errorf("invalid: %v", d)
		}
	}
	for _, n := range []int{1, 5, impl.LogMost - 1, impl.LogMost} {
		for safe := -1; safe <= n+1; safe++ {
			if got := impl.DiskOk(longDisk(n, safe)); got != (safe >= 0 && safe <= n) {
				t.Errorf("%d records with %d forced: %v", n, safe, got)
			}
		}
	}
}

// TestPromise19: after DiskAdd the log is what it was, and the record; if it is forced, all are; otherwise as many as before.
func TestPromise19(t *testing.T) {
	r := rand.New(rand.NewSource(19))
	for range logRounds {
		d, n := randomDisk(r, 30), randomNote(r, fewTxs())
		longer := append(slices.Clone(d.Notes), n)
		wantAdded(t, "not forced", d, n, false, disk(d.Safe, longer...), true)
		wantAdded(t, "forced", d, n, true, disk(len(longer), longer...), true)
	}
}

// TestPromise19Room: the last record that has room is appended; one more leaves the log unchanged, also what is forced.
func TestPromise19Room(t *testing.T) {
	n := ready(5, []string{"q1", "q2"}, set("q2", 8))
	for _, safe := range []int{0, 1, impl.LogMost - 1} {
		d := longDisk(impl.LogMost-1, safe)
		full := append(slices.Clone(d.Notes), n)
		wantAdded(t, "the last, not forced", d, n, false, disk(safe, full...), true)
		wantAdded(t, "the last, forced", d, n, true, disk(impl.LogMost, full...), true)
	}
	for _, safe := range []int{0, 1, impl.LogMost - 1, impl.LogMost} {
		d := longDisk(impl.LogMost, safe)
		for _, more := range []impl.LogNote{n, yes(1), no(2), end(3)} {
			wantAdded(t, "one too many, not forced", d, more, false, d, false)
			wantAdded(t, "one too many, forced", d, more, true, d, false)
		}
	}
}

// TestPromise19Edges: the first record of a log, and forced records behind others that are not.
func TestPromise19Edges(t *testing.T) {
	wantAdded(t, "first", impl.LogDisk{}, end(0), false, disk(0, end(0)), true)
	wantAdded(t, "first, forced", impl.LogDisk{}, yes(impl.TxMost), true, disk(1, yes(impl.TxMost)), true)
	wantAdded(t, "all become forced", disk(0, no(1), no(2)), yes(3), true, disk(3, no(1), no(2), yes(3)), true)
	wantAdded(t, "none becomes forced", disk(0, no(1), no(2)), yes(3), false, disk(0, no(1), no(2), yes(3)), true)
	wantAdded(t, "the same again", disk(1, no(1)), no(1), false, disk(1, no(1), no(1)), true)
}

// TestPromise19Invalid: with an invalid log or record nothing comes back, not even a full log.
func TestPromise19Invalid(t *testing.T) {
	for _, safe := range []bool{false, true} {
		for _, d := range invalidDisks() {
			wantAdded(t, "an invalid log", d, yes(1), safe, impl.LogDisk{}, false)
		}
		for _, n := range invalidNotes() {
			wantAdded(t, "an invalid record", disk(1, yes(1), no(2)), n, safe, impl.LogDisk{}, false)
			wantAdded(t, "an invalid record first", impl.LogDisk{}, n, safe, impl.LogDisk{}, false)
			wantAdded(t, "an invalid record and no room", longDisk(impl.LogMost, 3), n, safe, impl.LogDisk{}, false)
		}
	}
}

// TestPromise20: after DiskFall the log is a prefix of what it was, with all forced records and as many more as stated, all of them forced.
func TestPromise20(t *testing.T) {
	r := rand.New(rand.NewSource(20))
	for range logRounds {
		d := randomDisk(r, 30)
		for keep := -2; keep <= len(d.Notes)+2; keep++ {
			left := d.Safe
			for more := 0; more < keep && left < len(d.Notes); more++ {
				left++
			}
			wantDisk(t, "a crash", impl.DiskFall(d, keep), disk(left, d.Notes[:left]...))
		}
	}
}

// TestPromise20Edges: keep below 0, 0, past the end, and at the ends of all numbers.
func TestPromise20Edges(t *testing.T) {
	notes := []impl.LogNote{ready(1, []string{"a1"}, set("a1", 7)), yes(1), no(2), end(1)}
	for _, keep := range []int{-1, -100, -1 << 63, -1<<63 + 1} {
		wantDisk(t, "less than none", impl.DiskFall(disk(2, notes...), keep), disk(2, notes[:2]...))
		wantDisk(t, "less than none of none", impl.DiskFall(disk(0, notes...), keep), impl.LogDisk{})
		wantDisk(t, "less than none, all forced", impl.DiskFall(disk(4, notes...), keep), disk(4, notes...))
	}
	for _, keep := range []int{2, 3, 100, 1<<63 - 1, 1<<63 - 2} {
		wantDisk(t, "all", impl.DiskFall(disk(2, notes...), keep), disk(4, notes...))
		wantDisk(t, "all forced", impl.DiskFall(disk(4, notes...), keep), disk(4, notes...))
		wantDisk(t, "an empty log", impl.DiskFall(impl.LogDisk{}, keep), impl.LogDisk{})
	}
	wantDisk(t, "none", impl.DiskFall(disk(0, notes...), 0), impl.LogDisk{})
	wantDisk(t, "no more", impl.DiskFall(disk(1, notes...), 0), disk(1, notes[0]))
	wantDisk(t, "one more", impl.DiskFall(disk(1, notes...), 1), disk(2, notes[:2]...))
	wantDisk(t, "all but one", impl.DiskFall(disk(1, notes...), 2), disk(3, notes[:3]...))
	full := longDisk(impl.LogMost, 0)
	wantDisk(t, "all of LogMost", impl.DiskFall(full, impl.LogMost), longDisk(impl.LogMost, impl.LogMost))
	wantDisk(t, "nearly all of LogMost", impl.DiskFall(full, impl.LogMost-1), longDisk(impl.LogMost-1, impl.LogMost-1))
}

// TestPromise20Invalid: a crash of an invalid log leaves nothing.
func TestPromise20Invalid(t *testing.T) {
	for _, d := range invalidDisks() {
		for _, keep := range []int{-1, 0, 1, 2 * impl.LogMost} {
			wantDisk(t, "an invalid log", impl.DiskFall(d, keep), impl.LogDisk{})
		}
	}
}

// TestPromise20Locks: a crash that loses an outcome leaves the transaction open again; one that loses a LogReady releases its keys.
func TestPromise20Locks(t *testing.T) {
	d := disk(1, readyTo(4, set("a1", 7), set("u1", 1)), yes(4), readyTo(5, set("b1", 2)))
	wantOpen(t, "before", d, []int{5}, []string{"b1"})
	wantOpen(t, "the outcome lost", impl.DiskFall(d, 0), []int{4}, []string{"a1", "u1"})
	wantOpen(t, "the outcome left", impl.DiskFall(d, 1), nil, nil)
	wantOpen(t, "all left", impl.DiskFall(d, 2), []int{5}, []string{"b1"})
	wantStore(t, "the outcome lost", impl.DiskFold(impl.DiskFall(d, 0)), impl.StoStore{})
	wantStore(t, "the outcome left", impl.DiskFold(impl.DiskFall(d, 1)), store(item("a1", 7), item("u1", 1)))
}

// TestPromise21: DiskOf of a transaction is the kind of its last record other than LogEnd.
func TestPromise21(t *testing.T) {
	r := rand.New(rand.NewSource(21))
	for range logRounds {
		d := randomDisk(r, 30)
		for tx := range impl.TxMost + 1 {
			wantKind(t, d, tx, modelKind(d.Notes, tx))
		}
	}
}

// TestPromise21More: with one more record of a transaction DiskOf is that kind, LogEnd apart; a record of another one changes nothing.
func TestPromise21More(t *testing.T) {
	r := rand.New(rand.NewSource(2121))
	for range logRounds {
		d, n := randomDisk(r, 20), randomNote(r, fewTxs())
		more, _ := impl.DiskAdd(d, n, r.Intn(2) == 0)
		for tx := range impl.TxMost + 1 {
			want := impl.DiskOf(d, tx)
			if tx == n.Tx && n.Kind != impl.LogEnd {
				want = n.Kind
			}
			wantKind(t, more, tx, want)
		}
	}
}

// TestPromise21Edges: no record, a LogEnd alone, a LogEnd behind a LogYes, the first and last transaction, and one out of its bounds.
func TestPromise21Edges(t *testing.T) {
	wantKind(t, impl.LogDisk{}, 0, 0)
	wantKind(t, disk(0, end(3)), 3, 0)
	wantKind(t, disk(0, end(3), yes(3)), 3, impl.LogYes)
	wantKind(t, disk(3, ready(3, nil), yes(3), end(3)), 3, impl.LogYes)
	wantKind(t, disk(3, ready(3, nil), no(3), end(3), end(3)), 3, impl.LogNo)
	wantKind(t, disk(3, ready(3, nil), end(3), end(4)), 3, impl.LogReady)
	wantKind(t, disk(0, yes(3), ready(3, nil)), 3, impl.LogReady)
	wantKind(t, disk(0, no(3), yes(3)), 3, impl.LogYes)
	wantKind(t, disk(0, yes(3), no(3), yes(4)), 3, impl.LogNo)
	for _, tx := range []int{0, impl.TxMost} {
		wantKind(t, disk(0, yes(tx), no(1)), tx, impl.LogYes)
	}
	for _, tx := range badTxs() {
		wantKind(t, disk(1, yes(0), yes(impl.TxMost)), tx, 0)
		wantKind(t, disk(1, yes(tx)), tx, 0)
	}
	full := longDisk(impl.LogMost, 0)
	full.Notes[0] = yes(impl.TxMost - 1)
	full.Notes = append(full.Notes[:1], slices.Repeat([]impl.LogNote{end(impl.TxMost - 1)}, impl.LogMost-1)...)
	wantKind(t, full, impl.TxMost-1, impl.LogYes)
}

// TestPromise21Invalid: in an invalid log no transaction has a record.
func TestPromise21Invalid(t *testing.T) {
	for _, d := range invalidDisks() {
		for tx := -1; tx <= impl.TxMost+1; tx++ {
			wantKind(t, d, tx, 0)
		}
	}
}

func wantKind(t *testing.T, d impl.LogDisk, tx, want int) {
	t.Helper()
	if got := impl.DiskOf(d, tx); got != want {
		t.Errorf("DiskOf of %d in %v: got %d, want %d", tx, d, got, want)
	}
}
