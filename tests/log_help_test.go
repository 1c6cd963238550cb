package tests

import (
	"fmt"
	"math/rand"
	"slices"
	"testing"

	"loop.example/janitor/impl"
)

const logRounds = 300

func ready(tx int, locks []string, writes ...impl.StoWrite) impl.LogNote {
	return impl.LogNote{Kind: impl.LogReady, Tx: tx, Locks: locks, Writes: writes}
}

// readyTo locks exactly the keys that it writes.
func readyTo(tx int, writes ...impl.StoWrite) impl.LogNote {
	var locks []string
	for _, w := range writes {
		locks = append(locks, w.Key)
	}
	return ready(tx, locks, writes...)
}

func yes(tx int) impl.LogNote {
	return impl.LogNote{Kind: impl.LogYes, Tx: tx}
}

func no(tx int) impl.LogNote {
	return impl.LogNote{Kind: impl.LogNo, Tx: tx}
}

func end(tx int) impl.LogNote {
	return impl.LogNote{Kind: impl.LogEnd, Tx: tx}
}

func disk(safe int, notes ...impl.LogNote) impl.LogDisk {
	return impl.LogDisk{Notes: notes, Safe: safe}
}

// manyKeys lists n different keys, x10 and so on.
func manyKeys(n int) []string {
	var out []string
	for i := range n {
		out = append(out, fmt.Sprintf("x%d", 10+i))
	}
	return out
}

// longDisk has n records of many transactions, among them prepared ones with and without an outcome.
func longDisk(n, safe int) impl.LogDisk {
	d := impl.LogDisk{Safe: safe}
	for i := range n {
		tx := i / 4 % (impl.TxMost + 1)
		switch i % 4 {
		case 0:
			d.Notes = append(d.Notes, readyTo(tx, set(fmt.Sprintf("a%d", tx), i)))
		case 1:
			d.Notes = append(d.Notes, yes(tx))
		case 2:
			d.Notes = append(d.Notes, end(tx))
		default:
			d.Notes = append(d.Notes, ready(tx, []string{fmt.Sprintf("b%d", tx)}))
		}
	}
	return d
}

func sameNote(a, b impl.LogNote) bool {
	return a.Kind == b.Kind && a.Tx == b.Tx && slices.Equal(a.Locks, b.Locks) && slices.EqualFunc(a.Writes, b.Writes, sameWrite)
}

func sameDisk(a, b impl.LogDisk) bool {
	return a.Safe == b.Safe && slices.EqualFunc(a.Notes, b.Notes, sameNote)
}

func wantDisk(t *testing.T, what string, got, want impl.LogDisk) {
	t.Helper()
	if !sameDisk(got, want) {
		t.Errorf("%s: got %v, want %v", what, got, want)
	}
}

func wantAdded(t *testing.T, what string, d impl.LogDisk, n impl.LogNote, safe bool, want impl.LogDisk, wantOk bool) {
	t.Helper()
	got, ok := impl.DiskAdd(d, n, safe)
	if ok != wantOk {
		t.Errorf("%s: got %v, want %v", what, ok, wantOk)
	}
	wantDisk(t, what, got, want)
}

// wantOpen also looks at the order.
func wantOpen(t *testing.T, what string, d impl.LogDisk, open []int, locks []string) {
	t.Helper()
	if got := impl.DiskOpen(d); !slices.Equal(got, open) {
		t.Errorf("%s: open are %v, want %v", what, got, open)
	}
	if got := impl.DiskLocks(d); !slices.Equal(got, locks) {
		t.Errorf("%s: locked are %v, want %v", what, got, locks)
	}
}

func copyNote(n impl.LogNote) impl.LogNote {
	n.Locks, n.Writes = slices.Clone(n.Locks), copyWrites(n.Writes)
	return n
}

func copyDisk(d impl.LogDisk) impl.LogDisk {
	out := impl.LogDisk{Safe: d.Safe}
	for _, n := range d.Notes {
		out.Notes = append(out.Notes, copyNote(n))
	}
	return out
}

// randomReady locks some keys, sometimes one twice, and writes to some of them, sometimes to one twice.
func randomReady(r *rand.Rand, tx int) impl.LogNote {
	n := impl.LogNote{Kind: impl.LogReady, Tx: tx}
	keys := fewKeys()
	for range r.Intn(impl.NoteMost + 1) {
		n.Locks = append(n.Locks, keys[r.Intn(len(keys))])
	}
	if len(n.Locks) > 0 {
		n.Writes = randomWrites(r, n.Locks, impl.NoteMost)
	}
	return n
}

// randomNote is prepared in half of all cases; only few transactions occur, so that many records are of the same one.
func randomNote(r *rand.Rand, txs []int) impl.LogNote {
	tx := txs[r.Intn(len(txs))]
	switch r.Intn(6) {
	case 0, 1, 2:
		return randomReady(r, tx)
	case 3:
		return no(tx)
	case 4:
		return end(tx)
	}
	return yes(tx)
}

func fewTxs() []int {
	return []int{0, 1, 2, 7, impl.TxMost - 1, impl.TxMost}
}

func randomDisk(r *rand.Rand, most int) impl.LogDisk {
	var d impl.LogDisk
	for range r.Intn(most + 1) {
		d.Notes = append(d.Notes, randomNote(r, fewTxs()))
	}
	d.Safe = r.Intn(len(d.Notes) + 1)
	return d
}

// invalidNotes has one of each kind: another kind, a transaction out of its bounds, a write to a key that is not locked, an invalid write, a string that is no key, too many keys or writes, keys or writes on a record that has none.
func invalidNotes() []impl.LogNote {
	out := []impl.LogNote{
		{}, {Tx: 3},
		ready(1, []string{"a1"}, set("a2", 1)), ready(1, nil, set("a1", 1)), ready(1, []string{"a1"}, del("a2")),
		ready(1, []string{"a1"}, set("a1", 1), set("a10", 1)), ready(1, []string{"a10"}, set("a1", 1)),
		ready(1, manyKeys(impl.NoteMost+1)),
		ready(1, slices.Repeat([]string{"a1"}, impl.NoteMost+1)),
		ready(1, []string{"a1"}, slices.Repeat([]impl.StoWrite{set("a1", 1)}, impl.NoteMost+1)...),
	}
	for _, kind := range []int{0, -1, -2, impl.LogEnd + 1, 6, 1 << 32, 1<<63 - 1, -1 << 63} {
		out = append(out, impl.LogNote{Kind: kind, Tx: 1}, impl.LogNote{Kind: kind, Tx: 1, Locks: []string{"a1"}})
	}
	for _, tx := range badTxs() {
		out = append(out, ready(tx, nil), ready(tx, []string{"a1"}, set("a1", 1)), yes(tx), no(tx), end(tx))
	}
	for _, w := range invalidWrites() {
		out = append(out, ready(1, []string{"a1", w.Key}, w), ready(1, []string{"a1", w.Key}, set("a1", 1), w))
	}
	for _, key := range badKeys() {
		out = append(out, ready(1, []string{key}), ready(1, []string{"a1", key}, set("a1", 1)))
	}
	for _, kind := range []int{impl.LogYes, impl.LogNo, impl.LogEnd} {
		out = append(out,
			impl.LogNote{Kind: kind, Tx: 1, Locks: []string{"a1"}},
			impl.LogNote{Kind: kind, Tx: 1, Writes: []impl.StoWrite{set("a1", 1)}},
			impl.LogNote{Kind: kind, Tx: 1, Locks: []string{"a1"}, Writes: []impl.StoWrite{set("a1", 1)}})
	}
	return out
}

func badTxs() []int {
	return []int{-1, -2, impl.TxMost + 1, impl.TxMost + 2, 1 << 32, 1<<63 - 1, -1 << 63}
}

// invalidDisks has an invalid record at the front, in the middle and at the end, too many records, and a Safe out of its bounds.
func invalidDisks() []impl.LogDisk {
	good := []impl.LogNote{ready(1, []string{"a1"}, set("a1", 1)), yes(1), ready(2, []string{"a2"}, set("a2", 1))}
	var out []impl.LogDisk
	for _, n := range invalidNotes() {
		out = append(out, disk(0, n), disk(1, n), disk(1, append([]impl.LogNote{n}, good...)...), disk(4, append(slices.Clone(good), n)...))
		out = append(out, disk(0, good[0], n, good[1], good[2]))
	}
	for _, safe := range []int{-1, -2, len(good) + 1, len(good) + 2, 1 << 32, 1<<63 - 1, -1 << 63} {
		out = append(out, disk(safe, good...))
	}
	out = append(out, disk(1), disk(-1), longDisk(impl.LogMost, impl.LogMost+1), longDisk(impl.LogMost, -1))
	for _, safe := range []int{0, impl.LogMost, impl.LogMost + 1} {
		out = append(out, longDisk(impl.LogMost+1, safe))
	}
	return append(out, longDisk(2*impl.LogMost, 5))
}

// modelKind, modelFold, modelOpen and modelLocks read a valid log from its first record on, keeping notes by transaction.
func modelKind(notes []impl.LogNote, tx int) int {
	kind := map[int]int{}
	for _, n := range notes {
		if n.Kind != impl.LogEnd {
			kind[n.Tx] = n.Kind
		}
	}
	return kind[tx]
}

func modelFold(notes []impl.LogNote) impl.StoStore {
	var s impl.StoStore
	last := map[int][]impl.StoWrite{}
	for _, n := range notes {
		switch n.Kind {
		case impl.LogReady:
			last[n.Tx] = n.Writes
		case impl.LogYes:
			s = modelDo(s, last[n.Tx])
		}
	}
	return s
}

func modelOpen(notes []impl.LogNote) []int {
	var out []int
	seen := map[int]bool{}
	for _, n := range notes {
		if n.Kind == impl.LogReady && modelKind(notes, n.Tx) == impl.LogReady && !seen[n.Tx] {
			seen[n.Tx] = true
			out = append(out, n.Tx)
		}
	}
	return out
}

func modelLocks(notes []impl.LogNote) []string {
	var out []string
	seen := map[string]bool{}
	for _, n := range notes {
		for _, key := range n.Locks {
			if modelKind(notes, n.Tx) == impl.LogReady && !seen[key] {
				seen[key] = true
				out = append(out, key)
			}
		}
	}
	return out
}
