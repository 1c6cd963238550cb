package tests

import (
	"math/rand"
	"slices"
	"testing"

	"loop.example/janitor/impl"
)

const keyMark = "room"

// noteWithRoom puts the slices of a record into longer arrays, whose rest shows whether somebody wrote to it.
func noteWithRoom(n impl.LogNote) impl.LogNote {
	locks := append(slices.Clone(n.Locks), keyMark, keyMark)
	writes := append(writesWithRoom(n.Writes), impl.StoWrite{Key: keyMark}, impl.StoWrite{Key: keyMark})
	n.Locks, n.Writes = locks[:len(n.Locks)], writes[:len(n.Writes)]
	return n
}

func diskWithRoom(d impl.LogDisk) impl.LogDisk {
	notes := make([]impl.LogNote, 0, len(d.Notes)+2)
	for _, n := range d.Notes {
		notes = append(notes, noteWithRoom(n))
	}
	notes = append(notes, yes(-1), yes(-1))
	return impl.LogDisk{Notes: notes[:len(d.Notes)], Safe: d.Safe}
}

func noteRoomIsKept(n impl.LogNote) bool {
	if k := len(n.Locks); !slices.Equal(n.Locks[k:k+2], []string{keyMark, keyMark}) {
		return false
	}
	room := []impl.StoWrite{{Key: keyMark}, {Key: keyMark}}
	if k := len(n.Writes); !slices.EqualFunc(n.Writes[k:k+2], room, sameWrite) {
		return false
	}
	for _, w := range n.Writes {
		if !w.Del && !roomIsKept(w.Val, len(w.Val)) {
			return false
		}
	}
	return true
}

func wantLogArguments(t *testing.T, what string, d, dWas impl.LogDisk, n, nWas impl.LogNote) {
	t.Helper()
	if !sameDisk(d, dWas) || !sameNote(n, nWas) {
		t.Fatalf("%s: an argument changed: %v, %v", what, d, n)
	}
	for _, n := range append([]impl.LogNote{n}, d.Notes...) {
		if !noteRoomIsKept(n) {
			t.Fatalf("%s: the room within a record changed: %v", what, n)
		}
	}
	for _, n := range d.Notes[len(d.Notes) : len(d.Notes)+2] {
		if !sameNote(n, yes(-1)) {
			t.Fatalf("%s: the room behind the records changed: %v", what, n)
		}
	}
}

// scribbleNote overwrites all slices of a record with all their spare capacity.
func scribbleNote(n impl.LogNote) {
	for i := range n.Locks[:cap(n.Locks)] {
		n.Locks[:cap(n.Locks)][i] = "scribble"
	}
	for _, w := range n.Writes {
		scribble(w.Val)
	}
	for i := range n.Writes[:cap(n.Writes)] {
		n.Writes[:cap(n.Writes)][i] = impl.StoWrite{Key: "scribble"}
	}
}

// wantOwnDisk overwrites a result piece by piece: no argument changes, nor any other piece.
func wantOwnDisk(t *testing.T, what string, got impl.LogDisk, arguments func(what string)) {
	t.Helper()
	arguments(what)
	was := copyDisk(got)
	for i := range got.Notes {
		scribbleNote(got.Notes[i])
		arguments(what + ", a record overwritten")
		for j := i + 1; j < len(got.Notes); j++ {
			if !sameNote(got.Notes[j], was.Notes[j]) {
				t.Fatalf("%s: record %d changed with record %d", what, j, i)
			}
		}
	}
	room := got.Notes[:cap(got.Notes)]
	for i := range room {
		room[i] = no(-2)
	}
	arguments(what + ", the records overwritten")
}

// TestDiskMemory: DiskAdd and DiskFall write to no argument, and their results share memory with none, nor one of their slices with another.
func TestDiskMemory(t *testing.T) {
	r := rand.New(rand.NewSource(9))
	for range logRounds {
		d, n := diskWithRoom(randomDisk(r, 12)), noteWithRoom(randomNote(r, fewTxs()))
		dWas, nWas := copyDisk(d), copyNote(n)
		arguments := func(what string) {
			t.Helper()
			wantLogArguments(t, what, d, dWas, n, nWas)
		}
		for _, safe := range []bool{false, true} {
			got, _ := impl.DiskAdd(d, n, safe)
			wantOwnDisk(t, "DiskAdd", got, arguments)
		}
		for _, keep := range []int{-1, 0, 1, 5, 20} {
			wantOwnDisk(t, "DiskFall", impl.DiskFall(d, keep), arguments)
		}
	}
}

// TestDiskMemoryFull: the log that DiskAdd returns unchanged, for lack of room, is a copy too.
func TestDiskMemoryFull(t *testing.T) {
	d, n := diskWithRoom(longDisk(impl.LogMost, 7)), noteWithRoom(yes(1))
	dWas, nWas := copyDisk(d), copyNote(n)
	got, _ := impl.DiskAdd(d, n, true)
	wantOwnDisk(t, "DiskAdd", got, func(what string) {
		t.Helper()
		wantLogArguments(t, what, d, dWas, n, nWas)
	})
}

// TestDiskMemoryRead: what is read from a log shares no memory with it.
func TestDiskMemoryRead(t *testing.T) {
	r := rand.New(rand.NewSource(10))
	for range logRounds {
		d, n := diskWithRoom(randomDisk(r, 20)), noteWithRoom(yes(1))
		dWas, nWas := copyDisk(d), copyNote(n)
		fold, open, locks := impl.DiskFold(d), impl.DiskOpen(d), impl.DiskLocks(d)
		impl.DiskOf(d, 1)
		wantLogArguments(t, "read", d, dWas, n, nWas)
		for i, it := range fold.Items {
			was := copyStore(fold)
			scribble(it.Val)
			fold.Items[i].Val = was.Items[i].Val
			wantStore(t, "one item after another one was overwritten", fold, was)
		}
		scribble(open)
		scribbleNote(impl.LogNote{Locks: locks})
		wantLogArguments(t, "the results overwritten", d, dWas, n, nWas)
	}
}

// TestLogKeepsNothing: the same call twice has the same result, whatever happened to the first one.
func TestLogKeepsNothing(t *testing.T) {
	d := disk(1, readyTo(1, set("a1", 1)), yes(1), readyTo(2, set("b1", 2)))
	first, _ := impl.DiskAdd(d, no(3), true)
	for _, n := range first.Notes {
		scribbleNote(n)
	}
	for _, it := range impl.DiskFold(d).Items {
		scribble(it.Val)
	}
	scribble(impl.DiskOpen(d))
	scribbleNote(impl.LogNote{Locks: impl.DiskLocks(d)})
	wantAdded(t, "again", d, no(3), true, disk(4, readyTo(1, set("a1", 1)), yes(1), readyTo(2, set("b1", 2)), no(3)), true)
	wantFold(t, "again", d, item("a1", 1))
	wantOpen(t, "again", d, []int{2}, []string{"b1"})
}
