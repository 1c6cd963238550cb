package tests

import (
	"fmt"
	"math/rand"
	"slices"
	"testing"

	"loop.example/janitor/impl"
)

const worldRounds = 40

// worldStep is one event of a run.
type worldStep struct {
	before impl.WldWorld
	e      impl.EvEvent
	after  impl.WldWorld
}

func stepOf(w impl.WldWorld, e impl.EvEvent) worldStep {
	return worldStep{before: w, e: e, after: impl.WldStep(w, e)}
}

func (s worldStep) String() string {
	return fmt.Sprintf("%v: %v: got %v", s.before, s.e, s.after)
}

// label tells the kind of an event, and what it has changed.
func (s worldStep) label() string {
	out := fmt.Sprint(s.e.Kind)
	if !sameFront(s.before.Front, s.after.Front) {
		out += " front"
	}
	if !slices.EqualFunc(s.before.Disks, s.after.Disks, sameDisk) {
		out += " service"
	}
	if !slices.Equal(s.before.Net, s.after.Net) {
		out += " net"
	}
	if len(s.after.Outs) != len(s.before.Outs) {
		out += fmt.Sprint(" ", s.after.Outs[len(s.before.Outs)].Ok)
	}
	return out
}

// anyNumber is in 0..n-1 in most cases, and otherwise just outside, or far.
func anyNumber(r *rand.Rand, n int) int {
	if n > 0 && r.Intn(12) > 0 {
		return r.Intn(n)
	}
	return []int{-1, n, n + 1, 1<<63 - 1, -1 << 63}[r.Intn(5)]
}

// eventOf is an event of a kind; fields that the kind does not have are not always zero.
func eventOf(r *rand.Rand, w impl.WldWorld, kind int) impl.EvEvent {
	e := impl.EvEvent{Kind: kind}
	if r.Intn(4) == 0 {
		e = impl.EvEvent{Kind: kind, Op: randomOp(r), At: r.Intn(5), Place: r.Intn(5), Keep: r.Intn(5)}
	}
	switch kind {
	case impl.EvDo:
		e.Op = nextOp(r, committedAt(w))
		if r.Intn(12) == 0 {
			e.Op = invalidOps()[r.Intn(100)]
		}
	case impl.EvHear, impl.EvLose, impl.EvTwice:
		e.At = anyNumber(r, len(w.Net))
	case impl.EvTick:
		e.Place = anyNumber(r, impl.PlcMany)
	case impl.EvGive:
		e.At = anyNumber(r, len(w.Ops))
	case impl.EvFall:
		e.Place, e.Keep = anyNumber(r, impl.PlcMany), anyNumber(r, 3)
	}
	return e
}

// anyKind is also a kind that does not exist.
func anyKind(r *rand.Rand) int {
	if r.Intn(20) == 0 {
		return badEventKinds()[r.Intn(len(badEventKinds()))]
	}
	return 1 + r.Intn(7)
}

// randomEvent hears something in most cases, often the first message, so that much is committed.
func randomEvent(r *rand.Rand, w impl.WldWorld) impl.EvEvent {
	switch r.Intn(12) {
	case 0:
		return eventOf(r, w, impl.EvDo)
	case 1, 2:
		return eventOf(r, w, anyKind(r))
	case 3, 4, 5, 6:
		return evHear(0)
	}
	return eventOf(r, w, impl.EvHear)
}

func badEventKinds() []int {
	return []int{0, -1, -2, impl.EvFall + 1, impl.EvFall + 2, 1<<32 + 1, 1<<63 - 1, -1 << 63}
}

// randomWorldRun starts with the initial system.
func randomWorldRun(r *rand.Rand, length int) []worldStep {
	var out []worldStep
	w := impl.WldNew()
	for range length {
		s := stepOf(w, randomEvent(r, w))
		out = append(out, s)
		w = s.after
	}
	return out
}

// everyWorldRun hands random runs from the initial system on to a check, and wants the events to change in them what they can change.
func everyWorldRun(t *testing.T, seed int64, check func(r *rand.Rand, run []worldStep)) {
	t.Helper()
	r, count := rand.New(rand.NewSource(seed)), map[string]int{}
	for range worldRounds {
		run := randomWorldRun(r, impl.EvMaxRun)
		for _, s := range run {
			count[s.label()]++
		}
		check(r, run)
		if t.Failed() {
			return
		}
	}
	wantChanges(t, count, 15)
}

// wantChanges wants the events of a random test to change, and not to change, what they can change; and what else is named.
func wantChanges(t *testing.T, count map[string]int, least int, others ...string) {
	t.Helper()
	all := []string{"1 front net", "2 net", "2 front net", "2 front net true", "2 front net false", "2 service net", "3 net", "4 net", "5 net", "6 front net false", "7 front", "7 service", "1", "2", "3", "4", "5", "6", "7"}
	for _, label := range append(all, others...) {
		if count[label] < least {
			t.Errorf("the kind of the event, and what it changes: %s: only %d", label, count[label])
		}
	}
}

// belowTx leaves of a coordinator what is about the transactions below a number.
func belowTx(r *rand.Rand, f impl.FroState, n int) impl.FroState {
	f.Disk.Notes = slices.DeleteFunc(f.Disk.Notes, func(note impl.LogNote) bool { return note.Tx >= n })
	f.Disk.Safe = r.Intn(len(f.Disk.Notes) + 1)
	f.Way = slices.DeleteFunc(f.Way, func(w impl.FroTx) bool { return w.Tx >= n })
	return f
}

// randomWorldLog is the log of a service in a system with n operations; no service has to be able to have it.
func randomWorldLog(r *rand.Rand, place, n int) impl.LogDisk {
	var notes []impl.LogNote
	for _, note := range randomPlaceDisk(r, place).Notes {
		if note.Kind == impl.LogEnd {
			note = no(note.Tx)
		}
		if note.Tx < n {
			notes = append(notes, note)
		}
	}
	return disk(r.Intn(len(notes)+1), notes...)
}

// randomWorld is valid, but no run has to get there; often there is little room for messages, outcomes, operations or records.
func randomWorld(r *rand.Rand) impl.WldWorld {
	n := []int{1, 3, 8, 28, 29, 30, 30}[r.Intn(7)]
	w := impl.WldWorld{Front: belowTx(r, randomFront(r), n)}
	for _, place := range services() {
		w.Disks = append(w.Disks, randomWorldLog(r, place, n))
	}
	for range n {
		w.Ops = append(w.Ops, randomOp(r))
	}
	for range []int{0, r.Intn(5), 57, 58, 59, 60}[r.Intn(6)] {
		w.Net = append(w.Net, randomSent(r, w))
	}
	for range []int{0, r.Intn(5), 29, 30}[r.Intn(4)] {
		w.Outs = append(w.Outs, impl.FroOut{Tx: r.Intn(n), Ok: r.Intn(2) == 0})
	}
	return w
}

// randomSent is a message of any kind, in most cases one that its receiver waits for.
func randomSent(r *rand.Rand, w impl.WldWorld) impl.MsgMsg {
	tx := r.Intn(len(w.Ops))
	if r.Intn(2) == 0 {
		if len(w.Front.Way) > 0 && r.Intn(4) > 0 {
			tx = w.Front.Way[r.Intn(len(w.Front.Way))].Tx
		}
		return sentBy(frontKind(r, situation(w.Front, tx)), 1+r.Intn(3), tx)
	}
	place := 1 + r.Intn(3)
	m := nextMessage(r, place, w.Disks[place-1])
	if m.Tx >= len(w.Ops) {
		m.Tx = tx
	}
	return m
}

// everyWorld hands systems to a check: those of runs from the initial one on, and any valid ones.
func everyWorld(t *testing.T, seed int64, check func(r *rand.Rand, w impl.WldWorld)) {
	t.Helper()
	r := rand.New(rand.NewSource(seed))
	for range worldRounds / 8 {
		for _, s := range randomWorldRun(r, impl.EvMaxRun) {
			check(r, s.after)
			if t.Failed() {
				return
			}
		}
	}
	for range 25 * worldRounds {
		check(r, randomWorld(r))
		if t.Failed() {
			return
		}
	}
}
