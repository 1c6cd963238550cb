package tests

import (
	"math/rand"
	"slices"
	"testing"

	"loop.example/janitor/impl"
)

// frontWithRoom has room behind the records, the active transactions and their services.
func frontWithRoom(f impl.FroState) impl.FroState {
	way := make([]impl.FroTx, 0, len(f.Way)+2)
	for _, w := range f.Way {
		w.Can, w.Know = withRoom(w.Can), withRoom(w.Know)
		way = append(way, w)
	}
	way = append(way, waiting(-1, impl.OpOp{}), waiting(-1, impl.OpOp{}))
	return impl.FroState{Disk: diskWithRoom(f.Disk), Way: way[:len(f.Way)]}
}

func wantFrontArgument(t *testing.T, what string, f, was impl.FroState) {
	t.Helper()
	wantLogArguments(t, what, f.Disk, was.Disk, noteWithRoom(yes(1)), yes(1))
	if !sameFront(f, was) {
		t.Fatalf("%s: the argument changed: %v, was %v", what, f, was)
	}
	for _, w := range f.Way {
		if !roomIsKept(w.Can, len(w.Can)) || !roomIsKept(w.Know, len(w.Know)) {
			t.Fatalf("%s: the room behind the services changed: %v", what, w)
		}
	}
	for _, w := range f.Way[len(f.Way) : len(f.Way)+2] {
		if !sameWay(w, waiting(-1, impl.OpOp{})) {
			t.Fatalf("%s: the room behind the active transactions changed: %v", what, w)
		}
	}
}

// scribbleFront overwrites all slices of a coordinator with all their spare capacity.
func scribbleFront(f impl.FroState) {
	for _, n := range f.Disk.Notes {
		scribbleNote(n)
	}
	notes, way := f.Disk.Notes[:cap(f.Disk.Notes)], f.Way[:cap(f.Way)]
	for i := range notes {
		notes[i] = no(-2)
	}
	for i := range way {
		scribble(way[i].Can)
		scribble(way[i].Know)
		way[i] = waiting(-2, impl.OpOp{})
	}
}

func scribbleOuts(list []impl.FroOut) {
	list = list[:cap(list)]
	for i := range list {
		list[i] = impl.FroOut{Tx: -7}
	}
}

// wantOwnWays overwrites the services of a result list by list: no other list changes.
func wantOwnWays(t *testing.T, what string, got impl.FroState) {
	t.Helper()
	was := copyFront(got)
	for i := range got.Way {
		scribble(got.Way[i].Can)
		if !slices.Equal(got.Way[i].Know, was.Way[i].Know) {
			t.Fatalf("%s: the acknowledgements of %v changed with its votes", what, was.Way[i])
		}
		scribble(got.Way[i].Know)
		for j := i + 1; j < len(got.Way); j++ {
			if !sameWay(got.Way[j], was.Way[j]) {
				t.Fatalf("%s: %v changed with %v", what, was.Way[j], was.Way[i])
			}
		}
		if !sameDisk(got.Disk, was.Disk) {
			t.Fatalf("%s: the log changed with %v", what, was.Way[i])
		}
	}
}

// frontResults are those of all functions for the same arguments.
func frontResults(f impl.FroState, m impl.MsgMsg, tx int, o impl.OpOp) []frontStep {
	impl.FroOk(f)
	tick := frontStep{event: "tick", sent: impl.FroTick(f)}
	return []frontStep{hearStep(f, m), beginStep(f, tx, o), giveStep(f, tx), fallStep(f, 1), tick}
}

func sameResult(a, b frontStep) bool {
	return sameFront(a.after, b.after) && slices.Equal(a.sent, b.sent) && slices.Equal(a.outs, b.outs) && a.ok == b.ok
}

// TestFrontMemory: no function writes to its arguments, and their results share memory with none, nor one of their slices with another.
func TestFrontMemory(t *testing.T) {
	r := rand.New(rand.NewSource(73))
	for range 5 * frontRounds {
		f := frontWithRoom(randomFront(r))
		was, m, tx, o := copyFront(f), nextFrontMessage(r, f), r.Intn(impl.TxMost+1), randomOp(r)
		got, again, third := frontResults(f, m, tx, o), frontResults(f, m, tx, o), frontResults(was, m, tx, o)
		wantFrontArgument(t, "called", f, was)
		for i, s := range got {
			wantOwnWays(t, s.event, s.after)
			wantOwnDisk(t, s.event, s.after.Disk, func(what string) {
				t.Helper()
				wantFrontArgument(t, what, f, was)
			})
			scribbleFront(s.after)
			scribbleMessages(s.sent)
			scribbleOuts(s.outs)
			wantFrontArgument(t, s.event+", the result overwritten", f, was)
			if !sameResult(again[i], third[i]) {
				t.Fatalf("%s: one result changed with another one: %v, %v", s.event, again[i], third[i])
			}
		}
		scribbleFront(f)
		for i, s := range again {
			if !sameResult(s, third[i]) {
				t.Fatalf("%s: a result changed with the argument: %v, %v", s.event, s, third[i])
			}
		}
	}
}

// TestFrontMemoryUnchanged: what is returned unchanged is a copy too: for lack of room, of what is already active, of what is not waiting.
func TestFrontMemoryUnchanged(t *testing.T) {
	o := opIn(1, 2)
	for _, was := range []impl.FroState{goodFront(), front(padded(impl.LogMost, yes(20)), waiting(5, o, 1, 2), told(20, o, []int{1, 3}, 1, 2, 3))} {
		f := frontWithRoom(was)
		got := []frontStep{hearStep(f, msgCan(2, 29)), hearStep(f, msgCan(1, 20)), hearStep(f, msgKnow(2, 5)), hearStep(f, msgWhat(2, 5)), beginStep(f, 5, o), beginStep(f, 20, o), giveStep(f, 20), giveStep(f, -1)}
		for _, s := range got {
			if s.ok || !sameFront(s.after, was) {
				t.Errorf("changed: %v", s)
			}
			wantOwnWays(t, s.event, s.after)
			scribbleFront(s.after)
			wantFrontArgument(t, s.event, f, was)
		}
	}
}

// TestFrontKeepsNothing: the same call twice has the same result, whatever happened to the first one.
func TestFrontKeepsNothing(t *testing.T) {
	f, o := goodFront(), opOut(1, 2)
	want := frontResults(f, msgCan(3, 0), 25, o)
	for _, s := range frontResults(f, msgCan(3, 0), 25, o) {
		scribbleFront(s.after)
		scribbleMessages(s.sent)
		scribbleOuts(s.outs)
	}
	for i, s := range frontResults(f, msgCan(3, 0), 25, o) {
		if !sameResult(s, want[i]) {
			t.Errorf("again: got %v, want %v", s, want[i])
		}
	}
}
