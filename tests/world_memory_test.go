package tests

import (
	"fmt"
	"math/rand"
	"slices"
	"testing"

	"loop.example/janitor/impl"
)

// listWithRoom has two more elements behind its end.
func listWithRoom[T any](list []T, mark T) []T {
	return append(slices.Clone(list), mark, mark)[:len(list)]
}

func listRoomIsKept[T comparable](list []T, mark T) bool {
	return slices.Equal(list[len(list):len(list)+2], []T{mark, mark})
}

// scribbleList overwrites a list with all its spare capacity.
func scribbleList[T any](list []T, with T) {
	list = list[:cap(list)]
	for i := range list {
		list[i] = with
	}
}

// worldWithRoom has room behind every list, and behind the lists within them.
func worldWithRoom(w impl.WldWorld) impl.WldWorld {
	out := impl.WldWorld{Front: frontWithRoom(w.Front)}
	for _, d := range w.Disks {
		out.Disks = append(out.Disks, diskWithRoom(d))
	}
	out.Disks = listWithRoom(out.Disks, disk(-1))
	out.Net = listWithRoom(w.Net, impl.MsgMsg{Tx: -1})
	out.Ops = listWithRoom(w.Ops, opIn(-1, -1))
	out.Outs = listWithRoom(w.Outs, impl.FroOut{Tx: -1})
	return out
}

func wantWorldArgument(t *testing.T, what string, w, was impl.WldWorld) {
	t.Helper()
	wantFrontArgument(t, what, w.Front, was.Front)
	for i, d := range w.Disks {
		wantLogArguments(t, what, d, was.Disks[i], noteWithRoom(yes(1)), yes(1))
	}
	if !sameWorld(w, was) {
		t.Fatalf("%s: the argument changed: %v, was %v", what, w, was)
	}
	room := w.Disks[len(w.Disks) : len(w.Disks)+2]
	if !sameDisk(room[0], disk(-1)) || !sameDisk(room[1], disk(-1)) {
		t.Fatalf("%s: the room behind the logs changed: %v", what, room)
	}
	if !listRoomIsKept(w.Net, impl.MsgMsg{Tx: -1}) || !listRoomIsKept(w.Ops, opIn(-1, -1)) || !listRoomIsKept(w.Outs, impl.FroOut{Tx: -1}) {
		t.Fatalf("%s: the room behind the messages, operations or outcomes changed: %v", what, w)
	}
}

// scribbleWorld overwrites all lists of a system with all their spare capacity.
func scribbleWorld(w impl.WldWorld) {
	scribbleFront(w.Front)
	for _, d := range w.Disks {
		for _, n := range d.Notes {
			scribbleNote(n)
		}
		scribbleList(d.Notes, no(-2))
	}
	scribbleList(w.Disks, disk(-2))
	scribbleMessages(w.Net)
	scribbleList(w.Ops, opIn(-2, -2))
	scribbleOuts(w.Outs)
}

// wantOwnWorld overwrites a result part by part: no argument changes, nor any part that is not yet overwritten.
func wantOwnWorld(t *testing.T, what string, got impl.WldWorld, arguments func(what string)) {
	t.Helper()
	was := copyWorld(got)
	check := func(part string, from int, rest impl.WldWorld) {
		t.Helper()
		arguments(what + ", overwritten: " + part)
		rest.Front, rest.Disks = was.Front, slices.Concat(was.Disks[:from], rest.Disks[from:])
		if !sameWorld(rest, was) {
			t.Fatalf("%s: %v changed with %s: %v", what, was, part, rest)
		}
	}
	wantOwnWays(t, what, got.Front)
	wantOwnDisk(t, what, got.Front.Disk, arguments)
	scribbleFront(got.Front)
	check("the coordinator", 0, got)
	for i, d := range got.Disks {
		wantOwnDisk(t, what, d, arguments)
		check(fmt.Sprint("log ", i), i+1, got)
	}
	scribbleList(got.Disks, disk(-2))
	check("the logs", len(got.Disks), got)
	scribbleMessages(got.Net)
	check("the messages", len(got.Disks), withNet(got, was.Net...))
	scribbleList(got.Ops, opIn(-2, -2))
	check("the operations", len(got.Disks), withOps(withNet(got, was.Net...), was.Ops...))
	scribbleOuts(got.Outs)
	arguments(what + ", overwritten: the outcomes")
}

// worldResults are those of all functions for the same arguments.
func worldResults(w impl.WldWorld, events []impl.EvEvent) []impl.WldWorld {
	impl.WldOk(w)
	out := []impl.WldWorld{impl.WldNew(), impl.WldRun(w, events), impl.WldRun(w, nil), impl.WldCalm(w, 0), impl.WldCalm(w, 1)}
	for _, e := range events {
		out = append(out, impl.WldStep(w, e))
	}
	return out
}

// oneOfEach has an event of each kind, and one of none.
func oneOfEach(r *rand.Rand, w impl.WldWorld) []impl.EvEvent {
	events := []impl.EvEvent{{}}
	for kind := impl.EvDo; kind <= impl.EvFall; kind++ {
		events = append(events, eventOf(r, w, kind))
	}
	return events
}

// TestWorldMemory: no function writes to its arguments, and their results share memory with none, nor one of their slices with another.
func TestWorldMemory(t *testing.T) {
	everyWorld(t, 730, func(r *rand.Rand, was impl.WldWorld) {
		if r.Intn(40) > 0 {
			return
		}
		w, eventsWas := worldWithRoom(was), oneOfEach(r, was)
		events := listWithRoom(eventsWas, evTick(-1))
		arguments := func(what string) {
			t.Helper()
			wantWorldArgument(t, what, w, was)
			if !slices.Equal(events, eventsWas) || !listRoomIsKept(events, evTick(-1)) {
				t.Fatalf("%s: the events changed: %v, were %v", what, events, eventsWas)
			}
		}
		got, again, third := worldResults(w, events), worldResults(w, events), worldResults(was, eventsWas)
		arguments("called")
		for i, x := range got {
			wantOwnWorld(t, fmt.Sprint("result ", i), x, arguments)
			wantWorld(t, "one result after another one was overwritten", again[i], third[i])
		}
		scribbleWorld(w)
		scribbleList(events, evTick(-2))
		for i, x := range again {
			wantWorld(t, "a result after the arguments were overwritten", x, third[i])
		}
	})
}

// TestWorldMemoryUnchanged: what is returned unchanged is a copy too: for an event that does not apply, for no event and for no round.
func TestWorldMemoryUnchanged(t *testing.T) {
	for _, was := range []impl.WldWorld{goodWorld(), withNet(idle(impl.TxMost+1), noise(impl.NetMost)...)} {
		w := worldWithRoom(was)
		arguments := func(what string) {
			t.Helper()
			wantWorldArgument(t, what, w, was)
		}
		for i, got := range []impl.WldWorld{impl.WldStep(w, evHear(impl.NetMost)), impl.WldStep(w, evDo(impl.OpOp{})), impl.WldStep(w, evGive(0)), impl.WldStep(w, evTick(-1)), impl.WldRun(w, nil), impl.WldCalm(w, -1)} {
			wantWorld(t, "unchanged", got, was)
			wantOwnWorld(t, fmt.Sprint("result ", i), got, arguments)
		}
	}
}

// TestWorldKeepsNothing: the same call twice has the same result, whatever happened to the first one.
func TestWorldKeepsNothing(t *testing.T) {
	w, events := goodWorld(), []impl.EvEvent{evDo(opIn(3, 4)), evHear(0), evTick(0), evFall(2, 0)}
	want := worldResults(w, events)
	for _, got := range worldResults(w, events) {
		scribbleWorld(got)
	}
	for i, got := range worldResults(w, events) {
		wantWorld(t, "again", got, want[i])
	}
}
