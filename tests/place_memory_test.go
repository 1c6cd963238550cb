package tests

import (
	"slices"
	"testing"

	"loop.example/janitor/impl"
)

// scribbleMessages overwrites messages with all their spare capacity.
func scribbleMessages(list []impl.MsgMsg) {
	list = list[:cap(list)]
	for i := range list {
		list[i] = impl.MsgMsg{Kind: -7}
	}
}

// TestHearMemory: PlcHear and PlcTick write to no argument, and their results share memory with none, nor one of their slices with another.
func TestHearMemory(t *testing.T) {
	everyLog(t, 55, func(h heard) {
		d, none := diskWithRoom(h.before), noteWithRoom(yes(1))
		arguments := func(what string) {
			t.Helper()
			wantLogArguments(t, what, d, h.before, none, yes(1))
		}
		got, sent := impl.PlcHear(h.place, d, h.m)
		again, sentAgain := impl.PlcHear(h.place, d, h.m)
		wantOwnDisk(t, "PlcHear", got, arguments)
		scribbleMessages(sent)
		scribbleMessages(impl.PlcTick(h.place, d))
		arguments("PlcTick")
		if !sameDisk(again, h.after) || !slices.Equal(sentAgain, h.sent) {
			t.Fatalf("one result changed with another one: %v, %v: %v", again, sentAgain, h)
		}
	})
}

// TestHearMemoryFull: the log that is returned unchanged, for lack of room, is a copy too; so is what is returned of a log that the message does not change.
func TestHearMemoryFull(t *testing.T) {
	for _, was := range []impl.LogDisk{padded(impl.LogMost, readyTo(5, set("a5", 1))), padded(impl.LogMost-1, readyTo(5, set("a5", 1)), yes(5)), allSafe(readyTo(5, set("a5", 1)), no(5))} {
		for _, m := range []impl.MsgMsg{msgAsk(impl.PlcDone, 5, opIn(1, 2)), msgAsk(impl.PlcDone, 6, opIn(1, 2)), msgYes(impl.PlcDone, 5), msgNo(impl.PlcDone, 5)} {
			d, none := diskWithRoom(was), noteWithRoom(yes(1))
			got, _ := impl.PlcHear(impl.PlcDone, d, m)
			wantOwnDisk(t, "PlcHear", got, func(what string) {
				t.Helper()
				wantLogArguments(t, what, d, was, none, yes(1))
			})
		}
	}
}

// TestHearMemoryArgument: a result does not change with the log that was given.
func TestHearMemoryArgument(t *testing.T) {
	everyLog(t, 56, func(h heard) {
		d := diskWithRoom(h.before)
		got, sent := impl.PlcHear(h.place, d, h.m)
		asked := impl.PlcTick(h.place, d)
		for _, n := range d.Notes {
			scribbleNote(n)
		}
		for i := range d.Notes[:cap(d.Notes)] {
			d.Notes[:cap(d.Notes)][i] = no(-2)
		}
		if !sameDisk(got, h.after) || !slices.Equal(sent, h.sent) || !slices.Equal(asked, impl.PlcTick(h.place, h.before)) {
			t.Fatalf("a result changed with the argument: %v, %v, %v: %v", got, sent, asked, h)
		}
	})
}

// TestHearKeepsNothing: the same call twice has the same result, whatever happened to the first one.
func TestHearKeepsNothing(t *testing.T) {
	d := allSafe(readyTo(5, set("a5", 1)), readyTo(4, set("a4", 1)))
	for _, m := range []impl.MsgMsg{msgAsk(impl.PlcDone, 6, opIn(1, 2)), msgYes(impl.PlcDone, 5), msgNo(impl.PlcDone, 4)} {
		want, sent := modelHear(impl.PlcDone, d, m)
		first := hear(impl.PlcDone, d, m)
		for _, n := range first.after.Notes {
			scribbleNote(n)
		}
		scribbleMessages(first.sent)
		wantHeard(t, "again", impl.PlcDone, d, m, want, sent...)
	}
	scribbleMessages(impl.PlcTick(impl.PlcDone, d))
	wantTick(t, "again", impl.PlcDone, d, 5, 4)
}
