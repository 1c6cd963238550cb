package tests

import (
	"fmt"
	"regexp"
	"slices"
	"testing"

	"loop.example/janitor/impl"
)

func evDo(o impl.OpOp) impl.EvEvent {
	return impl.EvEvent{Kind: impl.EvDo, Op: o}
}

func evHear(at int) impl.EvEvent {
	return impl.EvEvent{Kind: impl.EvHear, At: at}
}

func evLose(at int) impl.EvEvent {
	return impl.EvEvent{Kind: impl.EvLose, At: at}
}

func evTwice(at int) impl.EvEvent {
	return impl.EvEvent{Kind: impl.EvTwice, At: at}
}

func evTick(place int) impl.EvEvent {
	return impl.EvEvent{Kind: impl.EvTick, Place: place}
}

func evGive(tx int) impl.EvEvent {
	return impl.EvEvent{Kind: impl.EvGive, At: tx}
}

func evFall(place, keep int) impl.EvEvent {
	return impl.EvEvent{Kind: impl.EvFall, Place: place, Keep: keep}
}

// hears is that the first message is heard, n times.
func hears(n int) []impl.EvEvent {
	return slices.Repeat([]impl.EvEvent{evHear(0)}, n)
}

func world(f impl.FroState, disks []impl.LogDisk, net []impl.MsgMsg, ops []impl.OpOp, outs []impl.FroOut) impl.WldWorld {
	return impl.WldWorld{Front: f, Disks: disks, Net: net, Ops: ops, Outs: outs}
}

func logs(list ...impl.LogDisk) []impl.LogDisk {
	return list
}

func messages(lists ...[]impl.MsgMsg) []impl.MsgMsg {
	return slices.Concat(lists...)
}

func sameWorld(a, b impl.WldWorld) bool {
	return sameFront(a.Front, b.Front) && slices.EqualFunc(a.Disks, b.Disks, sameDisk) && slices.Equal(a.Net, b.Net) && slices.Equal(a.Ops, b.Ops) && slices.Equal(a.Outs, b.Outs)
}

func copyWorld(w impl.WldWorld) impl.WldWorld {
	out := impl.WldWorld{Front: copyFront(w.Front), Net: slices.Clone(w.Net), Ops: slices.Clone(w.Ops), Outs: slices.Clone(w.Outs)}
	for _, d := range w.Disks {
		out.Disks = append(out.Disks, copyDisk(d))
	}
	return out
}

func withDisk(w impl.WldWorld, place int, d impl.LogDisk) impl.WldWorld {
	out := copyWorld(w)
	out.Disks[place-impl.PlcIn] = d
	return out
}

func withNet(w impl.WldWorld, net ...impl.MsgMsg) impl.WldWorld {
	out := copyWorld(w)
	out.Net = net
	return out
}

func withFront(w impl.WldWorld, f impl.FroState) impl.WldWorld {
	out := copyWorld(w)
	out.Front = f
	return out
}

// modelItemOk is for the items of valid writes.
func modelItemOk(place int, key string, val []int) bool {
	shape := []string{"", "s. 1", "c. 2|f. 3", "a..? 1"}[place]
	fits := regexp.MustCompile("^(" + shape + ")$").MatchString(fmt.Sprint(key, " ", len(val)))
	switch {
	case !fits || place == impl.PlcDone:
		return fits
	case key[0] == 'f' && (val[1] < 1 || val[1] > 99 || val[2] > 1):
		return false
	}
	return val[0] <= 9
}

// modelLogOk is for the log of a service, in a system with n operations.
func modelLogOk(place int, d impl.LogDisk, n int) bool {
	for _, note := range d.Notes {
		if note.Kind == 4 || note.Tx >= n {
			return false
		}
		for _, w := range note.Writes {
			if !w.Del && impl.WrtOk(w) && !modelItemOk(place, w.Key, w.Val) {
				return false
			}
		}
	}
	return impl.DiskOk(d)
}

func modelWldOk(w impl.WldWorld) bool {
	n := len(w.Ops)
	if len(w.Disks) != 3 || len(w.Net) > 60 || n > 30 || len(w.Outs) > 30 || !modelFroOk(w.Front) {
		return false
	}
	for i, d := range w.Disks {
		if !modelLogOk(i+1, d, n) {
			return false
		}
	}
	var txs []int
	for _, note := range w.Front.Disk.Notes {
		txs = append(txs, note.Tx)
	}
	for _, active := range w.Front.Way {
		txs = append(txs, active.Tx)
	}
	for _, m := range w.Net {
		if txs = append(txs, m.Tx); !modelMsgOk(m) {
			return false
		}
	}
	for _, out := range w.Outs {
		txs = append(txs, out.Tx)
	}
	unknown := slices.ContainsFunc(txs, func(tx int) bool { return tx < 0 || tx >= n })
	return !unknown && !slices.ContainsFunc(w.Ops, func(o impl.OpOp) bool { return !modelOpOk(o) })
}

// modelPass appends what is sent and reported, and cuts off what there is no room for.
func modelPass(w impl.WldWorld, sent []impl.MsgMsg, outs []impl.FroOut) impl.WldWorld {
	w.Net, w.Outs = append(w.Net, sent...), append(w.Outs, outs...)
	w.Net, w.Outs = w.Net[:min(60, len(w.Net))], w.Outs[:min(30, len(w.Outs))]
	return w
}

// modelStep is WldStep for a valid system, by the models of the places.
func modelStep(w impl.WldWorld, e impl.EvEvent) impl.WldWorld {
	out := copyWorld(w)
	there := e.At >= 0 && e.At < len(w.Net)
	switch {
	case e.Kind == 1 && len(w.Ops) < 30 && modelOpOk(e.Op):
		f, sent, ok := modelFroBegin(out.Front, len(w.Ops), e.Op)
		if ok {
			out.Front, out.Ops = f, append(out.Ops, e.Op)
			return modelPass(out, sent, nil)
		}
	case e.Kind == 2 && there:
		out.Net = slices.Delete(out.Net, e.At, e.At+1)
		return modelDeliver(out, w.Net[e.At])
	case e.Kind == 3 && there:
		out.Net = slices.Delete(out.Net, e.At, e.At+1)
	case e.Kind == 4 && there:
		return modelPass(out, []impl.MsgMsg{w.Net[e.At]}, nil)
	case e.Kind == 5 && e.Place >= 0 && e.Place <= 3:
		return modelPass(out, modelTick(w, e.Place), nil)
	case e.Kind == 6:
		if active, ok := wayOf(w.Front, e.At); ok && !active.Yes {
			f, sent, outs := modelAbort(w.Front, active)
			return modelPass(withFront(w, f), sent, outs)
		}
	case e.Kind == 7 && e.Place == 0:
		out.Front = modelFroFall(out.Front, e.Keep)
	case e.Kind == 7 && e.Place >= 1 && e.Place <= 3:
		d := out.Disks[e.Place-1]
		left := min(len(d.Notes), d.Safe+min(max(e.Keep, 0), 120))
		out.Disks[e.Place-1] = allSafe(d.Notes[:left]...)
	}
	return out
}

func modelDeliver(w impl.WldWorld, m impl.MsgMsg) impl.WldWorld {
	if m.To == 0 {
		f, sent, outs := modelFroHear(w.Front, m)
		w.Front = f
		return modelPass(w, sent, outs)
	}
	d, sent := modelHear(m.To, w.Disks[m.To-1], m)
	w.Disks[m.To-1] = d
	return modelPass(w, sent, nil)
}

func modelTick(w impl.WldWorld, place int) []impl.MsgMsg {
	if place == 0 {
		return modelFroTick(w.Front)
	}
	var out []impl.MsgMsg
	for _, tx := range modelOpen(w.Disks[place-1].Notes) {
		out = append(out, msgWhat(place, tx))
	}
	return out
}

func modelRun(w impl.WldWorld, events []impl.EvEvent) impl.WldWorld {
	for _, e := range events {
		w = modelStep(w, e)
	}
	return w
}

// modelFour hears four times what is in the network when each time begins.
func modelFour(w impl.WldWorld) impl.WldWorld {
	for range 4 {
		w = modelRun(w, hears(len(w.Net)))
	}
	return w
}

func modelCalm(w impl.WldWorld, rounds int) impl.WldWorld {
	for range rounds {
		for place := range impl.PlcMany {
			w = modelFour(modelStep(w, evTick(place)))
		}
	}
	return w
}

func wantWorld(t *testing.T, what string, got, want impl.WldWorld) {
	t.Helper()
	if !sameWorld(got, want) {
		t.Errorf("%s: got %v, want %v", what, got, want)
	}
}

// wantStep also wants the same of WldRun of the one event.
func wantStep(t *testing.T, what string, w impl.WldWorld, e impl.EvEvent, want impl.WldWorld) {
	t.Helper()
	wantWorld(t, fmt.Sprint(what, ", ", e), impl.WldStep(w, e), want)
	wantWorld(t, fmt.Sprint(what, ", run, ", e), impl.WldRun(w, []impl.EvEvent{e}), want)
}

// wantNoStep wants nothing to change; the system has to be valid, so that this is not the zero value.
func wantNoStep(t *testing.T, what string, w impl.WldWorld, list ...impl.EvEvent) {
	t.Helper()
	if !impl.WldOk(w) {
		t.Fatalf("%s: invalid: %v", what, w)
	}
	for _, e := range list {
		wantStep(t, what, w, e, w)
	}
}

// mustRun executes events from a valid system on.
func mustRun(t *testing.T, w impl.WldWorld, events ...impl.EvEvent) impl.WldWorld {
	t.Helper()
	got := impl.WldRun(w, events)
	if !impl.WldOk(got) {
		t.Fatalf("invalid after %v: %v", events, got)
	}
	return got
}

// committedAt is what the services have committed.
func committedAt(w impl.WldWorld) []impl.StoStore {
	var out []impl.StoStore
	for _, d := range w.Disks {
		out = append(out, modelFold(d.Notes))
	}
	return out
}
