package tests

import (
	"slices"
	"testing"

	"loop.example/janitor/impl"
)

// views are the results of all functions of the views for one system.
type views struct {
	order  []int
	places []impl.StoStore
	whole  []impl.StoStore
	ok     bool
	doubt  []int
}

func viewsOf(w impl.WldWorld) views {
	v := views{order: impl.VueOrder(w), places: impl.VuePlaces(w), doubt: impl.VueDoubt(w)}
	v.whole, v.ok = impl.VueWhole(w)
	return v
}

func sameViews(a, b views) bool {
	return slices.Equal(a.order, b.order) && sameStores(a.places, b.places) && sameStores(a.whole, b.whole) && a.ok == b.ok && slices.Equal(a.doubt, b.doubt)
}

func copyViews(v views) views {
	return views{order: slices.Clone(v.order), places: copyStores(v.places), whole: copyStores(v.whole), ok: v.ok, doubt: slices.Clone(v.doubt)}
}

// agreed are the views of a system in which the services would have exactly what was executed.
func agreed(order []int, list []impl.StoStore, doubt ...int) views {
	return views{order: order, places: list, whole: list, ok: true, doubt: doubt}
}

// wantViews wants fixed results for a valid system.
func wantViews(t *testing.T, what string, w impl.WldWorld, want views) {
	t.Helper()
	if !impl.WldOk(w) {
		t.Errorf("%s: invalid: %v", what, w)
	}
	if got := viewsOf(w); !sameViews(got, want) {
		t.Errorf("%s: got %v, want %v", what, got, want)
	}
}

// wantNoViews wants nothing at all.
func wantNoViews(t *testing.T, what string, w impl.WldWorld) {
	t.Helper()
	v := viewsOf(w)
	if v.order != nil || v.places != nil || v.whole != nil || v.ok || v.doubt != nil {
		t.Errorf("%s: got %v", what, v)
	}
}

// modelOrder, modelDecided, modelExecuted and modelDoubt are the views of a valid system.
func modelOrder(w impl.WldWorld) []int {
	var out []int
	seen := map[int]bool{}
	for _, n := range w.Front.Disk.Notes {
		if n.Kind == impl.LogYes && !seen[n.Tx] {
			seen[n.Tx] = true
			out = append(out, n.Tx)
		}
	}
	return out
}

// modelWritten is what a service has if it is told of the commits in an order.
func modelWritten(d impl.LogDisk, order []int) impl.StoStore {
	last := map[int][]impl.StoWrite{}
	for _, n := range d.Notes {
		if n.Kind == impl.LogReady {
			last[n.Tx] = n.Writes
		}
	}
	var s impl.StoStore
	for _, tx := range order {
		s = modelDo(s, last[tx])
	}
	return s
}

func modelDecided(w impl.WldWorld) []impl.StoStore {
	var out []impl.StoStore
	for _, d := range w.Disks {
		out = append(out, modelWritten(d, modelOrder(w)))
	}
	return out
}

// modelServer is the server after operations, up to the first one that is not possible.
func modelServer(ops []impl.OpOp, order []int) (modelWhole, bool) {
	m := newModel()
	for _, tx := range order {
		if !m.do(tx, ops[tx]) {
			return m, false
		}
	}
	return m, true
}

func modelExecuted(w impl.WldWorld) ([]impl.StoStore, bool) {
	m, ok := modelServer(w.Ops, modelOrder(w))
	return m.stores(), ok
}

func modelDoubt(w impl.WldWorld) []int {
	var out []int
	for tx := range impl.TxMost + 1 {
		if slices.ContainsFunc(w.Disks, func(d impl.LogDisk) bool { return modelKind(d.Notes, tx) == impl.LogReady }) {
			out = append(out, tx)
		}
	}
	return out
}

func modelViews(w impl.WldWorld) views {
	v := views{order: modelOrder(w), places: modelDecided(w), doubt: modelDoubt(w)}
	v.whole, v.ok = modelExecuted(w)
	return v
}

// reportedAs lists the transactions with an outcome, in the order in which that was reported.
func reportedAs(w impl.WldWorld, ok bool) []int {
	var out []int
	for _, x := range w.Outs {
		if x.Ok == ok {
			out = append(out, x.Tx)
		}
	}
	return out
}

func hasNote(d impl.LogDisk, kind, tx int) bool {
	return slices.ContainsFunc(d.Notes, func(n impl.LogNote) bool { return n.Kind == kind && n.Tx == tx })
}

// startsWith reports whether a list has not lost anything of what it was.
func startsWith[T comparable](list, was []T) bool {
	return len(list) >= len(was) && slices.Equal(list[:len(was)], was)
}
