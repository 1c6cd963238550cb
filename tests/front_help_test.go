package tests

import (
	"fmt"
	"math/rand"
	"slices"
	"testing"

	"loop.example/janitor/impl"
)

const frontRounds = 60

func front(d impl.LogDisk, way ...impl.FroTx) impl.FroState {
	return impl.FroState{Disk: d, Way: way}
}

// waiting is an active transaction that waits for votes.
func waiting(tx int, o impl.OpOp, can ...int) impl.FroTx {
	return impl.FroTx{Tx: tx, Op: o, Can: can}
}

// told is an active transaction that is committed and waits for acknowledgements.
func told(tx int, o impl.OpOp, can []int, know ...int) impl.FroTx {
	return impl.FroTx{Tx: tx, Op: o, Yes: true, Can: can, Know: know}
}

// resumed is an active transaction as a crash leaves it.
func resumed(tx int) impl.FroTx {
	return impl.FroTx{Tx: tx, Yes: true}
}

func msgWhat(place, tx int) impl.MsgMsg {
	return sentBy(impl.MsgWhat, place, tx)
}

func askAll(tx int, o impl.OpOp, places ...int) []impl.MsgMsg {
	var out []impl.MsgMsg
	for _, place := range places {
		out = append(out, msgAsk(place, tx, o))
	}
	return out
}

func yesAll(tx int, places ...int) []impl.MsgMsg {
	var out []impl.MsgMsg
	for _, place := range places {
		out = append(out, msgYes(place, tx))
	}
	return out
}

func noAll(tx int, places ...int) []impl.MsgMsg {
	var out []impl.MsgMsg
	for _, place := range places {
		out = append(out, msgNo(place, tx))
	}
	return out
}

func reported(tx int, ok bool) []impl.FroOut {
	return []impl.FroOut{{Tx: tx, Ok: ok}}
}

func sameWay(a, b impl.FroTx) bool {
	return a.Tx == b.Tx && a.Op == b.Op && a.Yes == b.Yes && slices.Equal(a.Can, b.Can) && slices.Equal(a.Know, b.Know)
}

func sameFront(a, b impl.FroState) bool {
	return sameDisk(a.Disk, b.Disk) && slices.EqualFunc(a.Way, b.Way, sameWay)
}

func copyFront(f impl.FroState) impl.FroState {
	out := impl.FroState{Disk: copyDisk(f.Disk)}
	for _, w := range f.Way {
		w.Can, w.Know = slices.Clone(w.Can), slices.Clone(w.Know)
		out.Way = append(out.Way, w)
	}
	return out
}

// wayOf returns an active transaction; false if there is none with that number.
func wayOf(f impl.FroState, tx int) (impl.FroTx, bool) {
	for _, w := range f.Way {
		if w.Tx == tx {
			return w, true
		}
	}
	return impl.FroTx{}, false
}

// withWay replaces an active transaction, or adds it.
func withWay(f impl.FroState, w impl.FroTx) impl.FroState {
	out := withoutWay(f, w.Tx)
	i := 0
	for i < len(out.Way) && out.Way[i].Tx < w.Tx {
		i++
	}
	out.Way = slices.Insert(out.Way, i, w)
	return out
}

func withoutWay(f impl.FroState, tx int) impl.FroState {
	out := copyFront(f)
	out.Way = slices.DeleteFunc(out.Way, func(w impl.FroTx) bool { return w.Tx == tx })
	return out
}

// joinedTo adds a service to a list in its place.
func joinedTo(list []int, place int) []int {
	var out []int
	for _, x := range services() {
		if x == place || slices.Contains(list, x) {
			out = append(out, x)
		}
	}
	return out
}

func hasAll(list, places []int) bool {
	return !slices.ContainsFunc(places, func(place int) bool { return !slices.Contains(list, place) })
}

func without(places, list []int) []int {
	var out []int
	for _, place := range places {
		if !slices.Contains(list, place) {
			out = append(out, place)
		}
	}
	return out
}

func ascending(list []int) bool {
	for i := 1; i < len(list); i++ {
		if list[i] <= list[i-1] {
			return false
		}
	}
	return true
}

func onlyServices(list []int) bool {
	return ascending(list) && hasAll(services(), list)
}

// modelFroOk is FroOk, for a log whose own validity is not in question.
func modelFroOk(f impl.FroState) bool {
	var txs []int
	for _, n := range f.Disk.Notes {
		if n.Kind != 2 && n.Kind != 4 {
			return false
		}
	}
	for _, w := range f.Way {
		txs = append(txs, w.Tx)
		logged := modelKind(f.Disk.Notes, w.Tx) == 2
		if w.Tx < 0 || w.Tx > 29 || w.Yes != logged || !onlyServices(w.Can) || !onlyServices(w.Know) {
			return false
		}
		if !w.Yes && (!modelOpOk(w.Op) || len(w.Know) > 0) {
			return false
		}
	}
	return impl.DiskOk(f.Disk) && ascending(txs)
}

// modelFroBegin is for valid arguments.
func modelFroBegin(f impl.FroState, tx int, o impl.OpOp) (impl.FroState, []impl.MsgMsg, bool) {
	later := slices.ContainsFunc(f.Way, func(w impl.FroTx) bool { return w.Tx >= tx })
	if later || modelKind(f.Disk.Notes, tx) != 0 || len(f.Disk.Notes)+2*len(f.Way)+2 > 120 {
		return f, nil, false
	}
	return withWay(f, waiting(tx, o)), askAll(tx, o, modelPlaces(o.Kind)...), true
}

// modelFroHear reads the table of the chapter by its rows; it is for valid arguments.
func modelFroHear(f impl.FroState, m impl.MsgMsg) (impl.FroState, []impl.MsgMsg, []impl.FroOut) {
	w, active := wayOf(f, m.Tx)
	if active && !w.Yes {
		switch m.Kind {
		case impl.MsgCan:
			return modelVote(f, w, m.From)
		case impl.MsgCant:
			return modelAbort(f, w)
		}
		return f, nil, nil
	}
	if active && m.Kind == impl.MsgKnow {
		return modelKnow(f, w, m.From), nil, nil
	}
	if m.Kind == impl.MsgCant || m.Kind == impl.MsgKnow {
		return f, nil, nil
	}
	if modelKind(f.Disk.Notes, m.Tx) == impl.LogYes {
		return f, yesAll(m.Tx, m.From), nil
	}
	return f, noAll(m.Tx, m.From), nil
}

func modelVote(f impl.FroState, w impl.FroTx, place int) (impl.FroState, []impl.MsgMsg, []impl.FroOut) {
	w.Can = joinedTo(w.Can, place)
	if !hasAll(w.Can, modelPlaces(w.Op.Kind)) {
		return withWay(f, w), nil, nil
	}
	if len(f.Disk.Notes) == 120 {
		return modelAbort(f, w)
	}
	w.Yes = true
	out := withWay(f, w)
	out.Disk = allSafe(append(out.Disk.Notes, yes(w.Tx))...)
	return out, yesAll(w.Tx, 1, 2, 3), reported(w.Tx, true)
}

func modelAbort(f impl.FroState, w impl.FroTx) (impl.FroState, []impl.MsgMsg, []impl.FroOut) {
	return withoutWay(f, w.Tx), noAll(w.Tx, modelPlaces(w.Op.Kind)...), reported(w.Tx, false)
}

func modelKnow(f impl.FroState, w impl.FroTx, place int) impl.FroState {
	w.Know = joinedTo(w.Know, place)
	if !hasAll(w.Know, services()) || len(f.Disk.Notes) == 120 {
		return withWay(f, w)
	}
	out := withoutWay(f, w.Tx)
	out.Disk.Notes = append(out.Disk.Notes, end(w.Tx))
	return out
}

func modelFroTick(f impl.FroState) []impl.MsgMsg {
	var out []impl.MsgMsg
	for _, w := range f.Way {
		if w.Yes {
			out = append(out, yesAll(w.Tx, without(services(), w.Know)...)...)
		} else {
			out = append(out, askAll(w.Tx, w.Op, without(modelPlaces(w.Op.Kind), w.Can)...)...)
		}
	}
	return out
}

// modelFroFall goes through all numbers, so that the active transactions ascend.
func modelFroFall(f impl.FroState, keep int) impl.FroState {
	left := min(len(f.Disk.Notes), f.Disk.Safe+min(max(keep, 0), 120))
	out := front(allSafe(copyDisk(f.Disk).Notes[:left]...))
	for tx := range impl.TxMost + 1 {
		ended := slices.ContainsFunc(out.Disk.Notes, func(n impl.LogNote) bool { return n.Tx == tx && n.Kind == impl.LogEnd })
		if modelKind(out.Disk.Notes, tx) == impl.LogYes && !ended {
			out.Way = append(out.Way, resumed(tx))
		}
	}
	return out
}

func wantFroHear(t *testing.T, what string, f impl.FroState, m impl.MsgMsg, want impl.FroState, sent []impl.MsgMsg, outs ...impl.FroOut) {
	t.Helper()
	got, gotSent, gotOuts := impl.FroHear(f, m)
	if !sameFront(got, want) || !slices.Equal(gotSent, sent) || !slices.Equal(gotOuts, outs) {
		t.Errorf("%s: %v, %v: got %v, %v, %v, want %v, %v, %v", what, f, m, got, gotSent, gotOuts, want, sent, outs)
	}
}

func wantFroBegin(t *testing.T, what string, f impl.FroState, tx int, o impl.OpOp, want impl.FroState, sent []impl.MsgMsg, wantOk bool) {
	t.Helper()
	got, gotSent, ok := impl.FroBegin(f, tx, o)
	if !sameFront(got, want) || !slices.Equal(gotSent, sent) || ok != wantOk {
		t.Errorf("%s: %v, %d, %v: got %v, %v, %v, want %v, %v, %v", what, f, tx, o, got, gotSent, ok, want, sent, wantOk)
	}
}

func wantFroGive(t *testing.T, what string, f impl.FroState, tx int, want impl.FroState, sent []impl.MsgMsg, outs ...impl.FroOut) {
	t.Helper()
	got, gotSent, gotOuts := impl.FroGive(f, tx)
	if !sameFront(got, want) || !slices.Equal(gotSent, sent) || !slices.Equal(gotOuts, outs) {
		t.Errorf("%s: %v, %d: got %v, %v, %v, want %v, %v, %v", what, f, tx, got, gotSent, gotOuts, want, sent, outs)
	}
}

func wantFroTick(t *testing.T, what string, f impl.FroState, sent ...impl.MsgMsg) {
	t.Helper()
	if got := impl.FroTick(f); !slices.Equal(got, sent) {
		t.Errorf("%s: %v: got %v, want %v", what, f, got, sent)
	}
}

func wantFroFall(t *testing.T, what string, f impl.FroState, keep int, want impl.FroState) {
	t.Helper()
	if got := impl.FroFall(f, keep); !sameFront(got, want) {
		t.Errorf("%s: %v, %d: got %v, want %v", what, f, keep, got, want)
	}
}

// mustBegin starts a transaction.
func mustBegin(t *testing.T, f impl.FroState, tx int, o impl.OpOp) impl.FroState {
	t.Helper()
	got, _, ok := impl.FroBegin(f, tx, o)
	if !ok {
		t.Fatalf("%d is not started: %v", tx, f)
	}
	return got
}

// frontAll lets the coordinator hear messages one after the other.
func frontAll(f impl.FroState, list ...impl.MsgMsg) impl.FroState {
	for _, m := range list {
		f, _, _ = impl.FroHear(f, m)
	}
	return f
}

// votesOf is MsgCan of the services of an operation.
func votesOf(tx int, o impl.OpOp) []impl.MsgMsg {
	var out []impl.MsgMsg
	for _, place := range modelPlaces(o.Kind) {
		out = append(out, msgCan(place, tx))
	}
	return out
}

func knowAll(tx int) []impl.MsgMsg {
	return []impl.MsgMsg{msgKnow(impl.PlcIn, tx), msgKnow(impl.PlcMay, tx), msgKnow(impl.PlcDone, tx)}
}

// orders lists all orders of some messages.
func orders(list []impl.MsgMsg) [][]impl.MsgMsg {
	if len(list) == 0 {
		return [][]impl.MsgMsg{nil}
	}
	var out [][]impl.MsgMsg
	for i, m := range list {
		for _, rest := range orders(slices.Concat(list[:i], list[i+1:])) {
			out = append(out, append([]impl.MsgMsg{m}, rest...))
		}
	}
	return out
}

// subset has each service in half of all cases.
func subset(r *rand.Rand) []int {
	var out []int
	for _, place := range services() {
		if r.Intn(2) == 0 {
			out = append(out, place)
		}
	}
	return out
}

// situation tells what the coordinator knows of a transaction.
func situation(f impl.FroState, tx int) string {
	w, active := wayOf(f, tx)
	switch {
	case active && w.Yes:
		return "committed"
	case active:
		return "waiting"
	case modelKind(f.Disk.Notes, tx) != 0:
		return "logged"
	}
	return "unknown"
}

func kindsOf(list []impl.MsgMsg) string {
	var out []int
	for _, m := range list {
		out = append(out, m.Kind)
	}
	return fmt.Sprint(slices.Compact(out))
}
