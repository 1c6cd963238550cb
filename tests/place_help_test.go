package tests

import (
	"fmt"
	"math/rand"
	"slices"
	"testing"

	"loop.example/janitor/impl"
)

const placeRounds = 120

// heard is one message that a service has heard: its log before and after it, and what it has sent.
type heard struct {
	place  int
	before impl.LogDisk
	m      impl.MsgMsg
	after  impl.LogDisk
	sent   []impl.MsgMsg
}

func msgAsk(place, tx int, o impl.OpOp) impl.MsgMsg {
	return impl.MsgMsg{Kind: impl.MsgAsk, To: place, From: impl.PlcFront, Tx: tx, Op: o}
}

func msgYes(place, tx int) impl.MsgMsg {
	return impl.MsgMsg{Kind: impl.MsgYes, To: place, From: impl.PlcFront, Tx: tx}
}

func msgNo(place, tx int) impl.MsgMsg {
	return impl.MsgMsg{Kind: impl.MsgNo, To: place, From: impl.PlcFront, Tx: tx}
}

// sentBy is a message to the coordinator.
func sentBy(kind, place, tx int) impl.MsgMsg {
	return impl.MsgMsg{Kind: kind, To: impl.PlcFront, From: place, Tx: tx}
}

func msgCan(place, tx int) impl.MsgMsg {
	return sentBy(impl.MsgCan, place, tx)
}

func msgCant(place, tx int) impl.MsgMsg {
	return sentBy(impl.MsgCant, place, tx)
}

func msgKnow(place, tx int) impl.MsgMsg {
	return sentBy(impl.MsgKnow, place, tx)
}

func hear(place int, d impl.LogDisk, m impl.MsgMsg) heard {
	after, sent := impl.PlcHear(place, d, m)
	return heard{place: place, before: d, m: m, after: after, sent: sent}
}

// hearAll lets a service hear messages one after the other, and returns its log.
func hearAll(place int, d impl.LogDisk, list ...impl.MsgMsg) impl.LogDisk {
	for _, m := range list {
		d, _ = impl.PlcHear(place, d, m)
	}
	return d
}

// added returns the record that was appended; false if there is none.
func (h heard) added() (impl.LogNote, bool) {
	if len(h.after.Notes) <= len(h.before.Notes) {
		return impl.LogNote{}, false
	}
	return h.after.Notes[len(h.before.Notes)], true
}

// label tells what was heard, written and sent, by their kinds.
func (h heard) label() string {
	n, _ := h.added()
	kind := 0
	if len(h.sent) > 0 {
		kind = h.sent[0].Kind
	}
	return fmt.Sprint(h.place, h.m.Kind, n.Kind, kind)
}

func (h heard) String() string {
	return fmt.Sprintf("place %d, %v, %v: got %v, %v", h.place, h.before, h.m, h.after, h.sent)
}

// allSafe forces every record.
func allSafe(notes ...impl.LogNote) impl.LogDisk {
	return disk(len(notes), notes...)
}

// padded has n records: acknowledgements, which no service depends on, and then the given ones.
func padded(n int, notes ...impl.LogNote) impl.LogDisk {
	return allSafe(append(slices.Repeat([]impl.LogNote{end(0)}, n-len(notes)), notes...)...)
}

// after is the log of a service with one more record; only an abort is not forced.
func after(d impl.LogDisk, added ...impl.LogNote) impl.LogDisk {
	out := impl.LogDisk{Notes: append(slices.Clone(d.Notes), added...), Safe: d.Safe}
	for _, n := range added {
		if n.Kind != impl.LogNo {
			out.Safe = len(out.Notes)
		}
	}
	return out
}

func wantHeard(t *testing.T, what string, place int, d impl.LogDisk, m impl.MsgMsg, want impl.LogDisk, sent ...impl.MsgMsg) {
	t.Helper()
	h := hear(place, d, m)
	if !sameDisk(h.after, want) || !slices.Equal(h.sent, sent) {
		t.Errorf("%s: %v, want %v, %v", what, h, want, sent)
	}
}

// crashes returns a log as it is, with no or with all records forced, and as a crash leaves it that took records about a transaction from its end.
func crashes(d impl.LogDisk, tx int) []impl.LogDisk {
	out := []impl.LogDisk{d, disk(0, d.Notes...), allSafe(d.Notes...)}
	for _, lost := range [][]impl.LogNote{{yes(tx)}, {no(tx)}, {ready(tx, []string{"s1", "c1", "f1", "u1", "a1"}), no(tx)}, {end(tx)}} {
		notes := append(slices.Clone(d.Notes), lost...)
		if len(notes) <= impl.LogMost {
			out = append(out, impl.DiskFall(disk(len(d.Notes), notes...), 0))
		}
	}
	return out
}

// wantHeardAlways is wantHeard with and without a crash before the message.
func wantHeardAlways(t *testing.T, what string, place int, d impl.LogDisk, m impl.MsgMsg, added []impl.LogNote, sent ...impl.MsgMsg) {
	t.Helper()
	for _, left := range crashes(d, m.Tx) {
		wantHeard(t, what, place, left, m, after(left, added...), sent...)
	}
}

// modelHear is PlcHear for valid arguments, by the models of the log and of the plans.
func modelHear(place int, d impl.LogDisk, m impl.MsgMsg) (impl.LogDisk, []impl.MsgMsg) {
	kind, full := modelKind(d.Notes, m.Tx), len(d.Notes) == 120
	switch {
	case m.Kind == impl.MsgAsk && (kind == impl.LogReady || kind == impl.LogYes):
		return d, []impl.MsgMsg{msgCan(place, m.Tx)}
	case m.Kind == impl.MsgAsk:
		p, ok := modelPrepare(place, d, m)
		if !ok || kind == impl.LogNo {
			return d, []impl.MsgMsg{msgCant(place, m.Tx)}
		}
		return after(d, ready(m.Tx, p.Locks, p.Writes...)), []impl.MsgMsg{msgCan(place, m.Tx)}
	case m.Kind == impl.MsgYes && kind != impl.LogReady:
		return d, []impl.MsgMsg{msgKnow(place, m.Tx)}
	case m.Kind == impl.MsgYes && !full:
		return after(d, yes(m.Tx)), []impl.MsgMsg{msgKnow(place, m.Tx)}
	case m.Kind == impl.MsgNo && kind == impl.LogReady && !full:
		return after(d, no(m.Tx)), nil
	}
	return d, nil
}

// modelPrepare returns the plan of a transaction that is not in the log, and whether the service can prepare it.
func modelPrepare(place int, d impl.LogDisk, m impl.MsgMsg) (impl.OpPlan, bool) {
	s := modelFold(d.Notes)
	if !slices.Contains(modelPlaces(m.Op.Kind), place) || !impl.PlcOk(place, s) {
		return impl.OpPlan{}, false
	}
	p := modelPlan(place, s, m.Tx, m.Op)
	room := len(d.Notes)+len(modelOpen(d.Notes))+2 <= 120
	return p, p.Ok && room && !commonKey(p.Locks, modelLocks(d.Notes))
}

// nextAsk fits the store of the service in most cases.
func nextAsk(r *rand.Rand, place int, d impl.LogDisk, tx int) impl.MsgMsg {
	list := impl.GloNew()
	list[place-impl.PlcIn] = modelFold(d.Notes)
	o := nextOp(r, list)
	for range 6 {
		if slices.Contains(modelPlaces(o.Kind), place) {
			break
		}
		o = nextOp(r, list)
	}
	return msgAsk(place, tx, o)
}

// nextMessage is often about a transaction that is prepared.
func nextMessage(r *rand.Rand, place int, d impl.LogDisk) impl.MsgMsg {
	tx, open := r.Intn(impl.TxMost+1), modelOpen(d.Notes)
	if len(open) > 0 && r.Intn(2) == 0 {
		tx = open[r.Intn(len(open))]
	}
	switch r.Intn(5) {
	case 0, 1, 2:
		return nextAsk(r, place, d, tx)
	case 3:
		return msgYes(place, tx)
	}
	return msgNo(place, tx)
}

// randomHeard starts with the empty log; a message is sometimes heard again, and the service sometimes crashes, so that its log is one that a service can have.
func randomHeard(r *rand.Rand, place, length int) []heard {
	var out []heard
	var d impl.LogDisk
	for range length {
		m := nextMessage(r, place, d)
		if len(out) > 0 && r.Intn(8) == 0 {
			m = out[r.Intn(len(out))].m
		}
		if r.Intn(12) == 0 {
			d = impl.DiskFall(d, r.Intn(3))
		}
		h := hear(place, d, m)
		out = append(out, h)
		d = h.after
	}
	return out
}

// randomPlaceDisk is valid, but no service has to be able to have it: transactions are prepared more than once, share locks, have several outcomes; often there is little room.
func randomPlaceDisk(r *rand.Rand, place int) impl.LogDisk {
	var d impl.LogDisk
	for range r.Intn(16) {
		tx := fewTxs()[r.Intn(len(fewTxs()))]
		n := randomNote(r, []int{tx})
		if n.Kind == impl.LogReady {
			p := modelPlan(place, randomPlaceStore(r, place), tx, randomOpAt(r, place))
			n = ready(tx, p.Locks, p.Writes...)
		}
		d.Notes = append(d.Notes, n)
	}
	if r.Intn(3) == 0 {
		d.Notes = padded(impl.LogMost-r.Intn(9), d.Notes...).Notes
	}
	d.Safe = r.Intn(len(d.Notes) + 1)
	return d
}

// placeLabels lists what each service has to hear, write and send in a random test.
func placeLabels(place int) []string {
	var out []string
	for _, x := range [][3]int{
		{impl.MsgAsk, impl.LogReady, impl.MsgCan}, {impl.MsgAsk, 0, impl.MsgCan}, {impl.MsgAsk, 0, impl.MsgCant},
		{impl.MsgYes, impl.LogYes, impl.MsgKnow}, {impl.MsgYes, 0, impl.MsgKnow}, {impl.MsgNo, impl.LogNo, 0}, {impl.MsgNo, 0, 0},
	} {
		out = append(out, fmt.Sprint(place, x[0], x[1], x[2]))
	}
	return out
}

func wantLabels(t *testing.T, count map[string]int) {
	t.Helper()
	for _, place := range services() {
		for _, label := range placeLabels(place) {
			if count[label] < 40 {
				t.Errorf("place, heard, written and sent %s: only %d", label, count[label])
			}
		}
	}
}

// everyHeard hands what services hear from the empty log on to a check.
func everyHeard(t *testing.T, seed int64, check func(h heard)) {
	t.Helper()
	r, count := rand.New(rand.NewSource(seed)), map[string]int{}
	for i := range placeRounds {
		for _, h := range randomHeard(r, services()[i%3], 70) {
			count[h.label()]++
			check(h)
			if t.Failed() {
				return
			}
		}
	}
	wantLabels(t, count)
}

// everyLog hands what services hear with any valid log to a check, also with logs whose store is not valid for the service.
func everyLog(t *testing.T, seed int64, check func(h heard)) {
	t.Helper()
	r, count := rand.New(rand.NewSource(seed)), map[string]int{}
	for i := range 30 * placeRounds {
		place := services()[i%3]
		d := randomPlaceDisk(r, place)
		if r.Intn(10) == 0 {
			d = randomDisk(r, 10)
		}
		h := hear(place, d, nextMessage(r, place, d))
		count[h.label()]++
		check(h)
		if t.Failed() {
			return
		}
	}
	wantLabels(t, count)
}
