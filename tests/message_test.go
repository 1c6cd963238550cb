package tests

import (
	"math/rand"
	"slices"
	"testing"

	"loop.example/janitor/impl"
)

// TestMsgConstants: the numbers of the document's table.
func TestMsgConstants(t *testing.T) {
	got := []int{impl.MsgAsk, impl.MsgYes, impl.MsgNo, impl.MsgCan, impl.MsgCant, impl.MsgKnow, impl.MsgWhat}
	if !slices.Equal(got, []int{1, 2, 3, 4, 5, 6, 7}) {
		t.Errorf("the kinds are %v", got)
	}
}

// someMessages has every kind, from or to every service, about the first, the last and another transaction; MsgAsk with every kind of operation, also with one that is not executed at the service.
func someMessages() []impl.MsgMsg {
	var out []impl.MsgMsg
	for _, place := range services() {
		for _, tx := range []int{0, 1, 17, impl.TxMost} {
			out = append(out, msgYes(place, tx), msgNo(place, tx))
			for kind := impl.MsgCan; kind <= impl.MsgWhat; kind++ {
				out = append(out, sentBy(kind, place, tx))
			}
			for _, o := range someOps() {
				out = append(out, msgAsk(place, tx, o))
			}
		}
	}
	return out
}

func badMessageKinds() []int {
	return []int{0, -1, -2, impl.MsgWhat + 1, impl.MsgWhat + 2, 1<<32 + 1, 1<<63 - 1, -1 << 63}
}

// invalidMessages changes one part of a valid message at a time.
func invalidMessages() []impl.MsgMsg {
	out := []impl.MsgMsg{{}}
	for _, m := range someMessages() {
		for _, kind := range badMessageKinds() {
			bad := m
			bad.Kind = kind
			out = append(out, bad)
		}
		for _, tx := range badTxs() {
			bad := m
			bad.Tx = tx
			out = append(out, bad)
		}
		out = append(out, misdirected(m)...)
		for _, o := range otherOps(m) {
			bad := m
			bad.Op = o
			out = append(out, bad)
		}
	}
	return out
}

// misdirected has To and From exchanged, equal, both services, or one of them no place at all.
func misdirected(m impl.MsgMsg) []impl.MsgMsg {
	back, toItself, fromItself := m, m, m
	back.To, back.From = m.From, m.To
	toItself.To, fromItself.From = m.From, m.To
	out := []impl.MsgMsg{back, toItself, fromItself}
	for _, place := range badPlaces() {
		to, from := m, m
		to.To, from.From = place, place
		if m.To != impl.PlcFront || place != impl.PlcFront {
			out = append(out, to)
		}
		if m.From != impl.PlcFront || place != impl.PlcFront {
			out = append(out, from)
		}
	}
	for _, place := range services() {
		between := m
		between.To, between.From = place, place%3+1
		out = append(out, between)
	}
	return out
}

// otherOps lists the operations that a message of this kind cannot have.
func otherOps(m impl.MsgMsg) []impl.OpOp {
	if m.Kind == impl.MsgAsk {
		return append([]impl.OpOp{{}}, invalidOps()[:40]...)
	}
	return append(someOps(), impl.OpOp{Who: 1}, impl.OpOp{In: 1}, impl.OpOp{Code: 1}, impl.OpOp{Sec: 1}, impl.OpOp{Fam: 1}, impl.OpOp{Gen: 1}, impl.OpOp{Kind: -1})
}

// modelMsgOk reads the table of the kinds by its rows.
func modelMsgOk(m impl.MsgMsg) bool {
	service, front := m.To, m.From
	if m.Kind > 3 {
		service, front = m.From, m.To
	}
	opOk := m.Op == impl.OpOp{}
	if m.Kind == 1 {
		opOk = modelOpOk(m.Op)
	}
	return m.Kind >= 1 && m.Kind <= 7 && front == 0 && service >= 1 && service <= 3 && m.Tx >= 0 && m.Tx <= 29 && opOk
}

// TestPromise32: a valid message with To and From exchanged is invalid; only MsgAsk has an operation.
func TestPromise32(t *testing.T) {
	for _, m := range someMessages() {
		if !impl.MsgOk(m) {
			t.Errorf("%v is invalid", m)
		}
		back := m
		back.To, back.From = m.From, m.To
		if impl.MsgOk(back) {
			t.Errorf("%v is valid in both directions", m)
		}
		other := m
		other.Op = impl.OpOp{}
		if m.Kind != impl.MsgAsk {
			other.Op = opIn(1, 2)
		}
		if impl.MsgOk(other) {
			t.Errorf("%v is valid", other)
		}
	}
}

// TestPromise32Invalid: another kind, direction or place, a transaction out of its bounds, an operation that is invalid, missing or too many.
func TestPromise32Invalid(t *testing.T) {
	for _, m := range invalidMessages() {
		if impl.MsgOk(m) {
			t.Errorf("%v is valid", m)
		}
	}
	for _, o := range invalidOps() {
		for _, place := range services() {
			if m := msgAsk(place, 1, o); impl.MsgOk(m) {
				t.Errorf("%v is valid", m)
			}
		}
	}
}

// TestPromise32Model: every kind with every direction, with and without an operation.
func TestPromise32Model(t *testing.T) {
	r, count := rand.New(rand.NewSource(32)), map[bool]int{}
	for kind := -1; kind <= 9; kind++ {
		for to := -1; to <= 5; to++ {
			for from := -1; from <= 5; from++ {
				for _, tx := range []int{-1, 0, 29, 30} {
					for _, o := range []impl.OpOp{{}, randomOp(r), invalidOps()[r.Intn(len(invalidOps()))]} {
						m := impl.MsgMsg{Kind: kind, To: to, From: from, Tx: tx, Op: o}
						want := modelMsgOk(m)
						count[want]++
						if impl.MsgOk(m) != want {
							t.Errorf("%v: want %v", m, want)
						}
					}
				}
			}
		}
	}
	// Seven kinds, three services and two transactions are valid, each with the one operation that fits.
	if count[true] != 7*3*2 {
		t.Errorf("valid are %d", count[true])
	}
}
