package tests

import (
	"fmt"
	"slices"
	"testing"

	"loop.example/janitor/impl"
)

// TestHearModel: every service does, with every valid log, what the document says.
func TestHearModel(t *testing.T) {
	check := func(h heard) {
		want, sent := modelHear(h.place, h.before, h.m)
		wantHeard(t, "model", h.place, h.before, h.m, want, sent...)
	}
	everyHeard(t, 50, check)
	everyLog(t, 51, check)
}

// lifeStep is a transaction with the record that prepares it, its outcome, and the items of the store afterwards.
type lifeStep struct {
	o     impl.OpOp
	ready impl.LogNote
	yes   bool
	items []impl.StoItem
}

func lives() map[int][]lifeStep {
	s2, f41, f42 := item("s2", 1), item("f4", 1, 1, 1), item("f4", 1, 2, 1)
	return map[int][]lifeStep{
		impl.PlcIn: {
			{opIn(1, 2), readyTo(0, set("s2", 1)), false, nil},
			{opIn(1, 2), readyTo(1, set("s2", 1)), true, []impl.StoItem{s2}},
			{opLet(1, 2, 3, 7), ready(2, []string{"s2"}), true, []impl.StoItem{s2}},
			{opLet(1, 2, 4, 7), ready(3, []string{"s2"}), false, []impl.StoItem{s2}},
			{opOut(1, 2), readyTo(4, del("s2")), false, []impl.StoItem{s2}},
			{opOut(1, 2), readyTo(5, del("s2")), true, nil},
		},
		impl.PlcMay: {
			{opLet(1, 2, 3, 7), readyTo(0, set("c3", 1, 5672)), false, nil},
			{opLet(1, 2, 3, 7), readyTo(1, set("c3", 1, 5672)), true, []impl.StoItem{item("c3", 1, 5672)}},
			{opTrade(3, 7, 4), ready(2, []string{"c3", "f4", "u1"}, del("c3"), set("f4", 1, 1, 1)), false, []impl.StoItem{item("c3", 1, 5672)}},
			{opTrade(3, 7, 4), ready(3, []string{"c3", "f4", "u1"}, del("c3"), set("f4", 1, 1, 1)), true, []impl.StoItem{f41}},
			{opNext(4, 1), ready(4, []string{"f4", "u1"}, set("f4", 1, 2, 1)), true, []impl.StoItem{f42}},
			{opNext(4, 1), ready(5, []string{"f4", "u1"}, set("f4", 1, 2, 0)), false, []impl.StoItem{f42}},
			{opOut(1, 2), ready(6, []string{"u1", "f4"}, set("f4", 1, 2, 0)), true, []impl.StoItem{item("f4", 1, 2, 0)}},
			{opOut(1, 3), ready(7, []string{"u1"}), true, []impl.StoItem{item("f4", 1, 2, 0)}},
		},
		impl.PlcDone: {
			{opIn(1, 2), readyTo(0, set("a0", impl.OpIn)), true, []impl.StoItem{item("a0", 1)}},
			{opLet(1, 2, 3, 7), readyTo(1, set("a1", impl.OpLet)), false, []impl.StoItem{item("a0", 1)}},
			{opTrade(3, 7, 4), readyTo(2, set("a2", impl.OpTrade)), true, []impl.StoItem{item("a0", 1), item("a2", 3)}},
			{opNext(4, 1), readyTo(3, set("a3", impl.OpNext)), true, []impl.StoItem{item("a0", 1), item("a2", 3), item("a3", 4)}},
			{opOut(1, 2), readyTo(4, set("a4", impl.OpOut)), true, []impl.StoItem{item("a0", 1), item("a2", 3), item("a3", 4), item("a4", 5)}},
		},
	}
}

// TestParticipantLife: transactions are asked, prepared and committed, or aborted, at each of the three services, one after the other.
func TestParticipantLife(t *testing.T) {
	for place, life := range lives() {
		var d impl.LogDisk
		for tx, x := range life {
			what := fmt.Sprintf("place %d, transaction %d", place, tx)
			asked := after(d, x.ready)
			wantHeard(t, what+" is asked", place, d, msgAsk(place, tx, x.o), asked, msgCan(place, tx))
			wantOpen(t, what+" is prepared", asked, []int{tx}, x.ready.Locks)
			if x.yes {
				d = after(asked, yes(tx))
				wantHeard(t, what+" is committed", place, asked, msgYes(place, tx), d, msgKnow(place, tx))
			} else {
				d = after(asked, no(tx))
				wantHeard(t, what+" is aborted", place, asked, msgNo(place, tx), d)
			}
			wantStore(t, what, impl.DiskFold(d), store(x.items...))
			wantOpen(t, what+" is over", d, nil, nil)
		}
	}
}

// TestAskLocked: a key that another prepared transaction has locked refuses an operation that is possible otherwise, until that one has its outcome; other keys do not.
func TestAskLocked(t *testing.T) {
	for _, x := range []struct {
		what         string
		place        int
		committed    impl.LogNote
		first        impl.OpOp
		locks        []string
		second, free impl.OpOp
	}{
		{"two logins with one session", impl.PlcIn, ready(9, nil), opIn(1, 2), []string{"s2"}, opIn(2, 2), opIn(1, 3)},
		{"two authorizations in one session", impl.PlcIn, readyTo(9, set("s2", 1)), opLet(1, 2, 3, 7), []string{"s2"}, opLet(1, 2, 4, 7), opIn(1, 3)},
		{"a logout during an authorization", impl.PlcIn, readyTo(9, set("s2", 1)), opLet(1, 2, 3, 7), []string{"s2"}, opOut(1, 2), opIn(1, 1)},
		{"two authorizations of one code", impl.PlcMay, ready(9, nil), opLet(1, 2, 3, 7), []string{"c3"}, opLet(1, 2, 3, 7), opLet(1, 2, 4, 7)},
		{"two exchanges of one code", impl.PlcMay, readyTo(9, set("c3", 1, 5672)), opTrade(3, 7, 4), []string{"c3", "f4", "u1"}, opTrade(3, 7, 5), opLet(1, 2, 4, 7)},
		{"two exchanges of one user", impl.PlcMay, readyTo(9, set("c3", 1, 5672), set("c5", 1, 5672), set("c6", 2, 5672)), opTrade(3, 7, 4), []string{"c3", "f4", "u1"}, opTrade(5, 7, 5), opTrade(6, 7, 5)},
		{"two exchanges for one family", impl.PlcMay, readyTo(9, set("c3", 1, 5672), set("c6", 2, 5672)), opTrade(3, 7, 4), []string{"c3", "f4", "u1"}, opTrade(6, 7, 4), opTrade(6, 7, 5)},
		{"one token twice", impl.PlcMay, readyTo(9, set("f4", 1, 2, 1)), opNext(4, 2), []string{"f4", "u1"}, opNext(4, 2), opLet(1, 2, 3, 7)},
		{"a logout during a refresh", impl.PlcMay, readyTo(9, set("f4", 1, 2, 1)), opNext(4, 2), []string{"f4", "u1"}, opOut(1, 2), opOut(2, 2)},
		{"a refresh during a logout", impl.PlcMay, readyTo(9, set("f4", 1, 2, 1), set("f5", 2, 2, 1)), opOut(1, 2), []string{"u1", "f4"}, opNext(4, 2), opNext(5, 2)},
		{"an exchange during a logout without families", impl.PlcMay, readyTo(9, set("c3", 1, 5672), set("c6", 2, 5672)), opOut(1, 2), []string{"u1"}, opTrade(3, 7, 4), opTrade(6, 7, 4)},
	} {
		begun := allSafe(x.committed, yes(9))
		d := hearAll(x.place, begun, msgAsk(x.place, 3, x.first))
		wantOpen(t, x.what, d, []int{3}, x.locks)
		second, free := msgAsk(x.place, 4, x.second), msgAsk(x.place, 4, x.free)
		wantHeardAlways(t, x.what, x.place, d, second, nil, msgCant(x.place, 4))
		for _, m := range []impl.MsgMsg{second, free} {
			p := modelPlan(x.place, modelFold(begun.Notes), 4, m.Op)
			wantHeardAlways(t, x.what+" alone", x.place, begun, m, []impl.LogNote{ready(4, p.Locks, p.Writes...)}, msgCan(x.place, 4))
		}
		p := modelPlan(x.place, modelFold(begun.Notes), 4, x.free)
		wantHeardAlways(t, x.what+", with other keys", x.place, d, free, []impl.LogNote{ready(4, p.Locks, p.Writes...)}, msgCan(x.place, 4))
		p = modelPlan(x.place, modelFold(begun.Notes), 4, x.second)
		aborted := hearAll(x.place, d, msgNo(x.place, 3))
		wantHeard(t, x.what+" after an abort", x.place, aborted, second, after(aborted, ready(4, p.Locks, p.Writes...)), msgCan(x.place, 4))
		lost := impl.DiskFall(aborted, 0)
		wantHeard(t, x.what+" after an abort that a crash took", x.place, lost, second, lost, msgCant(x.place, 4))
	}
}

// TestAskLockedReadOnly: keys that are locked and not written are locked too, also those of an earlier record of a transaction that is prepared twice.
func TestAskLockedReadOnly(t *testing.T) {
	d := allSafe(ready(3, []string{"a7", "a4"}), ready(3, []string{"a5"}), ready(6, []string{"a6"}), no(6))
	for _, tx := range []int{4, 5, 7} {
		wantHeardAlways(t, "locked", impl.PlcDone, d, msgAsk(impl.PlcDone, tx, opIn(1, 2)), nil, msgCant(impl.PlcDone, tx))
	}
	wantHeardAlways(t, "aborted", impl.PlcDone, d, msgAsk(impl.PlcDone, 6, opIn(1, 2)), nil, msgCant(impl.PlcDone, 6))
	added := []impl.LogNote{readyTo(8, set("a8", 1))}
	wantHeardAlways(t, "not locked", impl.PlcDone, d, msgAsk(impl.PlcDone, 8, opIn(1, 2)), added, msgCan(impl.PlcDone, 8))
}

// TestAskKnown: MsgAsk for a transaction that is prepared or committed already is answered with MsgCan, whatever operation it has; for one that is aborted with MsgCant; each without a record.
func TestAskKnown(t *testing.T) {
	for _, place := range services() {
		possible := ready(5, []string{"s2", "c3", "a5"})
		for _, o := range []impl.OpOp{opIn(1, 2), opLet(1, 2, 3, 7), opTrade(3, 7, 4), opNext(4, 1), opOut(1, 2)} {
			m := msgAsk(place, 5, o)
			wantHeardAlways(t, "prepared", place, allSafe(possible), m, nil, msgCan(place, 5))
			wantHeardAlways(t, "prepared twice", place, allSafe(possible, possible), m, nil, msgCan(place, 5))
			wantHeardAlways(t, "prepared, without room", place, padded(impl.LogMost, possible), m, nil, msgCan(place, 5))
			wantHeardAlways(t, "committed", place, allSafe(possible, yes(5)), m, nil, msgCan(place, 5))
			wantHeardAlways(t, "committed and acknowledged by all", place, allSafe(possible, yes(5), end(5)), m, nil, msgCan(place, 5))
			wantHeardAlways(t, "committed, without a prepared record", place, allSafe(yes(5)), m, nil, msgCan(place, 5))
			wantHeardAlways(t, "committed, without room", place, padded(impl.LogMost, yes(5)), m, nil, msgCan(place, 5))
			wantHeardAlways(t, "aborted", place, allSafe(possible, no(5)), m, nil, msgCant(place, 5))
			wantHeardAlways(t, "aborted, without a prepared record", place, allSafe(no(5)), m, nil, msgCant(place, 5))
			wantHeardAlways(t, "aborted and acknowledged by all", place, allSafe(no(5), end(5)), m, nil, msgCant(place, 5))
			wantHeardAlways(t, "prepared after an abort", place, allSafe(no(5), possible), m, nil, msgCan(place, 5))
			wantHeardAlways(t, "aborted after a commit", place, allSafe(possible, yes(5), no(5)), m, nil, msgCant(place, 5))
		}
	}
}

// TestAskAfterEnd: an acknowledgement alone is no outcome, and the outcome of another transaction is none of this one.
func TestAskAfterEnd(t *testing.T) {
	d := allSafe(end(5), no(4), yes(6))
	added := []impl.LogNote{readyTo(5, set("s2", 1))}
	wantHeardAlways(t, "acknowledged", impl.PlcIn, d, msgAsk(impl.PlcIn, 5, opIn(1, 2)), added, msgCan(impl.PlcIn, 5))
}

// TestAskElsewhere: an operation that is not executed at the service is refused, with every log.
func TestAskElsewhere(t *testing.T) {
	for _, d := range []impl.LogDisk{{}, allSafe(readyTo(1, set("s2", 1)), yes(1)), allSafe(readyTo(1, set("c3", 1, 5672), set("f4", 1, 1, 1)), yes(1))} {
		for _, o := range []impl.OpOp{opTrade(3, 7, 5), opNext(4, 1), opTrade(0, 0, 0), opNext(0, 0)} {
			wantHeardAlways(t, "no session", impl.PlcIn, d, msgAsk(impl.PlcIn, 5, o), nil, msgCant(impl.PlcIn, 5))
		}
		for _, o := range []impl.OpOp{opIn(1, 2), opIn(0, 0), opIn(9, 9)} {
			wantHeardAlways(t, "no grant", impl.PlcMay, d, msgAsk(impl.PlcMay, 5, o), nil, msgCant(impl.PlcMay, 5))
		}
	}
}

// TestAskImpossible: a plan that is not possible with the committed writes is refused; writes that are not committed do not count.
func TestAskImpossible(t *testing.T) {
	in := allSafe(readyTo(1, set("s2", 1)), yes(1), readyTo(2, set("s3", 1)), no(2))
	for _, o := range []impl.OpOp{opIn(1, 2), opIn(2, 2), opLet(1, 3, 3, 7), opLet(2, 2, 3, 7), opOut(1, 3), opOut(2, 2)} {
		wantHeardAlways(t, "session", impl.PlcIn, in, msgAsk(impl.PlcIn, 5, o), nil, msgCant(impl.PlcIn, 5))
	}
	wantHeardAlways(t, "session", impl.PlcIn, in, msgAsk(impl.PlcIn, 5, opIn(2, 3)), []impl.LogNote{readyTo(5, set("s3", 2))}, msgCan(impl.PlcIn, 5))
	may := allSafe(readyTo(1, set("c3", 1, 5672), set("f4", 1, 2, 1), set("f5", 1, 2, 0)), yes(1), readyTo(2, set("c6", 1, 5672)), no(2))
	for _, o := range []impl.OpOp{
		opLet(1, 2, 3, 7), opTrade(3, 8, 6), opTrade(3, 7, 4), opTrade(3, 7, 5), opTrade(6, 7, 6), opNext(4, 0), opNext(4, 3), opNext(5, 2), opNext(5, 1), opNext(6, 1),
	} {
		wantHeardAlways(t, "grant", impl.PlcMay, may, msgAsk(impl.PlcMay, 5, o), nil, msgCant(impl.PlcMay, 5))
	}
	done := allSafe(readyTo(1, set("a5", 1)), yes(1))
	wantHeardAlways(t, "audit", impl.PlcDone, done, msgAsk(impl.PlcDone, 5, opIn(1, 2)), nil, msgCant(impl.PlcDone, 5))
	wantHeardAlways(t, "audit", impl.PlcDone, done, msgAsk(impl.PlcDone, 6, opIn(1, 2)), []impl.LogNote{readyTo(6, set("a6", 1))}, msgCan(impl.PlcDone, 6))
}

// TestAskInvalidStore: a log whose DiskFold is not valid for the service refuses what is possible otherwise; MsgYes and MsgNo do not depend on the store.
func TestAskInvalidStore(t *testing.T) {
	possible := map[int]impl.OpOp{impl.PlcIn: opIn(1, 2), impl.PlcMay: opLet(1, 2, 3, 7), impl.PlcDone: opNext(4, 1)}
	for _, place := range services() {
		bad := []impl.StoWrite{set("x1", 1), set("s10", 1), set("s1", 10), set("s1", 1, 1), set("c1", 1), set("f1", 1, 0, 1), set("f1", 1, 1, 2), set("a1", 1, 1), set("u1", 1)}
		for _, w := range bad {
			d := allSafe(readyTo(1, w), yes(1), ready(6, []string{"x9"}))
			m := msgAsk(place, 5, possible[place])
			wantHeardAlways(t, "an invalid store", place, d, m, nil, msgCant(place, 5))
			wantHeardAlways(t, "an invalid store", place, d, msgYes(place, 6), []impl.LogNote{yes(6)}, msgKnow(place, 6))
			wantHeardAlways(t, "an invalid store", place, d, msgNo(place, 6), []impl.LogNote{no(6)})
			p := modelPlan(place, store(), 5, m.Op)
			added := []impl.LogNote{ready(5, p.Locks, p.Writes...)}
			wantHeardAlways(t, "not committed", place, allSafe(readyTo(1, w), no(1)), m, added, msgCan(place, 5))
			wantHeardAlways(t, "prepared", place, allSafe(readyTo(1, w)), m, added, msgCan(place, 5))
		}
	}
}

// openNotes prepares n transactions, from 10 on, that lock nothing.
func openNotes(n int) []impl.LogNote {
	var out []impl.LogNote
	for i := range n {
		out = append(out, ready(10+i, nil))
	}
	return out
}

// TestAskRoom: a log has room for one more transaction if there is room for its record, its outcome, and one outcome for each that is open; with room for one less it is refused.
func TestAskRoom(t *testing.T) {
	possible := map[int]impl.OpOp{impl.PlcIn: opIn(1, 2), impl.PlcMay: opLet(1, 2, 3, 7), impl.PlcDone: opNext(4, 1)}
	for _, place := range services() {
		m := msgAsk(place, 5, possible[place])
		p := modelPlan(place, store(), 5, m.Op)
		added := []impl.LogNote{ready(5, p.Locks, p.Writes...)}
		for open := range 12 {
			notes := openNotes(open)
			wantHeardAlways(t, "just room", place, padded(impl.LogMost-open-2, notes...), m, added, msgCan(place, 5))
			for less := 1; less <= open+2; less++ {
				wantHeardAlways(t, "less room", place, padded(impl.LogMost-open-2+less, notes...), m, nil, msgCant(place, 5))
			}
			// One that is prepared twice, or has its outcome, does not need room twice, or at all.
			if open > 0 {
				twice := append(slices.Clone(notes), notes[0])
				wantHeardAlways(t, "just room, one prepared twice", place, padded(impl.LogMost-open-2, twice...), m, added, msgCan(place, 5))
				over := append(slices.Clone(notes), no(10))
				wantHeardAlways(t, "just room, one aborted", place, padded(impl.LogMost-open-1, over...), m, added, msgCan(place, 5))
				wantHeardAlways(t, "less room, one aborted", place, padded(impl.LogMost-open, over...), m, nil, msgCant(place, 5))
			}
		}
	}
}

// TestRoomForOutcomes: after the last transaction that finds room, every open one can be committed, or aborted; then the log is full.
func TestRoomForOutcomes(t *testing.T) {
	const open = 4
	begun := padded(impl.LogMost-open-2, openNotes(open)...)
	d := hearAll(impl.PlcIn, begun, msgAsk(impl.PlcIn, 5, opIn(1, 2)))
	for i, tx := range []int{12, 5, 10, 13, 11} {
		if i%2 == 0 {
			wantHeardAlways(t, "commit", impl.PlcIn, d, msgYes(impl.PlcIn, tx), []impl.LogNote{yes(tx)}, msgKnow(impl.PlcIn, tx))
			d = hearAll(impl.PlcIn, d, msgYes(impl.PlcIn, tx))
		} else {
			wantHeardAlways(t, "abort", impl.PlcIn, d, msgNo(impl.PlcIn, tx), []impl.LogNote{no(tx)})
			d = hearAll(impl.PlcIn, d, msgNo(impl.PlcIn, tx))
		}
	}
	if len(d.Notes) != impl.LogMost || len(impl.DiskOpen(d)) != 0 {
		t.Errorf("%d records, open are %v", len(d.Notes), impl.DiskOpen(d))
	}
}

// TestOutcomeEdges: MsgYes and MsgNo where the transaction is prepared and where it is not, with room and without; MsgNo sends nothing, and MsgYes only then nothing if there is no room for its record.
func TestOutcomeEdges(t *testing.T) {
	for _, place := range services() {
		wantOutcome(t, place, msgYes(place, 5), yes(5), msgKnow(place, 5))
		wantOutcome(t, place, msgNo(place, 5), no(5))
	}
}

func wantOutcome(t *testing.T, place int, m impl.MsgMsg, outcome impl.LogNote, sent ...impl.MsgMsg) {
	t.Helper()
	open, other := ready(5, []string{"x1"}, set("x1", 1)), ready(6, []string{"x2"})
	added := []impl.LogNote{outcome}
	wantHeardAlways(t, "prepared", place, allSafe(open), m, added, sent...)
	wantHeardAlways(t, "prepared, another one after it", place, allSafe(open, other, yes(6)), m, added, sent...)
	wantHeardAlways(t, "prepared, and an acknowledgement", place, allSafe(open, end(5)), m, added, sent...)
	wantHeardAlways(t, "the last room", place, padded(impl.LogMost-1, open), m, added, sent...)
	wantHeardAlways(t, "no room", place, padded(impl.LogMost, open), m, nil)
	for _, notes := range [][]impl.LogNote{{other}, {open, yes(5)}, {open, no(5)}, {no(5)}, {yes(5)}, {end(5)}, {other, yes(6)}} {
		for _, n := range []int{len(notes), impl.LogMost - 1, impl.LogMost} {
			wantHeardAlways(t, "not prepared", place, padded(n, notes...), m, nil, sent...)
		}
	}
	wantHeard(t, "an empty log", place, impl.LogDisk{}, m, impl.LogDisk{}, sent...)
}

// TestHearInvalid: zero values for a place that is no service, an invalid log, an invalid message, one with To and From exchanged, and one that is addressed to another service.
func TestHearInvalid(t *testing.T) {
	d := allSafe(readyTo(5, set("a5", 1)), readyTo(6, set("a6", 1)), yes(6))
	for _, m := range someMessages() {
		for _, place := range append(badPlaces(), services()...) {
			toIt := place >= impl.PlcIn && place <= impl.PlcDone && m.Kind <= impl.MsgNo && m.To == place
			if !toIt {
				wantHeard(t, "not a message to this service", place, d, m, impl.LogDisk{})
				wantHeard(t, "not a message to this service", place, impl.LogDisk{}, m, impl.LogDisk{})
			}
		}
	}
	for _, m := range invalidMessages() {
		for _, place := range append(services(), m.To, m.From) {
			wantHeard(t, "an invalid message", place, d, m, impl.LogDisk{})
		}
	}
	for _, bad := range invalidDisks() {
		for _, place := range services() {
			for _, m := range []impl.MsgMsg{msgAsk(place, 1, opOut(1, 2)), msgAsk(place, 9, opLet(1, 2, 3, 7)), msgYes(place, 1), msgYes(place, 2), msgYes(place, 9), msgNo(place, 2)} {
				wantHeard(t, "an invalid log", place, bad, m, impl.LogDisk{})
			}
		}
	}
}

// TestHearBackwards: an answer to the coordinator is none of a service, nor is a message to it with To and From exchanged.
func TestHearBackwards(t *testing.T) {
	for _, place := range services() {
		d := allSafe(ready(5, []string{"x1"}))
		for _, m := range []impl.MsgMsg{msgAsk(place, 5, opOut(1, 2)), msgYes(place, 5), msgNo(place, 5)} {
			back := m
			back.To, back.From = m.From, m.To
			for _, at := range []int{impl.PlcFront, place} {
				wantHeard(t, "exchanged", at, d, back, impl.LogDisk{})
			}
			for _, other := range services() {
				if other != place {
					wantHeard(t, "to another service", other, d, m, impl.LogDisk{})
				}
			}
		}
	}
}
