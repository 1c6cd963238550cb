package tests

import (
	"fmt"
	"math/rand"
	"slices"
	"testing"

	"loop.example/janitor/impl"
)

// TestPromise6: after PlcHear the log is what it was with at most one more record: prepared, forced, if the plan is possible and no key is locked; committed, forced, or aborted, only if it was prepared without an outcome; and the store changes only with a commit.
func TestPromise6(t *testing.T) {
	check := func(h heard) {
		wantOneMore(t, h)
		wantSameStore(t, h)
	}
	everyHeard(t, 6, check)
	everyLog(t, 60, check)
}

func wantOneMore(t *testing.T, h heard) {
	t.Helper()
	was := len(h.before.Notes)
	n, added := h.added()
	if len(h.after.Notes) < was || len(h.after.Notes) > was+1 || !slices.EqualFunc(h.after.Notes[:was], h.before.Notes, sameNote) {
		t.Fatalf("not what it was with at most one more record: %v", h)
	}
	if h.m.Kind == impl.MsgAsk && modelKind(h.before.Notes, h.m.Tx) == 0 {
		wantPrepared(t, h)
	} else if added && (modelKind(h.before.Notes, h.m.Tx) != impl.LogReady || !sameNote(n, outcomeOf(h.m))) {
		t.Fatalf("one more record: %v", h)
	}
	wantSafe := h.before.Safe
	if added && n.Kind != impl.LogNo {
		wantSafe = was + 1
	}
	if h.after.Safe != wantSafe {
		t.Fatalf("forced are %d, want %d: %v", h.after.Safe, wantSafe, h)
	}
}

// outcomeOf is the only record that a message about a prepared transaction can lead to.
func outcomeOf(m impl.MsgMsg) impl.LogNote {
	switch m.Kind {
	case impl.MsgYes:
		return yes(m.Tx)
	case impl.MsgNo:
		return no(m.Tx)
	}
	return impl.LogNote{}
}

// wantPrepared is for a transaction that is not in the log: it is prepared exactly if it can be.
func wantPrepared(t *testing.T, h heard) {
	t.Helper()
	n, added := h.added()
	p, ok := modelPrepare(h.place, h.before, h.m)
	if added != ok || added && !sameNote(n, ready(h.m.Tx, p.Locks, p.Writes...)) {
		t.Fatalf("prepared %v, want %v, %v: %v", added, ok, p, h)
	}
}

func wantSameStore(t *testing.T, h heard) {
	t.Helper()
	n, _ := h.added()
	if n.Kind != impl.LogYes && !sameStore(impl.DiskFold(h.after), impl.DiskFold(h.before)) {
		t.Fatalf("the store changed without a commit: %v", h)
	}
}

// TestPromise33: PlcHear sends at most one message: MsgCan only if the transaction is then prepared or committed; MsgCant only if not; MsgKnow after MsgYes, if there is room for the record; and nothing after MsgNo.
func TestPromise33(t *testing.T) {
	count := map[string]int{}
	check := func(h heard) {
		kind := modelKind(h.after.Notes, h.m.Tx)
		var want []impl.MsgMsg
		switch {
		case h.m.Kind == impl.MsgAsk && (kind == impl.LogReady || kind == impl.LogYes):
			want = []impl.MsgMsg{msgCan(h.place, h.m.Tx)}
		case h.m.Kind == impl.MsgAsk:
			want = []impl.MsgMsg{msgCant(h.place, h.m.Tx)}
		case h.m.Kind == impl.MsgYes && kind != impl.LogReady:
			want = []impl.MsgMsg{msgKnow(h.place, h.m.Tx)}
		}
		if !slices.Equal(h.sent, want) {
			t.Fatalf("want %v: %v", want, h)
		}
		for _, m := range h.sent {
			if !impl.MsgOk(m) {
				t.Fatalf("%v is invalid: %v", m, h)
			}
		}
		full := len(h.before.Notes) == impl.LogMost
		if h.m.Kind == impl.MsgYes && kind == impl.LogReady && !full {
			t.Fatalf("not committed, although there is room: %v", h)
		}
		count[fmt.Sprint(h.m.Kind, full, len(want))]++
	}
	everyHeard(t, 33, check)
	everyLog(t, 330, check)
	for _, label := range []string{"1 true 1", "2 true 0", "2 true 1", "3 true 0"} {
		if count[label] < 10 {
			t.Errorf("heard, full and sent %s: only %d", label, count[label])
		}
	}
}

// TestPromise34: a service that receives the same message again at once writes nothing more and sends the same.
func TestPromise34(t *testing.T) {
	check := func(h heard) {
		wantHeard(t, "again", h.place, h.after, h.m, h.after, h.sent...)
	}
	everyHeard(t, 34, check)
	everyLog(t, 340, check)
}

// TestPromise34Edges: every message that leads to a record, and every one that does not, three times; with the last room too.
func TestPromise34Edges(t *testing.T) {
	open := ready(5, []string{"s2"}, set("s2", 1))
	other := ready(6, []string{"s3"}, set("s3", 1))
	for _, x := range []struct {
		what string
		d    impl.LogDisk
		m    impl.MsgMsg
		want []impl.LogNote
		sent []impl.MsgMsg
	}{
		{"prepare", impl.LogDisk{}, msgAsk(impl.PlcIn, 5, opIn(1, 2)), []impl.LogNote{open}, []impl.MsgMsg{msgCan(impl.PlcIn, 5)}},
		{"prepare with just room", padded(impl.LogMost - 2), msgAsk(impl.PlcIn, 5, opIn(1, 2)), []impl.LogNote{open}, []impl.MsgMsg{msgCan(impl.PlcIn, 5)}},
		{"refuse a locked key", allSafe(other), msgAsk(impl.PlcIn, 5, opIn(1, 3)), nil, []impl.MsgMsg{msgCant(impl.PlcIn, 5)}},
		{"refuse for lack of room", padded(impl.LogMost - 1), msgAsk(impl.PlcIn, 5, opIn(1, 2)), nil, []impl.MsgMsg{msgCant(impl.PlcIn, 5)}},
		{"refuse what was aborted", allSafe(open, no(5)), msgAsk(impl.PlcIn, 5, opIn(1, 2)), nil, []impl.MsgMsg{msgCant(impl.PlcIn, 5)}},
		{"commit", allSafe(open), msgYes(impl.PlcIn, 5), []impl.LogNote{yes(5)}, []impl.MsgMsg{msgKnow(impl.PlcIn, 5)}},
		{"commit with the last room", padded(impl.LogMost-1, open), msgYes(impl.PlcIn, 5), []impl.LogNote{yes(5)}, []impl.MsgMsg{msgKnow(impl.PlcIn, 5)}},
		{"commit without room", padded(impl.LogMost, open), msgYes(impl.PlcIn, 5), nil, nil},
		{"commit what is not prepared", allSafe(other), msgYes(impl.PlcIn, 5), nil, []impl.MsgMsg{msgKnow(impl.PlcIn, 5)}},
		{"abort", allSafe(open), msgNo(impl.PlcIn, 5), []impl.LogNote{no(5)}, nil},
		{"abort with the last room", padded(impl.LogMost-1, open), msgNo(impl.PlcIn, 5), []impl.LogNote{no(5)}, nil},
		{"abort without room", padded(impl.LogMost, open), msgNo(impl.PlcIn, 5), nil, nil},
		{"abort what is not prepared", allSafe(other), msgNo(impl.PlcIn, 5), nil, nil},
	} {
		want := after(x.d, x.want...)
		wantHeard(t, x.what, impl.PlcIn, x.d, x.m, want, x.sent...)
		for range 2 {
			wantHeard(t, x.what+" again", impl.PlcIn, want, x.m, want, x.sent...)
		}
	}
}

func wantTick(t *testing.T, what string, place int, d impl.LogDisk, txs ...int) {
	t.Helper()
	var want []impl.MsgMsg
	for _, tx := range txs {
		want = append(want, sentBy(impl.MsgWhat, place, tx))
	}
	if got := impl.PlcTick(place, d); !slices.Equal(got, want) {
		t.Errorf("%s: place %d, %v: got %v, want %v", what, place, d, got, want)
	}
}

// TestPromise35: PlcTick sends one inquiry for each open transaction; after a crash that leaves the forced records it inquires about those that were open, or whose outcome was not forced.
func TestPromise35(t *testing.T) {
	lost := 0
	everyHeard(t, 35, func(h heard) {
		open, doubt := modelOpen(h.after.Notes), inDoubtAfterCrash(h.after)
		wantTick(t, "open", h.place, h.after, open...)
		wantTick(t, "after a crash", h.place, impl.DiskFall(h.after, 0), doubt...)
		if len(doubt) > len(open) {
			lost++
		}
	})
	if lost < 100 {
		t.Errorf("only %d crashes took an outcome", lost)
	}
	everyLog(t, 350, func(h heard) {
		wantTick(t, "any log", h.place, h.before, modelOpen(h.before.Notes)...)
		wantTick(t, "any log after a crash", h.place, impl.DiskFall(h.before, 0), modelOpen(h.before.Notes[:h.before.Safe])...)
	})
}

// inDoubtAfterCrash returns the transactions of a log of a service, where every record but an abort is forced, that are open or have an outcome that is not forced.
func inDoubtAfterCrash(d impl.LogDisk) []int {
	forced := map[int]bool{}
	for _, n := range d.Notes[:d.Safe] {
		forced[n.Tx] = forced[n.Tx] || n.Kind != impl.LogReady
	}
	var out []int
	for _, n := range d.Notes {
		if n.Kind == impl.LogReady && !forced[n.Tx] && !slices.Contains(out, n.Tx) {
			out = append(out, n.Tx)
		}
	}
	return out
}

// TestPromise35Edges: no open transaction, one, several in the order of their first prepared record, each once; an outcome that is forced, and one that a crash takes.
func TestPromise35Edges(t *testing.T) {
	for _, place := range services() {
		wantTick(t, "an empty log", place, impl.LogDisk{})
		wantTick(t, "outcomes alone", place, allSafe(yes(1), no(2), end(3)))
		wantTick(t, "nothing open", place, allSafe(ready(1, nil), yes(1), ready(2, nil), no(2)))
		wantTick(t, "one", place, allSafe(ready(4, []string{"x1"})), 4)
		wantTick(t, "one that is not forced", place, disk(0, ready(4, []string{"x1"})), 4)
		wantTick(t, "one with an acknowledgement", place, allSafe(ready(4, nil), end(4)), 4)
		wantTick(t, "the first and the last transaction", place, allSafe(ready(29, nil), ready(0, nil)), 29, 0)
		several := []impl.LogNote{ready(7, nil), ready(3, nil), ready(9, nil), ready(3, nil), yes(7), ready(1, nil), ready(7, nil), no(9)}
		wantTick(t, "several", place, allSafe(several...), 7, 3, 1)
		wantTick(t, "a lost abort", place, impl.DiskFall(disk(len(several)-1, several...), 0), 7, 3, 9, 1)
		wantTick(t, "an abort that is left", place, impl.DiskFall(disk(len(several)-1, several...), 1), 7, 3, 1)
		wantTick(t, "a full log", place, padded(impl.LogMost, ready(8, nil)), 8)
		asked := hearAll(place, impl.LogDisk{}, msgAsk(place, 6, opOut(1, 2)), msgAsk(place, 2, opOut(2, 3)))
		if place != impl.PlcIn {
			wantTick(t, "asked", place, impl.DiskFall(asked, 0), 6, 2)
			aborted := hearAll(place, asked, msgNo(place, 6))
			wantTick(t, "aborted", place, aborted, 2)
			wantTick(t, "aborted, and lost", place, impl.DiskFall(aborted, 0), 6, 2)
			committed := hearAll(place, aborted, msgYes(place, 2))
			wantTick(t, "committed, which forces the abort too", place, impl.DiskFall(committed, 0))
		}
	}
}

// TestPromise35Invalid: nothing is sent for a place that is no service, or an invalid log.
func TestPromise35Invalid(t *testing.T) {
	for _, place := range badPlaces() {
		wantTick(t, "no service", place, allSafe(ready(4, nil), ready(5, nil)))
		wantTick(t, "no service", place, impl.LogDisk{})
	}
	for _, d := range invalidDisks() {
		for _, place := range append(services(), impl.PlcFront, impl.PlcMany) {
			wantTick(t, "an invalid log", place, d)
		}
	}
}

// TestPromise66: a service that has logged an abort refuses the transaction; and one that is told to abort a transaction that it has not prepared writes nothing.
func TestPromise66(t *testing.T) {
	r, refused := rand.New(rand.NewSource(66)), 0
	check := func(h heard) {
		for tx := range impl.TxMost + 1 {
			kind := modelKind(h.after.Notes, tx)
			if kind == impl.LogNo {
				m := nextAsk(r, h.place, h.after, tx)
				wantHeard(t, "aborted", h.place, h.after, m, h.after, msgCant(h.place, tx))
				refused++
			}
			if kind != impl.LogReady {
				wantHeard(t, "not prepared", h.place, h.after, msgNo(h.place, tx), h.after)
			}
		}
	}
	for i := range placeRounds {
		run := randomHeard(r, services()[i%3], 40)
		check(run[len(run)-1])
	}
	everyLog(t, 660, check)
	if refused < 1000 {
		t.Errorf("only %d are refused", refused)
	}
}

// TestPromise66Edges: what is refused after the abort was possible before it, is possible for another transaction, and is prepared again if a crash has taken the abort.
func TestPromise66Edges(t *testing.T) {
	possible := map[int]impl.OpOp{impl.PlcIn: opIn(1, 2), impl.PlcMay: opLet(1, 2, 3, 7), impl.PlcDone: opTrade(3, 7, 4)}
	for _, place := range services() {
		m := msgAsk(place, 5, possible[place])
		wantHeard(t, "an abort ahead of the question", place, impl.LogDisk{}, msgNo(place, 5), impl.LogDisk{})
		asked := hearAll(place, impl.LogDisk{}, msgNo(place, 5), m)
		if len(asked.Notes) != 1 {
			t.Fatalf("place %d: not prepared: %v", place, asked)
		}
		aborted := after(asked, no(5))
		wantHeard(t, "the abort", place, asked, msgNo(place, 5), aborted)
		for range 2 {
			wantHeard(t, "the question again", place, aborted, m, aborted, msgCant(place, 5))
			wantHeard(t, "the abort again", place, aborted, msgNo(place, 5), aborted)
		}
		left := impl.DiskFall(aborted, 1)
		wantHeard(t, "the abort is left", place, left, m, left, msgCant(place, 5))
		other := msgAsk(place, 6, possible[place])
		p := modelPlan(place, store(), 6, other.Op)
		wantHeard(t, "another transaction", place, aborted, other, after(aborted, ready(6, p.Locks, p.Writes...)), msgCan(place, 6))
		lost := impl.DiskFall(aborted, 0)
		wantHeard(t, "the abort is lost", place, lost, m, lost, msgCan(place, 5))
		wantHeard(t, "the abort is lost, and told again", place, lost, msgNo(place, 5), after(lost, no(5)))
	}
}
