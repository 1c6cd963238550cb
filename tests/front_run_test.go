package tests

import (
	"fmt"
	"math/rand"
	"slices"
	"testing"

	"loop.example/janitor/impl"
)

// frontStep is one event at a coordinator, with what it has sent and reported.
type frontStep struct {
	event  string
	before impl.FroState
	tx     int
	o      impl.OpOp
	m      impl.MsgMsg
	after  impl.FroState
	sent   []impl.MsgMsg
	outs   []impl.FroOut
	ok     bool
}

func (s frontStep) String() string {
	return fmt.Sprintf("%s %d, %v, %v, %v: got %v, %v, %v, %v", s.event, s.tx, s.o, s.m, s.before, s.after, s.sent, s.outs, s.ok)
}

// label tells what was heard about which kind of transaction, and what was written, sent and reported.
func (s frontStep) label() string {
	return fmt.Sprint(s.m.Kind, " ", situation(s.before, s.m.Tx), " ", s.added().Kind, " ", kindsOf(s.sent), " ", len(s.outs))
}

// added is the record that was appended; the zero value if there is none.
func (s frontStep) added() impl.LogNote {
	if len(s.after.Disk.Notes) != len(s.before.Disk.Notes)+1 {
		return impl.LogNote{}
	}
	return s.after.Disk.Notes[len(s.before.Disk.Notes)]
}

func beginStep(f impl.FroState, tx int, o impl.OpOp) frontStep {
	s := frontStep{event: "begin", before: f, tx: tx, o: o}
	s.after, s.sent, s.ok = impl.FroBegin(f, tx, o)
	return s
}

func hearStep(f impl.FroState, m impl.MsgMsg) frontStep {
	s := frontStep{event: "hear", before: f, tx: m.Tx, m: m}
	s.after, s.sent, s.outs = impl.FroHear(f, m)
	return s
}

func giveStep(f impl.FroState, tx int) frontStep {
	s := frontStep{event: "give", before: f, tx: tx}
	s.after, s.sent, s.outs = impl.FroGive(f, tx)
	return s
}

func fallStep(f impl.FroState, keep int) frontStep {
	return frontStep{event: "fall", before: f, after: impl.FroFall(f, keep)}
}

func frontKind(r *rand.Rand, situation string) int {
	if r.Intn(5) < 3 {
		switch situation {
		case "waiting":
			return impl.MsgCan
		case "committed":
			return impl.MsgKnow
		}
	}
	return impl.MsgCan + r.Intn(4)
}

// nextFrontMessage is in most cases about an active transaction, and then what that one waits for.
func nextFrontMessage(r *rand.Rand, f impl.FroState) impl.MsgMsg {
	tx := r.Intn(impl.TxMost + 1)
	if len(f.Way) > 0 && r.Intn(5) > 0 {
		tx = f.Way[r.Intn(len(f.Way))].Tx
	}
	return sentBy(frontKind(r, situation(f, tx)), 1+r.Intn(3), tx)
}

// nextFrontStep starts number next, or one that is active or logged already; messages, crashes and what is given up are not bound to any order.
func nextFrontStep(r *rand.Rand, f impl.FroState, next int) frontStep {
	switch r.Intn(24) {
	case 0, 1, 2:
		if next <= impl.TxMost {
			return beginStep(f, next, randomOp(r))
		}
	case 3:
		if tx := r.Intn(impl.TxMost + 1); situation(f, tx) != "unknown" {
			return beginStep(f, tx, randomOp(r))
		}
	case 4:
		if r.Intn(3) == 0 {
			return fallStep(f, r.Intn(4)-1)
		}
	case 5:
		return giveStep(f, r.Intn(impl.TxMost+1))
	}
	return hearStep(f, nextFrontMessage(r, f))
}

// randomFrontRun starts with the empty coordinator, and starts every number once at most.
func randomFrontRun(r *rand.Rand, length int) []frontStep {
	var out []frontStep
	var f impl.FroState
	next := 0
	for range length {
		s := nextFrontStep(r, f, next)
		if s.ok {
			next = s.tx + 1 + r.Intn(2)
		}
		out = append(out, s)
		f = s.after
	}
	return out
}

// randomFront is valid, but no coordinator has to get there: nobody started what is committed, all votes are there without a commit, an end precedes a commit; often there is little room.
func randomFront(r *rand.Rand) impl.FroState {
	var notes []impl.LogNote
	for range r.Intn(16) {
		tx := r.Intn(impl.TxMost + 1)
		if r.Intn(3) == 0 {
			notes = append(notes, end(tx))
		} else {
			notes = append(notes, yes(tx))
		}
	}
	if r.Intn(2) == 0 {
		notes = padded(impl.LogMost-r.Intn(4), notes...).Notes
	}
	f := front(disk(r.Intn(len(notes)+1), notes...))
	few := 1 + r.Intn(8)
	for tx := range impl.TxMost + 1 {
		if r.Intn(few) > 0 {
			continue
		}
		if modelKind(notes, tx) == 0 {
			f.Way = append(f.Way, waiting(tx, randomOp(r), subset(r)...))
			continue
		}
		ops := []impl.OpOp{{}, randomOp(r), {Kind: -1, Gen: 1000}}
		f.Way = append(f.Way, told(tx, ops[r.Intn(3)], subset(r), subset(r)...))
	}
	return f
}

// everyFrontRun hands what happens to a coordinator from the empty one on to a check.
func everyFrontRun(t *testing.T, seed int64, check func(run []frontStep)) {
	t.Helper()
	r := rand.New(rand.NewSource(seed))
	for range frontRounds {
		check(randomFrontRun(r, 240))
		if t.Failed() {
			return
		}
	}
}

// everyFront hands coordinators to a check: those of runs from the empty one on, and any valid ones.
func everyFront(t *testing.T, seed int64, check func(r *rand.Rand, f impl.FroState)) {
	t.Helper()
	r := rand.New(rand.NewSource(seed))
	for range frontRounds / 6 {
		for _, s := range randomFrontRun(r, 240) {
			check(r, s.after)
			if t.Failed() {
				return
			}
		}
	}
	for range 15 * frontRounds {
		check(r, randomFront(r))
		if t.Failed() {
			return
		}
	}
}

// frontLabels lists what a coordinator with room has to hear, write, send and report in a random test; the last one is for lack of room.
func frontLabels() []string {
	return []string{
		"4 waiting 0 [] 0", "4 waiting 2 [2] 1", "4 committed 0 [2] 0", "4 logged 0 [2] 0", "4 unknown 0 [3] 0",
		"5 waiting 0 [3] 1", "5 committed 0 [] 0", "5 logged 0 [] 0", "5 unknown 0 [] 0",
		"6 waiting 0 [] 0", "6 committed 0 [] 0", "6 committed 4 [] 0", "6 logged 0 [] 0", "6 unknown 0 [] 0",
		"7 waiting 0 [] 0", "7 committed 0 [2] 0", "7 logged 0 [2] 0", "7 unknown 0 [3] 0",
		"4 waiting 0 [3] 1",
	}
}

// wantFrontLabels fails also if a label occurs that the document does not allow.
func wantFrontLabels(t *testing.T, count map[string]int, labels []string) {
	t.Helper()
	for _, label := range labels {
		if count[label] < 15 {
			t.Errorf("heard, situation, written, sent and reported %s: only %d", label, count[label])
		}
	}
	for label := range count {
		if !slices.Contains(labels, label) {
			t.Errorf("heard, situation, written, sent and reported: %s", label)
		}
	}
}

// everyFrontHeard hands what a coordinator hears from the empty one on to a check.
func everyFrontHeard(t *testing.T, seed int64, check func(s frontStep)) {
	t.Helper()
	count, labels := map[string]int{}, frontLabels()
	everyFrontRun(t, seed, func(run []frontStep) {
		for _, s := range run {
			if s.event == "hear" {
				count[s.label()]++
				check(s)
			}
		}
	})
	wantFrontLabels(t, count, labels[:len(labels)-1])
}

// anyFrontHeard hands what any valid coordinator hears to a check.
func anyFrontHeard(t *testing.T, seed int64, check func(s frontStep)) {
	t.Helper()
	r, count := rand.New(rand.NewSource(seed)), map[string]int{}
	for range 80 * frontRounds {
		f := randomFront(r)
		s := hearStep(f, nextFrontMessage(r, f))
		count[s.label()]++
		check(s)
		if t.Failed() {
			return
		}
	}
	wantFrontLabels(t, count, frontLabels())
}
