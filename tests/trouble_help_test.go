package tests

import (
	"fmt"
	"math/rand"
	"testing"

	"loop.example/janitor/impl"
)

// weather tells, for each kind of an event from EvDo on, how often it occurs in a run.
type weather [7]int

// weathers go from one in which only the order of the messages is any to one in which hardly anything is left of a commit; in the last ones all numbers are used up, and the network is full.
func weathers() []weather {
	return []weather{{6, 80, 0, 0, 3, 2, 0}, {8, 60, 4, 6, 8, 2, 3}, {8, 50, 10, 10, 12, 4, 5}, {8, 40, 3, 3, 8, 2, 14}, {20, 70, 1, 1, 1, 15, 0}, {9, 40, 2, 40, 8, 2, 3}}
}

func anyWeather(r *rand.Rand) weather {
	return weathers()[r.Intn(len(weathers()))]
}

func (c weather) kind(r *rand.Rand) int {
	sum := 0
	for _, n := range c {
		sum += n
	}
	left := r.Intn(sum)
	for i, n := range c {
		if left < n {
			return impl.EvDo + i
		}
		left -= n
	}
	return 0
}

// event often hears the first message, gives up what waits for votes, and starts what fits the stores.
func (c weather) event(r *rand.Rand, w impl.WldWorld) impl.EvEvent {
	e := impl.EvEvent{Kind: c.kind(r)}
	switch e.Kind {
	case impl.EvDo:
		e.Op = nextOp(r, committedAt(w))
	case impl.EvHear:
		if len(w.Net) > 0 && r.Intn(2) == 0 {
			e.At = r.Intn(len(w.Net))
		}
	case impl.EvLose, impl.EvTwice:
		e.At = r.Intn(len(w.Net) + 1)
	case impl.EvTick:
		e.Place = r.Intn(impl.PlcMany)
	case impl.EvGive:
		if len(w.Front.Way) > 0 {
			e.At = w.Front.Way[r.Intn(len(w.Front.Way))].Tx
		}
	case impl.EvFall:
		e.Place, e.Keep = r.Intn(impl.PlcMany), []int{-1, 0, 1, 2, 1000}[r.Intn(5)]
	}
	return e
}

// phaseOf tells how far a transaction is.
func phaseOf(w impl.WldWorld, tx int) string {
	active, found := wayOf(w.Front, tx)
	places, prepared, known := modelPlaces(w.Ops[tx].Kind), 0, 0
	for _, place := range places {
		switch modelKind(w.Disks[place-1].Notes, tx) {
		case impl.LogReady:
			prepared++
		case impl.LogYes:
			known++
		}
	}
	if modelKind(w.Front.Disk.Notes, tx) == impl.LogYes {
		switch {
		case !found:
			return "ended"
		case known == len(places):
			return "known to all"
		case known > 0:
			return "known to some"
		}
		return "committed"
	}
	switch {
	case !found:
		return "aborted"
	case len(active.Can) > 0:
		return "voted"
	case prepared == len(places):
		return "prepared by all"
	case prepared > 0:
		return "prepared by some"
	}
	return "asked"
}

func phases() []string {
	return []string{"asked", "prepared by some", "prepared by all", "voted", "committed", "known to some", "known to all", "ended", "aborted"}
}

// leftOf tells what a crash has left of at least two records that were not forced; "" if there were fewer.
func leftOf(before, after impl.LogDisk) string {
	loose, left := len(before.Notes)-before.Safe, len(after.Notes)-before.Safe
	switch {
	case loose < 2:
		return ""
	case left == 0:
		return "none"
	case left < loose:
		return "some"
	}
	return "all"
}

func logAt(w impl.WldWorld, place int) impl.LogDisk {
	if place == impl.PlcFront {
		return w.Front.Disk
	}
	return w.Disks[place-1]
}

func crashLabel(place int, left, phase string) string {
	return fmt.Sprint("crash of place ", place, ", left of what is not forced: ", left, ", a transaction is ", phase)
}

// labels tells what kind of trouble a step is.
func (s worldStep) labels() []string {
	var out []string
	there := s.e.At >= 0 && s.e.At < len(s.before.Net)
	told := len(s.after.Outs) > len(s.before.Outs)
	switch {
	case s.e.Kind == impl.EvHear && there && s.e.At > 0:
		out = append(out, fmt.Sprint("out of order: message ", s.before.Net[s.e.At].Kind))
	case s.e.Kind == impl.EvLose && there:
		out = append(out, fmt.Sprint("lost: message ", s.before.Net[s.e.At].Kind))
	case s.e.Kind == impl.EvTwice && there:
		out = append(out, fmt.Sprint("doubled: message ", s.before.Net[s.e.At].Kind))
	case s.e.Kind == impl.EvGive && told:
		out = append(out, "given up: "+phaseOf(s.before, s.e.At))
	case s.e.Kind == impl.EvFall:
		left := leftOf(logAt(s.before, s.e.Place), logAt(s.after, s.e.Place))
		for tx := range s.before.Ops {
			out = append(out, crashLabel(s.e.Place, left, phaseOf(s.before, tx)))
		}
	}
	if s.e.Kind == impl.EvHear && told {
		out = append(out, fmt.Sprint("outcome ", s.after.Outs[len(s.before.Outs)].Ok))
	}
	if s.e.Kind == impl.EvHear && there {
		m := s.before.Net[s.e.At]
		out = append(out, s.refusal()...)
		if m.Kind == impl.MsgCant && modelKind(s.before.Front.Disk.Notes, m.Tx) == impl.LogYes {
			out = append(out, "refused: too late")
		}
	}
	if len(impl.DiskOpen(s.after.Disks[1])) > 1 {
		out = append(out, "together")
	}
	if len(s.after.Net) == impl.NetMost {
		out = append(out, "full")
	}
	if len(s.after.Outs) > impl.TxMost {
		out = append(out, "all reported")
	}
	return out
}

// refusal tells why a service has refused what it was asked; nothing if it has not.
func (s worldStep) refusal() []string {
	m, sent := s.before.Net[s.e.At], s.after.Net
	if m.Kind != impl.MsgAsk || len(sent) == 0 || sent[len(sent)-1] != msgCant(m.To, m.Tx) {
		return nil
	}
	notes := s.before.Disks[m.To-1].Notes
	switch {
	case modelKind(notes, m.Tx) == impl.LogNo:
		return []string{"refused: aborted before"}
	case modelPlan(m.To, modelFold(notes), m.Tx, m.Op).Ok:
		return []string{"refused: locked"}
	}
	return []string{"refused: not possible"}
}

// troubleLabels lists the troubles that every promise has to stand.
func troubleLabels() []string {
	out := []string{"outcome true", "outcome false", "together", "full", "all reported", "refused: aborted before", "refused: locked", "refused: not possible", "refused: too late"}
	for _, phase := range []string{"asked", "prepared by some", "prepared by all", "voted"} {
		out = append(out, "given up: "+phase)
	}
	for kind := impl.MsgAsk; kind <= impl.MsgWhat; kind++ {
		for _, what := range []string{"out of order", "lost", "doubled"} {
			out = append(out, fmt.Sprint(what, ": message ", kind))
		}
	}
	for place := range impl.PlcMany {
		for _, left := range []string{"none", "some", "all"} {
			for _, phase := range phases() {
				out = append(out, crashLabel(place, left, phase))
			}
		}
	}
	return out
}

// troubles hands one of so many steps to a check, and the first ones of each kind of trouble, and counts these.
type troubles struct {
	t     *testing.T
	r     *rand.Rand
	oneOf int
	check func(r *rand.Rand, s worldStep)
	count map[string]int
}

const firstOnes = 4

// step gives up where there are no logs: the system was invalid before the step, so that this is the zero value.
func (x troubles) step(s worldStep) {
	x.t.Helper()
	if len(s.after.Disks) != 3 {
		x.t.Fatalf("invalid before: %v", s)
	}
	taken := x.r.Intn(x.oneOf) == 0
	labels := s.labels()
	for _, label := range labels {
		taken = taken || x.count[label] < firstOnes
	}
	if !taken {
		return
	}
	for _, label := range labels {
		x.count[label]++
	}
	x.check(x.r, s)
}

// next executes one event.
func (x troubles) next(w impl.WldWorld, e impl.EvEvent) impl.WldWorld {
	x.t.Helper()
	s := stepOf(w, e)
	x.step(s)
	return s.after
}

// storm executes random events.
func (x troubles) storm(w impl.WldWorld, c weather, length int) {
	x.t.Helper()
	for range length {
		w = x.next(w, c.event(x.r, w))
	}
}

// everyTrouble hands steps of runs from the initial system on to a check, and wants all kinds of trouble among them: messages that are lost, doubled and heard out of order, operations that are refused, given up and under way together, and crashes of each place at every step of a commit.
func everyTrouble(t *testing.T, seed int64, oneOf int, check func(r *rand.Rand, s worldStep)) {
	t.Helper()
	x := troubles{t: t, r: rand.New(rand.NewSource(seed)), oneOf: oneOf, check: check, count: map[string]int{}}
	for i := range 36 {
		if x.storm(impl.WldNew(), weathers()[i%len(weathers())], impl.EvMaxRun); t.Failed() {
			return
		}
	}
	if x.everyPair(); t.Failed() {
		return
	}
	if x.everyFailure(); t.Failed() {
		return
	}
	for _, label := range troubleLabels() {
		if x.count[label] < firstOnes {
			t.Errorf("%s: only %d", label, x.count[label])
		}
	}
}
