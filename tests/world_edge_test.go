package tests

import (
	"fmt"
	"slices"
	"testing"

	"loop.example/janitor/impl"
)

// idle is a system with n operations of which nobody knows anything any more.
func idle(n int) impl.WldWorld {
	w := impl.WldNew()
	for i := range n {
		w.Ops = append(w.Ops, opIn(i%10, i%10))
	}
	return w
}

// noise is n messages that nobody minds: each is about transaction 0, and no two in a row are the same.
func noise(n int) []impl.MsgMsg {
	var out []impl.MsgMsg
	for i := range n {
		out = append(out, []impl.MsgMsg{msgNo(1, 0), msgNo(2, 0), msgNo(3, 0), msgKnow(1, 0), msgKnow(2, 0), msgCant(3, 0)}[i%6])
	}
	return out
}

func noPlaces() []int {
	return []int{-1, -2, impl.PlcMany, impl.PlcMany + 1, 1<<32 + 1, 1<<63 - 1, -1 << 63}
}

// numbersOutside are no indices of a list with n elements.
func numbersOutside(n int) []int {
	return []int{-1, -2, n, n + 1, 2 * n, 1 << 32, 1<<63 - 1, -1 << 63}
}

// TestDo: every kind of operation is started with the next number, whatever has become of those before it.
func TestDo(t *testing.T) {
	for _, o := range someOps() {
		for _, n := range []int{0, 1, 7, impl.TxMost} {
			w := idle(n)
			want := world(front(disk(0), waiting(n, o)), w.Disks, askAll(n, o, modelPlaces(o.Kind)...), append(slices.Clone(w.Ops), o), nil)
			wantStep(t, "started", w, evDo(o), want)
		}
	}
	w := mustRun(t, impl.WldNew(), evDo(opIn(1, 2)), evGive(0), evDo(opOut(1, 2)), evFall(0, 0), evDo(opIn(1, 2)))
	if _, active := wayOf(w.Front, 2); !active || len(w.Front.Way) != 1 || !slices.Equal(w.Ops, []impl.OpOp{opIn(1, 2), opOut(1, 2), opIn(1, 2)}) {
		t.Errorf("one given up, one lost, one started: got %v", w)
	}
}

// TestDoRefused: nothing changes for an invalid operation, for one that the coordinator has no room for, and past the last number.
func TestDoRefused(t *testing.T) {
	some := mustRun(t, impl.WldNew(), evDo(opIn(1, 2)), evHear(0))
	for _, w := range []impl.WldWorld{impl.WldNew(), some, idle(impl.TxMost), idle(impl.TxMost + 1)} {
		for _, o := range append(invalidOps(), impl.OpOp{}) {
			if got := impl.WldStep(w, evDo(o)); !sameWorld(got, w) {
				t.Errorf("%v is invalid: got %v, want %v", o, got, w)
			}
		}
	}
	for active := range 3 {
		for records := impl.LogMost - 2*active - 5; records <= impl.LogMost; records++ {
			w := withFront(idle(5), front(padded(records)))
			for tx := range active {
				w.Front.Way = append(w.Front.Way, waiting(tx+2, opIn(1, 2)))
			}
			want := w
			if records+2*active+2 <= impl.LogMost {
				want = world(withWay(w.Front, waiting(5, opIn(3, 4))), w.Disks, askAll(5, opIn(3, 4), 1, 3), append(slices.Clone(w.Ops), opIn(3, 4)), nil)
			}
			wantStep(t, fmt.Sprint(records, " records, active are ", active), w, evDo(opIn(3, 4)), want)
		}
	}
	for _, o := range someOps() {
		wantNoStep(t, "past the last number", idle(impl.TxMost+1), evDo(o))
	}
}

// TestDoMost: thirty operations are started, and no more; the network has room for the questions of thirty logins.
func TestDoMost(t *testing.T) {
	events := slices.Repeat([]impl.EvEvent{evDo(opIn(1, 2))}, impl.TxMost+3)
	w := mustRun(t, impl.WldNew(), events...)
	want := impl.WldNew()
	for tx := range impl.TxMost + 1 {
		want.Front.Way = append(want.Front.Way, waiting(tx, opIn(1, 2)))
		want.Net = append(want.Net, askAll(tx, opIn(1, 2), 1, 3)...)
		want.Ops = append(want.Ops, opIn(1, 2))
	}
	wantWorld(t, "thirty logins", w, want)
}

// TestHearAt, TestLoseAt and TestTwiceAt: the first, any and the last message; nothing changes for a number below 0, for the one past the last message, and further on.
func TestHearAt(t *testing.T) {
	net := []impl.MsgMsg{msgAsk(1, 1, opIn(1, 2)), msgAsk(3, 1, opIn(1, 2)), msgCan(3, 1), msgCan(1, 1), msgWhat(2, 0), msgCant(1, 2)}
	w := withNet(idle(4), net...)
	w.Front = front(disk(0), waiting(1, opIn(1, 2), 1), waiting(2, opOut(1, 2)))
	for at, m := range net {
		want := withNet(w, slices.Delete(slices.Clone(net), at, at+1)...)
		wantStep(t, "heard", w, evHear(at), modelDeliver(want, m))
	}
	for n := range len(net) + 1 {
		for _, at := range numbersOutside(n) {
			wantNoStep(t, "no such message", withNet(w, net[:n]...), evHear(at))
		}
	}
}

func TestLoseAt(t *testing.T) {
	for _, n := range []int{0, 1, 2, 3, 59, 60} {
		net := noise(n)
		w := withNet(idle(1), net...)
		for at := range n {
			wantStep(t, "lost", w, evLose(at), withNet(w, slices.Delete(slices.Clone(net), at, at+1)...))
		}
		for _, at := range numbersOutside(n) {
			wantNoStep(t, "no such message", w, evLose(at))
		}
	}
}

func TestTwiceAt(t *testing.T) {
	for _, n := range []int{0, 1, 2, 3, 58, 59, 60} {
		net := noise(n)
		w := withNet(idle(1), net...)
		for at := range n {
			want := w
			if n < impl.NetMost {
				want = withNet(w, append(slices.Clone(net), net[at])...)
			}
			wantStep(t, "doubled", w, evTwice(at), want)
		}
		for _, at := range numbersOutside(n) {
			wantNoStep(t, "no such message", w, evTwice(at))
		}
	}
}

// TestLoseHere: messages that are lost, doubled and heard in turn keep their order, also where many have come and gone.
func TestLoseHere(t *testing.T) {
	net := noise(55)
	w := withNet(idle(1), net...)
	for i := range 150 {
		at := i * 7 % len(net)
		w = mustRun(t, w, evTwice(at), evLose(i*11%len(net)), evTwice(at/2), evHear(i*5%len(net)))
		net = append(net, net[at])
		net = slices.Delete(net, i*11%(len(net)-1), i*11%(len(net)-1)+1)
		net = append(net, net[at/2])
		net = slices.Delete(net, i*5%(len(net)-1), i*5%(len(net)-1)+1)
		if !slices.Equal(w.Net, net) {
			t.Fatalf("round %d: got %v, want %v", i, w.Net, net)
		}
	}
}

// TestRoomForMessages: of what is sent, as much is appended as there is room for, in order; everything else happens all the same.
func TestRoomForMessages(t *testing.T) {
	o := opLet(1, 2, 3, 7)
	busy := withFront(idle(4), front(disk(1, yes(1)), resumed(1), waiting(2, o), waiting(3, o, 1, 2)))
	busy.Disks[0] = allSafe(readyTo(1, set("s5", 1)), readyTo(2, set("s6", 1)))
	for n := 55; n <= impl.NetMost; n++ {
		w := withNet(busy, noise(n)...)
		room := impl.NetMost - n
		started := append(slices.Clone(w.Ops), o)
		ask := withNet(withFront(w, withWay(w.Front, waiting(4, o))), messages(w.Net, askAll(4, o, 1, 2, 3)[:min(3, room)])...)
		ask.Ops = started
		wantStep(t, "questions", w, evDo(o), ask)
		repeated := messages(yesAll(1, 1, 2, 3), askAll(2, o, 1, 2, 3), askAll(3, o, 3))
		wantStep(t, "the coordinator repeats", w, evTick(0), withNet(w, messages(w.Net, repeated[:min(7, room)])...))
		inquiries := []impl.MsgMsg{msgWhat(1, 1), msgWhat(1, 2)}
		wantStep(t, "a service inquires", w, evTick(1), withNet(w, messages(w.Net, inquiries[:min(2, room)])...))
		given := withNet(withFront(w, withoutWay(w.Front, 3)), messages(w.Net, noAll(3, 1, 2, 3)[:min(3, room)])...)
		given.Outs = reported(3, false)
		wantStep(t, "given up", w, evGive(3), given)
		w.Net[10] = msgCan(3, 3)
		rest := slices.Delete(slices.Clone(w.Net), 10, 11)
		commit := withNet(w, messages(rest, yesAll(3, 1, 2, 3)[:min(3, room+1)])...)
		commit.Front = front(allSafe(yes(1), yes(3)), resumed(1), waiting(2, o), told(3, o, []int{1, 2, 3}))
		commit.Outs = reported(3, true)
		wantStep(t, "committed", w, evHear(10), commit)
	}
}

// TestRoomForReports: an outcome for which there is no room is not reported; everything else happens all the same.
func TestRoomForReports(t *testing.T) {
	o := opIn(1, 2)
	w := withNet(idle(4), msgCan(3, 2), msgCant(3, 2))
	w.Front = front(disk(0), waiting(2, o, 1))
	for range impl.TxMost - 1 {
		w.Outs = append(w.Outs, impl.FroOut{Tx: 1, Ok: true})
	}
	for room := 2; room >= 0; room-- {
		for _, e := range []impl.EvEvent{evHear(0), evHear(1), evGive(2)} {
			want := modelStep(w, e)
			want.Outs = slices.Clone(w.Outs)
			if room > 0 {
				want.Outs = append(want.Outs, impl.FroOut{Tx: 2, Ok: e == evHear(0)})
			}
			wantStep(t, fmt.Sprint("room for ", room), w, e, want)
		}
		w.Outs = append(w.Outs, impl.FroOut{Tx: 3})
	}
}

// TestTickAndFallPlaces: every place repeats and crashes by itself; nothing changes for a place that does not exist.
func TestTickAndFallPlaces(t *testing.T) {
	o := opLet(1, 2, 3, 7)
	w := withFront(idle(4), front(disk(0, yes(1)), resumed(1), waiting(2, o, 2)))
	w.Disks = logs(disk(0, readyTo(0, set("s1", 1))), disk(0, readyTo(1, set("c1", 1, 1))), disk(0, readyTo(2, set("a2", 1)), readyTo(0, set("a0", 1))))
	wantStep(t, "the coordinator", w, evTick(0), withNet(w, messages(yesAll(1, 1, 2, 3), askAll(2, o, 1, 3))...))
	wantStep(t, "sessions", w, evTick(1), withNet(w, msgWhat(1, 0)))
	wantStep(t, "grants", w, evTick(2), withNet(w, msgWhat(2, 1)))
	wantStep(t, "the audit log", w, evTick(3), withNet(w, msgWhat(3, 2), msgWhat(3, 0)))
	wantStep(t, "the coordinator", w, evFall(0, 0), withFront(w, impl.FroState{}))
	for _, place := range services() {
		wantStep(t, "a service", w, evFall(place, 0), withDisk(w, place, disk(0)))
	}
	for _, place := range noPlaces() {
		wantNoStep(t, "no such place", w, evTick(place), evFall(place, 0), evFall(place, 1))
	}
}

// TestFallKeep: a crash leaves the forced records, and of the others as many as stated; none if that is negative, all if it is more than there are.
func TestFallKeep(t *testing.T) {
	notes := []impl.LogNote{yes(1), yes(2), end(1), yes(3), end(3)}
	w := withNet(withFront(idle(5), front(disk(2, notes...), told(2, opIn(1, 2), []int{1, 3}, 1, 3), waiting(4, opIn(1, 2), 1))), noise(3)...)
	w.Outs = reported(1, true)
	aborts := []impl.LogNote{no(0), readyTo(1), no(1), no(2), readyTo(3)}
	for _, keep := range []int{-1 << 63, -2, -1, 0, 1, 2, 3, 4, 100, 1<<63 - 1} {
		left := 2 + min(max(keep, 0), 3)
		want := front(allSafe(notes[:left]...))
		for _, tx := range [][]int{{1, 2}, {2}, {2, 3}, {2}}[left-2] {
			want.Way = append(want.Way, resumed(tx))
		}
		wantStep(t, "the coordinator", w, evFall(0, keep), withFront(w, want))
		for _, place := range services() {
			given := withDisk(w, place, disk(2, aborts...))
			wantStep(t, "a service", given, evFall(place, keep), withDisk(w, place, allSafe(aborts[:left]...)))
		}
	}
}

// TestGive: what waits for votes is aborted; nothing changes for what is committed, over, aborted, or not there.
func TestGive(t *testing.T) {
	o := opLet(1, 2, 3, 7)
	w := withFront(idle(6), front(disk(1, yes(1), yes(3), end(3)), told(1, o, []int{1, 2, 3}, 2), waiting(2, o, 1), waiting(4, o, 1, 2)))
	for _, tx := range []int{2, 4} {
		want := withNet(withFront(w, withoutWay(w.Front, tx)), noAll(tx, 1, 2, 3)...)
		want.Outs = reported(tx, false)
		wantStep(t, "waiting", w, evGive(tx), want)
		wantNoStep(t, "again", want, evGive(tx))
	}
	for _, tx := range append(numbersOutside(len(w.Ops)), 0, 1, 3, 5, 29, 30) {
		wantNoStep(t, "not waiting", w, evGive(tx))
	}
}

// TestUnknownKind: nothing changes for an event of an unknown kind, whatever its fields are.
func TestUnknownKind(t *testing.T) {
	some := mustRun(t, impl.WldNew(), evDo(opIn(1, 2)), evHear(0), evDo(opOut(1, 2)))
	for _, w := range []impl.WldWorld{impl.WldNew(), some} {
		for _, kind := range badEventKinds() {
			wantNoStep(t, "unknown", w, impl.EvEvent{Kind: kind}, impl.EvEvent{Kind: kind, Op: opIn(3, 4), At: 1, Place: 1, Keep: 1})
		}
	}
}
