package tests

import (
	"fmt"
	"math/rand"
	"slices"
	"testing"

	"loop.example/janitor/impl"
)

const wholeRounds = 300

// step is an operation of a sequence: its transaction, whether it was executed, and the stores before and after it.
type step struct {
	tx            int
	o             impl.OpOp
	ok            bool
	before, after []impl.StoStore
}

func stores(list ...impl.StoStore) []impl.StoStore {
	return list
}

func sameStores(a, b []impl.StoStore) bool {
	return slices.EqualFunc(a, b, sameStore)
}

func copyStores(list []impl.StoStore) []impl.StoStore {
	var out []impl.StoStore
	for _, s := range list {
		out = append(out, copyStore(s))
	}
	return out
}

func at(list []impl.StoStore, place int) impl.StoStore {
	return list[place-impl.PlcIn]
}

// numbersAt returns nil if there is no such item.
func numbersAt(list []impl.StoStore, place int, key string) []int {
	for _, it := range at(list, place).Items {
		if it.Key == key {
			return it.Val
		}
	}
	return nil
}

// wantGlo looks at both results; want is nil for invalid arguments.
func wantGlo(t *testing.T, what string, list []impl.StoStore, tx int, o impl.OpOp, want []impl.StoStore, wantOk bool) {
	t.Helper()
	got, ok := impl.GloDo(list, tx, o)
	if ok != wantOk || !sameStores(got, want) {
		t.Errorf("%s: %v, transaction %d, %v: got %v, %v, want %v, %v", what, list, tx, o, got, ok, want, wantOk)
	}
}

// wantRefused wants the stores unchanged.
func wantRefused(t *testing.T, what string, list []impl.StoStore, tx int, o impl.OpOp) {
	t.Helper()
	wantGlo(t, what, list, tx, o, list, false)
}

// mustDo executes operations one after the other, with transaction numbers from tx on.
func mustDo(t *testing.T, list []impl.StoStore, tx int, ops ...impl.OpOp) []impl.StoStore {
	t.Helper()
	for i, o := range ops {
		next, ok := impl.GloDo(list, tx+i, o)
		if !ok {
			t.Fatalf("%v: %v is refused", list, o)
		}
		list = next
	}
	return list
}

// plansOf returns what every service of an operation plans.
func plansOf(list []impl.StoStore, tx int, o impl.OpOp) map[int]impl.OpPlan {
	out := map[int]impl.OpPlan{}
	for _, place := range modelPlaces(o.Kind) {
		out[place] = impl.PlcPlan(place, at(list, place), tx, o)
	}
	return out
}

// refusing returns the services that refuse an operation.
func refusing(list []impl.StoStore, tx int, o impl.OpOp) []int {
	var out []int
	for place, p := range plansOf(list, tx, o) {
		if !p.Ok {
			out = append(out, place)
		}
	}
	slices.Sort(out)
	return out
}

func auditHas(list []impl.StoStore, tx int) bool {
	return numbersAt(list, impl.PlcDone, fmt.Sprint("a", tx)) != nil
}

// freshTx returns the first number that is not in the audit log; false if there is none.
func freshTx(list []impl.StoStore) (int, bool) {
	for tx := range impl.TxMost + 1 {
		if !auditHas(list, tx) {
			return tx, true
		}
	}
	return 0, false
}

// randomWhole is three random stores, not always reachable from GloNew.
func randomWhole(r *rand.Rand) []impl.StoStore {
	return stores(randomPlaceStore(r, impl.PlcIn), randomPlaceStore(r, impl.PlcMay), randomPlaceStore(r, impl.PlcDone))
}

// randomItem returns one item with a letter, and false if there is none.
func randomItem(r *rand.Rand, s impl.StoStore, letter byte) (int, []int, bool) {
	var some []impl.StoItem
	for _, it := range s.Items {
		if it.Key[0] == letter {
			some = append(some, it)
		}
	}
	if len(some) == 0 {
		return 0, nil, false
	}
	it := some[r.Intn(len(some))]
	return int(it.Key[1] - '0'), it.Val, true
}

// nextOp fits the stores in most cases, so that a random sequence goes on; few numbers occur, so that operations meet.
func nextOp(r *rand.Rand, list []impl.StoStore) impl.OpOp {
	who, in := r.Intn(3), r.Intn(4)
	if n, val, found := randomItem(r, list[0], 's'); found && r.Intn(4) > 0 {
		who, in = val[0], n
	}
	switch r.Intn(10) {
	case 0:
		return opIn(r.Intn(3), r.Intn(4))
	case 1, 2:
		return opLet(who, in, r.Intn(3), r.Intn(2))
	case 3, 4:
		code, val, found := randomItem(r, list[1], 'c')
		if !found || r.Intn(4) == 0 {
			return opTrade(r.Intn(3), r.Intn(2), r.Intn(10))
		}
		if r.Intn(4) > 0 && val[1] == modelSum(1) {
			return opTrade(code, 1, r.Intn(10))
		}
		return opTrade(code, 0, r.Intn(10))
	case 5, 6, 7, 8:
		fam, val, found := randomItem(r, list[1], 'f')
		switch {
		case !found || r.Intn(6) == 0:
			return opNext(r.Intn(10), r.Intn(4))
		case r.Intn(3) == 0:
			return opNext(fam, r.Intn(min(val[1]+2, impl.SecTop+1)))
		}
		return opNext(fam, val[1])
	}
	return opOut(who, in)
}

// randomRun executes a random sequence from GloNew on; sometimes a transaction number occurs again.
func randomRun(r *rand.Rand, length int) []step {
	var out []step
	list := impl.GloNew()
	for range length {
		tx, found := freshTx(list)
		if !found || r.Intn(8) == 0 {
			tx = r.Intn(impl.TxMost + 1)
		}
		o := nextOp(r, list)
		after, ok := impl.GloDo(list, tx, o)
		out = append(out, step{tx: tx, o: o, ok: ok, before: list, after: after})
		list = after
	}
	return out
}

// everyRun hands many random sequences to a check, and wants every kind to be executed and refused in them.
func everyRun(t *testing.T, seed int64, check func(run []step)) {
	t.Helper()
	r := rand.New(rand.NewSource(seed))
	count := map[string]int{}
	for range wholeRounds {
		run := randomRun(r, 80)
		for _, s := range run {
			count[fmt.Sprint(s.o.Kind, s.ok)]++
		}
		check(run)
		if t.Failed() {
			return
		}
	}
	for _, kind := range kinds() {
		for _, ok := range []bool{false, true} {
			if count[fmt.Sprint(kind, ok)] < wholeRounds {
				t.Errorf("kind %d, %v: only %d", kind, ok, count[fmt.Sprint(kind, ok)])
			}
		}
	}
}

// modelCode and modelFam are a code, with its secret itself, and a family.
type modelCode struct {
	who, sec int
}

type modelFam struct {
	who, gen int
	alive    bool
}

// modelWhole is the server as its users see it, without services and plans.
type modelWhole struct {
	in    map[int]int
	codes map[int]modelCode
	fams  map[int]modelFam
	done  map[int]int
}

func newModel() modelWhole {
	return modelWhole{in: map[int]int{}, codes: map[int]modelCode{}, fams: map[int]modelFam{}, done: map[int]int{}}
}

func (m modelWhole) do(tx int, o impl.OpOp) bool {
	if m.done[tx] != 0 || !m.change(o) {
		return false
	}
	m.done[tx] = o.Kind
	return true
}

func (m modelWhole) change(o impl.OpOp) bool {
	user, used := m.in[o.In]
	mine := used && user == o.Who
	switch o.Kind {
	case impl.OpIn:
		if used {
			return false
		}
		m.in[o.In] = o.Who
	case impl.OpLet:
		if _, taken := m.codes[o.Code]; taken || !mine {
			return false
		}
		m.codes[o.Code] = modelCode{o.Who, o.Sec}
	case impl.OpTrade:
		return m.trade(o)
	case impl.OpNext:
		return m.next(o)
	case impl.OpOut:
		if !mine {
			return false
		}
		delete(m.in, o.In)
		for n, f := range m.fams {
			f.alive = f.alive && f.who != o.Who
			m.fams[n] = f
		}
	}
	return true
}

func (m modelWhole) trade(o impl.OpOp) bool {
	c, found := m.codes[o.Code]
	if _, taken := m.fams[o.Fam]; taken || !found || c.sec != o.Sec {
		return false
	}
	delete(m.codes, o.Code)
	m.fams[o.Fam] = modelFam{c.who, 1, true}
	return true
}

func (m modelWhole) next(o impl.OpOp) bool {
	f := m.fams[o.Fam]
	switch {
	case !f.alive || o.Gen == 0 || o.Gen > f.gen || f.gen == 99:
		return false
	case o.Gen == f.gen:
		f.gen++
	default:
		f.alive = false
	}
	m.fams[o.Fam] = f
	return true
}

func (m modelWhole) stores() []impl.StoStore {
	in, may, done := map[string][]int{}, map[string][]int{}, map[string][]int{}
	for n, who := range m.in {
		in[fmt.Sprint("s", n)] = []int{who}
	}
	for n, c := range m.codes {
		may[fmt.Sprint("c", n)] = []int{c.who, modelSum(c.sec)}
	}
	for n, f := range m.fams {
		alive := 0
		if f.alive {
			alive = 1
		}
		may[fmt.Sprint("f", n)] = []int{f.who, f.gen, alive}
	}
	for tx, kind := range m.done {
		done[fmt.Sprint("a", tx)] = []int{kind}
	}
	return stores(storeOf(in), storeOf(may), storeOf(done))
}
