package tests

import (
	"fmt"
	"math/rand"
	"slices"
	"testing"

	"loop.example/janitor/impl"
)

const opRounds = 3000

func opIn(who, in int) impl.OpOp {
	return impl.OpOp{Kind: impl.OpIn, Who: who, In: in}
}

func opLet(who, in, code, sec int) impl.OpOp {
	return impl.OpOp{Kind: impl.OpLet, Who: who, In: in, Code: code, Sec: sec}
}

func opTrade(code, sec, fam int) impl.OpOp {
	return impl.OpOp{Kind: impl.OpTrade, Code: code, Sec: sec, Fam: fam}
}

func opNext(fam, gen int) impl.OpOp {
	return impl.OpOp{Kind: impl.OpNext, Fam: fam, Gen: gen}
}

func opOut(who, in int) impl.OpOp {
	return impl.OpOp{Kind: impl.OpOut, Who: who, In: in}
}

func services() []int {
	return []int{impl.PlcIn, impl.PlcMay, impl.PlcDone}
}

func badPlaces() []int {
	return []int{impl.PlcFront, impl.PlcMany, -1, -2, impl.PlcMany + 1, 1<<32 + 1, 1<<63 - 1, -1 << 63}
}

func kinds() []int {
	return []int{impl.OpIn, impl.OpLet, impl.OpTrade, impl.OpNext, impl.OpOut}
}

func badKinds() []int {
	return []int{0, -1, -2, impl.OpOut + 1, impl.OpOut + 2, 1<<32 + 1, 1<<63 - 1, -1 << 63}
}

// opField is a field of an operation with its bound, and the kinds that have it.
type opField struct {
	name  string
	in    func(o *impl.OpOp) *int
	top   int
	kinds []int
}

func opFields() []opField {
	return []opField{
		{"Who", func(o *impl.OpOp) *int { return &o.Who }, 9, []int{impl.OpIn, impl.OpLet, impl.OpOut}},
		{"In", func(o *impl.OpOp) *int { return &o.In }, 9, []int{impl.OpIn, impl.OpLet, impl.OpOut}},
		{"Code", func(o *impl.OpOp) *int { return &o.Code }, 9, []int{impl.OpLet, impl.OpTrade}},
		{"Sec", func(o *impl.OpOp) *int { return &o.Sec }, 99, []int{impl.OpLet, impl.OpTrade}},
		{"Fam", func(o *impl.OpOp) *int { return &o.Fam }, 9, []int{impl.OpTrade, impl.OpNext}},
		{"Gen", func(o *impl.OpOp) *int { return &o.Gen }, 99, []int{impl.OpNext}},
	}
}

func (f opField) has(kind int) bool {
	return slices.Contains(f.kinds, kind)
}

func with(o impl.OpOp, f opField, n int) impl.OpOp {
	*f.in(&o) = n
	return o
}

// modelOpOk reads the table of the kinds by its columns.
func modelOpOk(o impl.OpOp) bool {
	for _, f := range opFields() {
		n := *f.in(&o)
		if n < 0 || n > f.top || n != 0 && !f.has(o.Kind) {
			return false
		}
	}
	return slices.Contains(kinds(), o.Kind)
}

// fewNumber is small in most cases, so that operations often meet, and at a bound in some.
func fewNumber(r *rand.Rand, top int) int {
	switch r.Intn(6) {
	case 0:
		return top
	case 1:
		return r.Intn(top + 1)
	}
	return r.Intn(3)
}

func randomOp(r *rand.Rand) impl.OpOp {
	o := impl.OpOp{Kind: 1 + r.Intn(5)}
	for _, f := range opFields() {
		if f.has(o.Kind) {
			o = with(o, f, fewNumber(r, f.top))
		}
	}
	return o
}

// randomOpAt is executed at a service.
func randomOpAt(r *rand.Rand, place int) impl.OpOp {
	for {
		if o := randomOp(r); slices.Contains(modelPlaces(o.Kind), place) {
			return o
		}
	}
}

// someOps has every kind with small numbers, and with numbers at their bounds.
func someOps() []impl.OpOp {
	return []impl.OpOp{
		opIn(0, 0), opIn(1, 2), opIn(9, 9), opLet(0, 0, 0, 0), opLet(1, 2, 3, 7), opLet(9, 9, 9, 99),
		opTrade(0, 0, 0), opTrade(3, 7, 4), opTrade(9, 99, 9), opNext(0, 0), opNext(4, 1), opNext(9, 99), opOut(0, 0), opOut(1, 2), opOut(9, 9),
	}
}

// invalidOps has other kinds, every field out of its bounds, and every field that a kind does not have.
func invalidOps() []impl.OpOp {
	var out []impl.OpOp
	for _, kind := range badKinds() {
		out = append(out, impl.OpOp{Kind: kind}, impl.OpOp{Kind: kind, Who: 1, In: 2}, impl.OpOp{Kind: kind, Fam: 1, Gen: 1})
	}
	for _, o := range someOps() {
		for _, f := range opFields() {
			for _, n := range []int{-1, f.top + 1, 100, 1 << 32, 1<<63 - 1, -1 << 63} {
				out = append(out, with(o, f, n))
			}
			if !f.has(o.Kind) {
				out = append(out, with(o, f, 1), with(o, f, f.top))
			}
		}
	}
	return out
}

func modelPlaces(kind int) []int {
	switch kind {
	case impl.OpIn:
		return []int{1, 3}
	case impl.OpLet, impl.OpOut:
		return []int{1, 2, 3}
	case impl.OpTrade, impl.OpNext:
		return []int{2, 3}
	}
	return nil
}

func modelSum(sec int) int {
	return (7919*sec + 104) % 9973
}

// randomPlaceStore is valid for a service; at PlcDone it has room for more items.
func randomPlaceStore(r *rand.Rand, place int) impl.StoStore {
	m := map[string][]int{}
	for n := range 10 {
		switch {
		case place == impl.PlcIn && r.Intn(2) == 0:
			m[fmt.Sprintf("s%d", n)] = []int{fewNumber(r, 9)}
		case place == impl.PlcMay:
			if r.Intn(2) == 0 {
				m[fmt.Sprintf("c%d", n)] = []int{fewNumber(r, 9), modelSum(fewNumber(r, 99))}
			}
			if r.Intn(2) == 0 {
				m[fmt.Sprintf("f%d", n)] = []int{fewNumber(r, 9), 1 + fewNumber(r, 98), min(1, r.Intn(4))}
			}
		case place == impl.PlcDone:
			m[fmt.Sprintf("a%d", r.Intn(30))] = []int{1 + r.Intn(5)}
			m[fmt.Sprintf("a%02d", r.Intn(100))] = randomNumbers(r)[:1]
		}
	}
	return storeOf(m)
}

func planned(locks []string, writes ...impl.StoWrite) impl.OpPlan {
	return impl.OpPlan{Ok: true, Locks: locks, Writes: writes}
}

func refused(locks ...string) impl.OpPlan {
	return impl.OpPlan{Locks: locks}
}

func samePlan(a, b impl.OpPlan) bool {
	return a.Ok == b.Ok && slices.Equal(a.Locks, b.Locks) && slices.EqualFunc(a.Writes, b.Writes, sameWrite)
}

func copyPlan(p impl.OpPlan) impl.OpPlan {
	return impl.OpPlan{Ok: p.Ok, Locks: slices.Clone(p.Locks), Writes: copyWrites(p.Writes)}
}

// wantPlan looks at the order of keys and writes too.
func wantPlan(t *testing.T, what string, place int, s impl.StoStore, tx int, o impl.OpOp, want impl.OpPlan) {
	t.Helper()
	if got := impl.PlcPlan(place, s, tx, o); !samePlan(got, want) {
		t.Errorf("%s: place %d, %v, transaction %d, %v: got %v, want %v", what, place, s, tx, o, got, want)
	}
}

// modelPlan is PlcPlan for valid arguments, by a map.
func modelPlan(place int, s impl.StoStore, tx int, o impl.OpOp) impl.OpPlan {
	m := modelOf(s)
	switch place {
	case impl.PlcIn:
		return modelPlanIn(m, o)
	case impl.PlcMay:
		return modelPlanMay(m, o)
	}
	key := fmt.Sprint("a", tx)
	if m[key] != nil {
		return refused(key)
	}
	return planned([]string{key}, set(key, o.Kind))
}

func modelPlanIn(m map[string][]int, o impl.OpOp) impl.OpPlan {
	key := fmt.Sprint("s", o.In)
	mine := slices.Equal(m[key], []int{o.Who})
	switch {
	case o.Kind == impl.OpIn && m[key] == nil:
		return planned([]string{key}, set(key, o.Who))
	case o.Kind == impl.OpLet && mine:
		return planned([]string{key})
	case o.Kind == impl.OpOut && mine:
		return planned([]string{key}, del(key))
	case o.Kind == impl.OpTrade || o.Kind == impl.OpNext:
		return impl.OpPlan{}
	}
	return refused(key)
}

func modelPlanMay(m map[string][]int, o impl.OpOp) impl.OpPlan {
	code, fam := fmt.Sprint("c", o.Code), fmt.Sprint("f", o.Fam)
	c, f := m[code], m[fam]
	switch o.Kind {
	case impl.OpLet:
		if c == nil {
			return planned([]string{code}, set(code, o.Who, modelSum(o.Sec)))
		}
		return refused(code)
	case impl.OpTrade:
		if c != nil && f == nil && c[1] == modelSum(o.Sec) {
			return planned([]string{code, fam, fmt.Sprint("u", c[0])}, del(code), set(fam, c[0], 1, 1))
		}
		return refused(code, fam)
	case impl.OpNext:
		if f == nil || f[2] == 0 || o.Gen == 0 || o.Gen > f[1] || f[1] == 99 {
			return refused(fam)
		}
		locks := []string{fam, fmt.Sprint("u", f[0])}
		if o.Gen == f[1] {
			return planned(locks, set(fam, f[0], f[1]+1, 1))
		}
		return planned(locks, set(fam, f[0], f[1], 0))
	case impl.OpOut:
		p := planned([]string{fmt.Sprint("u", o.Who)})
		for n := range 10 {
			key := fmt.Sprint("f", n)
			if f := m[key]; f != nil && f[0] == o.Who && f[2] == 1 {
				p.Locks, p.Writes = append(p.Locks, key), append(p.Writes, set(key, f[0], f[1], 0))
			}
		}
		return p
	}
	return impl.OpPlan{}
}
