package tests

import (
	"math/rand"
	"slices"
	"testing"

	"loop.example/janitor/impl"
)

// TestOpConstants holds the numbers of chapter 3 to the document's table.
func TestOpConstants(t *testing.T) {
	if impl.PlcFront != 0 || impl.PlcIn != 1 || impl.PlcMay != 2 || impl.PlcDone != 3 || impl.PlcMany != 4 {
		t.Error(impl.PlcFront, impl.PlcIn, impl.PlcMay, impl.PlcDone, impl.PlcMany)
	}
	if impl.OpIn != 1 || impl.OpLet != 2 || impl.OpTrade != 3 || impl.OpNext != 4 || impl.OpOut != 5 {
		t.Error(impl.OpIn, impl.OpLet, impl.OpTrade, impl.OpNext, impl.OpOut)
	}
	if impl.NumTop != 9 || impl.SecTop != 99 {
		t.Error(impl.NumTop, impl.SecTop)
	}
}

func wantOp(t *testing.T, what string, o impl.OpOp, want bool) {
	t.Helper()
	if impl.OpOk(o) != want {
		t.Errorf("%s: %v: OpOk is %v, want %v", what, o, !want, want)
	}
	if (len(impl.OpPlaces(o)) > 0) != want {
		t.Errorf("%s: %v: OpPlaces is %v", what, o, impl.OpPlaces(o))
	}
}

// TestPromise24: a valid operation with another nonzero field is invalid; and as another kind with other fields it is invalid unless all fields are 0.
func TestPromise24(t *testing.T) {
	r := rand.New(rand.NewSource(24))
	for range opRounds {
		o := randomOp(r)
		wantOp(t, "valid", o, true)
		for _, f := range opFields() {
			if !f.has(o.Kind) {
				wantOp(t, "with "+f.name, with(o, f, 1+r.Intn(f.top)), false)
			}
		}
		for _, kind := range kinds() {
			other := o
			other.Kind = kind
			wantOp(t, "as another kind", other, modelOpOk(other))
			if noCommonField(o.Kind, kind) {
				wantOp(t, "as a kind with other fields", other, other == impl.OpOp{Kind: kind})
			}
		}
	}
}

func noCommonField(a, b int) bool {
	for _, f := range opFields() {
		if f.has(a) && f.has(b) {
			return false
		}
	}
	return true
}

// TestPromise24Edges: every field of every kind at 0, at its bound and past it, alone and with the other fields at their bounds.
func TestPromise24Edges(t *testing.T) {
	for _, kind := range kinds() {
		least, most := impl.OpOp{Kind: kind}, impl.OpOp{Kind: kind}
		for _, f := range opFields() {
			if f.has(kind) {
				most = with(most, f, f.top)
			}
		}
		wantOp(t, "all at 0", least, true)
		wantOp(t, "all at their bounds", most, true)
		for _, f := range opFields() {
			for _, o := range []impl.OpOp{least, most} {
				wantOp(t, f.name+" at 0", with(o, f, 0), true)
				wantOp(t, f.name+" at 1", with(o, f, 1), f.has(kind))
				wantOp(t, f.name+" at its bound", with(o, f, f.top), f.has(kind))
				wantOp(t, f.name+" past its bound", with(o, f, f.top+1), false)
				wantOp(t, f.name+" below 0", with(o, f, -1), false)
			}
		}
	}
}

// TestPromise24Invalid: other kinds, and one invalid field of each sort.
func TestPromise24Invalid(t *testing.T) {
	for _, o := range invalidOps() {
		wantOp(t, "invalid", o, false)
	}
}

// TestPromise24All: every operation with numbers around the bounds.
func TestPromise24All(t *testing.T) {
	numbers := []int{-1, 0, 9, 10, 99, 100}
	for kind := -1; kind <= 7; kind++ {
		for n := range 6 * 6 * 6 * 6 * 6 * 6 {
			o, rest := impl.OpOp{Kind: kind}, n
			for _, f := range opFields() {
				o, rest = with(o, f, numbers[rest%6]), rest/6
			}
			if impl.OpOk(o) != modelOpOk(o) {
				t.Fatalf("%v: %v", o, impl.OpOk(o))
			}
		}
	}
}

// TestPromise25: OpPlaces ascends; every valid operation is executed at PlcDone and at one more service at least.
func TestPromise25(t *testing.T) {
	r := rand.New(rand.NewSource(25))
	for range opRounds {
		wantPlaces(t, randomOp(r))
	}
	for _, o := range someOps() {
		wantPlaces(t, o)
	}
}

func wantPlaces(t *testing.T, o impl.OpOp) {
	t.Helper()
	got := impl.OpPlaces(o)
	if !slices.Equal(got, modelPlaces(o.Kind)) {
		t.Errorf("%v: got %v, want %v", o, got, modelPlaces(o.Kind))
	}
	if len(got) < 2 || got[len(got)-1] != impl.PlcDone {
		t.Errorf("%v is not audited, or only that: %v", o, got)
	}
	for i := 1; i < len(got); i++ {
		if got[i-1] >= got[i] {
			t.Errorf("%v does not ascend: %v", o, got)
		}
	}
}

// TestPromise25Invalid: an invalid operation is executed nowhere.
func TestPromise25Invalid(t *testing.T) {
	for _, o := range invalidOps() {
		if got := impl.OpPlaces(o); len(got) != 0 {
			t.Errorf("%v: %v", o, got)
		}
	}
}

// TestPromise26: SecSum of two secrets is equal if and only if they are; none is the secret itself; for other numbers it is -1.
func TestPromise26(t *testing.T) {
	for a := range impl.SecTop + 1 {
		sum := impl.SecSum(a)
		if sum != modelSum(a) || sum == a || sum < 0 || sum > impl.ValTop {
			t.Errorf("%d has the digest %d", a, sum)
		}
		for b := range impl.SecTop + 1 {
			if (impl.SecSum(b) == sum) != (a == b) {
				t.Errorf("%d and %d have the digests %d and %d", a, b, sum, impl.SecSum(b))
			}
		}
	}
	for _, sec := range []int{-1, -2, -104, 100, 101, 9973, 9973 + 7, 7 - 9973, 1 << 32, 1<<63 - 1, -1 << 63} {
		if got := impl.SecSum(sec); got != -1 {
			t.Errorf("%d has the digest %d", sec, got)
		}
	}
}

// TestPromise26Examples: the smallest and largest secret, and the one of the document's example.
func TestPromise26Examples(t *testing.T) {
	for _, x := range [][2]int{{0, 104}, {1, 8023}, {7, 5672}, {99, 6191}} {
		if got := impl.SecSum(x[0]); got != x[1] {
			t.Errorf("%d has the digest %d, want %d", x[0], got, x[1])
		}
	}
}

// wantPlace holds a store to be valid for one service alone, or for none if that is 0.
func wantPlace(t *testing.T, s impl.StoStore, want int) {
	t.Helper()
	for _, place := range append(services(), badPlaces()...) {
		if got := impl.PlcOk(place, s); got != (want != 0 && place == want) {
			t.Errorf("%v: PlcOk of place %d is %v", s, place, got)
		}
	}
}

// TestPromise27: a nonempty store is valid for at most one service; the empty one is valid for each.
func TestPromise27(t *testing.T) {
	r := rand.New(rand.NewSource(27))
	for range opRounds {
		place := services()[r.Intn(3)]
		s := randomPlaceStore(r, place)
		if len(s.Items) > 0 {
			wantPlace(t, s, place)
		}
		mixed := randomStore(r, []string{"s1", "s2", "c1", "c2", "f1", "f2", "a1", "a2"}, 3)
		if valid := validPlaces(mixed); len(valid) > 1 && len(mixed.Items) > 0 {
			t.Errorf("%v is valid for %v", mixed, valid)
		}
	}
	for _, empty := range []impl.StoStore{{}, {Items: []impl.StoItem{}}} {
		if got := validPlaces(empty); !slices.Equal(got, services()) {
			t.Errorf("the empty store is valid for %v", got)
		}
	}
}

func validPlaces(s impl.StoStore) []int {
	var out []int
	for _, place := range append(badPlaces(), services()...) {
		if impl.PlcOk(place, s) {
			out = append(out, place)
		}
	}
	return out
}

func goodItems(place int) []impl.StoItem {
	switch place {
	case impl.PlcIn:
		return []impl.StoItem{item("s0", 0), item("s1", 5), item("s9", 9)}
	case impl.PlcMay:
		return []impl.StoItem{
			item("c0", 0, 0), item("c3", 1, 5672), item("c9", 9, impl.ValTop),
			item("f0", 0, 1, 0), item("f1", 0, 1, 1), item("f5", 4, 50, 1), item("f8", 9, 99, 0), item("f9", 9, 99, 1),
		}
	}
	return []impl.StoItem{item("a0", 0), item("a00", 1), item("a10", 5), item("a29", 6), item("a30", 1), item("a5", 9), item("a6", 10), item("a99", impl.ValTop)}
}

// badItems are items of a valid store that are valid for no service: another letter, another number of digits or numbers, a number out of its bounds.
func badItems() []impl.StoItem {
	return []impl.StoItem{
		item("s10", 1), item("s00", 1), item("s01", 1), item("s99", 1), item("s1", 10), item("s1", impl.ValTop), item("s1", 1, 1), item("s1", 1, 1, 1),
		item("c10", 1, 5), item("c00", 1, 5), item("c1", 1), item("c1", 10, 5), item("c1", impl.ValTop, 5), item("c1", 1, 5, 1), item("c1", 1, 5, 0),
		item("f10", 1, 1, 1), item("f00", 1, 1, 1), item("f1", 1), item("f1", 1, 1), item("f1", 10, 1, 1), item("f1", impl.ValTop, 1, 0),
		item("f1", 1, 0, 1), item("f1", 1, 0, 0), item("f1", 1, 100, 1), item("f1", 1, 100, 0), item("f1", 1, 1, 2), item("f1", 1, 1, impl.ValTop),
		item("a1", 1, 1), item("a1", 1, 1, 1), item("a29", 1, 1),
		item("u1", 1), item("u1", 1, 1), item("u1", 1, 1, 1), item("b1", 1), item("d1", 1, 5), item("e1", 1, 1, 1), item("g1", 1, 1, 1), item("r1", 1), item("t1", 1), item("z1", 1),
	}
}

// TestPromise27Items: one item alone, and beside others.
func TestPromise27Items(t *testing.T) {
	for _, place := range services() {
		wantPlace(t, store(goodItems(place)...), place)
		for _, it := range goodItems(place) {
			wantPlace(t, store(it), place)
		}
		for _, bad := range badItems() {
			wantPlace(t, store(bad), 0)
			m := modelOf(store(goodItems(place)...))
			m[bad.Key] = bad.Val
			wantPlace(t, storeOf(m), 0)
		}
		for _, other := range services() {
			if other != place {
				m := modelOf(store(goodItems(place)...))
				m[goodItems(other)[0].Key] = goodItems(other)[0].Val
				wantPlace(t, storeOf(m), 0)
			}
		}
	}
}

// TestPromise27Invalid: a store that is invalid as such is valid for no service.
func TestPromise27Invalid(t *testing.T) {
	for _, place := range services() {
		good := goodItems(place)
		wantPlace(t, store(good[1], good[0]), 0)
		wantPlace(t, store(good[0], good[0]), 0)
		wantPlace(t, store(append(slices.Clone(good), good[0])...), 0)
	}
	for _, bad := range []impl.StoItem{item("s1"), item("s1", -1), item("c1", -1, 5), item("c1", 1, -1), item("c1", 1, impl.ValTop+1), item("f1", 1, 1, -1), item("f1", 1, -1, 1), item("f1", 1, 1, 1, 1), item("a1"), item("a1", -1), item("a1", impl.ValTop+1), item("a100", 1), item("a", 1), item("s", 1), item("sx", 1), item("", 1), item("S1", 1)} {
		wantPlace(t, store(bad), 0)
	}
	full := fullStore()
	wantPlace(t, full, impl.PlcDone)
	full.Items = append(full.Items, item("a5", 1))
	wantPlace(t, full, 0)
}
