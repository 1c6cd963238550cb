package tests

import (
	"math/rand"
	"slices"
	"testing"

	"loop.example/janitor/impl"
)

// TestStoreConstants holds the bounds of chapter 1 to the document's table.
func TestStoreConstants(t *testing.T) {
	if impl.StoMost != 40 || impl.ValMost != 3 || impl.ValTop != 9999 {
		t.Error(impl.StoMost, impl.ValMost, impl.ValTop)
	}
}

// TestKeys: a key has a lower-case letter and one or two digits, in an item and in a write.
func TestKeys(t *testing.T) {
	for _, key := range allKeys() {
		if !impl.StoOk(store(item(key, 1))) || !impl.WrtOk(set(key, 1)) || !impl.WrtOk(del(key)) {
			t.Errorf("%q is not taken as a key", key)
		}
	}
	for _, key := range badKeys() {
		if impl.StoOk(store(item(key, 1))) || impl.WrtOk(set(key, 1)) || impl.WrtOk(del(key)) {
			t.Errorf("%q is taken as a key", key)
		}
	}
}

// TestNumbers: an item has 1 to ValMost numbers in 0..ValTop, and so has a write without Del.
func TestNumbers(t *testing.T) {
	good := [][]int{{0}, {impl.ValTop}, {1, 2}, {0, 0, 0}, {impl.ValTop, impl.ValTop, impl.ValTop}, {3, 2, 1}}
	for _, val := range good {
		if !impl.StoOk(store(item("a1", val...))) || !impl.WrtOk(set("a1", val...)) {
			t.Errorf("%v are not taken as numbers", val)
		}
	}
	for _, val := range badNumbers() {
		if impl.StoOk(store(item("a1", val...))) || impl.WrtOk(set("a1", val...)) {
			t.Errorf("%v are taken as numbers", val)
		}
		if impl.StoOk(store(item("a1", 1), item("a2", val...))) {
			t.Errorf("%v are taken as numbers of the last item", val)
		}
	}
}

// TestPromise13: a valid store is valid without any one item; with an item twice it is invalid.
func TestPromise13(t *testing.T) {
	r := rand.New(rand.NewSource(13))
	for range storeRounds {
		s := randomStore(r, fewKeys(), impl.StoMost)
		if !impl.StoOk(s) {
			t.Fatalf("invalid: %v", s)
		}
		for i, it := range s.Items {
			if less := store(slices.Delete(slices.Clone(s.Items), i, i+1)...); !impl.StoOk(less) {
				t.Fatalf("invalid without item %d: %v", i, less)
			}
			at := r.Intn(len(s.Items) + 1)
			if twice := store(slices.Insert(slices.Clone(s.Items), at, it)...); impl.StoOk(twice) {
				t.Fatalf("valid with item %d twice: %v", i, twice)
			}
		}
	}
}

// TestPromise13Order: keys ascend as strings, so that a prefix comes first, and a10 is before a2.
func TestPromise13Order(t *testing.T) {
	valid := [][]string{{}, {"a1"}, {"a1", "a10", "a2"}, {"a0", "a00", "a01", "a1"}, {"a99", "b0"}, {"a9", "b10", "c0"}}
	for _, keys := range valid {
		if s := storeWithKeys(keys); !impl.StoOk(s) {
			t.Errorf("invalid: %v", s)
		}
	}
	invalid := [][]string{{"a2", "a10"}, {"a10", "a1"}, {"a1", "a2", "a10"}, {"b0", "a99"}, {"a1", "a1"}, {"a1", "a2", "a2"}, {"a1", "a1", "a2"}, {"a1", "a2", "a1"}, {"a1", "c1", "b1"}}
	for _, keys := range invalid {
		if s := storeWithKeys(keys); impl.StoOk(s) {
			t.Errorf("valid: %v", s)
		}
	}
}

func storeWithKeys(keys []string) impl.StoStore {
	var s impl.StoStore
	for i, key := range keys {
		s.Items = append(s.Items, item(key, i))
	}
	return s
}

// TestPromise13Same: two items with one key are invalid with different numbers too.
func TestPromise13Same(t *testing.T) {
	if impl.StoOk(store(item("a1", 1), item("a1", 2))) {
		t.Error("valid with a key twice")
	}
}

// TestPromise13Room: StoMost items are valid, one more is not.
func TestPromise13Room(t *testing.T) {
	s := fullStore()
	if len(s.Items) != impl.StoMost || !impl.StoOk(s) {
		t.Errorf("invalid: %v", s)
	}
	s.Items = append(s.Items, item("b1", 1))
	if impl.StoOk(s) {
		t.Errorf("valid: %v", s)
	}
}

// TestPromise14: StoGet of every item returns its numbers; for other keys nil and false.
func TestPromise14(t *testing.T) {
	r := rand.New(rand.NewSource(14))
	others := append(allKeys(), badKeys()...)
	for range storeRounds {
		s := randomStore(r, fewKeys(), impl.StoMost)
		m := modelOf(s)
		for _, it := range s.Items {
			wantNumbers(t, s, it.Key, it.Val)
		}
		for range 40 {
			key := others[r.Intn(len(others))]
			if m[key] == nil {
				wantNoNumbers(t, s, key)
			}
		}
		for _, key := range fewKeys() {
			if m[key] == nil {
				wantNoNumbers(t, s, key)
			}
		}
	}
}

// TestPromise14Edges: the first and last of StoMost items, keys that are close to one of a store, and strings that are no key.
func TestPromise14Edges(t *testing.T) {
	full := fullStore()
	wantNumbers(t, full, "a10", []int{0})
	wantNumbers(t, full, "a49", []int{impl.StoMost - 1})
	s := store(item("a1", 5), item("a10", 6, 7), item("a2", 0, impl.ValTop, 8))
	wantNumbers(t, s, "a1", []int{5})
	wantNumbers(t, s, "a10", []int{6, 7})
	wantNumbers(t, s, "a2", []int{0, impl.ValTop, 8})
	for _, key := range append([]string{"a0", "a01", "a11", "a20", "a3", "b1", "z99"}, badKeys()...) {
		wantNoNumbers(t, s, key)
		wantNoNumbers(t, impl.StoStore{}, key)
	}
}

// TestPromise14Invalid: in an invalid store nothing is found.
func TestPromise14Invalid(t *testing.T) {
	for _, s := range invalidStores() {
		for _, it := range s.Items {
			wantNoNumbers(t, s, it.Key)
		}
		wantNoNumbers(t, s, "a1")
	}
}

func wantNumbers(t *testing.T, s impl.StoStore, key string, want []int) {
	t.Helper()
	if got, ok := impl.StoGet(s, key); !ok || !slices.Equal(got, want) {
		t.Errorf("StoGet of %q in %v: got %v, %v, want %v", key, s, got, ok, want)
	}
}

func wantNoNumbers(t *testing.T, s impl.StoStore, key string) {
	t.Helper()
	if got, ok := impl.StoGet(s, key); ok || got != nil {
		t.Errorf("StoGet of %q in %v: got %v, %v", key, s, got, ok)
	}
}

// invalidStores has one of each kind: a bad key, bad numbers, a wrong order, a key twice, too many items.
func invalidStores() []impl.StoStore {
	var out []impl.StoStore
	for _, key := range badKeys() {
		out = append(out, store(item(key, 1)), store(item("a1", 1), item(key, 1)), store(item(key, 1), item("a1", 1)))
	}
	for _, val := range badNumbers() {
		out = append(out, store(item("a1", val...)), store(item("a0", 1), item("a1", val...)), store(item("a1", val...), item("a2", 1)))
	}
	out = append(out, store(item("a2", 1), item("a1", 1)), store(item("a1", 1), item("a2", 1), item("a10", 1)))
	out = append(out, store(item("a1", 1), item("a1", 1)), store(item("a1", 1), item("a1", 2)))
	tooMany := fullStore()
	tooMany.Items = append(tooMany.Items, item("b1", 1))
	return append(out, tooMany)
}

// invalidWrites has one of each kind: a bad key, bad numbers, numbers and Del, neither of them.
func invalidWrites() []impl.StoWrite {
	out := []impl.StoWrite{{}, {Key: "a1"}, {Key: "a1", Val: []int{}}, {Key: "a1", Del: true, Val: []int{1}}, {Key: "a1", Del: true, Val: []int{-1}}}
	for _, key := range badKeys() {
		out = append(out, set(key, 1), del(key))
	}
	for _, val := range badNumbers() {
		out = append(out, set("a1", val...))
	}
	return out
}

// TestPromise15: after StoDo the store is valid; every written key has the numbers of its last write, or is removed; all others are unchanged.
func TestPromise15(t *testing.T) {
	r := rand.New(rand.NewSource(15))
	for range storeRounds {
		s := randomStore(r, fewKeys(), impl.StoMost)
		list := randomWrites(r, fewKeys(), 30)
		got := impl.StoDo(s, list)
		if !impl.StoOk(got) {
			t.Fatalf("StoDo of %v in %v: invalid %v", list, s, got)
		}
		wantStore(t, "as a map does", got, modelDo(s, list))
	}
}

// TestPromise15Many: the same with so many keys that there is often no room.
func TestPromise15Many(t *testing.T) {
	r := rand.New(rand.NewSource(1515))
	keys := allKeys()[:60]
	for range storeRounds {
		s := randomStore(r, keys, impl.StoMost)
		list := randomWrites(r, keys, 60)
		wantStore(t, "as a map does", impl.StoDo(s, list), modelDo(s, list))
	}
}

// TestPromise15Twice: of two writes to one key the second one counts, whatever the first one was.
func TestPromise15Twice(t *testing.T) {
	for _, s := range []impl.StoStore{{}, store(item("b2", 7)), store(item("b1", 1), item("b2", 7, 8), item("b20", 2), item("c1", 3))} {
		for _, first := range []impl.StoWrite{set("b2", 5), set("b2", 1, 2, 3), del("b2")} {
			for _, second := range []impl.StoWrite{set("b2", 6), set("b2", 0, impl.ValTop), del("b2")} {
				got := impl.StoDo(s, []impl.StoWrite{first, second})
				wantStore(t, "the second write alone", got, impl.StoDo(s, []impl.StoWrite{second}))
				wantStore(t, "as a map does", got, modelDo(s, []impl.StoWrite{first, second}))
				between := impl.StoDo(s, []impl.StoWrite{first, set("a5", 4), del("c1"), second})
				wantStore(t, "with others between them", between, modelDo(s, []impl.StoWrite{set("a5", 4), del("c1"), second}))
			}
		}
	}
}

// TestPromise15Edges: fixed results of single writes.
func TestPromise15Edges(t *testing.T) {
	s := store(item("a1", 1), item("a2", 2))
	wantStore(t, "no writes", impl.StoDo(s, nil), s)
	wantStore(t, "no writes to nothing", impl.StoDo(impl.StoStore{}, nil), impl.StoStore{})
	wantStore(t, "Del of a key that is not there", impl.StoDo(s, []impl.StoWrite{del("a10")}), s)
	wantStore(t, "Del in an empty store", impl.StoDo(impl.StoStore{}, []impl.StoWrite{del("a1")}), impl.StoStore{})
	wantStore(t, "between", impl.StoDo(s, []impl.StoWrite{set("a10", 3)}), store(item("a1", 1), item("a10", 3), item("a2", 2)))
	wantStore(t, "first", impl.StoDo(s, []impl.StoWrite{set("a0", 3)}), store(item("a0", 3), item("a1", 1), item("a2", 2)))
	wantStore(t, "last", impl.StoDo(s, []impl.StoWrite{set("z99", 0, impl.ValTop, 3)}), store(item("a1", 1), item("a2", 2), item("z99", 0, impl.ValTop, 3)))
	wantStore(t, "one that exists", impl.StoDo(s, []impl.StoWrite{set("a1", 8, 9)}), store(item("a1", 8, 9), item("a2", 2)))
	wantStore(t, "Del of the first", impl.StoDo(s, []impl.StoWrite{del("a1")}), store(item("a2", 2)))
	wantStore(t, "Del of the last", impl.StoDo(s, []impl.StoWrite{del("a2")}), store(item("a1", 1)))
	wantStore(t, "Del of all", impl.StoDo(s, []impl.StoWrite{del("a2"), del("a1")}), impl.StoStore{})
}

// TestPromise15Invalid: with an invalid store or write nothing comes back, wherever the write stands.
func TestPromise15Invalid(t *testing.T) {
	for _, s := range invalidStores() {
		wantStore(t, "an invalid store", impl.StoDo(s, nil), impl.StoStore{})
		wantStore(t, "an invalid store", impl.StoDo(s, []impl.StoWrite{set("c1", 1)}), impl.StoStore{})
	}
	s := store(item("b1", 1))
	for _, w := range invalidWrites() {
		wantStore(t, "an invalid write alone", impl.StoDo(s, []impl.StoWrite{w}), impl.StoStore{})
		wantStore(t, "an invalid write first", impl.StoDo(s, []impl.StoWrite{w, set("c1", 1)}), impl.StoStore{})
		wantStore(t, "an invalid write last", impl.StoDo(s, []impl.StoWrite{set("c1", 1), w}), impl.StoStore{})
	}
}

// TestPromise15Room: more than StoMost items after one of the writes give nothing, even if a later write removes one.
func TestPromise15Room(t *testing.T) {
	s := fullStore()
	wantStore(t, "one more", impl.StoDo(s, []impl.StoWrite{set("b1", 1)}), impl.StoStore{})
	wantStore(t, "one more, then one less", impl.StoDo(s, []impl.StoWrite{set("b1", 1), del("b1")}), impl.StoStore{})
	wantStore(t, "one more, then another one less", impl.StoDo(s, []impl.StoWrite{set("a0", 1), del("a10")}), impl.StoStore{})
	swapped := impl.StoDo(s, []impl.StoWrite{del("a10"), set("b1", 1)})
	wantStore(t, "one less, then one more", swapped, store(append(slices.Clone(s.Items[1:]), item("b1", 1))...))
	changed := impl.StoDo(s, []impl.StoWrite{set("a10", 1, 2, 3)})
	wantStore(t, "one that exists", changed, store(append([]impl.StoItem{item("a10", 1, 2, 3)}, s.Items[1:]...)...))
	last := store(s.Items[1:]...)
	wantStore(t, "the last that has room", impl.StoDo(last, []impl.StoWrite{set("a10", 0)}), s)
	var list []impl.StoWrite
	for _, it := range s.Items {
		list = append(list, set(it.Key, it.Val...))
	}
	wantStore(t, "all that have room", impl.StoDo(impl.StoStore{}, list), s)
	slices.Reverse(list)
	wantStore(t, "all that have room, from the last on", impl.StoDo(impl.StoStore{}, list), s)
	wantStore(t, "one too many", impl.StoDo(impl.StoStore{}, append(list, set("a0", 0))), impl.StoStore{})
}

// TestPromise16: StoDo of two lists, one after the other, is StoDo of the second one after the first one.
func TestPromise16(t *testing.T) {
	r := rand.New(rand.NewSource(16))
	for range storeRounds {
		s := randomStore(r, fewKeys(), impl.StoMost)
		a, b := randomWrites(r, fewKeys(), 15), randomWrites(r, fewKeys(), 15)
		both := impl.StoDo(s, slices.Concat(a, b))
		wantStore(t, "one list after the other", both, impl.StoDo(impl.StoDo(s, a), b))
		wantStore(t, "as a map does", both, modelDo(s, slices.Concat(a, b)))
	}
}

// TestPromise16Order: for lists without a common key the order does not matter.
func TestPromise16Order(t *testing.T) {
	r := rand.New(rand.NewSource(1616))
	for range storeRounds {
		keys := fewKeys()
		r.Shuffle(len(keys), func(i, j int) { keys[i], keys[j] = keys[j], keys[i] })
		s := randomStore(r, fewKeys(), impl.StoMost)
		a, b := randomWrites(r, keys[:18], 15), randomWrites(r, keys[18:], 15)
		ab, ba := impl.StoDo(s, slices.Concat(a, b)), impl.StoDo(s, slices.Concat(b, a))
		wantStore(t, "the other order", ab, ba)
		wantStore(t, "as a map does", ab, modelDo(s, slices.Concat(a, b)))
	}
	a, b := []impl.StoWrite{set("a2", 1), del("a1")}, []impl.StoWrite{set("a10", 2)}
	want := store(item("a10", 2), item("a2", 1))
	s := store(item("a1", 9))
	wantStore(t, "fixed", impl.StoDo(s, slices.Concat(a, b)), want)
	wantStore(t, "fixed, the other order", impl.StoDo(s, slices.Concat(b, a)), want)
}

// TestPromise17: a valid write with numbers and Del, or without either, is invalid.
func TestPromise17(t *testing.T) {
	r := rand.New(rand.NewSource(17))
	for range storeRounds {
		for _, w := range randomWrites(r, allKeys(), 10) {
			if !impl.WrtOk(w) {
				t.Fatalf("invalid: %v", w)
			}
			w.Del = !w.Del
			if impl.WrtOk(w) {
				t.Fatalf("valid with the wrong combination: %v", w)
			}
		}
		w := set("a1", randomNumbers(r)...)
		w.Del = true
		if impl.WrtOk(w) {
			t.Fatalf("valid with numbers and Del: %v", w)
		}
	}
	for _, w := range invalidWrites() {
		if impl.WrtOk(w) {
			t.Errorf("valid: %v", w)
		}
	}
	if !impl.WrtOk(impl.StoWrite{Key: "a1", Del: true, Val: []int{}}) {
		t.Error("invalid with Del and an empty slice, which is the same as nil")
	}
}

// TestPromise58: StoDo of a list twice is StoDo of it once, as long as there is room.
func TestPromise58(t *testing.T) {
	r := rand.New(rand.NewSource(58))
	for range storeRounds {
		s := randomStore(r, fewKeys(), impl.StoMost)
		list := randomWrites(r, fewKeys(), 30)
		once := impl.StoDo(s, list)
		wantStore(t, "twice", impl.StoDo(once, list), once)
		wantStore(t, "twice, as one list", impl.StoDo(s, slices.Concat(list, list)), once)
		wantStore(t, "as a map does", once, modelDo(s, list))
	}
	full := fullStore()
	list := []impl.StoWrite{set("a10", 5), set("a49", 6)}
	once := impl.StoDo(full, list)
	if len(once.Items) != impl.StoMost {
		t.Errorf("%d items", len(once.Items))
	}
	wantStore(t, "twice in a full store", impl.StoDo(once, list), once)
}

// TestPromise58Del: removing an item that exists leaves one item less; one that does not exist, as many.
func TestPromise58Del(t *testing.T) {
	r := rand.New(rand.NewSource(5858))
	for range storeRounds {
		s := randomStore(r, fewKeys(), impl.StoMost)
		for i, it := range s.Items {
			got := impl.StoDo(s, []impl.StoWrite{del(it.Key)})
			wantStore(t, "Del", got, store(slices.Delete(slices.Clone(s.Items), i, i+1)...))
			wantStore(t, "Del twice", impl.StoDo(got, []impl.StoWrite{del(it.Key)}), got)
			if len(got.Items) != len(s.Items)-1 {
				t.Fatalf("%d items of %d are left", len(got.Items), len(s.Items))
			}
		}
		wantStore(t, "Del of what is not there", impl.StoDo(s, []impl.StoWrite{del("q5")}), s)
	}
}
