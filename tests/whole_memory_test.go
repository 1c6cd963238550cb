package tests

import (
	"math/rand"
	"testing"

	"loop.example/janitor/impl"
)

// wholeWithRoom has room behind the stores, their items and the numbers of these.
func wholeWithRoom(list []impl.StoStore) []impl.StoStore {
	out := make([]impl.StoStore, 0, len(list)+2)
	for _, s := range list {
		out = append(out, storeWithRoom(s))
	}
	return out
}

func wantWhole(t *testing.T, what string, list, was []impl.StoStore) {
	t.Helper()
	if !sameStores(list, was) {
		t.Fatalf("%s: %v, was %v", what, list, was)
	}
	for i, s := range list {
		wantArguments(t, what, s, was[i], nil, nil)
	}
	for _, s := range list[len(list):cap(list)] {
		if s.Items != nil {
			t.Fatalf("%s: the room behind the stores changed: %v", what, s)
		}
	}
}

// scribbleStore overwrites the items with all their spare capacity, and the numbers of each.
func scribbleStore(s impl.StoStore) {
	items := s.Items[:cap(s.Items)]
	for i := range items {
		scribble(items[i].Val)
		items[i] = impl.StoItem{Key: "x"}
	}
}

func scribbleWhole(list []impl.StoStore) {
	list = list[:cap(list)]
	for i := range list {
		scribbleStore(list[i])
		list[i] = store(item("x", -7))
	}
}

// TestGloDoMemory: neither a refused nor an executed operation changes or shares memory with the stores that it was given, and no two parts of a result share memory.
func TestGloDoMemory(t *testing.T) {
	r := rand.New(rand.NewSource(41))
	count := map[bool]int{}
	for range opRounds {
		list := wholeWithRoom(randomWhole(r))
		was, o, tx := copyStores(list), nextOp(r, list), r.Intn(impl.TxMost+1)
		impl.GloOk(list)
		got, ok := impl.GloDo(list, tx, o)
		again, _ := impl.GloDo(list, tx, o)
		gotWas := copyStores(got)
		wantWhole(t, "GloDo", list, was)
		wantParts(t, got, gotWas)
		scribbleWhole(got)
		wantWhole(t, "the result overwritten", list, was)
		if !sameStores(again, gotWas) {
			t.Fatalf("one result changed with another one: %v, was %v", again, gotWas)
		}
		scribbleWhole(list)
		if !sameStores(again, gotWas) {
			t.Fatalf("a result changed with the argument: %v, was %v", again, gotWas)
		}
		count[ok]++
	}
	if count[true] < 200 || count[false] < 200 {
		t.Errorf("executed and refused: %v", count)
	}
}

// wantParts overwrites the numbers of one item after the other, and the items of one store after the other.
func wantParts(t *testing.T, got, was []impl.StoStore) {
	t.Helper()
	for i, s := range got {
		for k, it := range s.Items {
			scribble(it.Val)
			copy(it.Val, was[i].Items[k].Val)
			if !sameStores(got, was) {
				t.Fatalf("one item changed with another one: %v, was %v", got, was)
			}
		}
	}
	for i := range got {
		scribbleStore(got[i])
		got[i] = copyStore(was[i])
		if !sameStores(got, was) {
			t.Fatalf("one store changed with another one: %v, was %v", got, was)
		}
	}
}

// TestGloNewMemory: GloNew is new every time.
func TestGloNewMemory(t *testing.T) {
	first, second := impl.GloNew(), impl.GloNew()
	scribbleWhole(first)
	for _, list := range [][]impl.StoStore{second, impl.GloNew()} {
		if !sameStores(list, stores(store(), store(), store())) {
			t.Errorf("GloNew is %v after another one was overwritten", list)
		}
	}
}

// TestGloKeepsNothing: the same sequence twice has the same results, whatever happened to the first ones.
func TestGloKeepsNothing(t *testing.T) {
	r, again := rand.New(rand.NewSource(42)), rand.New(rand.NewSource(42))
	first := randomRun(r, 40)
	last := copyStores(first[len(first)-1].after)
	for _, s := range first {
		scribbleWhole(s.after)
	}
	second := randomRun(again, 40)
	if got := second[len(second)-1].after; !sameStores(got, last) {
		t.Errorf("got %v, want %v", got, last)
	}
}
