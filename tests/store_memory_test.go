package tests

import (
	"math/rand"
	"slices"
	"testing"

	"loop.example/janitor/impl"
)

const mark = 4242

// withRoom puts numbers into a longer array, whose rest shows whether somebody wrote to it.
func withRoom(val []int) []int {
	out := append(slices.Clone(val), mark, mark, mark)
	return out[:len(val)]
}

func storeWithRoom(s impl.StoStore) impl.StoStore {
	items := make([]impl.StoItem, 0, len(s.Items)+5)
	for _, it := range s.Items {
		items = append(items, impl.StoItem{Key: it.Key, Val: withRoom(it.Val)})
	}
	return impl.StoStore{Items: items}
}

func writesWithRoom(list []impl.StoWrite) []impl.StoWrite {
	out := make([]impl.StoWrite, 0, len(list)+5)
	for _, w := range list {
		if !w.Del {
			w.Val = withRoom(w.Val)
		}
		out = append(out, w)
	}
	return out
}

func roomIsKept(val []int, n int) bool {
	for _, x := range val[n:cap(val)][:min(3, cap(val)-n)] {
		if x != mark {
			return false
		}
	}
	return true
}

// scribble overwrites numbers with all their spare capacity.
func scribble(val []int) {
	val = val[:cap(val)]
	for i := range val {
		val[i] = -7
	}
}

func wantArguments(t *testing.T, what string, s, sWas impl.StoStore, list, listWas []impl.StoWrite) {
	t.Helper()
	if !sameStore(s, sWas) || !slices.EqualFunc(list, listWas, sameWrite) {
		t.Fatalf("%s: an argument changed: %v, %v", what, s, list)
	}
	for _, it := range s.Items {
		if !roomIsKept(it.Val, len(it.Val)) {
			t.Fatalf("%s: the room behind the numbers of an item changed: %v", what, it.Val[:cap(it.Val)])
		}
	}
	for _, w := range list {
		if !w.Del && !roomIsKept(w.Val, len(w.Val)) {
			t.Fatalf("%s: the room behind the numbers of a write changed: %v", what, w.Val[:cap(w.Val)])
		}
	}
	for _, it := range s.Items[len(s.Items):cap(s.Items)] {
		if it.Key != "" || it.Val != nil {
			t.Fatalf("%s: the room behind the items changed: %v", what, it)
		}
	}
}

// TestStoDoMemory: StoDo writes to no argument, and its result shares memory with none, nor one of its slices with another.
func TestStoDoMemory(t *testing.T) {
	r := rand.New(rand.NewSource(7))
	for range storeRounds {
		s := storeWithRoom(randomStore(r, fewKeys(), 20))
		list := writesWithRoom(randomWrites(r, fewKeys(), 10))
		sWas, listWas := copyStore(s), copyWrites(list)
		got := impl.StoDo(s, list)
		wantArguments(t, "StoDo", s, sWas, list, listWas)
		for i := range got.Items {
			was := copyStore(got)
			scribble(got.Items[i].Val)
			copy(got.Items[i].Val, was.Items[i].Val)
			wantStore(t, "one item of a result after another one was overwritten", got, was)
			scribble(got.Items[i].Val)
			wantArguments(t, "after the result was overwritten", s, sWas, list, listWas)
			copy(got.Items[i].Val, was.Items[i].Val)
		}
		room := got.Items[:cap(got.Items)]
		for i := range room {
			room[i] = impl.StoItem{Key: "x"}
		}
		wantArguments(t, "after the items of the result were overwritten", s, sWas, list, listWas)
	}
}

// TestStoGetMemory: StoGet writes to no argument, and its result shares memory with none.
func TestStoGetMemory(t *testing.T) {
	r := rand.New(rand.NewSource(8))
	for range storeRounds {
		s := storeWithRoom(randomStore(r, fewKeys(), 20))
		was := copyStore(s)
		for _, it := range was.Items {
			got, _ := impl.StoGet(s, it.Key)
			scribble(got)
			wantArguments(t, "StoGet", s, was, nil, nil)
		}
	}
}

// TestStoreKeepsNothing: the same call twice has the same result, whatever happened to the first one.
func TestStoreKeepsNothing(t *testing.T) {
	s, list := store(item("a1", 1), item("a2", 2, 3)), []impl.StoWrite{set("a3", 4), del("a1")}
	first := impl.StoDo(s, list)
	for _, it := range first.Items {
		scribble(it.Val)
	}
	wantStore(t, "again", impl.StoDo(s, list), store(item("a2", 2, 3), item("a3", 4)))
}
