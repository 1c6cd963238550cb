package tests

import (
	"math/rand"
	"slices"
	"testing"

	"loop.example/janitor/impl"
)

// wantOwnRoom overwrites one store after the other with all its spare capacity: no other one has anything of that in its own.
func wantOwnRoom(t *testing.T, list []impl.StoStore) {
	t.Helper()
	for i := range list {
		scribbleStore(list[i])
		for k, s := range list {
			if k != i && slices.ContainsFunc(s.Items[:cap(s.Items)], func(it impl.StoItem) bool { return it.Key == "x" }) {
				t.Fatalf("the stores %d and %d share memory", i, k)
			}
		}
		clear(list[i].Items[:cap(list[i].Items)])
	}
}

// wantOwnViews overwrites the views part by part: the system does not change, nor does any part that is not yet overwritten.
func wantOwnViews(t *testing.T, v views, unchanged func(what string)) {
	t.Helper()
	was := copyViews(v)
	check := func(what string, rest views) {
		t.Helper()
		unchanged("overwritten: " + what)
		if !sameViews(rest, was) {
			t.Fatalf("%v changed with %s: %v", was, what, rest)
		}
	}
	scribble(v.order)
	v.order = slices.Clone(was.order)
	check("the order", v)
	scribble(v.doubt)
	v.doubt = slices.Clone(was.doubt)
	check("what is in doubt", v)
	wantParts(t, v.places, was.places)
	scribbleWhole(v.places)
	v.places = copyStores(was.places)
	check("what the services have", v)
	wantParts(t, v.whole, was.whole)
	scribbleWhole(v.whole)
	v.whole = copyStores(was.whole)
	check("what is executed", v)
}

// TestViewsMemory: no view writes to the system, or shares memory with it, or with another view; nor does one store with another.
func TestViewsMemory(t *testing.T) {
	count := map[bool]int{}
	everyWorld(t, 830, func(r *rand.Rand, was impl.WldWorld) {
		if r.Intn(4) > 0 {
			return
		}
		for _, was := range []impl.WldWorld{was, reordered(r, was)} {
			w := worldWithRoom(was)
			unchanged := func(what string) {
				t.Helper()
				wantWorldArgument(t, what, w, was)
			}
			v, again, third := viewsOf(w), viewsOf(w), viewsOf(was)
			unchanged("called")
			wantOwnRoom(t, impl.VuePlaces(w))
			whole, _ := impl.VueWhole(w)
			wantOwnRoom(t, whole)
			if wantOwnViews(t, v, unchanged); !sameViews(again, third) {
				t.Fatalf("views changed with others: %v, were %v", again, third)
			}
			if scribbleWorld(w); !sameViews(again, third) {
				t.Fatalf("views changed with the system: %v, were %v", again, third)
			}
			count[third.ok && len(third.order) > 0]++
		}
	})
	if count[true] < 40 || count[false] < 40 {
		t.Errorf("all is possible, and not: %v", count)
	}
}

// TestViewsMemoryNew: empty stores are new every time, also those of the initial system and those before the first operation, if that is not possible.
func TestViewsMemoryNew(t *testing.T) {
	refused := withFront(idle(2), logged(yes(1), yes(0)))
	refused.Ops[1] = opNext(1, 1)
	removed := withFront(idle(2), logged(yes(0), yes(1)))
	removed.Disks = logs(
		allSafe(readyTo(0, set("s1", 1)), readyTo(1, del("s1"))),
		allSafe(readyTo(0, set("c1", 1, 1)), readyTo(1, del("c1"))),
		allSafe(readyTo(0, set("a0", 1)), readyTo(1, del("a0"))))
	for _, w := range []impl.WldWorld{impl.WldNew(), idle(3), refused, removed, goodWorld()} {
		first, want := viewsOf(w), copyViews(viewsOf(w))
		wantOwnRoom(t, viewsOf(w).places)
		wantOwnRoom(t, viewsOf(w).whole)
		wantOwnViews(t, first, func(string) {})
		scribbleWhole(first.places)
		scribbleWhole(first.whole)
		if got := viewsOf(w); !sameViews(got, want) || !sameStores(impl.GloNew(), empty()) {
			t.Errorf("got %v after others were overwritten, want %v", got, want)
		}
	}
}

// TestViewsKeepNothing: the same system has the same views again, whatever happened to the first ones, and whatever other systems were looked at.
func TestViewsKeepNothing(t *testing.T) {
	var first []views
	run := randomWorldRun(rand.New(rand.NewSource(831)), 200)
	for _, s := range run {
		v := viewsOf(s.after)
		first = append(first, copyViews(v))
		scribble(v.order)
		scribble(v.doubt)
		scribbleWhole(v.places)
		scribbleWhole(v.whole)
	}
	slices.Reverse(run)
	slices.Reverse(first)
	for i, s := range run {
		wantViews(t, "again", s.after, first[i])
	}
}
