package tests

import (
	"math/rand"
	"slices"
	"testing"

	"loop.example/janitor/impl"
)

// scribblePlan overwrites all slices of a plan with all their spare capacity.
func scribblePlan(p impl.OpPlan) {
	scribbleNote(impl.LogNote{Locks: p.Locks, Writes: p.Writes})
}

// TestPlanMemory: PlcPlan and PlcOk write to no argument, and a plan shares memory with none, nor one of its slices with another, nor with another plan.
func TestPlanMemory(t *testing.T) {
	r := rand.New(rand.NewSource(11))
	for range opRounds {
		place := services()[r.Intn(3)]
		s, o := storeWithRoom(randomPlaceStore(r, place)), randomOpAt(r, place)
		was := copyStore(s)
		impl.PlcOk(place, s)
		got, again := impl.PlcPlan(place, s, 3, o), impl.PlcPlan(place, s, 3, o)
		gotWas := copyPlan(got)
		wantArguments(t, "PlcPlan", s, was, nil, nil)
		for i, w := range got.Writes {
			scribble(w.Val)
			got.Writes[i].Val = slices.Clone(gotWas.Writes[i].Val)
			if !samePlan(got, gotWas) {
				t.Fatalf("one write changed with another one: %v", got)
			}
		}
		scribblePlan(got)
		wantArguments(t, "the plan overwritten", s, was, nil, nil)
		if !samePlan(again, gotWas) {
			t.Fatalf("a plan changed with another one: %v, was %v", again, gotWas)
		}
	}
}

// TestOpKeepsNothing: the same call twice has the same result, whatever happened to the first one.
func TestOpKeepsNothing(t *testing.T) {
	for _, o := range someOps() {
		first := impl.OpPlaces(o)
		scribble(first)
		wantPlaces(t, o)
		for _, place := range modelPlaces(o.Kind) {
			for _, s := range []impl.StoStore{{}, store(goodItems(place)...)} {
				was := copyPlan(impl.PlcPlan(place, s, 3, o))
				scribblePlan(impl.PlcPlan(place, s, 3, o))
				wantPlan(t, "again", place, s, 3, o, was)
			}
		}
	}
}
