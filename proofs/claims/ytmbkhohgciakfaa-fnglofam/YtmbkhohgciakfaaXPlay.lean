/- A play, one thing behind the other: in plain words, and by laws.jaGlo. -/
import Derived.Test.YtmbkhohgciakfaaXGloPlain
import Derived.Test.YtmbkhohgciakfaaXOps
namespace Go.Proofs.Ytmbkhohgciakfaa
open Go.RowKit

/-- What all places keep behind the first k things that are done, and which of these were so. -/
def playTo (os : List Op) : Nat → List Sto × List Bool
  | 0 => (newG, [])
  | k + 1 => match os[k]? with
    | none => playTo os k
    | some o => (if (gloDo (playTo os k).1 k o).2 = true then (gloDo (playTo os k).1 k o).1 else (playTo os k).1, (playTo os k).2 ++ [(gloDo (playTo os k).1 k o).2])
theorem playTo_step {os : List Op} {k : Nat} {o : Op} (h : os[k]? = some o) : playTo os (k + 1) = (if (gloDo (playTo os k).1 k o).2 = true then (gloDo (playTo os k).1 k o).1 else (playTo os k).1, (playTo os k).2 ++ [(gloDo (playTo os k).1 k o).2]) := by
  simp only [playTo, h]
theorem playTo_yes {os : List Op} {k : Nat} {o : Op} (h : os[k]? = some o) (hd : (gloDo (playTo os k).1 k o).2 = true) : (playTo os (k + 1)).1 = (gloDo (playTo os k).1 k o).1 := by
  rw [playTo_step h, if_pos hd]
theorem playTo_no {os : List Op} {k : Nat} {o : Op} (h : os[k]? = some o) (hd : (gloDo (playTo os k).1 k o).2 = false) : (playTo os (k + 1)).1 = (playTo os k).1 := by
  rw [playTo_step h, if_neg (by rw [hd]; decide)]
theorem playTo_done {os : List Op} {k : Nat} {o : Op} (h : os[k]? = some o) : (playTo os (k + 1)).2 = (playTo os k).2 ++ [(gloDo (playTo os k).1 k o).2] := by
  rw [playTo_step h]
theorem playTo_len (os : List Op) : ∀ k, k ≤ os.length → (playTo os k).2.length = k
  | 0, _ => rfl
  | k + 1, h => by
    rw [playTo_done (List.getElem?_eq_getElem (show k < os.length by omega)), List.length_append, playTo_len os k (by omega)]; rfl
theorem playTo_at (os : List Op) : ∀ n, n ≤ os.length → ∀ k o, k < n → os[k]? = some o → (playTo os n).2[k]? = some (gloDo (playTo os k).1 k o).2
  | 0, _, k, _, h, _ => absurd h (by omega)
  | n + 1, hn, k, o, hk, ho => by
    have hx := List.getElem?_eq_getElem (show n < os.length by omega)
    rw [playTo_done hx]
    rcases Nat.lt_or_ge k n with hlt | hge
    · rw [List.getElem?_append_left (by rw [playTo_len os n (by omega)]; exact hlt)]
      exact playTo_at os n (by omega) k o hlt ho
    · have : k = n := by omega
      subst this
      rw [hx] at ho
      injection ho with ho
      rw [List.getElem?_append_right (by rw [playTo_len os k (by omega)]; omega), playTo_len os k (by omega), Nat.sub_self, ho]; rfl
theorem newG_ok : gloB newG = true := by decide
/-- Behind each thing all places keep what they may, and not more than were done. -/
theorem play_inv {os : List Op} (h : ∀ o ∈ os, opB o = true) (hl : os.length ≤ 29) : ∀ k, k ≤ os.length → ∃ a b c, (playTo os k).1 = [⟨a⟩, ⟨b⟩, ⟨c⟩] ∧ gloB [⟨a⟩, ⟨b⟩, ⟨c⟩] = true ∧ a.length ≤ k ∧ b.length ≤ k ∧ c.length ≤ k
  | 0, _ => ⟨[], [], [], rfl, newG_ok, Nat.le_refl _, Nat.le_refl _, Nat.le_refl _⟩
  | k + 1, hk => by
    obtain ⟨a, b, c, e, hg, h1, h2, h3⟩ := play_inv h hl k (by omega)
    have hx := List.getElem?_eq_getElem (show k < os.length by omega)
    have ho := h _ (List.mem_of_getElem? hx)
    have ht : inB (k : Int) 0 29 = true := inB_yes (by omega) (by omega)
    have hd := gloDo_three (tx := (k : Int)) hg ho ht
    rw [← e] at hd
    cases hm : gloMay a b c (k : Int) os[k] with
    | true =>
      rw [hm, if_pos rfl] at hd
      obtain ⟨s1, s2, s3, s4⟩ := glo_step (k := k) hg ho ht h1 h2 h3 (by omega)
      exact ⟨_, _, _, by rw [playTo_yes hx (by rw [hd]), hd], s1, s2, s3, s4⟩
    | false =>
      rw [hm, if_neg (by decide)] at hd
      exact ⟨a, b, c, by rw [playTo_no hx (by rw [hd]), e], hg, by omega, by omega, by omega⟩
theorem play_ok {os : List Op} (h : ∀ o ∈ os, opB o = true) (hl : os.length ≤ 29) {k : Nat} (hk : k ≤ os.length) : gloB (playTo os k).1 = true := by
  obtain ⟨a, b, c, e, hg, -⟩ := play_inv h hl k hk
  rw [e]; exact hg

/-- While laws.jaGlo plays. -/
def JaI (w : World) (os : List Op) (k : Nat) (a b : Value) (W : World) : Prop :=
  ∃ S1 S2, stoSh.Own 36 W S1 a (playTo os k).1 ∧ Sh.bool.Own 4 W S2 b (playTo os k).2 ∧ (∀ i, S1 i → w.heap.size ≤ i ∧ i < W.heap.size) ∧ (∀ i, S2 i → w.heap.size ≤ i ∧ i < W.heap.size) ∧ (∀ i, S1 i → ¬ S2 i) ∧ Below w.heap.size w W
/-- What laws.jaGlo answers. -/
def JaMade (os : List Op) (w : World) (e : Ending) (w' : World) : Prop :=
  ∃ u d, e = .returned (.tuple #[u, d]) ∧ stoSh.Row w' w'.heap.size u (playTo os os.length).1 ∧ Sh.bool.Row w' w'.heap.size d (playTo os os.length).2 ∧ Below w.heap.size w w'
theorem JaI.made {w W : World} {os : List Op} {a b : Value} (h : JaI w os os.length a b W) : JaMade os w (.returned (.tuple #[a, b])) W := by
  obtain ⟨S1, S2, h1, h2, -, -, -, h6⟩ := h
  exact ⟨a, b, rfl, h1.row, h2.row, h6⟩
theorem JaI.grow {w W2 W4 : World} {os : List Op} {k : Nat} {a b v4 : Value} {x : Bool} {S1 S2 : Nat → Prop} {xs : List Sto} {bs : List Bool} {ob : Obj} (hxs : (playTo os (k + 1)).1 = xs) (hbs : (playTo os (k + 1)).2 = bs ++ [x]) (h1 : stoSh.Own 36 W2 S1 a xs) (h2 : Sh.bool.Own 4 (W2.alloc ob) S2 b bs)
    (s1 : ∀ i, S1 i → w.heap.size ≤ i ∧ i < W2.heap.size) (s2 : ∀ i, S2 i → w.heap.size ≤ i ∧ i < W2.heap.size) (s3 : ∀ i, S1 i → ¬ S2 i) (hb : Below w.heap.size w W2) (h4 : Sh.bool.Own 4 W4 (fun b => S2 b ∨ False ∨ b = (W2.alloc ob).heap.size) v4 (bs ++ [x])) (hg : (W2.alloc ob).grownBy W4 b.ownBlock) : JaI w os (k + 1) a v4 W4 := by
  have hz := hg.size
  have hz2 := hb.size
  rw [allocSize] at hz
  refine ⟨S1, fun i => (S2 i ∨ False ∨ i = (W2.alloc ob).heap.size) ∧ i < W4.heap.size, ?_, by rw [hbs]; exact h4.cap, fun i hi => ⟨(s1 i hi).1, by have := (s1 i hi).2; omega⟩, fun i hi => ⟨?_, hi.2⟩, fun i hi h => ?_, ?_⟩
  · rw [hxs]
    exact (h1.below (belowOne W2 ob)).keep fun i hi hlt => hg.block i hlt (fun e => s3 i hi (h2.blk i e.symm))
  · rcases hi.1 with h | h | h
    · exact (s2 i h).1
    · exact h.elim
    · rw [allocSize] at h; omega
  · rcases h.1 with h | h | h
    · exact s3 i hi h
    · exact h.elim
    · have := (s1 i hi).2; rw [allocSize] at h; omega
  · exact (belowNext hb (belowOne _ _)).trans ((Outs.of_grown hg (S := fun i => w.heap.size ≤ i) fun i e => (s2 i (h2.blk i e)).1).below (by rw [allocSize]; omega) fun _ h => h)
end Go.Proofs.Ytmbkhohgciakfaa
