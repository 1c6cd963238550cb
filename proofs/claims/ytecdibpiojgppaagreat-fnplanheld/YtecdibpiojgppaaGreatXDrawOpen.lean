/- Texts that follow each other, merged: DrawOpen, DrawDo, RegInv3. -/
import Derived.Test.YtecdibpiojgppaaGreatXIntsOne
import Derived.Test.YtecdibpiojgppaaGreatXPlain
import Derived.Test.YtecdibpiojgppaaGreatXDrawSto
import Derived.Test.YtecdibpiojgppaaGreatXWrite
import Derived.Test.YtecdibpiojgppaaGreatXCmp

/- A reader is opened over a code. -/
namespace Go.Proofs.YtecdibpiojgppaaGreat
open Go.RowKit

/-- What a draw out of a code leaves of a write. -/
def DrawnWrite (w : World) (e : Ending) (w' : World) : Prop :=
  ∃ s d v xs, e = .returned (.agg #[.string s, .bool d, v]) ∧ s.size ≤ 1000002 ∧ xs.length ≤ 4 ∧ Ints w' w'.heap.size v xs ∧ Below w.heap.size w w'

end Go.Proofs.YtecdibpiojgppaaGreat

/- A store and writes, drawn out of a code. -/
namespace Go.Proofs.YtecdibpiojgppaaGreat
open Go.RowKit

/-- What is drawn: some store, some writes. -/
def DrewDo (w : World) (e : Ending) (w' : World) : Prop :=
  ∃ u its l ws, e = .returned (.tuple #[.agg #[u], l]) ∧ its.length ≤ 41 ∧ ws.length ≤ 60 ∧ Items w' w'.heap.size u its ∧ Wrts w' w'.heap.size l ws ∧ Below w.heap.size w w'

end Go.Proofs.YtecdibpiojgppaaGreat

/- A region that draws its order, with edges that bind in some orders alone. Nothing of the program. -/
namespace Go.Proofs.YtecdibpiojgppaaGreat

section
variable {P : Program} {ops : Array Oper} {Q : Exit → Act → World → Prop}
/-- Each operation keeps I, whatever has come up before it; behind all I gives the post. -/
theorem wpAny_inv3 (I : (Nat → Bool) → Act → World → Prop)
    (hback : ∀ (i : Nat) (o : Oper), ops[i]? = some o → ∀ e ∈ o.after, Region.binds .any e = true → e.on < i)
    (hstep : ∀ (L : Nat → Bool) (a : Act) (w : World) (i : Nat) (o : Oper), ops[i]? = some o → L i = false → (∀ e ∈ o.after, Region.binds .any e = true → L e.on = true) → I L a w →
      ∀ K : Act → World → Prop, (∀ a' w', I (upd L i true) a' w' → K a' w') → if Region.wanted o (yielded ops a.tmps) = true then Oper.wp P o a w K Q else K (a.put o.dst undef) w)
    (hend : ∀ L a w, (∀ i, i < ops.size → L i = true) → I L a w → Q .normal a w) :
    ∀ (fuel : Nat) (l : Array Bool) (a : Act) (w : World), l.size = ops.size → left l ≤ fuel → I (fun j => l.getD j false) a w → wpAny P .any ops Q fuel l a w := by
  have hdone : ∀ (l : Array Bool), l.size = ops.size → Region.ready .any ops l = [] → ∀ i, i < ops.size → l.getD i false = true := by
    intro l hl hr i
    induction i using Nat.strongRecOn with
    | _ i ih =>
      intro hi
      cases hc : l.getD i false with
      | true => rfl
      | false =>
        have ho : ops[i]? = some ops[i] := Array.getElem?_eq_getElem hi
        have hm : i ∈ Region.ready .any ops l := by
          rw [mem_ready]
          refine ⟨?_, ops[i], ho, ?_⟩
          · simp only [Array.getD_eq_getD_getElem?] at hc ⊢
            rw [Array.getElem?_eq_getElem (by omega)] at hc ⊢
            simpa using hc
          · intro e he hbi
            exact ih e.on (hback i _ ho e he hbi) (Nat.lt_trans (hback i _ ho e he hbi) hi)
        rw [hr] at hm
        cases hm
  intro fuel
  induction fuel with
  | zero =>
    intro l a w hl hn hI
    have hr : Region.ready .any ops l = [] := by
      cases hr : Region.ready .any ops l with
      | nil => rfl
      | cons i rs =>
        have hm : i ∈ Region.ready .any ops l := by rw [hr]; simp
        obtain ⟨h1, o, ho, _⟩ := mem_ready.1 hm
        have hi : i < l.size := by rw [hl]; exact (Array.getElem?_eq_some_iff.1 ho).1
        have hf : l[i]? = some false := by
          rw [Array.getElem?_eq_getElem hi]
          simp only [Array.getD_eq_getD_getElem?, Array.getElem?_eq_getElem hi] at h1
          simpa using h1
        have := left_set hf
        omega
    exact ⟨hr, hend _ a w (hdone l hl hr) hI⟩
  | succ fuel ih =>
    intro l a w hl hn hI
    refine ⟨fun hr => hend _ a w (hdone l hl hr) hI, fun i hi => ?_⟩
    obtain ⟨h1, o, ho, h2⟩ := mem_ready.1 hi
    have hil : i < l.size := by rw [hl]; exact (Array.getElem?_eq_some_iff.1 ho).1
    have hf : l[i]? = some false := by
      rw [Array.getElem?_eq_getElem hil]
      simp only [Array.getD_eq_getD_getElem?, Array.getElem?_eq_getElem hil] at h1
      simpa using h1
    refine wpOp_step ho fun K hK => ?_
    refine hstep (fun j => l.getD j false) a w i o ho (by simp [Array.getD_eq_getD_getElem?, hf]) (fun e he hbi => h2 e he hbi) hI K fun a' w' h => hK a' w' ?_
    refine ih _ a' w' (by simpa using hl) (by have := left_set hf; omega) ?_
    have he : (fun j => (l.setIfInBounds i true).getD j false) = upd (fun j => l.getD j false) i true := by
      funext j
      simp only [Array.getD_eq_getD_getElem?, Array.getElem?_setIfInBounds, upd]
      by_cases hj : i = j
      · subst hj; simp [hil]
      · simp [hj, Ne.symm hj]
    rw [he]
    exact h

theorem wp_region_inv3 {id : Nat} {a : Act} {w : World} (hm : P.follows .mixedOrders = true) (I : (Nat → Bool) → Act → World → Prop)
    (hback : ∀ (i : Nat) (o : Oper), ops[i]? = some o → ∀ e ∈ o.after, Region.binds .any e = true → e.on < i)
    (h0 : I (fun _ => false) a w.drew)
    (hstep : ∀ (L : Nat → Bool) (a : Act) (w : World) (i : Nat) (o : Oper), ops[i]? = some o → L i = false → (∀ e ∈ o.after, Region.binds .any e = true → L e.on = true) → I L a w →
      ∀ K : Act → World → Prop, (∀ a' w', I (upd L i true) a' w' → K a' w') → if Region.wanted o (yielded ops a.tmps) = true then Oper.wp P o a w K Q else K (a.put o.dst undef) w)
    (hend : ∀ L a w, (∀ i, i < ops.size → L i = true) → I L a w → Q .normal a w) : (Code.region id ops true).wp P Q a w := by
  refine wp_region_any hm (wpAny_inv3 I hback hstep hend _ _ _ _ (by simp) ?_ ?_)
  · unfold left; exact Nat.le_trans (List.length_filter_le _ _) (by simp)
  · have he : (fun j => (Array.replicate ops.size false).getD j false) = fun _ => false := by
      funext j
      simp only [Array.getD_eq_getD_getElem?, Array.getElem?_replicate]
      split <;> rfl
    rw [he]; exact h0
end


/-- All edges of a region that bind go back. -/
def backB3 (ops : Array Oper) : Bool := (List.range ops.size).all fun i => match ops[i]? with
  | some o => o.after.all fun e => decide (e.on < i) || !Region.binds .any e
  | none => true
theorem backB3_at {ops : Array Oper} (h : backB3 ops = true) (i : Nat) (o : Oper) (ho : ops[i]? = some o) : ∀ e ∈ o.after, Region.binds .any e = true → e.on < i := by
  intro e he hbi
  have hi : i < ops.size := (Array.getElem?_eq_some_iff.1 ho).1
  have := List.all_eq_true.1 h i (List.mem_range.2 hi)
  simp only [ho] at this
  have := Array.all_eq_true_iff_forall_mem.1 this e he
  simpa [hbi] using this

/-- What has come up has come up behind all that it waits for in each order. -/
def Down3 (ops : Array Oper) (L : Nat → Bool) : Prop := ∀ (i : Nat) (o : Oper), ops[i]? = some o → L i = true → ∀ e ∈ o.after, Region.binds .any e = true → L e.on = true
theorem Down3.upd {ops : Array Oper} {L : Nat → Bool} {i : Nat} {o : Oper} (h : Down3 ops L) (ho : ops[i]? = some o) (hp : ∀ e ∈ o.after, Region.binds .any e = true → L e.on = true) : Down3 ops (upd L i true) := by
  intro j oj hj hL e he hbi
  by_cases e1 : e.on = i
  · rw [e1, upd_same]
  · rw [upd_other _ _ e1]
    by_cases e2 : j = i
    · subst e2
      rw [ho] at hj
      injection hj with hj
      subst hj
      exact hp e he hbi
    · rw [upd_other _ _ e2] at hL
      exact h j oj hj hL e he hbi
theorem wp_region_inv4 {P : Program} {ops : Array Oper} {Q : Exit → Act → World → Prop} {id : Nat} {a : Act} {w : World} (hm : P.follows .mixedOrders = true) (I : (Nat → Bool) → Act → World → Prop) (hback : backB3 ops = true)
    (h0 : I (fun _ => false) a w.drew)
    (hstep : ∀ (L : Nat → Bool) (a : Act) (w : World) (i : Nat) (o : Oper), ops[i]? = some o → L i = false → (∀ e ∈ o.after, Region.binds .any e = true → L e.on = true) → Down3 ops L → I L a w →
      ∀ K : Act → World → Prop, (∀ a' w', I (upd L i true) a' w' → K a' w') → if Region.wanted o (yielded ops a.tmps) = true then Oper.wp P o a w K Q else K (a.put o.dst undef) w)
    (hend : ∀ L a w, (∀ i, i < ops.size → L i = true) → I L a w → Q .normal a w) : (Code.region id ops true).wp P Q a w :=
  wp_region_inv3 hm (fun L a w => Down3 ops L ∧ I L a w) (backB3_at hback) ⟨fun _ _ _ h => by simp at h, h0⟩
    (fun L a w i o ho hL hp hI K hK => hstep L a w i o ho hL hp hI.1 hI.2 K fun a' w' h => hK a' w' ⟨hI.1.upd ho hp, h⟩)
    (fun L a w hL hI => hend L a w hL hI.2)
def reach3 (ops : Array Oper) : Nat → Nat → Nat → Bool
  | 0, i, j => i == j
  | f + 1, i, j => i == j || (match ops[i]? with
    | some o => o.after.any fun e => Region.binds .any e && reach3 ops f e.on j
    | none => false)
theorem Down3.reach {ops : Array Oper} {L : Nat → Bool} (h : Down3 ops L) : ∀ (f i j : Nat), reach3 ops f i j = true → L i = true → L j = true := by
  intro f
  induction f with
  | zero => intro i j hr hL; simp [reach3] at hr; subst hr; exact hL
  | succ f ih =>
    intro i j hr hL
    unfold reach3 at hr
    rcases Bool.or_eq_true_iff.1 hr with h1 | h1
    · simp at h1; subst h1; exact hL
    · split at h1
      · next o ho =>
        obtain ⟨n, hn, he⟩ := Array.any_eq_true.1 h1
        rw [Bool.and_eq_true] at he
        exact ih _ _ he.2 (h i o ho hL _ (Array.getElem_mem hn) he.1)
      · cases h1
theorem Down3.not {ops : Array Oper} {L : Nat → Bool} (h : Down3 ops L) (f m i : Nat) (hr : reach3 ops f m i = true) (hL : L i = false) : L m = false := by
  cases hm : L m with
  | false => rfl
  | true => have := h.reach f m i hr hm; rw [hL] at this; cases this
theorem Down3.notYet {ops : Array Oper} {L : Nat → Bool} (h : Down3 ops L) (f n m : Nat) (hr : ((List.range n).all fun j => reach3 ops f m j) = true) {i : Nat} (hi : i < n) (hL : L i = false) : L m = false :=
  h.not f m i (List.all_eq_true.1 hr i (List.mem_range.2 hi)) hL

end Go.Proofs.YtecdibpiojgppaaGreat
