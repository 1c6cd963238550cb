/- Texts that follow each other, merged: Get, RegInv. -/
import Derived.Test.YtkamlibfcakblaaXCmp
import Derived.Test.YtkamlibfcakblaaXExItems
import Derived.RegionTactic
import Derived.Orders
import Derived.Laws.AppendOwn

/- What StoGet answers, of the program and of the model: the same. -/
namespace Go.Proofs.Ytkamlibfcakblaa
open Go.RowKit

/-- The first k names are other ones. -/
def Before (its : List Item) (key : ByteArray) (k : Nat) : Prop := ∀ j x, j < k → its[j]? = some x → x.key ≠ key
theorem Before.start (its : List Item) (key : ByteArray) : Before its key 0 := fun j _ h => absurd h (by omega)
theorem Before.step {its : List Item} {key : ByteArray} {k : Nat} {x : Item} (h : Before its key k) (hx : its[k]? = some x) (hn : x.key ≠ key) : Before its key (k + 1) := by
  intro j y hj hy
  rcases Nat.lt_or_ge j k with hlt | hge
  · exact h j y hlt hy
  · have : j = k := by omega
    subst this
    rw [hx] at hy
    injection hy with hy
    rw [← hy]; exact hn
theorem Before.hit {its : List Item} {key : ByteArray} {k : Nat} {x : Item} (h : Before its key k) (hx : its[k]? = some x) (hk : x.key = key) : look its key = some x := by
  unfold look
  rw [List.find?_eq_some_iff_getElem]
  have hl := (List.getElem?_eq_some_iff.1 hx).1
  refine ⟨by simpa using hk, k, hl, by rw [List.getElem?_eq_getElem hl] at hx; exact Option.some.inj hx, fun j hj => ?_⟩
  simp only [Bool.not_eq_eq_eq_not, Bool.not_true, decide_eq_false_iff_not]
  exact h j _ hj (List.getElem?_eq_getElem (by omega))
theorem Before.none_ {its : List Item} {key : ByteArray} (h : Before its key its.length) : look its key = none := by
  unfold look
  rw [List.find?_eq_none]
  intro x hx
  obtain ⟨t, ht, rfl⟩ := List.getElem_of_mem hx
  simp only [decide_eq_true_eq]
  exact h t _ ht (List.getElem?_eq_getElem ht)

/-- The numbers of a name: none where it is not kept. -/
def lookV (its : List Item) (key : ByteArray) : List Int := match look its key with
  | some x => x.val
  | none => []
def lookOk (its : List Item) (key : ByteArray) : Bool := (look its key).isSome
theorem lookV_some {its : List Item} {key : ByteArray} {x : Item} (h : look its key = some x) : lookV its key = x.val := by simp [lookV, h]
theorem lookV_none {its : List Item} {key : ByteArray} (h : look its key = none) : lookV its key = [] := by simp [lookV, h]
theorem lookOk_some {its : List Item} {key : ByteArray} {x : Item} (h : look its key = some x) : lookOk its key = true := by simp [lookOk, h]
theorem lookOk_none {its : List Item} {key : ByteArray} (h : look its key = none) : lookOk its key = false := by simp [lookOk, h]
/-- The answer of StoGet: nothing, and false, where what is kept is not ok. -/
def getV (its : List Item) (key : ByteArray) : List Int := if stoB its then lookV its key else []
def getOk (its : List Item) (key : ByteArray) : Bool := stoB its && lookOk its key
theorem getV_no {its : List Item} {key : ByteArray} (h : stoB its = false) : getV its key = [] := by simp [getV, h]
theorem getOk_no {its : List Item} {key : ByteArray} (h : stoB its = false) : getOk its key = false := by simp [getOk, h]
theorem getV_yes {its : List Item} {key : ByteArray} (h : stoB its = true) : getV its key = lookV its key := by simp [getV, h]
theorem getOk_yes {its : List Item} {key : ByteArray} (h : stoB its = true) : getOk its key = lookOk its key := by simp [getOk, h]
theorem stoB_parts {its : List Item} (h : stoB its = true) : its.length ≤ 40 ∧ Each its its.length ∧ Rise its its.length := by
  unfold stoB at h
  simp only [Bool.and_eq_true, decide_eq_true_eq] at h
  exact ⟨h.1, all_each h.2.1, asc_rise h.2.2⟩
theorem itemB_len {it : Item} (h : itemB it = true) : it.val.length ≤ 3 := by
  unfold itemB valB at h
  simp only [Bool.and_eq_true, decide_eq_true_eq] at h
  exact h.2.1.2

/-- What a look-up leaves. -/
def Got (xs : List Int) (ok : Bool) (w : World) (e : Ending) (w' : World) : Prop :=
  ∃ u, e = .returned (.tuple #[u, .bool ok]) ∧ OwnInts w' w.heap.size u xs ∧ Below w.heap.size w w'

theorem ownEmpty {w0 w : World} (hb : Below w0.heap.size w0 w) : OwnInts (w.alloc (.cells #[] 3)) w0.heap.size (.slice (some ⟨w.heap.size, 0, none⟩) 0 0) [] := OwnInts.empty w _ hb.size
theorem OwnInts.less {w : World} {lo lo' : Nat} {v : Value} {xs : List Int} (h : OwnInts w lo v xs) (hl : lo' ≤ lo) : OwnInts w lo' v xs :=
  ⟨h.1, h.2.elim Or.inl fun ⟨g, cap, cur, hv, hg, r⟩ => Or.inr ⟨g, cap, cur, hv, Nat.le_trans hl hg, r⟩⟩

theorem ownLo {w : World} {lo : Nat} {v : Value} {xs : List Int} (h : OwnInts w lo v xs) : ∀ b, v.ownBlock = some b → lo ≤ b := fun b hb => (h.lt b hb).1
theorem belowGrown {B : Nat} {w w' : World} {v : Value} (hg : w.grownBy w' v.ownBlock) (h : ∀ b, v.ownBlock = some b → B ≤ b) (hB : B ≤ w.heap.size) : Below B w w' := (Below.refl B w).grown hg hB h

end Go.Proofs.Ytkamlibfcakblaa

/- A region that draws its order, by what holds of its operations that have come up: each operation is shown once, whatever came before it. Nothing of the program. -/
namespace Go.Proofs.Ytkamlibfcakblaa

def upd {α : Type} (f : Nat → α) (i : Nat) (x : α) (j : Nat) : α := if j = i then x else f j
theorem upd_same {α : Type} (f : Nat → α) (i : Nat) (x : α) : upd f i x i = x := by simp [upd]
theorem upd_other {α : Type} (f : Nat → α) {i j : Nat} (x : α) (h : j ≠ i) : upd f i x j = f j := by simp [upd, h]

section
variable {P : Program} {ops : Array Oper} {Q : Exit → Act → World → Prop}

def left (l : Array Bool) : Nat := (l.toList.filter (! ·)).length
theorem left_set {l : Array Bool} {i : Nat} (h : l[i]? = some false) : left (l.setIfInBounds i true) + 1 = left l := by
  obtain ⟨l⟩ := l
  unfold left
  simp only [List.setIfInBounds_toArray] at *
  simp at h
  induction l generalizing i with
  | nil => simp at h
  | cons b l ih =>
    cases i with
    | zero =>
      simp at h
      subst h
      simp
    | succ i =>
      simp at h
      have := ih h
      cases b <;> simp at this ⊢ <;> omega

/-- Each operation keeps I, whatever has come up before it; behind all I gives the post. -/
theorem wpAny_inv (I : (Nat → Bool) → Act → World → Prop)
    (hback : ∀ (i : Nat) (o : Oper), ops[i]? = some o → ∀ e ∈ o.after, e.on < i)
    (hstep : ∀ (L : Nat → Bool) (a : Act) (w : World) (i : Nat) (o : Oper), ops[i]? = some o → L i = false → (∀ e ∈ o.after, L e.on = true) → I L a w →
      ∀ K : Act → World → Prop, (∀ a' w', I (upd L i true) a' w' → K a' w') → if Region.wanted o (yielded ops a.tmps) = true then Oper.wp P o a w K Q else K (a.put o.dst undef) w)
    (hall : ∀ (i : Nat) (o : Oper), ops[i]? = some o → ∀ e ∈ o.after, Region.binds .any e = true)
    (hend : ∀ L a w, (∀ i, i < ops.size → L i = true) → I L a w → Q .normal a w) :
    ∀ (fuel : Nat) (l : Array Bool) (a : Act) (w : World), l.size = ops.size → left l ≤ fuel → I (fun j => l.getD j false) a w → wpAny P .any ops Q fuel l a w := by
  have hdone : ∀ (l : Array Bool), l.size = ops.size → Region.ready .any ops l = [] → ∀ i, i < ops.size → l.getD i false = true := by
    intro l hl hr i
    induction i using Nat.strongRecOn with
    | _ i ih =>
      intro hi
      cases hc : l.getD i false with
      | true => rfl
      | false =>
        have ho : ops[i]? = some ops[i] := Array.getElem?_eq_getElem hi
        have hm : i ∈ Region.ready .any ops l := by
          rw [mem_ready]
          refine ⟨?_, ops[i], ho, ?_⟩
          · simp only [Array.getD_eq_getD_getElem?] at hc ⊢
            rw [Array.getElem?_eq_getElem (by omega)] at hc ⊢
            simpa using hc
          · intro e he _
            exact ih e.on (hback i _ ho e he) (Nat.lt_trans (hback i _ ho e he) hi)
        rw [hr] at hm
        cases hm
  intro fuel
  induction fuel with
  | zero =>
    intro l a w hl hn hI
    have hr : Region.ready .any ops l = [] := by
      cases hr : Region.ready .any ops l with
      | nil => rfl
      | cons i rs =>
        have hm : i ∈ Region.ready .any ops l := by rw [hr]; simp
        obtain ⟨h1, o, ho, _⟩ := mem_ready.1 hm
        have hi : i < l.size := by rw [hl]; exact (Array.getElem?_eq_some_iff.1 ho).1
        have hf : l[i]? = some false := by
          rw [Array.getElem?_eq_getElem hi]
          simp only [Array.getD_eq_getD_getElem?, Array.getElem?_eq_getElem hi] at h1
          simpa using h1
        have := left_set hf
        omega
    exact ⟨hr, hend _ a w (hdone l hl hr) hI⟩
  | succ fuel ih =>
    intro l a w hl hn hI
    refine ⟨fun hr => hend _ a w (hdone l hl hr) hI, fun i hi => ?_⟩
    obtain ⟨h1, o, ho, h2⟩ := mem_ready.1 hi
    have hil : i < l.size := by rw [hl]; exact (Array.getElem?_eq_some_iff.1 ho).1
    have hf : l[i]? = some false := by
      rw [Array.getElem?_eq_getElem hil]
      simp only [Array.getD_eq_getD_getElem?, Array.getElem?_eq_getElem hil] at h1
      simpa using h1
    refine wpOp_step ho fun K hK => ?_
    refine hstep (fun j => l.getD j false) a w i o ho (by simp [Array.getD_eq_getD_getElem?, hf]) (fun e he => h2 e he (hall i o ho e he)) hI K fun a' w' h => hK a' w' ?_
    refine ih _ a' w' (by simpa using hl) (by have := left_set hf; omega) ?_
    have he : (fun j => (l.setIfInBounds i true).getD j false) = upd (fun j => l.getD j false) i true := by
      funext j
      simp only [Array.getD_eq_getD_getElem?, Array.getElem?_setIfInBounds, upd]
      by_cases hj : i = j
      · subst hj; simp [hil]
      · simp [hj, Ne.symm hj]
    rw [he]
    exact h

theorem wp_region_inv {id : Nat} {a : Act} {w : World} (hm : P.follows .mixedOrders = true) (I : (Nat → Bool) → Act → World → Prop)
    (hback : ∀ (i : Nat) (o : Oper), ops[i]? = some o → ∀ e ∈ o.after, e.on < i)
    (hall : ∀ (i : Nat) (o : Oper), ops[i]? = some o → ∀ e ∈ o.after, Region.binds .any e = true)
    (h0 : I (fun _ => false) a w.drew)
    (hstep : ∀ (L : Nat → Bool) (a : Act) (w : World) (i : Nat) (o : Oper), ops[i]? = some o → L i = false → (∀ e ∈ o.after, L e.on = true) → I L a w →
      ∀ K : Act → World → Prop, (∀ a' w', I (upd L i true) a' w' → K a' w') → if Region.wanted o (yielded ops a.tmps) = true then Oper.wp P o a w K Q else K (a.put o.dst undef) w)
    (hend : ∀ L a w, (∀ i, i < ops.size → L i = true) → I L a w → Q .normal a w) : (Code.region id ops true).wp P Q a w := by
  refine wp_region_any hm (wpAny_inv I hback hstep hall hend _ _ _ _ (by simp) ?_ ?_)
  · unfold left; exact Nat.le_trans (List.length_filter_le _ _) (by simp)
  · have he : (fun j => (Array.replicate ops.size false).getD j false) = fun _ => false := by
      funext j
      simp only [Array.getD_eq_getD_getElem?, Array.getElem?_replicate]
      split <;> rfl
    rw [he]; exact h0
end

/-- What has come up has come up behind all that it waits for. -/
def Down (ops : Array Oper) (L : Nat → Bool) : Prop := ∀ (i : Nat) (o : Oper), ops[i]? = some o → L i = true → ∀ e ∈ o.after, L e.on = true
theorem Down.upd {ops : Array Oper} {L : Nat → Bool} {i : Nat} {o : Oper} (h : Down ops L) (ho : ops[i]? = some o) (hp : ∀ e ∈ o.after, L e.on = true) : Down ops (upd L i true) := by
  intro j oj hj hL e he
  by_cases e1 : e.on = i
  · rw [e1, upd_same]
  · rw [upd_other _ _ e1]
    by_cases e2 : j = i
    · subst e2
      rw [ho] at hj
      injection hj with hj
      subst hj
      exact hp e he
    · rw [upd_other _ _ e2] at hL
      exact h j oj hj hL e he
theorem wp_region_inv2 {P : Program} {ops : Array Oper} {Q : Exit → Act → World → Prop} {id : Nat} {a : Act} {w : World} (hm : P.follows .mixedOrders = true) (I : (Nat → Bool) → Act → World → Prop)
    (hback : ∀ (i : Nat) (o : Oper), ops[i]? = some o → ∀ e ∈ o.after, e.on < i)
    (hall : ∀ (i : Nat) (o : Oper), ops[i]? = some o → ∀ e ∈ o.after, Region.binds .any e = true)
    (h0 : I (fun _ => false) a w.drew)
    (hstep : ∀ (L : Nat → Bool) (a : Act) (w : World) (i : Nat) (o : Oper), ops[i]? = some o → L i = false → (∀ e ∈ o.after, L e.on = true) → Down ops L → I L a w →
      ∀ K : Act → World → Prop, (∀ a' w', I (upd L i true) a' w' → K a' w') → if Region.wanted o (yielded ops a.tmps) = true then Oper.wp P o a w K Q else K (a.put o.dst undef) w)
    (hend : ∀ L a w, (∀ i, i < ops.size → L i = true) → I L a w → Q .normal a w) : (Code.region id ops true).wp P Q a w :=
  wp_region_inv hm (fun L a w => Down ops L ∧ I L a w) hback hall ⟨fun _ _ _ h => by simp at h, h0⟩
    (fun L a w i o ho hL hp hI K hK => hstep L a w i o ho hL hp hI.1 hI.2 K fun a' w' h => hK a' w' ⟨hI.1.upd ho hp, h⟩)
    (fun L a w hL hI => hend L a w hL hI.2)

/-- All edges of a region go back, and bind. -/
def backB (ops : Array Oper) : Bool := (List.range ops.size).all fun i => match ops[i]? with
  | some o => o.after.all fun e => decide (e.on < i) && Region.binds .any e
  | none => true
theorem backB_at {ops : Array Oper} (h : backB ops = true) (i : Nat) (o : Oper) (ho : ops[i]? = some o) : ∀ e ∈ o.after, e.on < i ∧ Region.binds .any e = true := by
  intro e he
  have hi : i < ops.size := (Array.getElem?_eq_some_iff.1 ho).1
  have := List.all_eq_true.1 h i (List.mem_range.2 hi)
  simp only [ho] at this
  have := Array.all_eq_true_iff_forall_mem.1 this e he
  simpa using this

/-- The slots of a region's operations, what each is good for, and what holds of the world. -/
def RInv (frame : (Nat → Value) → Array Value) (Good : Nat → World → Value → Prop) (Wd : (Nat → Bool) → World → Prop) (L : Nat → Bool) (a : Act) (w : World) : Prop :=
  ∃ U : Nat → Value, a = { tmps := frame U, defers := [] } ∧ (∀ j, L j = true → Good j w (U j)) ∧ Wd L w
theorem RInv.next {Good : Nat → World → Value → Prop} {L : Nat → Bool} {U : Nat → Value} {w w' : World} {i : Nat} {v : Value} (hG : ∀ j, L j = true → Good j w (U j)) (hst : ∀ j u, Good j w u → Good j w' u) (hv : Good i w' v) :
    ∀ j, upd L i true j = true → Good j w' (upd U i v j) := by
  intro j hj
  by_cases e : j = i
  · subst e; rw [upd_same]; exact hv
  · rw [upd_other _ _ e]; rw [upd_other _ _ e] at hj; exact hst j _ (hG j hj)

end Go.Proofs.Ytkamlibfcakblaa
