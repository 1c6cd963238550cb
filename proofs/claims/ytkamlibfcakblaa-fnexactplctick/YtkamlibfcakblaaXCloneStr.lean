/- Texts that follow each other, merged: CloneStr, RegInv, Reach. -/
import Derived.Test.YtkamlibfcakblaaXHStr
import Derived.Test.YtkamlibfcakblaaXLastKind
import Derived.RegionTactic
import Derived.Orders
import Derived.Laws.AppendOwn

/- Texts appended, and slices.Clone of texts. -/
namespace Go.Proofs.Ytkamlibfcakblaa
open Go.RowKit

theorem strShal {w : World} {S : Nat → Prop} {v : Value} {xs : List ByteArray} (h : strSh.Own 9 w S v xs) : strSh.Shal 9 w 0 v xs := by
  obtain ⟨C, F, h1, _, h3, _⟩ := h
  exact ⟨C, h1, fun _ _ => Nat.zero_le _, fun j x hx => (h3 j x hx).1⟩
theorem strOwn {w : World} {S : Nat → Prop} {v : Value} {xs : List ByteArray} (h : strSh.Shal 9 w 0 v xs) (hS : ∀ g, v.ownBlock = some g → S g) : strSh.Own 9 w S v xs := by
  obtain ⟨C, h1, _, h3⟩ := h
  exact ⟨C, fun _ _ => False, h1, hS, fun j x hx => ⟨h3 j x hx, fun _ h => h.elim⟩, fun i j b _ _ h => h.elim⟩

theorem append_strs (w : World) (S : Nat → Prop) (v : Value) (xs ys : List ByteArray) (hv : strSh.Own 9 w S v xs) (B : Nat) (Ad : Option Addr) (n c : Nat) (hn : n = ys.length) (hy : strSh.Row w B (.slice Ad n c) ys) (ty : TypeId) (hl : xs.length + ys.length ≤ 2097152) :
    ∃ v' w', (Builtin.append_ #[33, 33] ty #[v, .slice Ad n c]).run Try.prog w = .ok v' w' ∧ strSh.Own 9 w' (fun b => S b ∨ b = w.heap.size) v' (xs ++ ys) ∧ w.grownBy w' v.ownBlock ∧ (v'.ownBlock = v.ownBlock ∨ v'.ownBlock = some w.heap.size) := by
  obtain ⟨i, hi, hz, hs, hb⟩ := info_parts infoStr
  subst hn
  have hS : ∀ g, v.ownBlock = some g → S g := by obtain ⟨_, _, _, h2, _⟩ := hv; exact h2
  obtain ⟨C, h1, _, h3⟩ := strShal hv
  obtain ⟨Ad', c', e1, hc1, hc2, hrow⟩ := hy
  injection e1 with e1 _ e3
  subst e1 e3
  cases Ad with
  | none =>
    have h0 : ys = [] := by
      cases ys with
      | nil => rfl
      | cons y l => obtain ⟨_, _, h, _⟩ := hrow (by simp); cases h
    subst h0
    refine ⟨v, w, ?_, by simpa using hv.mono fun b hb => .inl hb, World.grownBy.refl _ _, .inl rfl⟩
    rcases h1.2 with ⟨rfl, h0⟩ | ⟨g, cap, cur, rfl, _, _, hnc, _⟩
    · simp [Builtin.append_, run_underlying Try.underlying33, sizeOf, typeInfo, hi, Builtin.lenOf, Builtin.firstCells]
    · simp [Builtin.append_, run_underlying Try.underlying33, sizeOf, typeInfo, hi, Builtin.lenOf, Builtin.firstCells, hnc, storeCells]
  | some ad =>
    have hc : ∀ j (hj : j < ys.length), ys[j].size ≤ maxLen ∧ w.cell? (ad.add j) = some (.string ys[j]) := by
      intro j hj
      obtain ⟨b, off, hA, hb, hc⟩ := hrow (by omega)
      injection hA with hA
      subst hA
      obtain ⟨cs, ⟨rfl, hsz⟩, h5⟩ := hc j _ (List.getElem?_eq_getElem hj)
      have := h5 0 _ rfl
      rw [add_none]
      exact ⟨hsz, by simpa [Sh.str] using this⟩
    let D : Nat → List Value := fun j => [.string (ys[j]?.getD ByteArray.empty)]
    obtain ⟨v', w', hr, ho, hg, hwhere⟩ := Sh.append_run (P := Try.prog) (A := strSh) (S' := fun _ => False) (ys := ys) i _ 16 Try.underlying33 hi hz hs hb rfl (by decide) hv ad c D (fun _ _ => False) (fun j u hu => by
        have hj : j < ys.length := by
          have := (List.getElem?_eq_some_iff.1 hu).1
          rw [flat_len (d := 1) (fun _ _ => rfl)] at this; omega
        have hu' : (flat D ys.length)[j * 1 + 0]? = some u := by simpa using hu
        rw [flat_at (d := 1) (fun _ _ => rfl) hj (by omega)] at hu'
        have : Value.string ys[j] = u := by simpa [D, hj] using hu'
        rw [← this]; exact (hc j hj).2)
      (fun j x hx => by
        obtain ⟨hj, rfl⟩ := List.getElem?_eq_some_iff.1 hx
        exact ⟨⟨by simp [D, hj], (hc j hj).1⟩, fun _ h => h.elim⟩) (fun _ _ _ _ _ h => h.elim) (fun _ _ h => h) ty hl (by decide)
    exact ⟨v', w', hr, ho.mono fun b hb => by rcases hb with h | h | h; exact .inl h; exact h.elim; exact .inr h, hg, hwhere⟩
theorem wpl_append_strs {w : World} {ops : Array Oper} {rest : List Oper} {o : Oper} {a : Act} {Q : Exit → Act → World → Prop} (hgd : o.guard = none) (s x : Operand)
    (ho : o.op = .call { callee := .builtin .append, args := #[s, x], argTypes := #[33, 33] }) (S : Nat → Prop) (v : Value) (xs ys : List ByteArray) (hs : a.eval s = v) (hv : strSh.Own 9 w S v xs)
    (B : Nat) (Ad : Option Addr) (n c : Nat) (hx : a.eval x = .slice Ad n c) (hn : n = ys.length) (hy : strSh.Row w B (.slice Ad n c) ys) (hl : xs.length + ys.length ≤ 2097152)
    (h : ∀ v' w', strSh.Own 9 w' (fun b => S b ∨ b = w.heap.size) v' (xs ++ ys) → w.grownBy w' v.ownBlock → (v'.ownBlock = v.ownBlock ∨ v'.ownBlock = some w.heap.size) → wpList Try.prog ops Q rest (a.put o.dst v') w') : wpList Try.prog ops Q (o :: rest) a w := by
  refine wpList_plain hgd fun K hK => ?_
  obtain ⟨v', w', hr, h2, h3, h4⟩ := append_strs w S v xs ys hv B Ad n c hn hy o.type hl
  unfold Oper.wp execOp
  simp only [ho, resolve, invoke, builtin, Sem.run_bind, Sem.run_pure, Result.andThen_ok, List.map_toArray, List.map_cons, List.map_nil, hs, hx, hr]
  exact hK _ _ (h v' w' h2 h3 h4)

set_option maxRecDepth 100000 in
theorem cloneStr_any (w : World) (v : Value) (xs : List ByteArray) (hv : strSh.Row w w.heap.size v xs) (hl : xs.length ≤ 1048576) :
    Calls Try.prog 135 #[v] w (CopiedSl strSh 9 xs w) := by
  obtain ⟨Ad, c, rfl, hc2, hc1⟩ := hv.form
  have HV := Lib.hid hv
  clear hv
  have hq := fun W => Lib.run_eql_slice_nil (P := Try.prog) W 33 9 Ad xs.length c 0 0 Try.underlying33
  cases Ad with
  | none =>
    have hx : xs = [] := by
      obtain ⟨A', c', e, _, _, hrow⟩ := HV.out
      injection e with eA _ _
      subst eA
      cases xs with
      | nil => rfl
      | cons y l => obtain ⟨_, _, h, _⟩ := hrow (by simp); cases h
    have HX := Lib.hid hx
    clear hx
    go_enter Try.func135, Try.ntmps135
    go_wp2
    go_ret
    exact ⟨_, rfl, by rw [HX.out]; exact Sh.Own.nil _ _, Below.refl _ _⟩
  | some ad =>
    go_enter Try.func135, Try.ntmps135
    go_wp2_with (at_builtin; refine wpl_append_strs rfl _ _ rfl (fun b => b = w.heap.size) _ [] xs rfl (Sh.Own.lit0 strSh 9 w) w.heap.size _ _ _ rfl rfl (HV.out.alloc (Nat.le_refl _) _) (by simp; omega) ?_; intro u w1 hown hg hwh; have HO := Lib.hid hown; have HG := Lib.hid hg; clear hown hg hwh)
    go_ret
    have hsz := HG.out.size
    simp at hsz
    refine ⟨_, rfl, HO.out.cap.mono fun b hb => ⟨?_, hb.2⟩, (belowOne _ _).grown HG.out (by simp) (fun k hk => Nat.le_of_eq (Option.some.inj hk))⟩
    rcases hb.1 with h | h
    · omega
    · simp at h; omega

end Go.Proofs.Ytkamlibfcakblaa

/- A region that draws its order, by what holds of its operations that have come up: each operation is shown once, whatever came before it. Nothing of the program. -/
namespace Go.Proofs.Ytkamlibfcakblaa

def upd {α : Type} (f : Nat → α) (i : Nat) (x : α) (j : Nat) : α := if j = i then x else f j
theorem upd_same {α : Type} (f : Nat → α) (i : Nat) (x : α) : upd f i x i = x := by simp [upd]
theorem upd_other {α : Type} (f : Nat → α) {i j : Nat} (x : α) (h : j ≠ i) : upd f i x j = f j := by simp [upd, h]

section
variable {P : Program} {ops : Array Oper} {Q : Exit → Act → World → Prop}

def left (l : Array Bool) : Nat := (l.toList.filter (! ·)).length
theorem left_set {l : Array Bool} {i : Nat} (h : l[i]? = some false) : left (l.setIfInBounds i true) + 1 = left l := by
  obtain ⟨l⟩ := l
  unfold left
  simp only [List.setIfInBounds_toArray] at *
  simp at h
  induction l generalizing i with
  | nil => simp at h
  | cons b l ih =>
    cases i with
    | zero =>
      simp at h
      subst h
      simp
    | succ i =>
      simp at h
      have := ih h
      cases b <;> simp at this ⊢ <;> omega

/-- Each operation keeps I, whatever has come up before it; behind all I gives the post. -/
theorem wpAny_inv (I : (Nat → Bool) → Act → World → Prop)
    (hback : ∀ (i : Nat) (o : Oper), ops[i]? = some o → ∀ e ∈ o.after, e.on < i)
    (hstep : ∀ (L : Nat → Bool) (a : Act) (w : World) (i : Nat) (o : Oper), ops[i]? = some o → L i = false → (∀ e ∈ o.after, L e.on = true) → I L a w →
      ∀ K : Act → World → Prop, (∀ a' w', I (upd L i true) a' w' → K a' w') → if Region.wanted o (yielded ops a.tmps) = true then Oper.wp P o a w K Q else K (a.put o.dst undef) w)
    (hall : ∀ (i : Nat) (o : Oper), ops[i]? = some o → ∀ e ∈ o.after, Region.binds .any e = true)
    (hend : ∀ L a w, (∀ i, i < ops.size → L i = true) → I L a w → Q .normal a w) :
    ∀ (fuel : Nat) (l : Array Bool) (a : Act) (w : World), l.size = ops.size → left l ≤ fuel → I (fun j => l.getD j false) a w → wpAny P .any ops Q fuel l a w := by
  have hdone : ∀ (l : Array Bool), l.size = ops.size → Region.ready .any ops l = [] → ∀ i, i < ops.size → l.getD i false = true := by
    intro l hl hr i
    induction i using Nat.strongRecOn with
    | _ i ih =>
      intro hi
      cases hc : l.getD i false with
      | true => rfl
      | false =>
        have ho : ops[i]? = some ops[i] := Array.getElem?_eq_getElem hi
        have hm : i ∈ Region.ready .any ops l := by
          rw [mem_ready]
          refine ⟨?_, ops[i], ho, ?_⟩
          · simp only [Array.getD_eq_getD_getElem?] at hc ⊢
            rw [Array.getElem?_eq_getElem (by omega)] at hc ⊢
            simpa using hc
          · intro e he _
            exact ih e.on (hback i _ ho e he) (Nat.lt_trans (hback i _ ho e he) hi)
        rw [hr] at hm
        cases hm
  intro fuel
  induction fuel with
  | zero =>
    intro l a w hl hn hI
    have hr : Region.ready .any ops l = [] := by
      cases hr : Region.ready .any ops l with
      | nil => rfl
      | cons i rs =>
        have hm : i ∈ Region.ready .any ops l := by rw [hr]; simp
        obtain ⟨h1, o, ho, _⟩ := mem_ready.1 hm
        have hi : i < l.size := by rw [hl]; exact (Array.getElem?_eq_some_iff.1 ho).1
        have hf : l[i]? = some false := by
          rw [Array.getElem?_eq_getElem hi]
          simp only [Array.getD_eq_getD_getElem?, Array.getElem?_eq_getElem hi] at h1
          simpa using h1
        have := left_set hf
        omega
    exact ⟨hr, hend _ a w (hdone l hl hr) hI⟩
  | succ fuel ih =>
    intro l a w hl hn hI
    refine ⟨fun hr => hend _ a w (hdone l hl hr) hI, fun i hi => ?_⟩
    obtain ⟨h1, o, ho, h2⟩ := mem_ready.1 hi
    have hil : i < l.size := by rw [hl]; exact (Array.getElem?_eq_some_iff.1 ho).1
    have hf : l[i]? = some false := by
      rw [Array.getElem?_eq_getElem hil]
      simp only [Array.getD_eq_getD_getElem?, Array.getElem?_eq_getElem hil] at h1
      simpa using h1
    refine wpOp_step ho fun K hK => ?_
    refine hstep (fun j => l.getD j false) a w i o ho (by simp [Array.getD_eq_getD_getElem?, hf]) (fun e he => h2 e he (hall i o ho e he)) hI K fun a' w' h => hK a' w' ?_
    refine ih _ a' w' (by simpa using hl) (by have := left_set hf; omega) ?_
    have he : (fun j => (l.setIfInBounds i true).getD j false) = upd (fun j => l.getD j false) i true := by
      funext j
      simp only [Array.getD_eq_getD_getElem?, Array.getElem?_setIfInBounds, upd]
      by_cases hj : i = j
      · subst hj; simp [hil]
      · simp [hj, Ne.symm hj]
    rw [he]
    exact h

theorem wp_region_inv {id : Nat} {a : Act} {w : World} (hm : P.follows .mixedOrders = true) (I : (Nat → Bool) → Act → World → Prop)
    (hback : ∀ (i : Nat) (o : Oper), ops[i]? = some o → ∀ e ∈ o.after, e.on < i)
    (hall : ∀ (i : Nat) (o : Oper), ops[i]? = some o → ∀ e ∈ o.after, Region.binds .any e = true)
    (h0 : I (fun _ => false) a w.drew)
    (hstep : ∀ (L : Nat → Bool) (a : Act) (w : World) (i : Nat) (o : Oper), ops[i]? = some o → L i = false → (∀ e ∈ o.after, L e.on = true) → I L a w →
      ∀ K : Act → World → Prop, (∀ a' w', I (upd L i true) a' w' → K a' w') → if Region.wanted o (yielded ops a.tmps) = true then Oper.wp P o a w K Q else K (a.put o.dst undef) w)
    (hend : ∀ L a w, (∀ i, i < ops.size → L i = true) → I L a w → Q .normal a w) : (Code.region id ops true).wp P Q a w := by
  refine wp_region_any hm (wpAny_inv I hback hstep hall hend _ _ _ _ (by simp) ?_ ?_)
  · unfold left; exact Nat.le_trans (List.length_filter_le _ _) (by simp)
  · have he : (fun j => (Array.replicate ops.size false).getD j false) = fun _ => false := by
      funext j
      simp only [Array.getD_eq_getD_getElem?, Array.getElem?_replicate]
      split <;> rfl
    rw [he]; exact h0
end

/-- What has come up has come up behind all that it waits for. -/
def Down (ops : Array Oper) (L : Nat → Bool) : Prop := ∀ (i : Nat) (o : Oper), ops[i]? = some o → L i = true → ∀ e ∈ o.after, L e.on = true
theorem Down.upd {ops : Array Oper} {L : Nat → Bool} {i : Nat} {o : Oper} (h : Down ops L) (ho : ops[i]? = some o) (hp : ∀ e ∈ o.after, L e.on = true) : Down ops (upd L i true) := by
  intro j oj hj hL e he
  by_cases e1 : e.on = i
  · rw [e1, upd_same]
  · rw [upd_other _ _ e1]
    by_cases e2 : j = i
    · subst e2
      rw [ho] at hj
      injection hj with hj
      subst hj
      exact hp e he
    · rw [upd_other _ _ e2] at hL
      exact h j oj hj hL e he
theorem wp_region_inv2 {P : Program} {ops : Array Oper} {Q : Exit → Act → World → Prop} {id : Nat} {a : Act} {w : World} (hm : P.follows .mixedOrders = true) (I : (Nat → Bool) → Act → World → Prop)
    (hback : ∀ (i : Nat) (o : Oper), ops[i]? = some o → ∀ e ∈ o.after, e.on < i)
    (hall : ∀ (i : Nat) (o : Oper), ops[i]? = some o → ∀ e ∈ o.after, Region.binds .any e = true)
    (h0 : I (fun _ => false) a w.drew)
    (hstep : ∀ (L : Nat → Bool) (a : Act) (w : World) (i : Nat) (o : Oper), ops[i]? = some o → L i = false → (∀ e ∈ o.after, L e.on = true) → Down ops L → I L a w →
      ∀ K : Act → World → Prop, (∀ a' w', I (upd L i true) a' w' → K a' w') → if Region.wanted o (yielded ops a.tmps) = true then Oper.wp P o a w K Q else K (a.put o.dst undef) w)
    (hend : ∀ L a w, (∀ i, i < ops.size → L i = true) → I L a w → Q .normal a w) : (Code.region id ops true).wp P Q a w :=
  wp_region_inv hm (fun L a w => Down ops L ∧ I L a w) hback hall ⟨fun _ _ _ h => by simp at h, h0⟩
    (fun L a w i o ho hL hp hI K hK => hstep L a w i o ho hL hp hI.1 hI.2 K fun a' w' h => hK a' w' ⟨hI.1.upd ho hp, h⟩)
    (fun L a w hL hI => hend L a w hL hI.2)

/-- All edges of a region go back, and bind. -/
def backB (ops : Array Oper) : Bool := (List.range ops.size).all fun i => match ops[i]? with
  | some o => o.after.all fun e => decide (e.on < i) && Region.binds .any e
  | none => true
theorem backB_at {ops : Array Oper} (h : backB ops = true) (i : Nat) (o : Oper) (ho : ops[i]? = some o) : ∀ e ∈ o.after, e.on < i ∧ Region.binds .any e = true := by
  intro e he
  have hi : i < ops.size := (Array.getElem?_eq_some_iff.1 ho).1
  have := List.all_eq_true.1 h i (List.mem_range.2 hi)
  simp only [ho] at this
  have := Array.all_eq_true_iff_forall_mem.1 this e he
  simpa using this

/-- The slots of a region's operations, what each is good for, and what holds of the world. -/
def RInv (frame : (Nat → Value) → Array Value) (Good : Nat → World → Value → Prop) (Wd : (Nat → Bool) → World → Prop) (L : Nat → Bool) (a : Act) (w : World) : Prop :=
  ∃ U : Nat → Value, a = { tmps := frame U, defers := [] } ∧ (∀ j, L j = true → Good j w (U j)) ∧ Wd L w
theorem RInv.next {Good : Nat → World → Value → Prop} {L : Nat → Bool} {U : Nat → Value} {w w' : World} {i : Nat} {v : Value} (hG : ∀ j, L j = true → Good j w (U j)) (hst : ∀ j u, Good j w u → Good j w' u) (hv : Good i w' v) :
    ∀ j, upd L i true j = true → Good j w' (upd U i v j) := by
  intro j hj
  by_cases e : j = i
  · subst e; rw [upd_same]; exact hv
  · rw [upd_other _ _ e]; rw [upd_other _ _ e] at hj; exact hst j _ (hG j hj)

end Go.Proofs.Ytkamlibfcakblaa

/- Which operations of a region that draws must have come up behind which. Nothing of the program. -/
namespace Go.Proofs.Ytkamlibfcakblaa

/-- Which operations must have come up behind which. -/
def reach (ops : Array Oper) : Nat → Nat → Nat → Bool
  | 0, i, j => i == j
  | f + 1, i, j => i == j || (match ops[i]? with
    | some o => o.after.any fun e => reach ops f e.on j
    | none => false)
theorem Down.reach {ops : Array Oper} {L : Nat → Bool} (h : Down ops L) : ∀ (f i j : Nat), reach ops f i j = true → L i = true → L j = true := by
  intro f
  induction f with
  | zero => intro i j hr hL; simp [Go.Proofs.Ytkamlibfcakblaa.reach] at hr; subst hr; exact hL
  | succ f ih =>
    intro i j hr hL
    unfold Go.Proofs.Ytkamlibfcakblaa.reach at hr
    rcases Bool.or_eq_true_iff.1 hr with h1 | h1
    · simp at h1; subst h1; exact hL
    · split at h1
      · next o ho =>
        obtain ⟨n, hn, he⟩ := Array.any_eq_true.1 h1
        exact ih _ _ he (h i o ho hL _ (Array.getElem_mem hn))
      · cases h1
theorem Down.notYet {ops : Array Oper} {L : Nat → Bool} (h : Down ops L) (f n m : Nat) (hr : ((List.range n).all fun j => Go.Proofs.Ytkamlibfcakblaa.reach ops f m j) = true) {i : Nat} (hi : i < n) (hL : L i = false) : L m = false := by
  cases hm : L m with
  | false => rfl
  | true =>
    have := h.reach f m i (List.all_eq_true.1 hr i (List.mem_range.2 hi)) hm
    rw [hL] at this
    cases this

end Go.Proofs.Ytkamlibfcakblaa
