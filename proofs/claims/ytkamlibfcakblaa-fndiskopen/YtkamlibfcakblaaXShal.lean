/- Texts that follow each other, merged: Shal, CloneStr, ShapesLog, NotePlain. -/
import Derived.Test.YtkamlibfcakblaaXShOwn
import Derived.OwnWalk
import Derived.Test.YtkamlibfcakblaaXHStr
import Derived.Test.YtkamlibfcakblaaXExItems
import Derived.Test.YtkamlibfcakblaaXCmp

/- Slices whose row is the call's own, and whose elements reach what lay there before: made by append out of parts of others. -/
namespace Go.Proofs.Ytkamlibfcakblaa
open Go.RowKit

/-- A row of the call's own, from block B on; what its elements reach lies below B. -/
def Sh.Shal {α : Type} (A : Sh α) (e : TypeId) (w : World) (B : Nat) (v : Value) (xs : List α) : Prop :=
  ∃ C : Nat → List Value, w.ownsRow 0 e A.wd v xs.length (flat C xs.length) ∧ (∀ g, v.ownBlock = some g → B ≤ g) ∧ ∀ j x, xs[j]? = some x → A.rel w B (C j) x
section
variable {α : Type} {A : Sh α} {e : TypeId} {w w' : World} {B : Nat} {v : Value} {xs ys : List α}
theorem Sh.Shal.below (h : A.Shal e w B v xs) (hb : Below w.heap.size w w') (hB : B ≤ w.heap.size) : A.Shal e w' B v xs := by
  obtain ⟨C, h1, h2, h3⟩ := h
  exact ⟨C, ownsRow_keep h1 fun b _ hlt => hb.block b hlt, h2, fun j x hx => A.rbelow (h3 j x hx) (hb.mono hB)⟩
theorem Sh.Shal.alloc (h : A.Shal e w B v xs) (hB : B ≤ w.heap.size) (o : Obj) : A.Shal e (w.alloc o) B v xs := h.below (belowOne w o) hB
theorem Sh.Shal.set (h : A.Shal e w B v xs) {p : Addr} (hp : B ≤ p.block) (hv : v.ownBlock ≠ some p.block) (u : Value) : A.Shal e (w.setCell p u) B v xs := by
  obtain ⟨C, h1, h2, h3⟩ := h
  exact ⟨C, ownsRow_keep h1 fun b hb _ => Below.heap_setCell w p u b (fun e1 => hv (by rw [hb, e1])), h2, fun j x hx => A.rbelow (h3 j x hx) ((Below.refl _ _).setCell hp u)⟩
theorem Sh.Shal.empty {g : Nat} (hg : w.heap[g]? = some (.cells #[] e (0, 0))) (hB : B ≤ g) : A.Shal e w B (.slice (some ⟨g, 0, none⟩) 0 0) [] :=
  ⟨fun _ => [], ⟨by simp [flat], .inr ⟨g, 0, #[], rfl, Nat.zero_le _, hg, Nat.le_refl _, Nat.zero_le _, by simp, by simp [flat]⟩⟩, fun q hq => by rw [← Option.some.inj hq]; exact hB, fun j x hx => by simp at hx⟩
theorem Sh.Shal.nil (w : World) : A.Shal e w B (.slice none 0 0) [] := ⟨fun _ => [], World.ownsRow_nil _ _ _ _, fun g hg => (by cases hg), fun j x hx => by simp at hx⟩
theorem Sh.Shal.form (h : A.Shal e w B v xs) : (v = .slice none 0 0 ∧ xs = []) ∨ ∃ g cap, v = .slice (some ⟨g, 0, none⟩) xs.length cap ∧ B ≤ g ∧ g < w.heap.size ∧ xs.length ≤ cap ∧ cap ≤ maxLen := by
  obtain ⟨C, h1, h2, _⟩ := h
  rcases h1.2 with ⟨hv, h0⟩ | ⟨g, cap, cur, hv, hb, hg, hn, hm, _⟩
  · exact .inl ⟨hv, List.length_eq_zero_iff.1 h0⟩
  · exact .inr ⟨g, cap, hv, h2 g (by rw [hv]; rfl), (Array.getElem?_eq_some_iff.1 hg).1, hn, hm⟩
theorem Sh.Shal.row (h : A.Shal e w B v xs) (hB : B ≤ w.heap.size) : A.Row w w.heap.size v xs := by
  rcases h.form with ⟨rfl, rfl⟩ | ⟨g, cap, rfl, _, hg, hc1, hc2⟩
  · exact Sh.Row.nil _ _
  · obtain ⟨C, h1, h2, h3⟩ := h
    refine ⟨_, cap, rfl, hc1, hc2, fun _ => ⟨g, 0, rfl, hg, fun j x hx => ?_⟩⟩
    have hj : j < xs.length := (List.getElem?_eq_some_iff.1 hx).1
    have hC : ∀ j, j < xs.length → (C j).length = A.wd := fun j hj => A.rlen (h3 j _ (List.getElem?_eq_getElem hj))
    refine ⟨C j, A.rmore (h3 j x hx) hB, fun i u hu => ?_⟩
    have hi : i < A.wd := by rw [← hC j hj]; exact (List.getElem?_eq_some_iff.1 hu).1
    have hlt : j * A.wd + i < xs.length * A.wd := by
      have := Nat.mul_le_mul_right A.wd (show j + 1 ≤ xs.length by omega)
      rw [Nat.add_mul, Nat.one_mul] at this; omega
    rw [Nat.zero_add, h1.cellAt _ hlt, flat_at hC hj hi, hu]

/-- A part of a slice. -/
theorem Sh.Row.take (h : A.Row w B v xs) {Ad : Option Addr} {c k : Nat} (hv : v = .slice Ad xs.length c) (hk : k ≤ xs.length) : A.Row w B (.slice Ad k c) (xs.take k) := by
  obtain ⟨Ad', c', e1, h1, h2, hr⟩ := h
  rw [hv] at e1
  injection e1 with e1 _ e3
  subst e1 e3
  have hl : (xs.take k).length = k := by simp; omega
  refine ⟨Ad, c, by rw [hl], by omega, h2, fun hn => ?_⟩
  obtain ⟨b, off, hA, hb, hc⟩ := hr (by omega)
  refine ⟨b, off, hA, hb, fun j x hx => hc j x ?_⟩
  rw [List.getElem?_take] at hx
  split at hx
  · exact hx
  · cases hx
theorem Sh.Row.zero (A : Sh α) (w : World) (B : Nat) (Ad : Option Addr) (c : Nat) (hc : c ≤ maxLen) : A.Row w B (.slice Ad 0 c) [] := ⟨Ad, c, rfl, Nat.zero_le _, hc, fun h => absurd h (by simp)⟩
theorem Sh.Row.drop {b off c k : Nat} (h : A.Row w B (.slice (some ⟨b, off, none⟩) xs.length c) xs) (hk : k < xs.length) : A.Row w B (.slice (some ⟨b, off + k * A.wd, none⟩) (xs.length - k) (c - k)) (xs.drop k) := by
  obtain ⟨Ad', c', e1, h1, h2, hr⟩ := h
  injection e1 with e1 _ e3
  subst e1 e3
  have hl : (xs.drop k).length = xs.length - k := by simp
  refine ⟨_, c - k, by rw [hl], by omega, by omega, fun hn => ?_⟩
  obtain ⟨b', off', hA, hb, hc⟩ := hr (by omega)
  injection hA with hA
  injection hA with hA1 hA2
  subst hA1 hA2
  refine ⟨b, _, rfl, hb, fun j x hx => ?_⟩
  rw [List.getElem?_drop] at hx
  obtain ⟨cs, h3, h4⟩ := hc _ x hx
  refine ⟨cs, h3, fun i u hu => ?_⟩
  rw [← h4 i u hu]
  congr 2
  rw [Nat.add_mul]; omega
end

section
variable {P : Program} {α : Type} {A : Sh α} {e t : TypeId} {w : World} {B : Nat} {v : Value} {xs ys : List α}
/-- append of a slice that is read. -/
theorem Sh.shal_run (i : TypeInfo) (z : Value) (bytes : Nat) (ht : P.underlying t = some (.slice e)) (hi : P.info? e = some i) (hz : i.zero = some z) (hsize : i.size = A.wd) (hby : i.bytes = bytes) (hzs : z.cells.size = A.wd) (hsz : 0 < A.wd)
    (hv : A.Shal e w B v xs) (hB : B ≤ w.heap.size) (Ad : Option Addr) (n c : Nat) (hn : n = ys.length) (hy : A.Row w B (.slice Ad n c) ys) (ty : TypeId) (hl : xs.length + ys.length ≤ 2097152) (hbl : bytes ≤ 65536) :
    ∃ v' w', (Builtin.append_ #[t, t] ty #[v, .slice Ad n c]).run P w = .ok v' w' ∧ A.Shal e w' B v' (xs ++ ys) ∧ Below B w w' ∧ (v'.ownBlock = v.ownBlock ∨ v'.ownBlock = some w.heap.size) ∧ w.grownBy w' v.ownBlock := by
  subst hn
  obtain ⟨C, h1, h2, h3⟩ := hv
  obtain ⟨Ad', c', e1, hc1, hc2, hrow⟩ := hy
  injection e1 with e1 _ e3
  subst e1 e3
  cases Ad with
  | none =>
    have h0 : ys = [] := by
      cases ys with
      | nil => rfl
      | cons y l => obtain ⟨_, _, h, _⟩ := hrow (by simp); cases h
    subst h0
    refine ⟨v, w, ?_, ⟨C, by simpa using h1, h2, by simpa using h3⟩, Below.refl _ _, .inl rfl, World.grownBy.refl _ _⟩
    rcases h1.2 with ⟨rfl, h0⟩ | ⟨g, cap, cur, rfl, _, _, hnc, _⟩
    · simp [Builtin.append_, run_underlying ht, sizeOf, typeInfo, hi, Builtin.lenOf, Builtin.firstCells]
    · simp [Builtin.append_, run_underlying ht, sizeOf, typeInfo, hi, Builtin.lenOf, Builtin.firstCells, hnc, storeCells]
  | some ad =>
    have hD : ∀ j, j < ys.length → ∃ cs x, ys[j]? = some x ∧ A.rel w B cs x ∧ ∀ i u, cs[i]? = some u → w.cell? (ad.add (j * A.wd + i)) = some u := by
      intro j hj
      obtain ⟨b, off, hA, hb, hc⟩ := hrow (by omega)
      injection hA with hA
      subst hA
      obtain ⟨cs, h4, h5⟩ := hc j _ (List.getElem?_eq_getElem hj)
      exact ⟨cs, _, List.getElem?_eq_getElem hj, h4, fun i u hu => by rw [add_none, ← Nat.add_assoc]; exact h5 i u hu⟩
    let D : Nat → List Value := fun j => if h : j < ys.length then Classical.choose (hD j h) else []
    have hDs : ∀ j (h : j < ys.length), ∃ x, ys[j]? = some x ∧ A.rel w B (D j) x ∧ ∀ i u, (D j)[i]? = some u → w.cell? (ad.add (j * A.wd + i)) = some u := fun j h => by
      have := Classical.choose_spec (hD j h)
      simpa only [D, dif_pos h] using this
    have hDl : ∀ j, j < ys.length → (D j).length = A.wd := fun j h => by obtain ⟨x, _, h4, _⟩ := hDs j h; exact A.rlen h4
    have hsrc : ∀ j u, (flat D ys.length)[j]? = some u → w.cell? (ad.add j) = some u := by
      intro j u hu
      have hj : j < ys.length * A.wd := by rw [← flat_len hDl]; exact (List.getElem?_eq_some_iff.1 hu).1
      have q1 : j / A.wd < ys.length := Nat.div_lt_of_lt_mul (by rw [Nat.mul_comm]; exact hj)
      have q2 : j % A.wd < A.wd := Nat.mod_lt j hsz
      have q3 : j / A.wd * A.wd + j % A.wd = j := by rw [Nat.mul_comm]; exact Nat.div_add_mod j A.wd
      rw [← q3, flat_at hDl q1 q2] at hu
      obtain ⟨x, _, _, h5⟩ := hDs _ q1
      have := h5 _ u hu
      rwa [q3] at this
    have hone : ∀ u ∈ flat D ys.length, u.oneCell' = true := by
      intro u hu
      obtain ⟨j, hj, hu⟩ := List.mem_flatMap.1 hu
      obtain ⟨x, _, h4, _⟩ := hDs j (List.mem_range.1 hj)
      exact A.rone h4 u hu
    have hb2 : (xs.length + ys.length) * bytes ≤ 140737488355328 := Nat.le_trans (Nat.mul_le_mul hl hbl) (by decide)
    obtain ⟨v', w', hr, q2, hg, _, q5⟩ := run_append_own_at (P := P) w 0 t ty e i z A.wd bytes ht hi hz hsize hby hzs hsz v xs.length _ h1 ad ys.length c (flat D ys.length) (flat_len hDl) hsrc hone (by unfold maxLen; omega) hb2 (Nat.zero_le _)
    have hbel : Below B w w' := (Below.refl B w).grown hg hB h2
    refine ⟨v', w', hr, ⟨fun j => if j < xs.length then C j else D (j - xs.length), by rw [List.length_append, flat_app]; exact q2, fun g hg' => ?_, fun j x hx => ?_⟩, hbel, q5, hg⟩
    · rcases q5 with h | h
      · exact h2 g (h ▸ hg')
      · rw [h] at hg'; rw [← Option.some.inj hg']; exact hB
    · by_cases hj : j < xs.length
      · rw [List.getElem?_append_left hj] at hx
        simp only [hj, if_true]
        exact A.rbelow (h3 j x hx) hbel
      · rw [List.getElem?_append_right (by omega)] at hx
        simp only [hj, if_false]
        obtain ⟨y, hy, h4, _⟩ := hDs _ (List.getElem?_eq_some_iff.1 hx).1
        rw [hx] at hy
        injection hy with hy
        rw [hy]
        exact A.rbelow h4 hbel
/-- The same, as a step of a region that draws. -/
theorem Sh.shal_step {ops : Array Oper} {o : Oper} {a : Act} {K : Act → World → Prop} {Q : Exit → Act → World → Prop} {E : Prop} (hgd : o.guard = none) (s x : Operand) (i : TypeInfo) (z : Value) (bytes : Nat) (ht : P.underlying t = some (.slice e)) (hi : P.info? e = some i) (hz : i.zero = some z) (hsize : i.size = A.wd) (hby : i.bytes = bytes) (hzs : z.cells.size = A.wd) (hsz : 0 < A.wd)
    (ho : o.op = .call { callee := .builtin .append, args := #[s, x], argTypes := #[t, t] }) (hs : a.eval s = v) (hv : A.Shal e w B v xs) (hB : B ≤ w.heap.size) (Ad : Option Addr) (n c : Nat) (hx : a.eval x = .slice Ad n c) (hn : n = ys.length) (hy : A.Row w B (.slice Ad n c) ys) (hl : xs.length + ys.length ≤ 2097152) (hbl : bytes ≤ 65536)
    (h : ∀ v' w', A.Shal e w' B v' (xs ++ ys) → Below B w w' → (v'.ownBlock = v.ownBlock ∨ v'.ownBlock = some w.heap.size) → w.grownBy w' v.ownBlock → K (a.put o.dst v') w') : if Region.wanted o (yielded ops a.tmps) = true then Oper.wp P o a w K Q else E := by
  have hw : Region.wanted o (yielded ops a.tmps) = true := by simp [Region.wanted, hgd]
  rw [if_pos hw]
  obtain ⟨v', w', hr, h2, h3, h4, h5⟩ := Sh.shal_run (P := P) i z bytes ht hi hz hsize hby hzs hsz hv hB Ad n c hn hy o.type hl hbl
  unfold Oper.wp execOp
  simp only [ho, resolve, invoke, builtin, Sem.run_bind, Sem.run_pure, Result.andThen_ok, List.map_toArray, List.map_cons, List.map_nil, hs, hx, hr]
  exact h v' w' h2 h3 h4 h5
end

end Go.Proofs.Ytkamlibfcakblaa

/- Texts appended, and slices.Clone of texts. -/
namespace Go.Proofs.Ytkamlibfcakblaa
open Go.RowKit

theorem strShal {w : World} {S : Nat → Prop} {v : Value} {xs : List ByteArray} (h : strSh.Own 9 w S v xs) : strSh.Shal 9 w 0 v xs := by
  obtain ⟨C, F, h1, _, h3, _⟩ := h
  exact ⟨C, h1, fun _ _ => Nat.zero_le _, fun j x hx => (h3 j x hx).1⟩
theorem strOwn {w : World} {S : Nat → Prop} {v : Value} {xs : List ByteArray} (h : strSh.Shal 9 w 0 v xs) (hS : ∀ g, v.ownBlock = some g → S g) : strSh.Own 9 w S v xs := by
  obtain ⟨C, h1, _, h3⟩ := h
  exact ⟨C, fun _ _ => False, h1, hS, fun j x hx => ⟨h3 j x hx, fun _ h => h.elim⟩, fun i j b _ _ h => h.elim⟩

theorem append_strs (w : World) (S : Nat → Prop) (v : Value) (xs ys : List ByteArray) (hv : strSh.Own 9 w S v xs) (B : Nat) (Ad : Option Addr) (n c : Nat) (hn : n = ys.length) (hy : strSh.Row w B (.slice Ad n c) ys) (ty : TypeId) (hl : xs.length + ys.length ≤ 2097152) :
    ∃ v' w', (Builtin.append_ #[33, 33] ty #[v, .slice Ad n c]).run Try.prog w = .ok v' w' ∧ strSh.Own 9 w' (fun b => S b ∨ b = w.heap.size) v' (xs ++ ys) ∧ w.grownBy w' v.ownBlock ∧ (v'.ownBlock = v.ownBlock ∨ v'.ownBlock = some w.heap.size) := by
  obtain ⟨i, hi, hz, hs, hb⟩ := info_parts infoStr
  subst hn
  have hS : ∀ g, v.ownBlock = some g → S g := by obtain ⟨_, _, _, h2, _⟩ := hv; exact h2
  obtain ⟨C, h1, _, h3⟩ := strShal hv
  obtain ⟨Ad', c', e1, hc1, hc2, hrow⟩ := hy
  injection e1 with e1 _ e3
  subst e1 e3
  cases Ad with
  | none =>
    have h0 : ys = [] := by
      cases ys with
      | nil => rfl
      | cons y l => obtain ⟨_, _, h, _⟩ := hrow (by simp); cases h
    subst h0
    refine ⟨v, w, ?_, by simpa using hv.mono fun b hb => .inl hb, World.grownBy.refl _ _, .inl rfl⟩
    rcases h1.2 with ⟨rfl, h0⟩ | ⟨g, cap, cur, rfl, _, _, hnc, _⟩
    · simp [Builtin.append_, run_underlying Try.underlying33, sizeOf, typeInfo, hi, Builtin.lenOf, Builtin.firstCells]
    · simp [Builtin.append_, run_underlying Try.underlying33, sizeOf, typeInfo, hi, Builtin.lenOf, Builtin.firstCells, hnc, storeCells]
  | some ad =>
    have hc : ∀ j (hj : j < ys.length), ys[j].size ≤ maxLen ∧ w.cell? (ad.add j) = some (.string ys[j]) := by
      intro j hj
      obtain ⟨b, off, hA, hb, hc⟩ := hrow (by omega)
      injection hA with hA
      subst hA
      obtain ⟨cs, ⟨rfl, hsz⟩, h5⟩ := hc j _ (List.getElem?_eq_getElem hj)
      have := h5 0 _ rfl
      rw [add_none]
      exact ⟨hsz, by simpa [Sh.str] using this⟩
    let D : Nat → List Value := fun j => [.string (ys[j]?.getD ByteArray.empty)]
    obtain ⟨v', w', hr, ho, hg, hwhere⟩ := Sh.append_run (P := Try.prog) (A := strSh) (S' := fun _ => False) (ys := ys) i _ 16 Try.underlying33 hi hz hs hb rfl (by decide) hv ad c D (fun _ _ => False) (fun j u hu => by
        have hj : j < ys.length := by
          have := (List.getElem?_eq_some_iff.1 hu).1
          rw [flat_len (d := 1) (fun _ _ => rfl)] at this; omega
        have hu' : (flat D ys.length)[j * 1 + 0]? = some u := by simpa using hu
        rw [flat_at (d := 1) (fun _ _ => rfl) hj (by omega)] at hu'
        have : Value.string ys[j] = u := by simpa [D, hj] using hu'
        rw [← this]; exact (hc j hj).2)
      (fun j x hx => by
        obtain ⟨hj, rfl⟩ := List.getElem?_eq_some_iff.1 hx
        exact ⟨⟨by simp [D, hj], (hc j hj).1⟩, fun _ h => h.elim⟩) (fun _ _ _ _ _ h => h.elim) (fun _ _ h => h) ty hl (by decide)
    exact ⟨v', w', hr, ho.mono fun b hb => by rcases hb with h | h | h; exact .inl h; exact h.elim; exact .inr h, hg, hwhere⟩
theorem wpl_append_strs {w : World} {ops : Array Oper} {rest : List Oper} {o : Oper} {a : Act} {Q : Exit → Act → World → Prop} (hgd : o.guard = none) (s x : Operand)
    (ho : o.op = .call { callee := .builtin .append, args := #[s, x], argTypes := #[33, 33] }) (S : Nat → Prop) (v : Value) (xs ys : List ByteArray) (hs : a.eval s = v) (hv : strSh.Own 9 w S v xs)
    (B : Nat) (Ad : Option Addr) (n c : Nat) (hx : a.eval x = .slice Ad n c) (hn : n = ys.length) (hy : strSh.Row w B (.slice Ad n c) ys) (hl : xs.length + ys.length ≤ 2097152)
    (h : ∀ v' w', strSh.Own 9 w' (fun b => S b ∨ b = w.heap.size) v' (xs ++ ys) → w.grownBy w' v.ownBlock → (v'.ownBlock = v.ownBlock ∨ v'.ownBlock = some w.heap.size) → wpList Try.prog ops Q rest (a.put o.dst v') w') : wpList Try.prog ops Q (o :: rest) a w := by
  refine wpList_plain hgd fun K hK => ?_
  obtain ⟨v', w', hr, h2, h3, h4⟩ := append_strs w S v xs ys hv B Ad n c hn hy o.type hl
  unfold Oper.wp execOp
  simp only [ho, resolve, invoke, builtin, Sem.run_bind, Sem.run_pure, Result.andThen_ok, List.map_toArray, List.map_cons, List.map_nil, hs, hx, hr]
  exact hK _ _ (h v' w' h2 h3 h4)

set_option maxRecDepth 100000 in
theorem cloneStr_any (w : World) (v : Value) (xs : List ByteArray) (hv : strSh.Row w w.heap.size v xs) (hl : xs.length ≤ 1048576) :
    Calls Try.prog 135 #[v] w (CopiedSl strSh 9 xs w) := by
  obtain ⟨Ad, c, rfl, hc2, hc1⟩ := hv.form
  have HV := Lib.hid hv
  clear hv
  have hq := fun W => Lib.run_eql_slice_nil (P := Try.prog) W 33 9 Ad xs.length c 0 0 Try.underlying33
  cases Ad with
  | none =>
    have hx : xs = [] := by
      obtain ⟨A', c', e, _, _, hrow⟩ := HV.out
      injection e with eA _ _
      subst eA
      cases xs with
      | nil => rfl
      | cons y l => obtain ⟨_, _, h, _⟩ := hrow (by simp); cases h
    have HX := Lib.hid hx
    clear hx
    go_enter Try.func135, Try.ntmps135
    go_wp2
    go_ret
    exact ⟨_, rfl, by rw [HX.out]; exact Sh.Own.nil _ _, Below.refl _ _⟩
  | some ad =>
    go_enter Try.func135, Try.ntmps135
    go_wp2_with (at_builtin; refine wpl_append_strs rfl _ _ rfl (fun b => b = w.heap.size) _ [] xs rfl (Sh.Own.lit0 strSh 9 w) w.heap.size _ _ _ rfl rfl (HV.out.alloc (Nat.le_refl _) _) (by simp; omega) ?_; intro u w1 hown hg hwh; have HO := Lib.hid hown; have HG := Lib.hid hg; clear hown hg hwh)
    go_ret
    have hsz := HG.out.size
    simp at hsz
    refine ⟨_, rfl, HO.out.cap.mono fun b hb => ⟨?_, hb.2⟩, (belowOne _ _).grown HG.out (by simp) (fun k hk => Nat.le_of_eq (Option.some.inj hk))⟩
    rcases hb.1 with h | h
    · omega
    · simp at h; omega

end Go.Proofs.Ytkamlibfcakblaa

/- The shapes of notes and of a place's notes. -/
namespace Go.Proofs.Ytkamlibfcakblaa
open Go.RowKit

/-- A note: its kind, whose it is, the names that it holds, what it writes. -/
structure Note where
  kind : Int
  tx : Int
  locks : List ByteArray
  writes : List Wr
def noteSh : Sh Note := (Sh.int.pair (Sh.int.pair (strsSh.pair wrsSh))).conv (fun x => (x.kind, x.tx, x.locks, x.writes)) (fun p => ⟨p.1, p.2.1, p.2.2.1, p.2.2.2⟩) rfl
abbrev notesSh : Sh (List Note) := noteSh.sl 36 (by decide)
/-- A place's notes, and how many are safe. -/
structure Disk where
  notes : List Note
  safe : Int
def diskSh : Sh Disk := (notesSh.pair Sh.int).conv (fun x => (x.notes, x.safe)) (fun p => ⟨p.1, p.2⟩) rfl

section
variable {w : World} {B : Nat} {S : Nat → Prop} {v : Value}
theorem note_rel {cs : List Value} {x : Note} : noteSh.rel w B cs x ↔ ∃ u v, cs = [.int .i64 x.kind, .int .i64 x.tx, u, v] ∧ strSh.Row w B u x.locks ∧ wrSh.Row w B v x.writes := by
  constructor
  · rintro ⟨c1, c2, rfl, h1, c3, c4, rfl, h2, c5, c6, rfl, ⟨u, rfl, h3⟩, v, rfl, h4⟩
    have h1' : c1 = [.int .i64 x.kind] := h1
    have h2' : c3 = [.int .i64 x.tx] := h2
    subst h1' h2'
    exact ⟨u, v, rfl, h3, h4⟩
  · rintro ⟨u, v, rfl, h3, h4⟩
    exact ⟨_, _, rfl, rfl, _, _, rfl, rfl, _, _, rfl, ⟨u, rfl, h3⟩, v, rfl, h4⟩
theorem disk_rel {cs : List Value} {x : Disk} : diskSh.rel w B cs x ↔ ∃ u, cs = [u, .int .i64 x.safe] ∧ noteSh.Row w B u x.notes := by
  constructor
  · rintro ⟨c1, c2, rfl, ⟨u, rfl, h3⟩, h2⟩
    have h2' : c2 = [.int .i64 x.safe] := h2
    subst h2'
    exact ⟨u, rfl, h3⟩
  · rintro ⟨u, rfl, h3⟩
    exact ⟨_, _, rfl, ⟨u, rfl, h3⟩, rfl⟩
theorem note_own {cs : List Value} {x : Note} : noteSh.own w S cs x ↔ ∃ u v S1 S2, cs = [.int .i64 x.kind, .int .i64 x.tx, u, v] ∧ strSh.Own 9 w S1 u x.locks ∧ wrSh.Own 86 w S2 v x.writes ∧ (∀ b, S1 b → S b) ∧ (∀ b, S2 b → S b) ∧ ∀ b, S1 b → S2 b → False := by
  constructor
  · rintro ⟨c1, c2, S1, S2, rfl, h1, ⟨c3, c4, S3, S4, rfl, h2, ⟨c5, c6, S5, S6, rfl, ⟨u, rfl, h3⟩, ⟨v, rfl, h4⟩, s5, s6, d⟩, -, s4, -⟩, -, s2, -⟩
    have h1' : c1 = [.int .i64 x.kind] := h1
    have h2' : c3 = [.int .i64 x.tx] := h2
    subst h1' h2'
    exact ⟨u, v, S5, S6, rfl, h3, h4, fun b hb => s2 b (s4 b (s5 b hb)), fun b hb => s2 b (s4 b (s6 b hb)), d⟩
  · rintro ⟨u, v, S1, S2, rfl, h3, h4, s1, s2, d⟩
    exact ⟨_, _, fun _ => False, S, rfl, rfl, ⟨_, _, fun _ => False, S, rfl, rfl, ⟨_, _, S1, S2, rfl, ⟨u, rfl, h3⟩, ⟨v, rfl, h4⟩, s1, s2, d⟩, fun _ h => h.elim, fun _ h => h, fun _ h _ => h⟩, fun _ h => h.elim, fun _ h => h, fun _ h _ => h⟩
theorem disk_own {cs : List Value} {x : Disk} : diskSh.own w S cs x ↔ ∃ u, cs = [u, .int .i64 x.safe] ∧ noteSh.Own 36 w S u x.notes := by
  constructor
  · rintro ⟨c1, c2, S1, S2, rfl, ⟨u, rfl, h3⟩, h2, s1, -, -⟩
    have h2' : c2 = [.int .i64 x.safe] := h2
    subst h2'
    exact ⟨u, rfl, h3.mono s1⟩
  · rintro ⟨u, rfl, h3⟩
    exact ⟨_, _, S, fun _ => False, rfl, ⟨u, rfl, h3⟩, rfl, fun _ h => h, fun _ h => h.elim, fun _ _ h => h⟩
theorem notes_at {xs : List Note} (h : noteSh.Row w B v xs) {k : Nat} (hk : k < xs.length) : ∃ b off c x u u', v = .slice (some ⟨b, off, none⟩) xs.length c ∧ xs[k]? = some x ∧ b < B ∧
    w.cell? ⟨b, off + k * 4, none⟩ = some (.int .i64 x.kind) ∧ w.cell? ⟨b, off + k * 4 + 1, none⟩ = some (.int .i64 x.tx) ∧ w.cell? ⟨b, off + k * 4 + 2, none⟩ = some u ∧ w.cell? ⟨b, off + k * 4 + 3, none⟩ = some u' ∧ strSh.Row w B u x.locks ∧ wrSh.Row w B u' x.writes := by
  obtain ⟨b, off, c, x, cs, hv, hx, hb, hr, hc⟩ := h.at_ hk
  obtain ⟨u, u', rfl, h1, h2⟩ := note_rel.1 hr
  exact ⟨b, off, c, x, u, u', hv, hx, hb, hc 0 _ rfl, hc 1 _ rfl, hc 2 _ rfl, hc 3 _ rfl, h1, h2⟩
end

end Go.Proofs.Ytkamlibfcakblaa

/- Notes that are ok: plain facts. Nothing of the program. -/
namespace Go.Proofs.Ytkamlibfcakblaa

/-- Of the first k each is one. -/
def AllTo {α : Type} (p : α → Bool) (xs : List α) (k : Nat) : Prop := ∀ j x, j < k → xs[j]? = some x → p x = true
section
variable {α : Type} {p : α → Bool} {xs : List α} {k : Nat} {x : α}
theorem AllTo.start (p : α → Bool) (xs : List α) : AllTo p xs 0 := fun j _ h => absurd h (by omega)
theorem AllTo.step (h : AllTo p xs k) (hx : xs[k]? = some x) (e : p x = true) : AllTo p xs (k + 1) := by
  intro j y hj hy
  rcases Nat.lt_or_ge j k with hlt | hge
  · exact h j y hlt hy
  · have : j = k := by omega
    subst this
    rw [hx] at hy
    injection hy with hy
    rw [← hy]; exact e
theorem AllTo.all (h : AllTo p xs xs.length) : xs.all p = true := by
  rw [List.all_eq_true]
  intro x hx
  obtain ⟨j, hj, rfl⟩ := List.getElem_of_mem hx
  exact h j _ hj (List.getElem?_eq_getElem hj)
theorem all_bad (hx : xs[k]? = some x) (e : p x = false) : xs.all p = false := by
  rw [List.all_eq_false]
  exact ⟨x, List.mem_of_getElem? hx, by simp [e]⟩
theorem all_at (h : xs.all p = true) (hx : xs[k]? = some x) : p x = true := List.all_eq_true.1 h x (List.mem_of_getElem? hx)
end

/-- Whether a name is one of some. -/
def hasB (l : List ByteArray) (s : ByteArray) : Bool := l.any fun k => decide (k = s)
/-- The first k are other ones. -/
def Miss (l : List ByteArray) (s : ByteArray) (k : Nat) : Prop := ∀ j x, j < k → l[j]? = some x → x ≠ s
theorem Miss.start (l : List ByteArray) (s : ByteArray) : Miss l s 0 := fun j _ h => absurd h (by omega)
theorem Miss.step {l : List ByteArray} {s x : ByteArray} {k : Nat} (h : Miss l s k) (hx : l[k]? = some x) (hn : x ≠ s) : Miss l s (k + 1) := by
  intro j y hj hy
  rcases Nat.lt_or_ge j k with hlt | hge
  · exact h j y hlt hy
  · have : j = k := by omega
    subst this
    rw [hx] at hy
    injection hy with hy
    rw [← hy]; exact hn
theorem hasB_yes {l : List ByteArray} {s : ByteArray} {k : Nat} (hx : l[k]? = some s) : hasB l s = true := by
  unfold hasB; rw [List.any_eq_true]; exact ⟨s, List.mem_of_getElem? hx, by simp⟩
theorem hasB_no {l : List ByteArray} {s : ByteArray} (h : Miss l s l.length) : hasB l s = false := by
  unfold hasB; rw [List.any_eq_false]
  intro x hx
  obtain ⟨j, hj, rfl⟩ := List.getElem_of_mem hx
  simpa using h j _ hj (List.getElem?_eq_getElem hj)

def locksB (l : List ByteArray) : Bool := decide (l.length ≤ 12) && l.all keyB
def lwB (locks : List ByteArray) (x : Wr) : Bool := x.ok && hasB locks x.key
def wrsB (locks : List ByteArray) (ws : List Wr) : Bool := decide (ws.length ≤ 12) && ws.all (lwB locks)
/-- A note that is ok. -/
def noteB (n : Note) : Bool := inB n.tx 0 29 && if n.kind = 1 then locksB n.locks && wrsB n.locks n.writes else inB n.kind 2 4 && (decide (n.locks.length = 0) && decide (n.writes.length = 0))
theorem locksB_bad {l : List ByteArray} {k : Nat} {x : ByteArray} (hx : l[k]? = some x) (e : keyB x = false) : locksB l = false := by unfold locksB; rw [all_bad hx e, Bool.and_false]
theorem locksB_all {l : List ByteArray} (h : AllTo keyB l l.length) : locksB l = decide (l.length ≤ 12) := by unfold locksB; rw [h.all, Bool.and_true]
theorem wrsB_bad {locks : List ByteArray} {ws : List Wr} {k : Nat} {x : Wr} (hx : ws[k]? = some x) (e : lwB locks x = false) : wrsB locks ws = false := by unfold wrsB; rw [all_bad hx e, Bool.and_false]
theorem wrsB_all {locks : List ByteArray} {ws : List Wr} (h : AllTo (lwB locks) ws ws.length) : wrsB locks ws = decide (ws.length ≤ 12) := by unfold wrsB; rw [h.all, Bool.and_true]
theorem lwB_ok {locks : List ByteArray} {x : Wr} (h : x.ok = false) : lwB locks x = false := by unfold lwB; rw [h]; rfl
theorem lwB_has {locks : List ByteArray} {x : Wr} (h : x.ok = true) : lwB locks x = hasB locks x.key := by unfold lwB; rw [h]; rfl
theorem noteB_tx {n : Note} (h : inB n.tx 0 29 = false) : noteB n = false := by unfold noteB; rw [h]; rfl
theorem noteB_ready {n : Note} (h : inB n.tx 0 29 = true) (hk : n.kind = 1) : noteB n = (locksB n.locks && wrsB n.locks n.writes) := by unfold noteB; rw [h, if_pos hk]; rfl
theorem noteB_other {n : Note} (h : inB n.tx 0 29 = true) (hk : n.kind ≠ 1) : noteB n = (inB n.kind 2 4 && (decide (n.locks.length = 0) && decide (n.writes.length = 0))) := by unfold noteB; rw [h, if_neg hk]; rfl
theorem noteB_kind {n : Note} (h : n.kind < 1 ∨ 4 < n.kind) : noteB n = false := by
  unfold noteB
  rw [if_neg (by omega), inB_no (n := n.kind) (by omega)]
  simp
/-- A place's notes that are ok. -/
def diskB (d : Disk) : Bool := decide (d.notes.length ≤ 120) && (inB d.safe 0 d.notes.length && d.notes.all noteB)
theorem diskB_long {d : Disk} (h : 120 < d.notes.length) : diskB d = false := by unfold diskB; rw [show decide (d.notes.length ≤ 120) = false by simp; omega]; rfl
theorem diskB_safe {d : Disk} (h : inB d.safe 0 d.notes.length = false) : diskB d = false := by unfold diskB; rw [h]; simp
theorem diskB_bad {d : Disk} {k : Nat} {x : Note} (hx : d.notes[k]? = some x) (e : noteB x = false) : diskB d = false := by unfold diskB; rw [all_bad hx e]; simp
theorem diskB_yes {d : Disk} (h1 : d.notes.length ≤ 120) (h2 : inB d.safe 0 d.notes.length = true) (h3 : AllTo noteB d.notes d.notes.length) : diskB d = true := by unfold diskB; rw [h2, h3.all]; simp [h1]
theorem diskB_parts {d : Disk} (h : diskB d = true) : d.notes.length ≤ 120 ∧ 0 ≤ d.safe ∧ d.safe ≤ d.notes.length ∧ d.notes.all noteB = true := by
  unfold diskB inB at h
  simp only [Bool.and_eq_true, decide_eq_true_eq] at h
  exact ⟨h.1, h.2.1.1, h.2.1.2, h.2.2⟩

end Go.Proofs.Ytkamlibfcakblaa
