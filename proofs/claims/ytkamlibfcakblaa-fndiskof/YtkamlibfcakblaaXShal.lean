/- Slices whose row is the call's own, and whose elements reach what lay there before: made by append out of parts of others. -/
import Derived.Test.YtkamlibfcakblaaXShOwn
import Derived.OwnWalk
namespace Go.Proofs.Ytkamlibfcakblaa
open Go.RowKit

/-- A row of the call's own, from block B on; what its elements reach lies below B. -/
def Sh.Shal {α : Type} (A : Sh α) (e : TypeId) (w : World) (B : Nat) (v : Value) (xs : List α) : Prop :=
  ∃ C : Nat → List Value, w.ownsRow 0 e A.wd v xs.length (flat C xs.length) ∧ (∀ g, v.ownBlock = some g → B ≤ g) ∧ ∀ j x, xs[j]? = some x → A.rel w B (C j) x
section
variable {α : Type} {A : Sh α} {e : TypeId} {w w' : World} {B : Nat} {v : Value} {xs ys : List α}
theorem Sh.Shal.below (h : A.Shal e w B v xs) (hb : Below w.heap.size w w') (hB : B ≤ w.heap.size) : A.Shal e w' B v xs := by
  obtain ⟨C, h1, h2, h3⟩ := h
  exact ⟨C, ownsRow_keep h1 fun b _ hlt => hb.block b hlt, h2, fun j x hx => A.rbelow (h3 j x hx) (hb.mono hB)⟩
theorem Sh.Shal.alloc (h : A.Shal e w B v xs) (hB : B ≤ w.heap.size) (o : Obj) : A.Shal e (w.alloc o) B v xs := h.below (belowOne w o) hB
theorem Sh.Shal.set (h : A.Shal e w B v xs) {p : Addr} (hp : B ≤ p.block) (hv : v.ownBlock ≠ some p.block) (u : Value) : A.Shal e (w.setCell p u) B v xs := by
  obtain ⟨C, h1, h2, h3⟩ := h
  exact ⟨C, ownsRow_keep h1 fun b hb _ => Below.heap_setCell w p u b (fun e1 => hv (by rw [hb, e1])), h2, fun j x hx => A.rbelow (h3 j x hx) ((Below.refl _ _).setCell hp u)⟩
theorem Sh.Shal.empty {g : Nat} (hg : w.heap[g]? = some (.cells #[] e (0, 0))) (hB : B ≤ g) : A.Shal e w B (.slice (some ⟨g, 0, none⟩) 0 0) [] :=
  ⟨fun _ => [], ⟨by simp [flat], .inr ⟨g, 0, #[], rfl, Nat.zero_le _, hg, Nat.le_refl _, Nat.zero_le _, by simp, by simp [flat]⟩⟩, fun q hq => by rw [← Option.some.inj hq]; exact hB, fun j x hx => by simp at hx⟩
theorem Sh.Shal.nil (w : World) : A.Shal e w B (.slice none 0 0) [] := ⟨fun _ => [], World.ownsRow_nil _ _ _ _, fun g hg => (by cases hg), fun j x hx => by simp at hx⟩
theorem Sh.Shal.form (h : A.Shal e w B v xs) : (v = .slice none 0 0 ∧ xs = []) ∨ ∃ g cap, v = .slice (some ⟨g, 0, none⟩) xs.length cap ∧ B ≤ g ∧ g < w.heap.size ∧ xs.length ≤ cap ∧ cap ≤ maxLen := by
  obtain ⟨C, h1, h2, _⟩ := h
  rcases h1.2 with ⟨hv, h0⟩ | ⟨g, cap, cur, hv, hb, hg, hn, hm, _⟩
  · exact .inl ⟨hv, List.length_eq_zero_iff.1 h0⟩
  · exact .inr ⟨g, cap, hv, h2 g (by rw [hv]; rfl), (Array.getElem?_eq_some_iff.1 hg).1, hn, hm⟩
theorem Sh.Shal.row (h : A.Shal e w B v xs) (hB : B ≤ w.heap.size) : A.Row w w.heap.size v xs := by
  rcases h.form with ⟨rfl, rfl⟩ | ⟨g, cap, rfl, _, hg, hc1, hc2⟩
  · exact Sh.Row.nil _ _
  · obtain ⟨C, h1, h2, h3⟩ := h
    refine ⟨_, cap, rfl, hc1, hc2, fun _ => ⟨g, 0, rfl, hg, fun j x hx => ?_⟩⟩
    have hj : j < xs.length := (List.getElem?_eq_some_iff.1 hx).1
    have hC : ∀ j, j < xs.length → (C j).length = A.wd := fun j hj => A.rlen (h3 j _ (List.getElem?_eq_getElem hj))
    refine ⟨C j, A.rmore (h3 j x hx) hB, fun i u hu => ?_⟩
    have hi : i < A.wd := by rw [← hC j hj]; exact (List.getElem?_eq_some_iff.1 hu).1
    have hlt : j * A.wd + i < xs.length * A.wd := by
      have := Nat.mul_le_mul_right A.wd (show j + 1 ≤ xs.length by omega)
      rw [Nat.add_mul, Nat.one_mul] at this; omega
    rw [Nat.zero_add, h1.cellAt _ hlt, flat_at hC hj hi, hu]

/-- A part of a slice. -/
theorem Sh.Row.take (h : A.Row w B v xs) {Ad : Option Addr} {c k : Nat} (hv : v = .slice Ad xs.length c) (hk : k ≤ xs.length) : A.Row w B (.slice Ad k c) (xs.take k) := by
  obtain ⟨Ad', c', e1, h1, h2, hr⟩ := h
  rw [hv] at e1
  injection e1 with e1 _ e3
  subst e1 e3
  have hl : (xs.take k).length = k := by simp; omega
  refine ⟨Ad, c, by rw [hl], by omega, h2, fun hn => ?_⟩
  obtain ⟨b, off, hA, hb, hc⟩ := hr (by omega)
  refine ⟨b, off, hA, hb, fun j x hx => hc j x ?_⟩
  rw [List.getElem?_take] at hx
  split at hx
  · exact hx
  · cases hx
theorem Sh.Row.zero (A : Sh α) (w : World) (B : Nat) (Ad : Option Addr) (c : Nat) (hc : c ≤ maxLen) : A.Row w B (.slice Ad 0 c) [] := ⟨Ad, c, rfl, Nat.zero_le _, hc, fun h => absurd h (by simp)⟩
theorem Sh.Row.drop {b off c k : Nat} (h : A.Row w B (.slice (some ⟨b, off, none⟩) xs.length c) xs) (hk : k < xs.length) : A.Row w B (.slice (some ⟨b, off + k * A.wd, none⟩) (xs.length - k) (c - k)) (xs.drop k) := by
  obtain ⟨Ad', c', e1, h1, h2, hr⟩ := h
  injection e1 with e1 _ e3
  subst e1 e3
  have hl : (xs.drop k).length = xs.length - k := by simp
  refine ⟨_, c - k, by rw [hl], by omega, by omega, fun hn => ?_⟩
  obtain ⟨b', off', hA, hb, hc⟩ := hr (by omega)
  injection hA with hA
  injection hA with hA1 hA2
  subst hA1 hA2
  refine ⟨b, _, rfl, hb, fun j x hx => ?_⟩
  rw [List.getElem?_drop] at hx
  obtain ⟨cs, h3, h4⟩ := hc _ x hx
  refine ⟨cs, h3, fun i u hu => ?_⟩
  rw [← h4 i u hu]
  congr 2
  rw [Nat.add_mul]; omega
end

section
variable {P : Program} {α : Type} {A : Sh α} {e t : TypeId} {w : World} {B : Nat} {v : Value} {xs ys : List α}
/-- append of a slice that is read. -/
theorem Sh.shal_run (i : TypeInfo) (z : Value) (bytes : Nat) (ht : P.underlying t = some (.slice e)) (hi : P.info? e = some i) (hz : i.zero = some z) (hsize : i.size = A.wd) (hby : i.bytes = bytes) (hzs : z.cells.size = A.wd) (hsz : 0 < A.wd)
    (hv : A.Shal e w B v xs) (hB : B ≤ w.heap.size) (Ad : Option Addr) (n c : Nat) (hn : n = ys.length) (hy : A.Row w B (.slice Ad n c) ys) (ty : TypeId) (hl : xs.length + ys.length ≤ 2097152) (hbl : bytes ≤ 65536) :
    ∃ v' w', (Builtin.append_ #[t, t] ty #[v, .slice Ad n c]).run P w = .ok v' w' ∧ A.Shal e w' B v' (xs ++ ys) ∧ Below B w w' ∧ (v'.ownBlock = v.ownBlock ∨ v'.ownBlock = some w.heap.size) ∧ w.grownBy w' v.ownBlock := by
  subst hn
  obtain ⟨C, h1, h2, h3⟩ := hv
  obtain ⟨Ad', c', e1, hc1, hc2, hrow⟩ := hy
  injection e1 with e1 _ e3
  subst e1 e3
  cases Ad with
  | none =>
    have h0 : ys = [] := by
      cases ys with
      | nil => rfl
      | cons y l => obtain ⟨_, _, h, _⟩ := hrow (by simp); cases h
    subst h0
    refine ⟨v, w, ?_, ⟨C, by simpa using h1, h2, by simpa using h3⟩, Below.refl _ _, .inl rfl, World.grownBy.refl _ _⟩
    rcases h1.2 with ⟨rfl, h0⟩ | ⟨g, cap, cur, rfl, _, _, hnc, _⟩
    · simp [Builtin.append_, run_underlying ht, sizeOf, typeInfo, hi, Builtin.lenOf, Builtin.firstCells]
    · simp [Builtin.append_, run_underlying ht, sizeOf, typeInfo, hi, Builtin.lenOf, Builtin.firstCells, hnc, storeCells]
  | some ad =>
    have hD : ∀ j, j < ys.length → ∃ cs x, ys[j]? = some x ∧ A.rel w B cs x ∧ ∀ i u, cs[i]? = some u → w.cell? (ad.add (j * A.wd + i)) = some u := by
      intro j hj
      obtain ⟨b, off, hA, hb, hc⟩ := hrow (by omega)
      injection hA with hA
      subst hA
      obtain ⟨cs, h4, h5⟩ := hc j _ (List.getElem?_eq_getElem hj)
      exact ⟨cs, _, List.getElem?_eq_getElem hj, h4, fun i u hu => by rw [add_none, ← Nat.add_assoc]; exact h5 i u hu⟩
    let D : Nat → List Value := fun j => if h : j < ys.length then Classical.choose (hD j h) else []
    have hDs : ∀ j (h : j < ys.length), ∃ x, ys[j]? = some x ∧ A.rel w B (D j) x ∧ ∀ i u, (D j)[i]? = some u → w.cell? (ad.add (j * A.wd + i)) = some u := fun j h => by
      have := Classical.choose_spec (hD j h)
      simpa only [D, dif_pos h] using this
    have hDl : ∀ j, j < ys.length → (D j).length = A.wd := fun j h => by obtain ⟨x, _, h4, _⟩ := hDs j h; exact A.rlen h4
    have hsrc : ∀ j u, (flat D ys.length)[j]? = some u → w.cell? (ad.add j) = some u := by
      intro j u hu
      have hj : j < ys.length * A.wd := by rw [← flat_len hDl]; exact (List.getElem?_eq_some_iff.1 hu).1
      have q1 : j / A.wd < ys.length := Nat.div_lt_of_lt_mul (by rw [Nat.mul_comm]; exact hj)
      have q2 : j % A.wd < A.wd := Nat.mod_lt j hsz
      have q3 : j / A.wd * A.wd + j % A.wd = j := by rw [Nat.mul_comm]; exact Nat.div_add_mod j A.wd
      rw [← q3, flat_at hDl q1 q2] at hu
      obtain ⟨x, _, _, h5⟩ := hDs _ q1
      have := h5 _ u hu
      rwa [q3] at this
    have hone : ∀ u ∈ flat D ys.length, u.oneCell' = true := by
      intro u hu
      obtain ⟨j, hj, hu⟩ := List.mem_flatMap.1 hu
      obtain ⟨x, _, h4, _⟩ := hDs j (List.mem_range.1 hj)
      exact A.rone h4 u hu
    have hb2 : (xs.length + ys.length) * bytes ≤ 140737488355328 := Nat.le_trans (Nat.mul_le_mul hl hbl) (by decide)
    obtain ⟨v', w', hr, q2, hg, _, q5⟩ := run_append_own_at (P := P) w 0 t ty e i z A.wd bytes ht hi hz hsize hby hzs hsz v xs.length _ h1 ad ys.length c (flat D ys.length) (flat_len hDl) hsrc hone (by unfold maxLen; omega) hb2 (Nat.zero_le _)
    have hbel : Below B w w' := (Below.refl B w).grown hg hB h2
    refine ⟨v', w', hr, ⟨fun j => if j < xs.length then C j else D (j - xs.length), by rw [List.length_append, flat_app]; exact q2, fun g hg' => ?_, fun j x hx => ?_⟩, hbel, q5, hg⟩
    · rcases q5 with h | h
      · exact h2 g (h ▸ hg')
      · rw [h] at hg'; rw [← Option.some.inj hg']; exact hB
    · by_cases hj : j < xs.length
      · rw [List.getElem?_append_left hj] at hx
        simp only [hj, if_true]
        exact A.rbelow (h3 j x hx) hbel
      · rw [List.getElem?_append_right (by omega)] at hx
        simp only [hj, if_false]
        obtain ⟨y, hy, h4, _⟩ := hDs _ (List.getElem?_eq_some_iff.1 hx).1
        rw [hx] at hy
        injection hy with hy
        rw [hy]
        exact A.rbelow h4 hbel
/-- The same, as a step of a region that draws. -/
theorem Sh.shal_step {ops : Array Oper} {o : Oper} {a : Act} {K : Act → World → Prop} {Q : Exit → Act → World → Prop} {E : Prop} (hgd : o.guard = none) (s x : Operand) (i : TypeInfo) (z : Value) (bytes : Nat) (ht : P.underlying t = some (.slice e)) (hi : P.info? e = some i) (hz : i.zero = some z) (hsize : i.size = A.wd) (hby : i.bytes = bytes) (hzs : z.cells.size = A.wd) (hsz : 0 < A.wd)
    (ho : o.op = .call { callee := .builtin .append, args := #[s, x], argTypes := #[t, t] }) (hs : a.eval s = v) (hv : A.Shal e w B v xs) (hB : B ≤ w.heap.size) (Ad : Option Addr) (n c : Nat) (hx : a.eval x = .slice Ad n c) (hn : n = ys.length) (hy : A.Row w B (.slice Ad n c) ys) (hl : xs.length + ys.length ≤ 2097152) (hbl : bytes ≤ 65536)
    (h : ∀ v' w', A.Shal e w' B v' (xs ++ ys) → Below B w w' → (v'.ownBlock = v.ownBlock ∨ v'.ownBlock = some w.heap.size) → w.grownBy w' v.ownBlock → K (a.put o.dst v') w') : if Region.wanted o (yielded ops a.tmps) = true then Oper.wp P o a w K Q else E := by
  have hw : Region.wanted o (yielded ops a.tmps) = true := by simp [Region.wanted, hgd]
  rw [if_pos hw]
  obtain ⟨v', w', hr, h2, h3, h4, h5⟩ := Sh.shal_run (P := P) i z bytes ht hi hz hsize hby hzs hsz hv hB Ad n c hn hy o.type hl hbl
  unfold Oper.wp execOp
  simp only [ho, resolve, invoke, builtin, Sem.run_bind, Sem.run_pure, Result.andThen_ok, List.map_toArray, List.map_cons, List.map_nil, hs, hx, hr]
  exact h v' w' h2 h3 h4 h5
end

end Go.Proofs.Ytkamlibfcakblaa
