/- A region that lays a store of two parts: append(append([]T{}, xs...), ys...) into a box, in whatever order. Nothing of the program. -/
import Derived.Test.YtgapjkcjnlbgaaaShal
import Derived.Test.YtgapjkcjnlbgaaaCopy
namespace Go.Proofs.Ytgapjkcjnlbgaaa
open Go.RowKit

theorem Held.grown {w w' : World} {g : Nat} {cs : List Value} {row : Option Nat} (h : Held w g cs) (hg : w.grownBy w' row) (hne : row ≠ some g) : Held w' g cs := by
  have hb : w'.heap[g]? = w.heap[g]? := hg.block g h.1 (fun e => hne e.symm)
  refine ⟨Nat.lt_of_lt_of_le h.1 hg.size, fun j => ?_, fun j u hu => ?_⟩
  · have := h.2.1 j
    simpa [World.frozen?, hb] using this
  · have := h.2.2 j u hu
    simpa [World.cell?, hb] using this

section
variable {α : Type} (A : Sh α) (e : TypeId) (F : (Nat → Value) → Array Value) (wr : World) (xs ys : List α) (p : Nat) (pv : Nat → Option Value)
/-- What holds while such a region goes on. -/
structure TwoI (L : Nat → Bool) (W : World) (U : Nat → Value) : Prop where
  low : Below wr.heap.size wr W
  pure : ∀ j v, pv j = some v → L j = true → U j = v
  nil : L 0 = true → L p = false → A.Shal e W wr.heap.size (U 0) []
  one : L p = true → L 11 = false → A.Shal e W wr.heap.size (U p) xs
  two : L 11 = true → A.Shal e W wr.heap.size (U 11) (xs ++ ys)
  agg : L 12 = true → U 12 = .agg #[U 11]
  box : L 13 = true → ∃ q, U 13 = .pointer (some ⟨q, 0, none⟩) ∧ wr.heap.size ≤ q ∧ Held W q [if L 14 then U 11 else .slice none 0 0] ∧ (L 0 = true → L p = false → (U 0).ownBlock ≠ some q) ∧ (L p = true → L 11 = false → (U p).ownBlock ≠ some q) ∧ (L 11 = true → (U 11).ownBlock ≠ some q)
def twoInv (L : Nat → Bool) (a : Act) (W : World) : Prop := ∃ U, a = { tmps := F U, defers := [] } ∧ TwoI A e wr xs ys p pv L W U
end
section
variable {α : Type} {A : Sh α} {e : TypeId} {wr : World} {xs ys : List α} {p : Nat} {pv : Nat → Option Value} {L : Nat → Bool} {W W' : World} {U : Nat → Value}
theorem TwoI.pureStep (h : TwoI A e wr xs ys p pv L W U) {i : Nat} {v : Value} (hi : pv i = some v) (h0 : i ≠ 0) (hp : i ≠ p) (h11 : i ≠ 11) (h12 : i ≠ 12) (h13 : i ≠ 13) (h14 : i ≠ 14) : TwoI A e wr xs ys p pv (upd L i true) W (upd U i v) := by
  have g : ∀ {j}, i ≠ j → upd L i true j = L j ∧ upd U i v j = U j := fun h => ⟨upd_other _ _ (Ne.symm h), upd_other _ _ (Ne.symm h)⟩
  refine ⟨h.low, fun j u hj hL => ?_, ?_, ?_, ?_, ?_, ?_⟩
  · by_cases hji : j = i
    · subst hji; rw [upd_same]; rw [hi] at hj; injection hj
    · rw [upd_other _ _ hji] at hL ⊢; exact h.pure j u hj hL
  · rw [(g h0).1, (g h0).2, (g hp).1]; exact h.nil
  · rw [(g h11).1, (g hp).2, (g hp).1]; exact h.one
  · rw [(g h11).1, (g h11).2]; exact h.two
  · rw [(g h12).1, (g h12).2, (g h11).2]; exact h.agg
  · rw [(g h13).1, (g h13).2, (g h11).1, (g h11).2, (g h14).1, (g h0).1, (g h0).2, (g hp).1, (g hp).2]; exact h.box
/-- The empty literal. -/
theorem TwoI.litStep (h : TwoI A e wr xs ys p pv L W U) (hp0 : p ≠ 0) (hpv : pv 0 = none) (hLp : L p = false) (hL11 : L 11 = false) (hL14 : L 14 = false) : TwoI A e wr xs ys p pv (upd L 0 true) (W.alloc (.cells #[] e (0, 0))) (upd U 0 (.slice (some ⟨W.heap.size, 0, none⟩) 0 0)) := by
  have hz := h.low.size
  refine ⟨h.low.alloc hz _, fun j u hj hL => ?_, fun _ _ => ?_, fun hh _ => ?_, fun hh => ?_, fun hh => ?_, fun hh => ?_⟩
  · by_cases hji : j = 0
    · subst hji; rw [hpv] at hj; cases hj
    · rw [upd_other _ _ hji] at hL ⊢; exact h.pure j u hj hL
  · rw [upd_same]; exact Sh.Shal.empty (Go.Deep.blk_alloc_new W _) hz
  · rw [upd_other _ _ hp0, hLp] at hh; cases hh
  · rw [upd_other _ _ (by decide), hL11] at hh; cases hh
  · rw [upd_other _ _ (by decide)] at hh; rw [upd_other _ _ (by decide), upd_other _ _ (by decide)]; exact h.agg hh
  · rw [upd_other _ _ (by decide)] at hh
    obtain ⟨q, e1, h1, h2, -, -, -⟩ := h.box hh
    rw [hL14] at h2
    refine ⟨q, by rw [upd_other _ _ (by decide)]; exact e1, h1, ?_, fun _ _ => ?_, fun hh => ?_, fun hh => ?_⟩
    · rw [upd_other _ _ (by decide), hL14]; exact h2.after _
    · rw [upd_same]; intro h4; have h5 := h2.1; have h6 : W.heap.size = q := Option.some.inj h4; omega
    · rw [upd_other _ _ hp0, hLp] at hh; cases hh
    · rw [upd_other _ _ (by decide), hL11] at hh; cases hh
/-- The first append. -/
theorem TwoI.oneStep (h : TwoI A e wr xs ys p pv L W U) {v' : Value} (hp0 : p ≠ 0) (hp11 : p ≠ 11) (hp12 : p ≠ 12) (hp13 : p ≠ 13) (hp14 : p ≠ 14) (hpv : pv p = none) (hL0 : L 0 = true) (hLp : L p = false) (hL11 : L 11 = false) (hL14 : L 14 = false) (hs : A.Shal e W' wr.heap.size v' xs) (hb : Below wr.heap.size W W') (ho : v'.ownBlock = (U 0).ownBlock ∨ v'.ownBlock = some W.heap.size) (hg : W.grownBy W' (U 0).ownBlock) : TwoI A e wr xs ys p pv (upd L p true) W' (upd U p v') := by
  refine ⟨h.low.trans hb, fun j u hj hL => ?_, fun _ hh => ?_, fun _ _ => ?_, fun hh => ?_, fun hh => ?_, fun hh => ?_⟩
  · by_cases hji : j = p
    · subst hji; rw [hpv] at hj; cases hj
    · rw [upd_other _ _ hji] at hL ⊢; exact h.pure j u hj hL
  · rw [upd_same] at hh; cases hh
  · rw [upd_same]; exact hs
  · rw [upd_other _ _ (Ne.symm hp11), hL11] at hh; cases hh
  · rw [upd_other _ _ (Ne.symm hp12)] at hh; rw [upd_other _ _ (Ne.symm hp12), upd_other _ _ (Ne.symm hp11)]; exact h.agg hh
  · rw [upd_other _ _ (Ne.symm hp13)] at hh
    obtain ⟨q, e1, h1, h2, h3, -, -⟩ := h.box hh
    rw [hL14] at h2
    have h3' := h3 hL0 hLp
    refine ⟨q, by rw [upd_other _ _ (Ne.symm hp13)]; exact e1, h1, ?_, fun _ hh => ?_, fun _ _ => ?_, fun hh => ?_⟩
    · rw [upd_other _ _ (Ne.symm hp14), hL14]; exact h2.grown hg h3'
    · rw [upd_same] at hh; cases hh
    · rw [upd_same]
      rcases ho with ho | ho <;> rw [ho]
      · exact h3'
      · intro h4; have h5 := h2.1; have h6 : W.heap.size = q := Option.some.inj h4; omega
    · rw [upd_other _ _ (Ne.symm hp11), hL11] at hh; cases hh
/-- The second append. -/
theorem TwoI.twoStep (h : TwoI A e wr xs ys p pv L W U) {v' : Value} (hp11 : p ≠ 11) (hpv : pv 11 = none) (hLp : L p = true) (hL11 : L 11 = false) (hL12 : L 12 = false) (hL14 : L 14 = false) (hs : A.Shal e W' wr.heap.size v' (xs ++ ys)) (hb : Below wr.heap.size W W') (ho : v'.ownBlock = (U p).ownBlock ∨ v'.ownBlock = some W.heap.size) (hg : W.grownBy W' (U p).ownBlock) : TwoI A e wr xs ys p pv (upd L 11 true) W' (upd U 11 v') := by
  refine ⟨h.low.trans hb, fun j u hj hL => ?_, fun _ hh => ?_, fun _ hh => ?_, fun hh => ?_, fun hh => ?_, fun hh => ?_⟩
  · by_cases hji : j = 11
    · subst hji; rw [hpv] at hj; cases hj
    · rw [upd_other _ _ hji] at hL ⊢; exact h.pure j u hj hL
  · rw [upd_other _ _ hp11, hLp] at hh; cases hh
  · rw [upd_same] at hh; cases hh
  · rw [upd_same]; exact hs
  · rw [upd_other _ _ (by decide), hL12] at hh; cases hh
  · rw [upd_other _ _ (by decide)] at hh
    obtain ⟨q, e1, h1, h2, -, h3, -⟩ := h.box hh
    rw [hL14] at h2
    have h3' := h3 hLp hL11
    refine ⟨q, by rw [upd_other _ _ (by decide)]; exact e1, h1, ?_, fun _ hh => ?_, fun _ hh => ?_, fun hh => ?_⟩
    · rw [upd_other _ _ (by decide), hL14]; exact h2.grown hg h3'
    · rw [upd_other _ _ hp11, hLp] at hh; cases hh
    · rw [upd_same] at hh; cases hh
    · rw [upd_same]
      rcases ho with ho | ho <;> rw [ho]
      · exact h3'
      · intro h4; have h5 := h2.1; have h6 : W.heap.size = q := Option.some.inj h4; omega
/-- The store's value. -/
theorem TwoI.aggStep (h : TwoI A e wr xs ys p pv L W U) (hp12 : p ≠ 12) (hpv : pv 12 = none) : TwoI A e wr xs ys p pv (upd L 12 true) W (upd U 12 (.agg #[U 11])) := by
  have g : ∀ {j}, 12 ≠ j → upd L 12 true j = L j ∧ upd U 12 (.agg #[U 11]) j = U j := fun h => ⟨upd_other _ _ (Ne.symm h), upd_other _ _ (Ne.symm h)⟩
  have gp := g (Ne.symm hp12)
  refine ⟨h.low, fun j u hj hL => ?_, ?_, ?_, ?_, fun _ => ?_, ?_⟩
  · by_cases hji : j = 12
    · subst hji; rw [hpv] at hj; cases hj
    · rw [upd_other _ _ hji] at hL ⊢; exact h.pure j u hj hL
  · rw [(g (by decide : (12 : Nat) ≠ 0)).1, (g (by decide : (12 : Nat) ≠ 0)).2, gp.1]; exact h.nil
  · rw [(g (by decide : (12 : Nat) ≠ 11)).1, gp.2, gp.1]; exact h.one
  · rw [(g (by decide : (12 : Nat) ≠ 11)).1, (g (by decide : (12 : Nat) ≠ 11)).2]; exact h.two
  · rw [upd_same, (g (by decide : (12 : Nat) ≠ 11)).2]
  · rw [(g (by decide : (12 : Nat) ≠ 13)).1, (g (by decide : (12 : Nat) ≠ 13)).2, (g (by decide : (12 : Nat) ≠ 11)).1, (g (by decide : (12 : Nat) ≠ 11)).2, (g (by decide : (12 : Nat) ≠ 14)).1, (g (by decide : (12 : Nat) ≠ 0)).1, (g (by decide : (12 : Nat) ≠ 0)).2, gp.1, gp.2]; exact h.box
/-- The box. -/
theorem TwoI.boxStep (h : TwoI A e wr xs ys p pv L W U) (t : TypeId) (hp13 : p ≠ 13) (hpv : pv 13 = none) (hL14 : L 14 = false) : TwoI A e wr xs ys p pv (upd L 13 true) (W.alloc (.cells #[.slice none 0 0] t)) (upd U 13 (.pointer (some ⟨W.heap.size, 0, none⟩))) := by
  have g : ∀ {j}, 13 ≠ j → upd L 13 true j = L j ∧ upd U 13 (.pointer (some ⟨W.heap.size, 0, none⟩)) j = U j := fun h => ⟨upd_other _ _ (Ne.symm h), upd_other _ _ (Ne.symm h)⟩
  have gp := g (Ne.symm hp13)
  have g0 := g (by decide : (13 : Nat) ≠ 0)
  have g11 := g (by decide : (13 : Nat) ≠ 11)
  have g12 := g (by decide : (13 : Nat) ≠ 12)
  have g14 := g (by decide : (13 : Nat) ≠ 14)
  have hz := h.low.size
  have hne : ∀ {v : Value} {zs : List α}, A.Shal e W wr.heap.size v zs → v.ownBlock ≠ some W.heap.size := by
    intro v zs hs
    rcases hs.form with ⟨rfl, _⟩ | ⟨q, cap, rfl, _, h2, _⟩
    · intro h; cases h
    · intro h; have h6 : q = W.heap.size := Option.some.inj h; omega
  refine ⟨h.low.alloc hz _, fun j u hj hL => ?_, ?_, ?_, ?_, ?_, fun _ => ⟨W.heap.size, upd_same _ _ _, hz, ?_, ?_, ?_, ?_⟩⟩
  · by_cases hji : j = 13
    · subst hji; rw [hpv] at hj; cases hj
    · rw [upd_other _ _ hji] at hL ⊢; exact h.pure j u hj hL
  · rw [g0.1, g0.2, gp.1]; exact fun a b => (h.nil a b).alloc hz _
  · rw [g11.1, gp.2, gp.1]; exact fun a b => (h.one a b).alloc hz _
  · rw [g11.1, g11.2]; exact fun a => (h.two a).alloc hz _
  · rw [g12.1, g12.2, g11.2]; exact h.agg
  · rw [g14.1, hL14]; exact Held.new W #[.slice none 0 0] t
  · rw [g0.1, g0.2, gp.1]; exact fun a b => hne (h.nil a b)
  · rw [g11.1, gp.2, gp.1]; exact fun a b => hne (h.one a b)
  · rw [g11.1, g11.2]; exact fun a => hne (h.two a)
/-- What is stored, and where. -/
theorem TwoI.storeAt (h : TwoI A e wr xs ys p pv L W U) (hL11 : L 11 = true) (hL12 : L 12 = true) (hL13 : L 13 = true) (hL14 : L 14 = false) : ∃ q, U 13 = .pointer (some ⟨q, 0, none⟩) ∧ Held W q [.slice none 0 0] ∧ U 12 = .agg #[U 11] ∧ ∃ A' n c, U 11 = .slice A' n c := by
  obtain ⟨q, e1, _, h2, _⟩ := h.box hL13
  rw [hL14] at h2
  refine ⟨q, e1, h2, h.agg hL12, ?_⟩
  rcases (h.two hL11).form with ⟨e2, _⟩ | ⟨g, cap, e2, _⟩ <;> exact ⟨_, _, _, e2⟩
theorem TwoI.storeStep (h : TwoI A e wr xs ys p pv L W U) {q : Nat} (hp14 : p ≠ 14) (hpv : pv 14 = none) (hLp : L p = true) (hL11 : L 11 = true) (hL13 : L 13 = true) (hL14 : L 14 = false) (hq : U 13 = .pointer (some ⟨q, 0, none⟩)) : TwoI A e wr xs ys p pv (upd L 14 true) (W.setCell ⟨q, 0, none⟩ (U 11)) U := by
  obtain ⟨q', e1, h1, h2, _, _, h5⟩ := h.box hL13
  rw [hq] at e1
  injection e1 with e1
  injection e1 with e1
  injection e1 with e1
  subst e1
  rw [hL14] at h2
  have h5' := h5 hL11
  have g : ∀ {j}, 14 ≠ j → upd L 14 true j = L j := fun h => upd_other _ _ (Ne.symm h)
  refine ⟨h.low.setCell h1 _, fun j u hj hL => ?_, fun _ hh => ?_, fun _ hh => ?_, fun _ => ?_, ?_, fun _ => ⟨q, hq, h1, ?_, fun _ hh => ?_, fun _ hh => ?_, fun _ => h5'⟩⟩
  · by_cases hji : j = 14
    · subst hji; rw [hpv] at hj; cases hj
    · rw [upd_other _ _ hji] at hL; exact h.pure j u hj hL
  · rw [g (Ne.symm hp14), hLp] at hh; cases hh
  · rw [g (by decide), hL11] at hh; cases hh
  · exact (h.two hL11).set h1 h5' _
  · rw [g (by decide)]; exact h.agg
  · rw [upd_same]; exact h2.set_ (i := 0) (U 11)
  · rw [g (Ne.symm hp14), hLp] at hh; cases hh
  · rw [g (by decide), hL11] at hh; cases hh
/-- Behind all. -/
theorem TwoI.behind (h : TwoI A e wr xs ys p pv L W U) (hL11 : L 11 = true) (hL13 : L 13 = true) (hL14 : L 14 = true) : ∃ q A' n c, U 13 = .pointer (some ⟨q, 0, none⟩) ∧ U 11 = .slice A' n c ∧ Held W q [.slice A' n c] ∧ A.Row W W.heap.size (.slice A' n c) (xs ++ ys) ∧ Below wr.heap.size wr W := by
  obtain ⟨q, e1, _, h2, _⟩ := h.box hL13
  rw [hL14] at h2
  have hs := h.two hL11
  have hr := hs.row h.low.size
  rcases hs.form with ⟨e2, _⟩ | ⟨g, cap, e2, _⟩ <;> (rw [e2] at hr h2; exact ⟨q, _, _, _, e1, e2, h2, hr, h.low⟩)
end

end Go.Proofs.Ytgapjkcjnlbgaaa
