/- The region in which the model's l1Write appends what is written; it stands there three times, at three rows of slots. -/
import Derived.Test.YtkamlibfcakblaaXCopy
namespace Go.Proofs.Ytkamlibfcakblaa
open Go.RowKit

def wrOps (b : Nat) (p : String) : Array Oper := #[
  { dst := some b, op := .fieldAddr 54 (.tmp 5) 0, type := 0, pos := p, after := #[], guard := none },
  { dst := some (b + 1), op := .load 52 (.tmp b), type := 52, pos := p, after := #[{ on := 0, ground := .data }], guard := none },
  { dst := some (b + 2), op := .fieldAddr 86 (.tmp 3) 0, type := 0, pos := p, after := #[], guard := none },
  { dst := some (b + 3), op := .load 9 (.tmp (b + 2)), type := 9, pos := p, after := #[{ on := 2, ground := .data }], guard := none },
  { dst := some (b + 4), op := .buildSlice 39 0 #[], type := 39, pos := p, after := #[], guard := none },
  { dst := some (b + 5), op := .fieldAddr 86 (.tmp 3) 2, type := 0, pos := p, after := #[], guard := none },
  { dst := some (b + 6), op := .load 39 (.tmp (b + 5)), type := 39, pos := p, after := #[{ on := 5, ground := .data }], guard := none },
  { dst := some (b + 7), op := .call { callee := .builtin .append, args := #[.tmp (b + 4), .tmp (b + 6)], argTypes := #[39, 39] }, type := 39, pos := p, after := #[{ on := 4, ground := .data }, { on := 6, ground := .data }], guard := none },
  { dst := some (b + 8), op := .build 104 #[(0, .tmp (b + 3)), (1, .tmp (b + 7))], type := 104, pos := p, after := #[{ on := 3, ground := .data }, { on := 7, ground := .data }], guard := none },
  { dst := some (b + 9), op := .buildSlice 52 1 #[(0, .tmp (b + 8))], type := 52, pos := p, after := #[{ on := 8, ground := .data }], guard := none },
  { dst := some (b + 10), op := .call { callee := .builtin .append, args := #[.tmp (b + 1), .tmp (b + 9)], argTypes := #[52, 52] }, type := 52, pos := p, after := #[{ on := 1, ground := .data }, { on := 9, ground := .data }, { on := 7, ground := .chain }], guard := none },
  { dst := some (b + 11), op := .fieldAddr 54 (.tmp 5) 0, type := 0, pos := p, after := #[{ on := 0, ground := .phase }, { on := 1, ground := .phase }, { on := 2, ground := .phase }, { on := 3, ground := .phase }, { on := 4, ground := .phase }, { on := 5, ground := .phase }, { on := 6, ground := .phase }, { on := 7, ground := .phase }, { on := 8, ground := .phase }, { on := 9, ground := .phase }, { on := 10, ground := .phase }], guard := none },
  { dst := none, op := .store 52 (.tmp (b + 11)) (.tmp (b + 10)), type := 0, pos := p, after := #[{ on := 11, ground := .data }, { on := 10, ground := .data }, { on := 10, ground := .chain }, { on := 0, ground := .phase }, { on := 1, ground := .phase }, { on := 2, ground := .phase }, { on := 3, ground := .phase }, { on := 4, ground := .phase }, { on := 5, ground := .phase }, { on := 6, ground := .phase }, { on := 7, ground := .phase }, { on := 8, ground := .phase }, { on := 9, ground := .phase }, { on := 10, ground := .phase }], guard := none }]

/-- What holds of the world while what is written is appended. -/
structure WrW (w0 : World) (wb xb lo : Nat) (S : Nat → Prop) (wk : ByteArray) (d : Bool) (wv vx : Value) (wval : List Int) (xs : List Item) (W : World) : Prop where
  hw : Held W wb [.string wk, .bool d, wv]
  hx : Held W xb [vx]
  own : OwnIt W lo S vx xs
  low : Below w0.heap.size w0 W
  ints : Ints W w0.heap.size wv wval
section
variable {w0 : World} {wb xb lo : Nat} {S : Nat → Prop} {wk : ByteArray} {d : Bool} {wv vx : Value} {wval : List Int} {xs : List Item} {W W' : World}
theorem WrW.next (h : WrW w0 wb xb lo S wk d wv vx wval xs W) (hn : Below W.heap.size W W') : WrW w0 wb xb lo S wk d wv vx wval xs W' := by
  have hz := h.low.size
  exact ⟨h.hw.below hn h.hw.1, h.hx.below hn h.hx.1, h.own.below hn, h.low.trans (hn.mono hz), h.ints.below (hn.mono hz)⟩

def wrGood (w0 : World) (wb xb : Nat) (wk : ByteArray) (wv vx : Value) (wval : List Int) (i : Nat) (W : World) (u : Value) : Prop :=
  match i with
  | 0 => u = .pointer (some ⟨xb, 0, none⟩)
  | 1 => u = vx
  | 2 => u = .pointer (some ⟨wb, 0, none⟩)
  | 3 => u = .string wk
  | 4 => ∃ B, u = .slice (some ⟨B, 0, none⟩) 0 0 ∧ OwnInts W B u [] ∧ B ≤ W.heap.size ∧ w0.heap.size ≤ B
  | 5 => u = .pointer (some ⟨wb, 2, none⟩)
  | 6 => u = wv
  | 7 => ∃ B, OwnInts W B u wval ∧ w0.heap.size ≤ B
  | 8 => ∃ u' B, u = .agg #[.string wk, u'] ∧ OwnInts W B u' wval ∧ w0.heap.size ≤ B
  | 9 => ∃ u' B D, u = .slice (some ⟨D, 0, none⟩) 1 1 ∧ Held W D [.string wk, u'] ∧ OwnInts W B u' wval ∧ w0.heap.size ≤ B
  | _ => True
theorem wrGood_next (hn : Below W.heap.size W W') (j : Nat) (u : Value) (h : wrGood w0 wb xb wk wv vx wval j W u) : wrGood w0 wb xb wk wv vx wval j W' u := by
  match j, h with
  | 0, h => exact h
  | 1, h => exact h
  | 2, h => exact h
  | 3, h => exact h
  | 4, ⟨B, h1, h2, h3, h4⟩ => exact ⟨B, h1, h2.below hn, Nat.le_trans h3 hn.size, h4⟩
  | 5, h => exact h
  | 6, h => exact h
  | 7, ⟨B, h1, h2⟩ => exact ⟨B, h1.below hn, h2⟩
  | 8, ⟨u', B, h0, h1, h2⟩ => exact ⟨u', B, h0, h1.below hn, h2⟩
  | 9, ⟨u', B, D, h0, h1, h2, h3⟩ => exact ⟨u', B, D, h0, h1.below hn h1.1, h2.below hn, h3⟩
  | n + 10, h => exact h

def wrInv (w0 : World) (wb xb lo : Nat) (S : Nat → Prop) (wk : ByteArray) (d : Bool) (wv vx : Value) (wval : List Int) (xs : List Item) (L : Nat → Bool) (U : Nat → Value) (W : World) : Prop :=
  (L 10 = false → (∀ j, L j = true → wrGood w0 wb xb wk wv vx wval j W (U j)) ∧ WrW w0 wb xb lo S wk d wv vx wval xs W) ∧
    (L 10 = true → L 12 = false → w0.grownBy W vx.ownBlock ∧ OwnIt W lo S (U 10) (xs ++ [⟨wk, wval⟩])) ∧ (L 11 = true → U 11 = .pointer (some ⟨xb, 0, none⟩)) ∧
    (L 12 = true → ∃ W1, w0.grownBy W1 vx.ownBlock ∧ OwnIt W1 lo S (U 10) (xs ++ [⟨wk, wval⟩]) ∧ W = W1.setCell ⟨xb, 0, none⟩ (U 10))
theorem wrInv_step {L : Nat → Bool} {U : Nat → Value} {i : Nat} {u : Value} (hi : i < 10) (h10 : L 10 = false) (h11 : L 11 = false) (h12 : L 12 = false) (hG : ∀ j, L j = true → wrGood w0 wb xb wk wv vx wval j W (U j)) (hW : WrW w0 wb xb lo S wk d wv vx wval xs W)
    (hn : Below W.heap.size W W') (hu : wrGood w0 wb xb wk wv vx wval i W' u) : wrInv w0 wb xb lo S wk d wv vx wval xs (upd L i true) (upd U i u) W' := by
  have e10 : upd L i true 10 = false := by rw [upd_other _ _ (by omega)]; exact h10
  have e11 : upd L i true 11 = false := by rw [upd_other _ _ (by omega)]; exact h11
  have e12 : upd L i true 12 = false := by rw [upd_other _ _ (by omega)]; exact h12
  refine ⟨fun _ => ⟨RInv.next (Good := wrGood w0 wb xb wk wv vx wval) hG (fun j x h => wrGood_next hn j x h) hu, hW.next hn⟩, fun h => ?_, fun h => ?_, fun h => ?_⟩
  · rw [e10] at h; cases h
  · rw [e11] at h; cases h
  · rw [e12] at h; cases h
theorem growBelow (h : Below w0.heap.size w0 W) {row : Option Nat} (hg : W.grownBy W' row) : w0.grownBy W' row :=
  ⟨hg.os.trans h.os, hg.tape.trans h.tape, hg.output.trans h.output, Nat.le_trans h.size hg.size, fun k hk hne => (hg.block k (Nat.lt_of_lt_of_le hk h.size) hne).trans (h.block k hk)⟩
end

set_option maxRecDepth 100000 in
set_option maxHeartbeats 4000000 in
theorem wrReg33 {Q : Exit → Act → World → Prop} (id : Nat) (p : String) (w0 : World) {t0 t1 t2 t4 t6 t7 t8 t9 t10 t11 t12 t13 t14 t15 t16 t17 t18 t19 t20 t21 t22 t23 t24 t25 t26 t27 t28 t29 t30 t31 t32 t33 t34 t35 t36 t37 t38 t39 t40 t41 t42 t43 t44 t45 t46 t47 t48 t49 t50 t51 t52 t53 t54 t55 t56 t57 t58 t59 t60 t61 t62 t63 t64 t65 t66 t67 t68 t69 t70 t71 t72 t73 t74 t75 t76 t77 t78 t79 t80 t81 t82 t83 t84 t85 : Value} (wb xb lo : Nat) (S : Nat → Prop) (wk : ByteArray) (d : Bool) (A : Option Addr) (c : Nat) (wval : List Int) (vx : Value) (xs : List Item)
    (hW : WrW w0 wb xb lo S wk d (.slice A wval.length c) vx wval xs w0) (hlo : xb < lo) (hloW : lo ≤ w0.heap.size) (hS : ∀ q, w0.heap.size ≤ q → S q) (hks : wk.size ≤ maxLen) (hwl : wval.length ≤ 4194304) (hl : xs.length ≤ 2097152)
    (hQ : ∀ (U : Nat → Value) (vn : Value) (W1 : World), w0.grownBy W1 vx.ownBlock → OwnIt W1 lo S vn (xs ++ [⟨wk, wval⟩]) → Held W1 xb [vx] → Q .normal { tmps := #[t0, t1, t2, .pointer (some ⟨wb, 0, none⟩), t4, .pointer (some ⟨xb, 0, none⟩), t6, t7, t8, t9, t10, t11, t12, t13, t14, t15, t16, t17, t18, t19, t20, t21, t22, t23, t24, t25, t26, t27, t28, t29, t30, t31, t32, U 0, U 1, U 2, U 3, U 4, U 5, U 6, U 7, U 8, U 9, U 10, U 11, t45, t46, t47, t48, t49, t50, t51, t52, t53, t54, t55, t56, t57, t58, t59, t60, t61, t62, t63, t64, t65, t66, t67, t68, t69, t70, t71, t72, t73, t74, t75, t76, t77, t78, t79, t80, t81, t82, t83, t84, t85], defers := [] } (W1.setCell ⟨xb, 0, none⟩ vn)) :
    (Code.region id (wrOps 33 p) true).wp Try.prog Q { tmps := #[t0, t1, t2, .pointer (some ⟨wb, 0, none⟩), t4, .pointer (some ⟨xb, 0, none⟩), t6, t7, t8, t9, t10, t11, t12, t13, t14, t15, t16, t17, t18, t19, t20, t21, t22, t23, t24, t25, t26, t27, t28, t29, t30, t31, t32, t33, t34, t35, t36, t37, t38, t39, t40, t41, t42, t43, t44, t45, t46, t47, t48, t49, t50, t51, t52, t53, t54, t55, t56, t57, t58, t59, t60, t61, t62, t63, t64, t65, t66, t67, t68, t69, t70, t71, t72, t73, t74, t75, t76, t77, t78, t79, t80, t81, t82, t83, t84, t85], defers := [] } w0 := by
  have hlt := ownItLt hW.own
  have hrow : ∀ g, vx.ownBlock = some g → g < w0.heap.size := fun g hh => (hlt g hh).2
  have hxk : ∀ W1, w0.grownBy W1 vx.ownBlock → Held W1 xb [vx] := fun W1 hg => hW.hx.below (B := lo) ((Below.refl lo w0).grown hg hloW fun g hh => (hlt g hh).1) hlo
  have HX := Lib.hid hxk
  have HQ := Lib.hid hQ
  have H0 := Lib.hid hW
  clear hQ hW hxk hlt
  refine wp_region_inv2 (by kernel_rfl) (fun L a W => ∃ U : Nat → Value, a = { tmps := #[t0, t1, t2, .pointer (some ⟨wb, 0, none⟩), t4, .pointer (some ⟨xb, 0, none⟩), t6, t7, t8, t9, t10, t11, t12, t13, t14, t15, t16, t17, t18, t19, t20, t21, t22, t23, t24, t25, t26, t27, t28, t29, t30, t31, t32, U 0, U 1, U 2, U 3, U 4, U 5, U 6, U 7, U 8, U 9, U 10, U 11, t45, t46, t47, t48, t49, t50, t51, t52, t53, t54, t55, t56, t57, t58, t59, t60, t61, t62, t63, t64, t65, t66, t67, t68, t69, t70, t71, t72, t73, t74, t75, t76, t77, t78, t79, t80, t81, t82, t83, t84, t85], defers := [] } ∧ wrInv w0 wb xb lo S wk d (.slice A wval.length c) vx wval xs L U W) (fun i o ho e he => (backB_at (by kernel_rfl) i o ho e he).1) (fun i o ho e he => (backB_at (by kernel_rfl) i o ho e he).2) ?h0 ?hstep ?hend
  case h0 =>
    exact ⟨fun j => #[t33, t34, t35, t36, t37, t38, t39, t40, t41, t42, t43, t44].getD j undef, rfl, fun _ => ⟨fun j h => absurd h (by simp), H0.out.next (Below.refl _ _).drew⟩, fun h => absurd h (by simp), fun h => absurd h (by simp), fun h => absurd h (by simp)⟩
  case hstep =>
    clear H0 HQ
    rintro L a W i o ho hLi hpre hdn ⟨U, rfl, h1, h2, h11', -⟩ K hK
    have hi : i < 13 := (Array.getElem?_eq_some_iff.1 ho).1
    have hd10 : ∀ j, j < 10 → L j = false → L 10 = false := fun j hj hL => hdn.notYet 6 10 10 (by kernel_rfl) hj hL
    have hd11 : ∀ j, j < 11 → L j = false → L 11 = false := fun j hj hL => hdn.notYet 1 11 11 (by kernel_rfl) hj hL
    have hd12 : ∀ j, j < 12 → L j = false → L 12 = false := fun j hj hL => hdn.notYet 1 12 12 (by kernel_rfl) hj hL
    clear hdn
    have HK := Lib.hid hK
    have HZ := Lib.hid h2
    clear hK h2
    unfold wrOps at ho
    by_cases hi10 : i < 10
    · have h10 := hd10 i hi10 hLi
      have h11 := hd11 i (by omega) hLi
      have h12 := hd12 i (by omega) hLi
      obtain ⟨hG, hW⟩ := h1 h10
      have HG := Lib.hid hG
      have HW := Lib.hid hW
      clear hG hW h1 hd10 hd11 hd12 h11' HZ
      rcases (by omega : i = 0 ∨ i = 1 ∨ i = 2 ∨ i = 3 ∨ i = 4 ∨ i = 5 ∨ i = 6 ∨ i = 7 ∨ i = 8 ∨ i = 9) with rfl | rfl | rfl | rfl | rfl | rfl | rfl | rfl | rfl | rfl
      all_goals (simp at ho; subst ho; simp at hpre)
      · go_simp
        exact HK.out _ _ ⟨upd U 0 (.pointer (some ⟨xb, 0, none⟩)), by simp [upd], wrInv_step (by decide) h10 h11 h12 HG.out HW.out (Below.refl _ _) (rfl)⟩
      · have e0 : U 0 = (.pointer (some ⟨xb, 0, none⟩)) := HG.out 0 (by simp [hpre])
        have cb := HW.out.hx.of 0 _ rfl
        go_simp
        exact HK.out _ _ ⟨upd U 1 vx, by simp [upd, e0], wrInv_step (by decide) h10 h11 h12 HG.out HW.out (Below.refl _ _) (rfl)⟩
      · go_simp
        exact HK.out _ _ ⟨upd U 2 (.pointer (some ⟨wb, 0, none⟩)), by simp [upd], wrInv_step (by decide) h10 h11 h12 HG.out HW.out (Below.refl _ _) (rfl)⟩
      · have e0 : U 2 = (.pointer (some ⟨wb, 0, none⟩)) := HG.out 2 (by simp [hpre])
        have cb := HW.out.hw.of 0 _ rfl
        go_simp
        exact HK.out _ _ ⟨upd U 3 (.string wk), by simp [upd, e0], wrInv_step (by decide) h10 h11 h12 HG.out HW.out (Below.refl _ _) (rfl)⟩
      · go_simp
        exact HK.out _ _ ⟨upd U 4 (.slice (some ⟨W.heap.size, 0, none⟩) 0 0), by simp [upd], wrInv_step (by decide) h10 h11 h12 HG.out HW.out (belowOne W _) (⟨W.heap.size, rfl, OwnInts.empty W W.heap.size (Nat.le_refl _), by simp, HW.out.low.size⟩)⟩
      · go_simp
        exact HK.out _ _ ⟨upd U 5 (.pointer (some ⟨wb, 2, none⟩)), by simp [upd], wrInv_step (by decide) h10 h11 h12 HG.out HW.out (Below.refl _ _) (rfl)⟩
      · have e0 : U 5 = (.pointer (some ⟨wb, 2, none⟩)) := HG.out 5 (by simp [hpre])
        have cb := HW.out.hw.of 2 _ rfl
        go_simp
        exact HK.out _ _ ⟨upd U 6 (.slice A wval.length c), by simp [upd, e0], wrInv_step (by decide) h10 h11 h12 HG.out HW.out (Below.refl _ _) (rfl)⟩
      · obtain ⟨B, e0, hown, hB1, hB2⟩ := HG.out 4 (by simp [hpre])
        have e1 : U 6 = (.slice A wval.length c) := HG.out 6 (by simp [hpre])
        rw [e0] at hown
        refine step_append_fresh rfl (.tmp 37) (.tmp 39) rfl B (by simp [Act.eval, e0]) hown w0.heap.size A c wval (by simp [Act.eval, e1]) HW.out.ints hwl hB1 fun v' W' ho hn => ?_
        exact HK.out _ _ ⟨upd U 7 v', by simp [upd, Act.put], wrInv_step (by decide) h10 h11 h12 HG.out HW.out (hn) (⟨B, ho, hB2⟩)⟩
      · have e0 : U 3 = .string wk := HG.out 3 (by simp [hpre])
        obtain ⟨B, hown, hB2⟩ := HG.out 7 (by simp [hpre])
        obtain ⟨A', c', e1, -, -⟩ := hown.ints.form
        have HOwn := Lib.hid hown
        clear hown
        go_simp
        exact HK.out _ _ ⟨upd U 8 (.agg #[.string wk, U 7]), by simp [upd, e0, e1], wrInv_step (by decide) h10 h11 h12 HG.out HW.out (Below.refl _ _) (⟨_, B, rfl, HOwn.out, hB2⟩)⟩
      · obtain ⟨u', B, e0, hown, hB2⟩ := HG.out 8 (by simp [hpre])
        obtain ⟨A', c', rfl, -, -⟩ := hown.ints.form
        have HOwn := Lib.hid hown
        clear hown
        go_simp
        exact HK.out _ _ ⟨upd U 9 (.slice (some ⟨W.heap.size, 0, none⟩) 1 1), by simp [upd, e0], wrInv_step (by decide) h10 h11 h12 HG.out HW.out (belowOne W _) (⟨_, B, W.heap.size, rfl, Held.new W #[.string wk, .slice A' wval.length c'] 104, HOwn.out.alloc _, hB2⟩)⟩
    · rcases (by omega : i = 10 ∨ i = 11 ∨ i = 12) with rfl | rfl | rfl
      · have h11 := hd11 10 (by omega) hLi
        have h12 := hd12 10 (by omega) hLi
        obtain ⟨hG, hW⟩ := h1 hLi
        have HG := Lib.hid hG
        have HW := Lib.hid hW
        clear hG hW h1 hd10 hd11 hd12 h11' HZ
        simp at ho; subst ho; simp at hpre
        have e0 : U 1 = vx := HG.out 1 (by simp [hpre])
        obtain ⟨u', B, D, e1, hheld, hown, hB2⟩ := HG.out 9 (by simp [hpre])
        obtain ⟨A', c', rfl, -, -⟩ := hown.ints.form
        refine step_append_item rfl (.tmp 34) (.tmp 42) rfl lo S vx xs (by simp [Act.eval, e0]) HW.out.own ⟨wk, wval⟩ A' wval.length c' D (by simp [Act.eval, e1]) hks
          (hown.toIn.keep (fun _ _ _ => rfl) (Nat.le_refl _) fun q _ hq => ⟨hS q (Nat.le_trans hB2 hq), fun hh => by have := hrow q hh; omega⟩) hheld hl (Nat.le_trans hloW HW.out.low.size) fun v' W' ho hg => ?_
        exact HK.out _ _ ⟨upd U 10 v', by simp [upd, Act.put], fun h => absurd h (by simp [upd]), fun _ _ => ⟨growBelow HW.out.low hg, by rw [upd_same]; exact ho⟩, fun h => absurd h (by simp [upd, h11]), fun h => absurd h (by simp [upd, h12])⟩
      · have h12 := hd12 11 (by omega) hLi
        clear h1 hd10 hd11 hd12 h11'
        simp at ho; subst ho; simp at hpre
        have h10 : L 10 = true := by simp [hpre]
        go_simp
        exact HK.out _ _ ⟨upd U 11 (.pointer (some ⟨xb, 0, none⟩)), by simp [upd], fun h => absurd h (by simp [upd, h10]), fun _ _ => by have := HZ.out h10 h12; simpa [upd] using this, fun _ => by simp [upd], fun h => absurd h (by simp [upd, h12])⟩
      · clear h1 hd10 hd11 hd12
        simp at ho; subst ho; simp at hpre
        have h10 : L 10 = true := by simp [hpre]
        have e0 : U 11 = (.pointer (some ⟨xb, 0, none⟩)) := h11' (by simp [hpre])
        obtain ⟨hg, hz⟩ := HZ.out h10 hLi
        have hx := HX.out W hg
        have cb := hx.of 0 _ rfl
        have fb := hx.2.1 0
        obtain ⟨A8, n8, c8, e8⟩ : ∃ A n c, U 10 = .slice A n c := by
          obtain ⟨A8, c8, e8, -, -⟩ := hz.items.form
          exact ⟨A8, _, c8, e8⟩
        have HZ' := Lib.hid hz
        have HG' := Lib.hid hg
        clear hz hg hx
        go_simp
        rw [← e8]
        exact HK.out _ _ ⟨U, by simp [e0], fun h => absurd h (by simp [upd, h10]), fun _ h => absurd h (by simp [upd]), fun _ => e0, fun _ => ⟨W, HG'.out, HZ'.out, rfl⟩⟩
  case hend =>
    rintro L a W hL ⟨U, rfl, -, -, -, h12⟩
    obtain ⟨W1, hg, ho, rfl⟩ := h12 (hL 12 (by show 12 < 13; omega))
    exact HQ.out U (U 10) W1 hg ho (HX.out W1 hg)

set_option maxRecDepth 100000 in
set_option maxHeartbeats 4000000 in
theorem wrReg59 {Q : Exit → Act → World → Prop} (id : Nat) (p : String) (w0 : World) {t0 t1 t2 t4 t6 t7 t8 t9 t10 t11 t12 t13 t14 t15 t16 t17 t18 t19 t20 t21 t22 t23 t24 t25 t26 t27 t28 t29 t30 t31 t32 t33 t34 t35 t36 t37 t38 t39 t40 t41 t42 t43 t44 t45 t46 t47 t48 t49 t50 t51 t52 t53 t54 t55 t56 t57 t58 t59 t60 t61 t62 t63 t64 t65 t66 t67 t68 t69 t70 t71 t72 t73 t74 t75 t76 t77 t78 t79 t80 t81 t82 t83 t84 t85 : Value} (wb xb lo : Nat) (S : Nat → Prop) (wk : ByteArray) (d : Bool) (A : Option Addr) (c : Nat) (wval : List Int) (vx : Value) (xs : List Item)
    (hW : WrW w0 wb xb lo S wk d (.slice A wval.length c) vx wval xs w0) (hlo : xb < lo) (hloW : lo ≤ w0.heap.size) (hS : ∀ q, w0.heap.size ≤ q → S q) (hks : wk.size ≤ maxLen) (hwl : wval.length ≤ 4194304) (hl : xs.length ≤ 2097152)
    (hQ : ∀ (U : Nat → Value) (vn : Value) (W1 : World), w0.grownBy W1 vx.ownBlock → OwnIt W1 lo S vn (xs ++ [⟨wk, wval⟩]) → Held W1 xb [vx] → Q .normal { tmps := #[t0, t1, t2, .pointer (some ⟨wb, 0, none⟩), t4, .pointer (some ⟨xb, 0, none⟩), t6, t7, t8, t9, t10, t11, t12, t13, t14, t15, t16, t17, t18, t19, t20, t21, t22, t23, t24, t25, t26, t27, t28, t29, t30, t31, t32, t33, t34, t35, t36, t37, t38, t39, t40, t41, t42, t43, t44, t45, t46, t47, t48, t49, t50, t51, t52, t53, t54, t55, t56, t57, t58, U 0, U 1, U 2, U 3, U 4, U 5, U 6, U 7, U 8, U 9, U 10, U 11, t71, t72, t73, t74, t75, t76, t77, t78, t79, t80, t81, t82, t83, t84, t85], defers := [] } (W1.setCell ⟨xb, 0, none⟩ vn)) :
    (Code.region id (wrOps 59 p) true).wp Try.prog Q { tmps := #[t0, t1, t2, .pointer (some ⟨wb, 0, none⟩), t4, .pointer (some ⟨xb, 0, none⟩), t6, t7, t8, t9, t10, t11, t12, t13, t14, t15, t16, t17, t18, t19, t20, t21, t22, t23, t24, t25, t26, t27, t28, t29, t30, t31, t32, t33, t34, t35, t36, t37, t38, t39, t40, t41, t42, t43, t44, t45, t46, t47, t48, t49, t50, t51, t52, t53, t54, t55, t56, t57, t58, t59, t60, t61, t62, t63, t64, t65, t66, t67, t68, t69, t70, t71, t72, t73, t74, t75, t76, t77, t78, t79, t80, t81, t82, t83, t84, t85], defers := [] } w0 := by
  have hlt := ownItLt hW.own
  have hrow : ∀ g, vx.ownBlock = some g → g < w0.heap.size := fun g hh => (hlt g hh).2
  have hxk : ∀ W1, w0.grownBy W1 vx.ownBlock → Held W1 xb [vx] := fun W1 hg => hW.hx.below (B := lo) ((Below.refl lo w0).grown hg hloW fun g hh => (hlt g hh).1) hlo
  have HX := Lib.hid hxk
  have HQ := Lib.hid hQ
  have H0 := Lib.hid hW
  clear hQ hW hxk hlt
  refine wp_region_inv2 (by kernel_rfl) (fun L a W => ∃ U : Nat → Value, a = { tmps := #[t0, t1, t2, .pointer (some ⟨wb, 0, none⟩), t4, .pointer (some ⟨xb, 0, none⟩), t6, t7, t8, t9, t10, t11, t12, t13, t14, t15, t16, t17, t18, t19, t20, t21, t22, t23, t24, t25, t26, t27, t28, t29, t30, t31, t32, t33, t34, t35, t36, t37, t38, t39, t40, t41, t42, t43, t44, t45, t46, t47, t48, t49, t50, t51, t52, t53, t54, t55, t56, t57, t58, U 0, U 1, U 2, U 3, U 4, U 5, U 6, U 7, U 8, U 9, U 10, U 11, t71, t72, t73, t74, t75, t76, t77, t78, t79, t80, t81, t82, t83, t84, t85], defers := [] } ∧ wrInv w0 wb xb lo S wk d (.slice A wval.length c) vx wval xs L U W) (fun i o ho e he => (backB_at (by kernel_rfl) i o ho e he).1) (fun i o ho e he => (backB_at (by kernel_rfl) i o ho e he).2) ?h0 ?hstep ?hend
  case h0 =>
    exact ⟨fun j => #[t59, t60, t61, t62, t63, t64, t65, t66, t67, t68, t69, t70].getD j undef, rfl, fun _ => ⟨fun j h => absurd h (by simp), H0.out.next (Below.refl _ _).drew⟩, fun h => absurd h (by simp), fun h => absurd h (by simp), fun h => absurd h (by simp)⟩
  case hstep =>
    clear H0 HQ
    rintro L a W i o ho hLi hpre hdn ⟨U, rfl, h1, h2, h11', -⟩ K hK
    have hi : i < 13 := (Array.getElem?_eq_some_iff.1 ho).1
    have hd10 : ∀ j, j < 10 → L j = false → L 10 = false := fun j hj hL => hdn.notYet 6 10 10 (by kernel_rfl) hj hL
    have hd11 : ∀ j, j < 11 → L j = false → L 11 = false := fun j hj hL => hdn.notYet 1 11 11 (by kernel_rfl) hj hL
    have hd12 : ∀ j, j < 12 → L j = false → L 12 = false := fun j hj hL => hdn.notYet 1 12 12 (by kernel_rfl) hj hL
    clear hdn
    have HK := Lib.hid hK
    have HZ := Lib.hid h2
    clear hK h2
    unfold wrOps at ho
    by_cases hi10 : i < 10
    · have h10 := hd10 i hi10 hLi
      have h11 := hd11 i (by omega) hLi
      have h12 := hd12 i (by omega) hLi
      obtain ⟨hG, hW⟩ := h1 h10
      have HG := Lib.hid hG
      have HW := Lib.hid hW
      clear hG hW h1 hd10 hd11 hd12 h11' HZ
      rcases (by omega : i = 0 ∨ i = 1 ∨ i = 2 ∨ i = 3 ∨ i = 4 ∨ i = 5 ∨ i = 6 ∨ i = 7 ∨ i = 8 ∨ i = 9) with rfl | rfl | rfl | rfl | rfl | rfl | rfl | rfl | rfl | rfl
      all_goals (simp at ho; subst ho; simp at hpre)
      · go_simp
        exact HK.out _ _ ⟨upd U 0 (.pointer (some ⟨xb, 0, none⟩)), by simp [upd], wrInv_step (by decide) h10 h11 h12 HG.out HW.out (Below.refl _ _) (rfl)⟩
      · have e0 : U 0 = (.pointer (some ⟨xb, 0, none⟩)) := HG.out 0 (by simp [hpre])
        have cb := HW.out.hx.of 0 _ rfl
        go_simp
        exact HK.out _ _ ⟨upd U 1 vx, by simp [upd, e0], wrInv_step (by decide) h10 h11 h12 HG.out HW.out (Below.refl _ _) (rfl)⟩
      · go_simp
        exact HK.out _ _ ⟨upd U 2 (.pointer (some ⟨wb, 0, none⟩)), by simp [upd], wrInv_step (by decide) h10 h11 h12 HG.out HW.out (Below.refl _ _) (rfl)⟩
      · have e0 : U 2 = (.pointer (some ⟨wb, 0, none⟩)) := HG.out 2 (by simp [hpre])
        have cb := HW.out.hw.of 0 _ rfl
        go_simp
        exact HK.out _ _ ⟨upd U 3 (.string wk), by simp [upd, e0], wrInv_step (by decide) h10 h11 h12 HG.out HW.out (Below.refl _ _) (rfl)⟩
      · go_simp
        exact HK.out _ _ ⟨upd U 4 (.slice (some ⟨W.heap.size, 0, none⟩) 0 0), by simp [upd], wrInv_step (by decide) h10 h11 h12 HG.out HW.out (belowOne W _) (⟨W.heap.size, rfl, OwnInts.empty W W.heap.size (Nat.le_refl _), by simp, HW.out.low.size⟩)⟩
      · go_simp
        exact HK.out _ _ ⟨upd U 5 (.pointer (some ⟨wb, 2, none⟩)), by simp [upd], wrInv_step (by decide) h10 h11 h12 HG.out HW.out (Below.refl _ _) (rfl)⟩
      · have e0 : U 5 = (.pointer (some ⟨wb, 2, none⟩)) := HG.out 5 (by simp [hpre])
        have cb := HW.out.hw.of 2 _ rfl
        go_simp
        exact HK.out _ _ ⟨upd U 6 (.slice A wval.length c), by simp [upd, e0], wrInv_step (by decide) h10 h11 h12 HG.out HW.out (Below.refl _ _) (rfl)⟩
      · obtain ⟨B, e0, hown, hB1, hB2⟩ := HG.out 4 (by simp [hpre])
        have e1 : U 6 = (.slice A wval.length c) := HG.out 6 (by simp [hpre])
        rw [e0] at hown
        refine step_append_fresh rfl (.tmp 63) (.tmp 65) rfl B (by simp [Act.eval, e0]) hown w0.heap.size A c wval (by simp [Act.eval, e1]) HW.out.ints hwl hB1 fun v' W' ho hn => ?_
        exact HK.out _ _ ⟨upd U 7 v', by simp [upd, Act.put], wrInv_step (by decide) h10 h11 h12 HG.out HW.out (hn) (⟨B, ho, hB2⟩)⟩
      · have e0 : U 3 = .string wk := HG.out 3 (by simp [hpre])
        obtain ⟨B, hown, hB2⟩ := HG.out 7 (by simp [hpre])
        obtain ⟨A', c', e1, -, -⟩ := hown.ints.form
        have HOwn := Lib.hid hown
        clear hown
        go_simp
        exact HK.out _ _ ⟨upd U 8 (.agg #[.string wk, U 7]), by simp [upd, e0, e1], wrInv_step (by decide) h10 h11 h12 HG.out HW.out (Below.refl _ _) (⟨_, B, rfl, HOwn.out, hB2⟩)⟩
      · obtain ⟨u', B, e0, hown, hB2⟩ := HG.out 8 (by simp [hpre])
        obtain ⟨A', c', rfl, -, -⟩ := hown.ints.form
        have HOwn := Lib.hid hown
        clear hown
        go_simp
        exact HK.out _ _ ⟨upd U 9 (.slice (some ⟨W.heap.size, 0, none⟩) 1 1), by simp [upd, e0], wrInv_step (by decide) h10 h11 h12 HG.out HW.out (belowOne W _) (⟨_, B, W.heap.size, rfl, Held.new W #[.string wk, .slice A' wval.length c'] 104, HOwn.out.alloc _, hB2⟩)⟩
    · rcases (by omega : i = 10 ∨ i = 11 ∨ i = 12) with rfl | rfl | rfl
      · have h11 := hd11 10 (by omega) hLi
        have h12 := hd12 10 (by omega) hLi
        obtain ⟨hG, hW⟩ := h1 hLi
        have HG := Lib.hid hG
        have HW := Lib.hid hW
        clear hG hW h1 hd10 hd11 hd12 h11' HZ
        simp at ho; subst ho; simp at hpre
        have e0 : U 1 = vx := HG.out 1 (by simp [hpre])
        obtain ⟨u', B, D, e1, hheld, hown, hB2⟩ := HG.out 9 (by simp [hpre])
        obtain ⟨A', c', rfl, -, -⟩ := hown.ints.form
        refine step_append_item rfl (.tmp 60) (.tmp 68) rfl lo S vx xs (by simp [Act.eval, e0]) HW.out.own ⟨wk, wval⟩ A' wval.length c' D (by simp [Act.eval, e1]) hks
          (hown.toIn.keep (fun _ _ _ => rfl) (Nat.le_refl _) fun q _ hq => ⟨hS q (Nat.le_trans hB2 hq), fun hh => by have := hrow q hh; omega⟩) hheld hl (Nat.le_trans hloW HW.out.low.size) fun v' W' ho hg => ?_
        exact HK.out _ _ ⟨upd U 10 v', by simp [upd, Act.put], fun h => absurd h (by simp [upd]), fun _ _ => ⟨growBelow HW.out.low hg, by rw [upd_same]; exact ho⟩, fun h => absurd h (by simp [upd, h11]), fun h => absurd h (by simp [upd, h12])⟩
      · have h12 := hd12 11 (by omega) hLi
        clear h1 hd10 hd11 hd12 h11'
        simp at ho; subst ho; simp at hpre
        have h10 : L 10 = true := by simp [hpre]
        go_simp
        exact HK.out _ _ ⟨upd U 11 (.pointer (some ⟨xb, 0, none⟩)), by simp [upd], fun h => absurd h (by simp [upd, h10]), fun _ _ => by have := HZ.out h10 h12; simpa [upd] using this, fun _ => by simp [upd], fun h => absurd h (by simp [upd, h12])⟩
      · clear h1 hd10 hd11 hd12
        simp at ho; subst ho; simp at hpre
        have h10 : L 10 = true := by simp [hpre]
        have e0 : U 11 = (.pointer (some ⟨xb, 0, none⟩)) := h11' (by simp [hpre])
        obtain ⟨hg, hz⟩ := HZ.out h10 hLi
        have hx := HX.out W hg
        have cb := hx.of 0 _ rfl
        have fb := hx.2.1 0
        obtain ⟨A8, n8, c8, e8⟩ : ∃ A n c, U 10 = .slice A n c := by
          obtain ⟨A8, c8, e8, -, -⟩ := hz.items.form
          exact ⟨A8, _, c8, e8⟩
        have HZ' := Lib.hid hz
        have HG' := Lib.hid hg
        clear hz hg hx
        go_simp
        rw [← e8]
        exact HK.out _ _ ⟨U, by simp [e0], fun h => absurd h (by simp [upd, h10]), fun _ h => absurd h (by simp [upd]), fun _ => e0, fun _ => ⟨W, HG'.out, HZ'.out, rfl⟩⟩
  case hend =>
    rintro L a W hL ⟨U, rfl, -, -, -, h12⟩
    obtain ⟨W1, hg, ho, rfl⟩ := h12 (hL 12 (by show 12 < 13; omega))
    exact HQ.out U (U 10) W1 hg ho (HX.out W1 hg)

set_option maxRecDepth 100000 in
set_option maxHeartbeats 4000000 in
theorem wrReg73 {Q : Exit → Act → World → Prop} (id : Nat) (p : String) (w0 : World) {t0 t1 t2 t4 t6 t7 t8 t9 t10 t11 t12 t13 t14 t15 t16 t17 t18 t19 t20 t21 t22 t23 t24 t25 t26 t27 t28 t29 t30 t31 t32 t33 t34 t35 t36 t37 t38 t39 t40 t41 t42 t43 t44 t45 t46 t47 t48 t49 t50 t51 t52 t53 t54 t55 t56 t57 t58 t59 t60 t61 t62 t63 t64 t65 t66 t67 t68 t69 t70 t71 t72 t73 t74 t75 t76 t77 t78 t79 t80 t81 t82 t83 t84 t85 : Value} (wb xb lo : Nat) (S : Nat → Prop) (wk : ByteArray) (d : Bool) (A : Option Addr) (c : Nat) (wval : List Int) (vx : Value) (xs : List Item)
    (hW : WrW w0 wb xb lo S wk d (.slice A wval.length c) vx wval xs w0) (hlo : xb < lo) (hloW : lo ≤ w0.heap.size) (hS : ∀ q, w0.heap.size ≤ q → S q) (hks : wk.size ≤ maxLen) (hwl : wval.length ≤ 4194304) (hl : xs.length ≤ 2097152)
    (hQ : ∀ (U : Nat → Value) (vn : Value) (W1 : World), w0.grownBy W1 vx.ownBlock → OwnIt W1 lo S vn (xs ++ [⟨wk, wval⟩]) → Held W1 xb [vx] → Q .normal { tmps := #[t0, t1, t2, .pointer (some ⟨wb, 0, none⟩), t4, .pointer (some ⟨xb, 0, none⟩), t6, t7, t8, t9, t10, t11, t12, t13, t14, t15, t16, t17, t18, t19, t20, t21, t22, t23, t24, t25, t26, t27, t28, t29, t30, t31, t32, t33, t34, t35, t36, t37, t38, t39, t40, t41, t42, t43, t44, t45, t46, t47, t48, t49, t50, t51, t52, t53, t54, t55, t56, t57, t58, t59, t60, t61, t62, t63, t64, t65, t66, t67, t68, t69, t70, t71, t72, U 0, U 1, U 2, U 3, U 4, U 5, U 6, U 7, U 8, U 9, U 10, U 11, t85], defers := [] } (W1.setCell ⟨xb, 0, none⟩ vn)) :
    (Code.region id (wrOps 73 p) true).wp Try.prog Q { tmps := #[t0, t1, t2, .pointer (some ⟨wb, 0, none⟩), t4, .pointer (some ⟨xb, 0, none⟩), t6, t7, t8, t9, t10, t11, t12, t13, t14, t15, t16, t17, t18, t19, t20, t21, t22, t23, t24, t25, t26, t27, t28, t29, t30, t31, t32, t33, t34, t35, t36, t37, t38, t39, t40, t41, t42, t43, t44, t45, t46, t47, t48, t49, t50, t51, t52, t53, t54, t55, t56, t57, t58, t59, t60, t61, t62, t63, t64, t65, t66, t67, t68, t69, t70, t71, t72, t73, t74, t75, t76, t77, t78, t79, t80, t81, t82, t83, t84, t85], defers := [] } w0 := by
  have hlt := ownItLt hW.own
  have hrow : ∀ g, vx.ownBlock = some g → g < w0.heap.size := fun g hh => (hlt g hh).2
  have hxk : ∀ W1, w0.grownBy W1 vx.ownBlock → Held W1 xb [vx] := fun W1 hg => hW.hx.below (B := lo) ((Below.refl lo w0).grown hg hloW fun g hh => (hlt g hh).1) hlo
  have HX := Lib.hid hxk
  have HQ := Lib.hid hQ
  have H0 := Lib.hid hW
  clear hQ hW hxk hlt
  refine wp_region_inv2 (by kernel_rfl) (fun L a W => ∃ U : Nat → Value, a = { tmps := #[t0, t1, t2, .pointer (some ⟨wb, 0, none⟩), t4, .pointer (some ⟨xb, 0, none⟩), t6, t7, t8, t9, t10, t11, t12, t13, t14, t15, t16, t17, t18, t19, t20, t21, t22, t23, t24, t25, t26, t27, t28, t29, t30, t31, t32, t33, t34, t35, t36, t37, t38, t39, t40, t41, t42, t43, t44, t45, t46, t47, t48, t49, t50, t51, t52, t53, t54, t55, t56, t57, t58, t59, t60, t61, t62, t63, t64, t65, t66, t67, t68, t69, t70, t71, t72, U 0, U 1, U 2, U 3, U 4, U 5, U 6, U 7, U 8, U 9, U 10, U 11, t85], defers := [] } ∧ wrInv w0 wb xb lo S wk d (.slice A wval.length c) vx wval xs L U W) (fun i o ho e he => (backB_at (by kernel_rfl) i o ho e he).1) (fun i o ho e he => (backB_at (by kernel_rfl) i o ho e he).2) ?h0 ?hstep ?hend
  case h0 =>
    exact ⟨fun j => #[t73, t74, t75, t76, t77, t78, t79, t80, t81, t82, t83, t84].getD j undef, rfl, fun _ => ⟨fun j h => absurd h (by simp), H0.out.next (Below.refl _ _).drew⟩, fun h => absurd h (by simp), fun h => absurd h (by simp), fun h => absurd h (by simp)⟩
  case hstep =>
    clear H0 HQ
    rintro L a W i o ho hLi hpre hdn ⟨U, rfl, h1, h2, h11', -⟩ K hK
    have hi : i < 13 := (Array.getElem?_eq_some_iff.1 ho).1
    have hd10 : ∀ j, j < 10 → L j = false → L 10 = false := fun j hj hL => hdn.notYet 6 10 10 (by kernel_rfl) hj hL
    have hd11 : ∀ j, j < 11 → L j = false → L 11 = false := fun j hj hL => hdn.notYet 1 11 11 (by kernel_rfl) hj hL
    have hd12 : ∀ j, j < 12 → L j = false → L 12 = false := fun j hj hL => hdn.notYet 1 12 12 (by kernel_rfl) hj hL
    clear hdn
    have HK := Lib.hid hK
    have HZ := Lib.hid h2
    clear hK h2
    unfold wrOps at ho
    by_cases hi10 : i < 10
    · have h10 := hd10 i hi10 hLi
      have h11 := hd11 i (by omega) hLi
      have h12 := hd12 i (by omega) hLi
      obtain ⟨hG, hW⟩ := h1 h10
      have HG := Lib.hid hG
      have HW := Lib.hid hW
      clear hG hW h1 hd10 hd11 hd12 h11' HZ
      rcases (by omega : i = 0 ∨ i = 1 ∨ i = 2 ∨ i = 3 ∨ i = 4 ∨ i = 5 ∨ i = 6 ∨ i = 7 ∨ i = 8 ∨ i = 9) with rfl | rfl | rfl | rfl | rfl | rfl | rfl | rfl | rfl | rfl
      all_goals (simp at ho; subst ho; simp at hpre)
      · go_simp
        exact HK.out _ _ ⟨upd U 0 (.pointer (some ⟨xb, 0, none⟩)), by simp [upd], wrInv_step (by decide) h10 h11 h12 HG.out HW.out (Below.refl _ _) (rfl)⟩
      · have e0 : U 0 = (.pointer (some ⟨xb, 0, none⟩)) := HG.out 0 (by simp [hpre])
        have cb := HW.out.hx.of 0 _ rfl
        go_simp
        exact HK.out _ _ ⟨upd U 1 vx, by simp [upd, e0], wrInv_step (by decide) h10 h11 h12 HG.out HW.out (Below.refl _ _) (rfl)⟩
      · go_simp
        exact HK.out _ _ ⟨upd U 2 (.pointer (some ⟨wb, 0, none⟩)), by simp [upd], wrInv_step (by decide) h10 h11 h12 HG.out HW.out (Below.refl _ _) (rfl)⟩
      · have e0 : U 2 = (.pointer (some ⟨wb, 0, none⟩)) := HG.out 2 (by simp [hpre])
        have cb := HW.out.hw.of 0 _ rfl
        go_simp
        exact HK.out _ _ ⟨upd U 3 (.string wk), by simp [upd, e0], wrInv_step (by decide) h10 h11 h12 HG.out HW.out (Below.refl _ _) (rfl)⟩
      · go_simp
        exact HK.out _ _ ⟨upd U 4 (.slice (some ⟨W.heap.size, 0, none⟩) 0 0), by simp [upd], wrInv_step (by decide) h10 h11 h12 HG.out HW.out (belowOne W _) (⟨W.heap.size, rfl, OwnInts.empty W W.heap.size (Nat.le_refl _), by simp, HW.out.low.size⟩)⟩
      · go_simp
        exact HK.out _ _ ⟨upd U 5 (.pointer (some ⟨wb, 2, none⟩)), by simp [upd], wrInv_step (by decide) h10 h11 h12 HG.out HW.out (Below.refl _ _) (rfl)⟩
      · have e0 : U 5 = (.pointer (some ⟨wb, 2, none⟩)) := HG.out 5 (by simp [hpre])
        have cb := HW.out.hw.of 2 _ rfl
        go_simp
        exact HK.out _ _ ⟨upd U 6 (.slice A wval.length c), by simp [upd, e0], wrInv_step (by decide) h10 h11 h12 HG.out HW.out (Below.refl _ _) (rfl)⟩
      · obtain ⟨B, e0, hown, hB1, hB2⟩ := HG.out 4 (by simp [hpre])
        have e1 : U 6 = (.slice A wval.length c) := HG.out 6 (by simp [hpre])
        rw [e0] at hown
        refine step_append_fresh rfl (.tmp 77) (.tmp 79) rfl B (by simp [Act.eval, e0]) hown w0.heap.size A c wval (by simp [Act.eval, e1]) HW.out.ints hwl hB1 fun v' W' ho hn => ?_
        exact HK.out _ _ ⟨upd U 7 v', by simp [upd, Act.put], wrInv_step (by decide) h10 h11 h12 HG.out HW.out (hn) (⟨B, ho, hB2⟩)⟩
      · have e0 : U 3 = .string wk := HG.out 3 (by simp [hpre])
        obtain ⟨B, hown, hB2⟩ := HG.out 7 (by simp [hpre])
        obtain ⟨A', c', e1, -, -⟩ := hown.ints.form
        have HOwn := Lib.hid hown
        clear hown
        go_simp
        exact HK.out _ _ ⟨upd U 8 (.agg #[.string wk, U 7]), by simp [upd, e0, e1], wrInv_step (by decide) h10 h11 h12 HG.out HW.out (Below.refl _ _) (⟨_, B, rfl, HOwn.out, hB2⟩)⟩
      · obtain ⟨u', B, e0, hown, hB2⟩ := HG.out 8 (by simp [hpre])
        obtain ⟨A', c', rfl, -, -⟩ := hown.ints.form
        have HOwn := Lib.hid hown
        clear hown
        go_simp
        exact HK.out _ _ ⟨upd U 9 (.slice (some ⟨W.heap.size, 0, none⟩) 1 1), by simp [upd, e0], wrInv_step (by decide) h10 h11 h12 HG.out HW.out (belowOne W _) (⟨_, B, W.heap.size, rfl, Held.new W #[.string wk, .slice A' wval.length c'] 104, HOwn.out.alloc _, hB2⟩)⟩
    · rcases (by omega : i = 10 ∨ i = 11 ∨ i = 12) with rfl | rfl | rfl
      · have h11 := hd11 10 (by omega) hLi
        have h12 := hd12 10 (by omega) hLi
        obtain ⟨hG, hW⟩ := h1 hLi
        have HG := Lib.hid hG
        have HW := Lib.hid hW
        clear hG hW h1 hd10 hd11 hd12 h11' HZ
        simp at ho; subst ho; simp at hpre
        have e0 : U 1 = vx := HG.out 1 (by simp [hpre])
        obtain ⟨u', B, D, e1, hheld, hown, hB2⟩ := HG.out 9 (by simp [hpre])
        obtain ⟨A', c', rfl, -, -⟩ := hown.ints.form
        refine step_append_item rfl (.tmp 74) (.tmp 82) rfl lo S vx xs (by simp [Act.eval, e0]) HW.out.own ⟨wk, wval⟩ A' wval.length c' D (by simp [Act.eval, e1]) hks
          (hown.toIn.keep (fun _ _ _ => rfl) (Nat.le_refl _) fun q _ hq => ⟨hS q (Nat.le_trans hB2 hq), fun hh => by have := hrow q hh; omega⟩) hheld hl (Nat.le_trans hloW HW.out.low.size) fun v' W' ho hg => ?_
        exact HK.out _ _ ⟨upd U 10 v', by simp [upd, Act.put], fun h => absurd h (by simp [upd]), fun _ _ => ⟨growBelow HW.out.low hg, by rw [upd_same]; exact ho⟩, fun h => absurd h (by simp [upd, h11]), fun h => absurd h (by simp [upd, h12])⟩
      · have h12 := hd12 11 (by omega) hLi
        clear h1 hd10 hd11 hd12 h11'
        simp at ho; subst ho; simp at hpre
        have h10 : L 10 = true := by simp [hpre]
        go_simp
        exact HK.out _ _ ⟨upd U 11 (.pointer (some ⟨xb, 0, none⟩)), by simp [upd], fun h => absurd h (by simp [upd, h10]), fun _ _ => by have := HZ.out h10 h12; simpa [upd] using this, fun _ => by simp [upd], fun h => absurd h (by simp [upd, h12])⟩
      · clear h1 hd10 hd11 hd12
        simp at ho; subst ho; simp at hpre
        have h10 : L 10 = true := by simp [hpre]
        have e0 : U 11 = (.pointer (some ⟨xb, 0, none⟩)) := h11' (by simp [hpre])
        obtain ⟨hg, hz⟩ := HZ.out h10 hLi
        have hx := HX.out W hg
        have cb := hx.of 0 _ rfl
        have fb := hx.2.1 0
        obtain ⟨A8, n8, c8, e8⟩ : ∃ A n c, U 10 = .slice A n c := by
          obtain ⟨A8, c8, e8, -, -⟩ := hz.items.form
          exact ⟨A8, _, c8, e8⟩
        have HZ' := Lib.hid hz
        have HG' := Lib.hid hg
        clear hz hg hx
        go_simp
        rw [← e8]
        exact HK.out _ _ ⟨U, by simp [e0], fun h => absurd h (by simp [upd, h10]), fun _ h => absurd h (by simp [upd]), fun _ => e0, fun _ => ⟨W, HG'.out, HZ'.out, rfl⟩⟩
  case hend =>
    rintro L a W hL ⟨U, rfl, -, -, -, h12⟩
    obtain ⟨W1, hg, ho, rfl⟩ := h12 (hL 12 (by show 12 < 13; omega))
    exact HQ.out U (U 10) W1 hg ho (HX.out W1 hg)

end Go.Proofs.Ytkamlibfcakblaa
