/- A drawn name. -/
import Derived.Test.YtkamlibfcakblaaXFresh
import Derived.Test.YtkamlibfcakblaaXCloneStr
namespace Go.Proofs.Ytkamlibfcakblaa
open Go.RowKit

/-- The slots of the region. -/
def keyFrame (g : Nat) (n : Int) (U : Nat → Value) : Array Value :=
  #[.pointer (some ⟨g, 0, none⟩), .int .i64 n, undef, undef, .string ⟨#[]⟩, U 16, U 0, U 1, U 2, U 3, U 4, U 5, U 6, U 7, U 8, U 9, U 10, U 11, U 12, U 13, U 14, U 15, undef, undef, undef, undef, undef, undef, undef, undef, undef]

def intIn (lo hi : Int) (u : Value) : Prop := ∃ m : Int, u = .int .i64 m ∧ lo ≤ m ∧ m < hi
def strTo (k : Nat) (u : Value) : Prop := ∃ s : ByteArray, u = .string s ∧ s.size ≤ k
/-- What each operation's slot is good for. -/
def keyGood (g : Nat) (i : Nat) (w : World) (u : Value) : Prop :=
  match i with
  | 0 => ∃ B, u = .slice (some ⟨B, 0, none⟩) 5 5 ∧ B ≠ g ∧ B < w.heap.size ∧ ∀ j, j < 5 → ∃ x, w.cell? ⟨B, j, none⟩ = some x ∧ strTo 1 x
  | 1 => u = .pointer (some ⟨g, 0, none⟩)
  | 2 => intIn 0 5 u
  | 3 => ∃ B j x, u = .pointer (some ⟨B, j, none⟩) ∧ B ≠ g ∧ B < w.heap.size ∧ w.cell? ⟨B, j, none⟩ = some x ∧ strTo 1 x
  | 4 => strTo 1 u
  | 5 => u = .pointer (some ⟨g, 0, none⟩)
  | 6 => intIn 0 30 u
  | 7 => u = .pointer (some ⟨g, 0, none⟩)
  | 8 => intIn 0 30 u
  | 9 => ∃ B, u = .slice (some ⟨B, 0, none⟩) 2 2 ∧ B ≠ g ∧ B < w.heap.size ∧ ∀ j, j < 2 → ∃ x, w.cell? ⟨B, j, none⟩ = some x ∧ intIn 0 30 x
  | 10 => u = .pointer (some ⟨g, 0, none⟩)
  | 11 => intIn 0 2 u
  | 12 => ∃ B j x, u = .pointer (some ⟨B, j, none⟩) ∧ B ≠ g ∧ B < w.heap.size ∧ w.cell? ⟨B, j, none⟩ = some x ∧ intIn 0 30 x
  | 13 => intIn 0 30 u
  | 14 => strTo 1000001 u
  | 15 => strTo 1000002 u
  | _ => strTo 1000002 u

theorem keyGood_stable {g i : Nat} {w w' : World} (h : w.grownBy w' (some g)) (u : Value) (hg : keyGood g i w u) : keyGood g i w' u := by
  have hc : ∀ B j, B ≠ g → B < w.heap.size → w'.cell? ⟨B, j, none⟩ = w.cell? ⟨B, j, none⟩ := fun B j hne hlt => World.cell?_of_block (h.block B hlt (fun e => hne (Option.some.inj e)))
  have hz := h.size
  match i, hg with
  | 0, ⟨B, h1, h2, h3, h4⟩ => exact ⟨B, h1, h2, by omega, fun j hj => by rw [hc B j h2 h3]; exact h4 j hj⟩
  | 1, h => exact h
  | 2, h => exact h
  | 3, ⟨B, j, x, h1, h2, h3, h4, h5⟩ => exact ⟨B, j, x, h1, h2, by omega, by rw [hc B j h2 h3]; exact h4, h5⟩
  | 4, h => exact h
  | 5, h => exact h
  | 6, h => exact h
  | 7, h => exact h
  | 8, h => exact h
  | 9, ⟨B, h1, h2, h3, h4⟩ => exact ⟨B, h1, h2, by omega, fun j hj => by rw [hc B j h2 h3]; exact h4 j hj⟩
  | 10, h => exact h
  | 11, h => exact h
  | 12, ⟨B, j, x, h1, h2, h3, h4, h5⟩ => exact ⟨B, j, x, h1, h2, by omega, by rw [hc B j h2 h3]; exact h4, h5⟩
  | 13, h => exact h
  | 14, h => exact h
  | 15, h => exact h
  | k + 16, h => exact h

/-- How many picks have come up. -/
def keyCnt (L : Nat → Bool) : Int := (if L 2 then 1 else 0) + (if L 6 then 1 else 0) + (if L 8 then 1 else 0) + (if L 11 then 1 else 0)
theorem keyCnt_same {L : Nat → Bool} {i : Nat} (h2 : i ≠ 2) (h6 : i ≠ 6) (h8 : i ≠ 8) (h11 : i ≠ 11) : keyCnt (upd L i true) = keyCnt L := by
  unfold keyCnt
  rw [upd_other _ _ (Ne.symm h2), upd_other _ _ (Ne.symm h6), upd_other _ _ (Ne.symm h8), upd_other _ _ (Ne.symm h11)]
theorem keyCnt_next {L : Nat → Bool} {i : Nat} (h : i = 2 ∨ i = 6 ∨ i = 8 ∨ i = 11) (hL : L i = false) : keyCnt (upd L i true) = keyCnt L + 1 := by
  unfold keyCnt
  rcases h with rfl | rfl | rfl | rfl <;> simp [upd, hL] <;> omega
theorem keyCnt_bound (L : Nat → Bool) : 0 ≤ keyCnt L ∧ keyCnt L ≤ 4 := by
  unfold keyCnt; split <;> split <;> split <;> split <;> omega

theorem lit5 (W : World) : ∀ j, j < 5 → ∃ x, (W.alloc (.cells #[.string ⟨#[115]⟩, .string ⟨#[99]⟩, .string ⟨#[102]⟩, .string ⟨#[117]⟩, .string ⟨#[97]⟩] 9)).cell? ⟨W.heap.size, j, none⟩ = some x ∧ strTo 1 x := by
  intro j hj
  rcases (by omega : j = 0 ∨ j = 1 ∨ j = 2 ∨ j = 3 ∨ j = 4) with rfl | rfl | rfl | rfl | rfl
  · exact ⟨_, by simp, ⟨#[115]⟩, rfl, by decide⟩
  · exact ⟨_, by simp, ⟨#[99]⟩, rfl, by decide⟩
  · exact ⟨_, by simp, ⟨#[102]⟩, rfl, by decide⟩
  · exact ⟨_, by simp, ⟨#[117]⟩, rfl, by decide⟩
  · exact ⟨_, by simp, ⟨#[97]⟩, rfl, by decide⟩
theorem lit6 (W : World) : ∀ j, j < 6 → ∃ x, (W.alloc (.cells #[.string ⟨#[]⟩, .string ⟨#[115]⟩, .string ⟨#[83, 49]⟩, .string ⟨#[115, 49, 50, 51]⟩, .string ⟨#[49, 115]⟩, .string ⟨#[115, 97]⟩] 9)).cell? ⟨W.heap.size, j, none⟩ = some x ∧ strTo 4 x := by
  intro j hj
  rcases (by omega : j = 0 ∨ j = 1 ∨ j = 2 ∨ j = 3 ∨ j = 4 ∨ j = 5) with rfl | rfl | rfl | rfl | rfl | rfl
  · exact ⟨_, by simp, ⟨#[]⟩, rfl, by decide⟩
  · exact ⟨_, by simp, ⟨#[115]⟩, rfl, by decide⟩
  · exact ⟨_, by simp, ⟨#[83, 49]⟩, rfl, by decide⟩
  · exact ⟨_, by simp, ⟨#[115, 49, 50, 51]⟩, rfl, by decide⟩
  · exact ⟨_, by simp, ⟨#[49, 115]⟩, rfl, by decide⟩
  · exact ⟨_, by simp, ⟨#[115, 97]⟩, rfl, by decide⟩

set_option maxRecDepth 100000 in
set_option maxHeartbeats 2000000 in
theorem l20Key_any (w : World) (g : Nat) (P n : Int) (hr : Rds w g P) (hP0 : 0 ≤ P) (hP : P ≤ 900000000) (hn : n ≤ 1000000) :
    Calls Try.prog 116 #[.pointer (some ⟨g, 0, none⟩), .int .i64 n] w fun e w' => ∃ s : ByteArray, e = .returned (.string s) ∧ s.size ≤ 1000002 ∧ Drew g (P + 10) w w' := by
  have HR := Lib.hid hr
  clear hr
  go_enter Try.func116, Try.ntmps116
  go_wp2
  refine wp_region_inv (by kernel_rfl) (RInv (keyFrame g n) (keyGood g) (fun L W => Rds W g (P + keyCnt L) ∧ w.grownBy W (some g))) (fun i o ho e he => (backB_at (by kernel_rfl) i o ho e he).1) (fun i o ho e he => (backB_at (by kernel_rfl) i o ho e he).2) ?h0 ?hstep ?hend
  case h0 =>
    refine ⟨fun _ => undef, rfl, fun j h => absurd h (by simp), And.intro ?_ ⟨rfl, rfl, rfl, Nat.le_refl _, fun _ _ _ => rfl⟩⟩
    exact Rds.more HR.out (by have := keyCnt_bound (fun _ => false); omega)
  case hstep =>
    rintro L a W i o ho hLi hpre ⟨U, rfl, hG, hRd, hGr⟩ K hK
    have hi : i < 17 := (Array.getElem?_eq_some_iff.1 ho).1
    have hcb := keyCnt_bound L
    have HG := Lib.hid hG
    have HRd := Lib.hid hRd
    have HGr := Lib.hid hGr
    have HK := Lib.hid hK
    clear hG hRd hGr hK
    unfold keyFrame at *
    rcases (by omega : i = 0 ∨ i = 1 ∨ i = 2 ∨ i = 3 ∨ i = 4 ∨ i = 5 ∨ i = 6 ∨ i = 7 ∨ i = 8 ∨ i = 9 ∨ i = 10 ∨ i = 11 ∨ i = 12 ∨ i = 13 ∨ i = 14 ∨ i = 15 ∨ i = 16) with rfl | rfl | rfl | rfl | rfl | rfl | rfl | rfl | rfl | rfl | rfl | rfl | rfl | rfl | rfl | rfl | rfl
    all_goals (simp at ho; subst ho; simp at hpre)
    · have hz := HRd.out.lt
      go_simp
      exact HK.out _ _ ⟨upd U 0 (.slice (some ⟨W.heap.size, 0, none⟩) 5 5), by simp [upd], RInv.next HG.out (fun _ u h => keyGood_stable (World.grownBy_alloc _ _ _) u h) (⟨W.heap.size, rfl, by omega, by simp, lit5 W⟩), (Rds.alloc HRd.out _).more (by rw [keyCnt_same (by decide) (by decide) (by decide) (by decide)]; omega), HGr.out.trans (World.grownBy_alloc _ _ _)⟩
    · go_simp
      exact HK.out _ _ ⟨upd U 1 (.pointer (some ⟨g, 0, none⟩)), by simp [upd], RInv.next HG.out (fun _ _ h => h) (rfl), HRd.out.more (by rw [keyCnt_same (by decide) (by decide) (by decide) (by decide)]; omega), HGr.out⟩
    · have e1 : U 1 = .pointer (some ⟨g, 0, none⟩) := HG.out 1 (by simp [hpre])
      have hcn := keyCnt_next (L := L) (i := 2) (by decide) hLi
      have HC := Lib.hid hcn
      clear hcn
      go_simp
      go_wp2_with (go_at_call 59; refine (pick_rds _ g _ _ HRd.out (by omega) (by omega)).mono ?_; rintro e w' ⟨m, rfl, hm0, hm1, hd⟩)
      exact HK.out _ _ ⟨upd U 2 (.int .i64 m), by simp [upd, e1], RInv.next HG.out (fun _ u h => keyGood_stable hd.2 u h) ⟨m, rfl, hm0, by have := hm1 (by omega); omega⟩, hd.1.more (by rw [HC.out]; omega), HGr.out.trans hd.2⟩
    · obtain ⟨B, e0, hB1, hB2, hB3⟩ := HG.out 0 (by simp [hpre])
      obtain ⟨m, e2, hm0, hm1⟩ := HG.out 2 (by simp [hpre])
      obtain ⟨k, rfl⟩ := Int.eq_ofNat_of_zero_le hm0
      have hk : k < 5 := by omega
      obtain ⟨x, hx, hxs⟩ := hB3 k hk
      have HB := Lib.hid hB3
      clear hB3 hm0
      go_simp
      exact HK.out _ _ ⟨upd U 3 (.pointer (some ⟨B, k, none⟩)), by simp [upd, e0, e2], RInv.next HG.out (fun _ _ h => h) (⟨B, k, x, rfl, hB1, hB2, hx, hxs⟩), HRd.out.more (by rw [keyCnt_same (by decide) (by decide) (by decide) (by decide)]; omega), HGr.out⟩
    · obtain ⟨B, j, x, e3, hB1, hB2, hx, s, rfl, hs⟩ := HG.out 3 (by simp [hpre])
      go_simp
      exact HK.out _ _ ⟨upd U 4 (.string s), by simp [upd, e3], RInv.next HG.out (fun _ _ h => h) (⟨s, rfl, hs⟩), HRd.out.more (by rw [keyCnt_same (by decide) (by decide) (by decide) (by decide)]; omega), HGr.out⟩
    · go_simp
      exact HK.out _ _ ⟨upd U 5 (.pointer (some ⟨g, 0, none⟩)), by simp [upd], RInv.next HG.out (fun _ _ h => h) (rfl), HRd.out.more (by rw [keyCnt_same (by decide) (by decide) (by decide) (by decide)]; omega), HGr.out⟩
    · have e1 : U 5 = .pointer (some ⟨g, 0, none⟩) := HG.out 5 (by simp [hpre])
      have hcn := keyCnt_next (L := L) (i := 6) (by decide) hLi
      have HC := Lib.hid hcn
      clear hcn
      go_simp
      go_wp2_with (go_at_call 59; refine (pick_rds _ g _ _ HRd.out (by omega) (by omega)).mono ?_; rintro e w' ⟨m, rfl, hm0, hm1, hd⟩)
      exact HK.out _ _ ⟨upd U 6 (.int .i64 m), by simp [upd, e1], RInv.next HG.out (fun _ u h => keyGood_stable hd.2 u h) ⟨m, rfl, hm0, by have := hm1 (by omega); omega⟩, hd.1.more (by rw [HC.out]; omega), HGr.out.trans hd.2⟩
    · go_simp
      exact HK.out _ _ ⟨upd U 7 (.pointer (some ⟨g, 0, none⟩)), by simp [upd], RInv.next HG.out (fun _ _ h => h) (rfl), HRd.out.more (by rw [keyCnt_same (by decide) (by decide) (by decide) (by decide)]; omega), HGr.out⟩
    · have e1 : U 7 = .pointer (some ⟨g, 0, none⟩) := HG.out 7 (by simp [hpre])
      have hcn := keyCnt_next (L := L) (i := 8) (by decide) hLi
      have HC := Lib.hid hcn
      clear hcn
      go_simp
      go_wp2_with (go_at_call 59; refine (pick_rds _ g _ _ HRd.out (by omega) (by omega)).mono ?_; rintro e w' ⟨m, rfl, hm0, hm1, hd⟩)
      exact HK.out _ _ ⟨upd U 8 (.int .i64 m), by simp [upd, e1], RInv.next HG.out (fun _ u h => keyGood_stable hd.2 u h) ⟨m, rfl, hm0, by have := hm1 (by omega); omega⟩, hd.1.more (by rw [HC.out]; omega), HGr.out.trans hd.2⟩
    · have hz := HRd.out.lt
      obtain ⟨m, e6, hm0, hm1⟩ := HG.out 6 (by simp [hpre])
      obtain ⟨m', e8, hm0', hm1'⟩ := HG.out 8 (by simp [hpre])
      go_simp
      exact HK.out _ _ ⟨upd U 9 (.slice (some ⟨W.heap.size, 0, none⟩) 2 2), by simp [upd, e6, e8], RInv.next HG.out (fun _ u h => keyGood_stable (World.grownBy_alloc _ _ _) u h) (⟨W.heap.size, rfl, by omega, by simp, fun j hj => by rcases (by omega : j = 0 ∨ j = 1) with rfl | rfl; exact ⟨.int .i64 m, by simp, m, rfl, hm0, hm1⟩; exact ⟨.int .i64 m', by simp, m', rfl, hm0', hm1'⟩⟩), (Rds.alloc HRd.out _).more (by rw [keyCnt_same (by decide) (by decide) (by decide) (by decide)]; omega), HGr.out.trans (World.grownBy_alloc _ _ _)⟩
    · go_simp
      exact HK.out _ _ ⟨upd U 10 (.pointer (some ⟨g, 0, none⟩)), by simp [upd], RInv.next HG.out (fun _ _ h => h) (rfl), HRd.out.more (by rw [keyCnt_same (by decide) (by decide) (by decide) (by decide)]; omega), HGr.out⟩
    · have e1 : U 10 = .pointer (some ⟨g, 0, none⟩) := HG.out 10 (by simp [hpre])
      have hcn := keyCnt_next (L := L) (i := 11) (by decide) hLi
      have HC := Lib.hid hcn
      clear hcn
      go_simp
      go_wp2_with (go_at_call 59; refine (pick_rds _ g _ _ HRd.out (by omega) (by omega)).mono ?_; rintro e w' ⟨m, rfl, hm0, hm1, hd⟩)
      exact HK.out _ _ ⟨upd U 11 (.int .i64 m), by simp [upd, e1], RInv.next HG.out (fun _ u h => keyGood_stable hd.2 u h) ⟨m, rfl, hm0, by have := hm1 (by omega); omega⟩, hd.1.more (by rw [HC.out]; omega), HGr.out.trans hd.2⟩
    · obtain ⟨B, e0, hB1, hB2, hB3⟩ := HG.out 9 (by simp [hpre])
      obtain ⟨m, e2, hm0, hm1⟩ := HG.out 11 (by simp [hpre])
      obtain ⟨k, rfl⟩ := Int.eq_ofNat_of_zero_le hm0
      have hk : k < 2 := by omega
      obtain ⟨x, hx, hxs⟩ := hB3 k hk
      have HB := Lib.hid hB3
      clear hB3 hm0
      go_simp
      exact HK.out _ _ ⟨upd U 12 (.pointer (some ⟨B, k, none⟩)), by simp [upd, e0, e2], RInv.next HG.out (fun _ _ h => h) (⟨B, k, x, rfl, hB1, hB2, hx, hxs⟩), HRd.out.more (by rw [keyCnt_same (by decide) (by decide) (by decide) (by decide)]; omega), HGr.out⟩
    · obtain ⟨B, j, x, e3, hB1, hB2, hx, m, rfl, hm0, hm1⟩ := HG.out 12 (by simp [hpre])
      go_simp
      exact HK.out _ _ ⟨upd U 13 (.int .i64 m), by simp [upd, e3], RInv.next HG.out (fun _ _ h => h) (⟨m, rfl, hm0, hm1⟩), HRd.out.more (by rw [keyCnt_same (by decide) (by decide) (by decide) (by decide)]; omega), HGr.out⟩
    · obtain ⟨m, e1, hm0, hm1⟩ := HG.out 13 (by simp [hpre])
      go_simp
      go_wp2_with (go_at_call 136; refine (l3Plain_any _ _ (by omega) (by omega)).mono ?_; rintro e w' ⟨s, rfl, hs, hb⟩)
      have hgb : W.grownBy w' (some g) := ⟨hb.os, hb.tape, hb.output, hb.size, fun i hi _ => hb.block i hi⟩
      exact HK.out _ _ ⟨upd U 14 (.string s), by simp [upd, e1], RInv.next HG.out (fun _ u h => keyGood_stable hgb u h) ⟨s, rfl, hs⟩, (HRd.out.below hb HRd.out.lt).more (by rw [keyCnt_same (by decide) (by decide) (by decide) (by decide)]; omega), HGr.out.trans hgb⟩
    · obtain ⟨s, e1, hs⟩ := HG.out 4 (by simp [hpre])
      obtain ⟨s', e2, hs'⟩ := HG.out 14 (by simp [hpre])
      go_simp
      go_wp2_with fail
      exact HK.out _ _ ⟨upd U 15 (.string (s ++ s')), by simp [upd, e1, e2], RInv.next HG.out (fun _ _ h => h) (⟨_, rfl, by rw [append_size]; omega⟩), HRd.out.more (by rw [keyCnt_same (by decide) (by decide) (by decide) (by decide)]; omega), HGr.out⟩
    · obtain ⟨s, e1, hs⟩ := HG.out 15 (by simp [hpre])
      go_simp
      exact HK.out _ _ ⟨upd U 16 (.string s), by simp [upd, e1], RInv.next HG.out (fun _ _ h => h) (⟨s, rfl, hs⟩), HRd.out.more (by rw [keyCnt_same (by decide) (by decide) (by decide) (by decide)]; omega), HGr.out⟩
  case hend =>
    rintro L a W hL ⟨U, rfl, hG, hRd, hGr⟩
    obtain ⟨s, e16, hs⟩ := hG 16 (hL 16 (by decide))
    have hcb := keyCnt_bound L
    have HD : Hid (Drew g (P + 4) w W) := ⟨hRd.more (by omega), hGr⟩
    clear hG hRd hGr
    unfold keyFrame
    go_wp2_with fail
    refine (odd_any _ g _ _ HD.out.1 (by omega) hn).mono ?_
    rintro e w1 ⟨bb, rfl, hbb, hd1⟩
    have HD1 := Lib.hid (HD.out.trans hd1)
    clear hbb hd1 HD
    cases bb
    · go_wp2
      go_ret
      exact ⟨s, rfl, by omega, HD1.out.1.more (by omega), HD1.out.2⟩
    · have hz1 := HD1.out.1.lt
      have HA := Lib.hid (HD1.out.alloc (.cells #[.string ⟨#[]⟩, .string ⟨#[115]⟩, .string ⟨#[83, 49]⟩, .string ⟨#[115, 49, 50, 51]⟩, .string ⟨#[49, 115]⟩, .string ⟨#[115, 97]⟩] 9))
      have HL := Lib.hid (lit6 w1)
      go_wp2_with fail
      refine (pick_rds _ g _ _ HA.out.1 (by omega) (by omega)).mono ?_
      rintro e w2 ⟨m, rfl, hm0, hm1, hd2⟩
      obtain ⟨k, rfl⟩ := Int.eq_ofNat_of_zero_le hm0
      have hk : k < 6 := by have := hm1 (by omega); omega
      obtain ⟨x, hx, s6, rfl, hs6⟩ := HL.out k hk
      have hx2 := hd2.2.cell hx (fun e => by have := Option.some.inj e; simp at this; omega)
      have HD2 := Lib.hid (HA.out.trans hd2)
      clear hm0 hm1 hd2 hx HA HL HD1
      go_wp2
      go_ret
      exact ⟨s6, rfl, by omega, HD2.out.1.more (by omega), HD2.out.2⟩

end Go.Proofs.Ytkamlibfcakblaa
