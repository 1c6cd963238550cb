/- A reader is opened over a code. -/
import Derived.Test.YtgapjkcjnlbgaaaDrawWrt
namespace Go.Proofs.Ytgapjkcjnlbgaaa
open Go.RowKit

/-- A slice of bytes that came in. -/
def Code8 (w : World) (v : Value) (n : Nat) : Prop :=
  ∃ A c, ∃ f : Nat → Int, v = .slice A n c ∧ n ≤ c ∧ c ≤ maxLen ∧ (∀ j, 0 ≤ f j ∧ f j ≤ 255) ∧ (0 < n → ∃ b off, A = some ⟨b, off, none⟩ ∧ b < w.heap.size ∧ ∀ j, j < n → w.cell? ⟨b, off + j, none⟩ = some (.int .u8 (f j)))
theorem Code8.below {w w' : World} {v : Value} {n : Nat} (h : Code8 w v n) (hb : Below w.heap.size w w') : Code8 w' v n := by
  obtain ⟨A, c, f, hv, h1, h2, h3, h4⟩ := h
  refine ⟨A, c, f, hv, h1, h2, h3, fun hn => ?_⟩
  obtain ⟨b, off, hA, hlt, hc⟩ := h4 hn
  exact ⟨b, off, hA, Nat.lt_of_lt_of_le hlt hb.size, fun j hj => (hb.cell (p := ⟨b, off + j, none⟩) hlt).trans (hc j hj)⟩

theorem rd_new (w : World) (A : Option Addr) (n c : Nat) (f : Nat → Int) (h1 : n ≤ 2000) (h2 : n ≤ c) (h3 : c ≤ maxLen) (h4 : ∀ j, 0 ≤ f j ∧ f j ≤ 255)
    (h5 : 0 < n → ∃ b off, A = some ⟨b, off, none⟩ ∧ b < w.heap.size ∧ ∀ j, j < n → w.cell? ⟨b, off + j, none⟩ = some (.int .u8 (f j))) :
    Rd (w.alloc (.cells #[.slice A n c, .int .i64 0] 95)) w.heap.size 0 := by
  refine ⟨A, n, c, f, Go.Deep.blk_alloc_new _ _, h1, h2, h3, h4, fun hn => ?_⟩
  obtain ⟨b, off, hA, hlt, hc⟩ := h5 hn
  exact ⟨b, off, hA, hlt, fun j hj => ((belowOne w _).cell (p := ⟨b, off + j, none⟩) hlt).trans (hc j hj)⟩

theorem l20Open_any (w : World) (v : Value) (n : Nat) (hv : Code8 w v n) :
    Calls Try.prog 44 #[v] w fun e w' => e = .returned (.pointer (some ⟨w.heap.size, 0, none⟩)) ∧ Rd w' w.heap.size 0 ∧ Below w.heap.size w w' := by
  obtain ⟨A, c, f, rfl, h1, h2, h3, h4⟩ := hv
  by_cases hn : 2000 < n
  · obtain ⟨b, off, rfl, hlt, hc⟩ := h4 (by omega)
    have HR := Lib.hid (rd_new w (some ⟨b, off, none⟩) 2000 c f (Nat.le_refl _) (by omega) h2 h3 (fun _ => ⟨b, off, rfl, hlt, fun j hj => hc j (by omega)⟩))
    unfold maxLen at h2
    clear h3 h4 hc
    go_enter Try.func44, Try.ntmps44
    go_wp2
    go_ret
    exact ⟨rfl, HR.out, belowOne _ _⟩
  · have HR := Lib.hid (rd_new w A n c f (by omega) h1 h2 h3 h4)
    unfold maxLen at h2
    clear h3 h4
    go_enter Try.func44, Try.ntmps44
    go_wp2
    go_ret
    exact ⟨rfl, HR.out, belowOne _ _⟩

/-- What a draw out of a code leaves of a write. -/
def DrawnWrite (w : World) (e : Ending) (w' : World) : Prop :=
  ∃ s d v xs, e = .returned (.agg #[.string s, .bool d, v]) ∧ s.size ≤ 1000002 ∧ xs.length ≤ 4 ∧ Ints w' w'.heap.size v xs ∧ Below w.heap.size w w'

set_option maxRecDepth 100000 in
theorem drawWrtOk_any (w : World) (v : Value) (n : Nat) (hv : Code8 w v n) : Calls Try.prog 26 #[v] w (DrawnWrite w) := by
  have HV := Lib.hid (hv.below (belowOne w (.cells #[.string ⟨#[]⟩, .bool false, .slice none 0 0] 45)))
  have HH := Lib.hid (Held.new w #[.string ⟨#[]⟩, .bool false, .slice none 0 0] 45)
  clear hv
  go_enter Try.func26, Try.ntmps26
  go_wp2_with fail
  refine (l20Open_any _ _ _ HV.out).mono ?_
  rintro e w1 ⟨rfl, hr, hb1⟩
  have HH1 := Lib.hid (HH.out.below hb1 HH.out.1)
  have HB1 := Lib.hid (belowNext (belowOne _ _) hb1)
  have hsz : (w.alloc (.cells #[.string ⟨#[]⟩, .bool false, .slice none 0 0] 45)).heap.size = w.heap.size + 1 := by simp
  rw [hsz] at hr
  have HR := Lib.hid (show Rds w1 (w.heap.size + 1) 0 from ⟨0, by omega, by omega, hr⟩)
  clear hsz
  clear hr hb1 HH HV
  go_wp2_with fail
  refine (l20Write_any _ _ _ _ HR.out (by omega) (by omega) (by omega)).mono ?_
  rintro e w2 ⟨s, d, u, xs, rfl, hs, hxs, hown, hd⟩
  obtain ⟨Au, cu, huf, -, -⟩ := hown.ints.form
  subst huf
  have HH2 := Lib.hid (HH1.out.drew hd (by omega))
  have HB2 := Lib.hid (HB1.out.trans (hd.below (by omega) HB1.out.size))
  have HO2 := Lib.hid hown
  have hlo : ∀ b, (Value.slice Au xs.length cu).ownBlock = some b → w1.heap.size ≤ b := fun b hb => (hown.lt b hb).1
  have HLo := Lib.hid hlo
  have hz1 : w.heap.size < w1.heap.size := HH1.out.1
  clear hown hd hlo HH1 HB1 HR
  obtain ⟨r0, r1, r2⟩ := HH2.out.cells
  have fr := HH2.out.2.1
  go_wp2
  obtain ⟨q0, q1, q2⟩ := (HH2.out.write3 (.string s) (.bool d) (.slice Au xs.length cu)).cells
  refine bodyPost_ret (v := .agg #[.string s, .bool d, .slice Au xs.length cu]) (by simp [results, Try.results26, go_sem, q0, q1, q2]) rfl ⟨s, d, _, xs, rfl, hs, hxs, ?_, ?_⟩
  · exact (HO2.out.write3 w.heap.size (fun b hb => by have := HLo.out b hb; omega) _ _ _).ints
  · exact ((HB2.out.setCell (p := ⟨w.heap.size, 0, none⟩) (Nat.le_refl _) _).setCell (p := ⟨w.heap.size, 1, none⟩) (Nat.le_refl _) _).setCell (p := ⟨w.heap.size, 2, none⟩) (Nat.le_refl _) _

end Go.Proofs.Ytgapjkcjnlbgaaa
