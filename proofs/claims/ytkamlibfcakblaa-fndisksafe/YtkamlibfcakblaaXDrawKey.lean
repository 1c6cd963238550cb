/- Texts that follow each other, merged: DrawKey, Open, FrameCode. -/
import Derived.Test.YtkamlibfcakblaaXFrame
import Derived.Deep.RegionHeld3
import Derived.Deep.RegionWith
import Derived.WalkLawsBesides

/- Draws of names: odd, digits, names. -/
namespace Go.Proofs.Ytkamlibfcakblaa
open Go.RowKit

/-- A reader that has come to some place up to P. -/
def Rds (w : World) (g : Nat) (P : Int) : Prop := ∃ p, 0 ≤ p ∧ p ≤ P ∧ Rd w g p
section
variable {w w' : World} {g : Nat} {P P' : Int}
theorem Rds.lt (h : Rds w g P) : g < w.heap.size := by obtain ⟨p, _, _, h⟩ := h; exact h.lt
theorem Rds.below {B : Nat} (h : Rds w g P) (hb : Below B w w') (hB : g < B) : Rds w' g P := by
  obtain ⟨p, h0, h1, h⟩ := h; exact ⟨p, h0, h1, h.below hb hB⟩
theorem Rds.grown {row : Option Nat} (h : Rds w g P) (hg : w.grownBy w' row) (hr : ∀ k, row = some k → g < k) : Rds w' g P := by
  obtain ⟨p, h0, h1, h⟩ := h; exact ⟨p, h0, h1, h.grown hg hr⟩
theorem Rds.more (h : Rds w g P) (hP : P ≤ P') : Rds w g P' := by obtain ⟨p, h0, h1, h⟩ := h; exact ⟨p, h0, by omega, h⟩
theorem Rds.alloc (h : Rds w g P) (o : Obj) : Rds (w.alloc o) g P := h.below ((Below.refl _ _).alloc (Nat.le_refl _) o) h.lt
end

/-- What a draw leaves of the world: the reader at most so much further on; nothing else that was there has turned. -/
def Drew (g : Nat) (P : Int) (w w' : World) : Prop := Rds w' g P ∧ w.grownBy w' (some g)
theorem Drew.trans {g : Nat} {P P' : Int} {a b c : World} (h : Drew g P a b) (k : Drew g P' b c) : Drew g P' a c := ⟨k.1, h.2.trans k.2⟩
theorem Drew.then_ {g : Nat} {P : Int} {a b c : World} (h : Drew g P a b) (k : Below b.heap.size b c) : Drew g P a c :=
  ⟨h.1.below k h.1.lt, h.2.trans ⟨k.os, k.tape, k.output, k.size, fun i hi _ => k.block i hi⟩⟩
theorem Drew.alloc {g : Nat} {P : Int} {a b : World} (h : Drew g P a b) (o : Obj) : Drew g P a (b.alloc o) := h.then_ (belowOne b o)
theorem Drew.grown {g : Nat} {P : Int} {w a b : World} {row : Option Nat} (h : Drew g P w a) (hg : a.grownBy b row) (hr : ∀ k, row = some k → w.heap.size ≤ k) (hgw : g < w.heap.size) : Drew g P w b :=
  ⟨h.1.grown hg (fun k hk => Nat.lt_of_lt_of_le hgw (hr k hk)), hg.os.trans h.2.os, hg.tape.trans h.2.tape, hg.output.trans h.2.output, Nat.le_trans h.2.size hg.size,
    fun i hi hne => (hg.block i (Nat.lt_of_lt_of_le hi h.2.size) (fun e => by have := hr i e.symm; omega)).trans (h.2.block i hi hne)⟩
theorem Drew.below {g : Nat} {P : Int} {a b : World} (h : Drew g P a b) {B : Nat} (hB : B ≤ g) (hs : B ≤ a.heap.size) : Below B a b :=
  ⟨h.2.os, h.2.tape, h.2.output, h.2.size, fun k hk => h.2.block k (by omega) (fun e => by injection e with e; omega)⟩

theorem pick_rds (w : World) (g : Nat) (P n : Int) (hr : Rds w g P) (hP : P ≤ 1000000000) (hn : n ≤ 1000000) :
    Calls Try.prog 59 #[.pointer (some ⟨g, 0, none⟩), .int .i64 n] w fun e w' =>
      ∃ m : Int, e = .returned (.int .i64 m) ∧ 0 ≤ m ∧ (1 ≤ n → m < n) ∧ Drew g (P + 1) w w' := by
  obtain ⟨p, h0, h1, hr⟩ := hr
  refine (pick_any w g p n hr h0 (by omega) hn).mono ?_
  rintro e w' ⟨m, rfl, a, b, c, d⟩
  exact ⟨m, rfl, a, b, ⟨p + 1, by omega, by omega, c⟩, d⟩

theorem odd_any (w : World) (g : Nat) (P n : Int) (hr : Rds w g P) (hP : P ≤ 1000000000) (hn : n ≤ 1000000) :
    Calls Try.prog 76 #[.pointer (some ⟨g, 0, none⟩), .int .i64 n] w fun e w' =>
      ∃ b : Bool, e = .returned (.bool b) ∧ (n < 1 → b = false) ∧ Drew g (P + 1) w w' := by
  by_cases h : n < 1
  · have hd : decide (0 < n) = false := by simp; omega
    go_enter Try.func76, Try.ntmps76
    go_wp2
    go_ret
    exact ⟨false, rfl, fun _ => rfl, hr.more (by omega), World.grownBy.refl _ _⟩
  · have h' : 0 < n := by omega
    clear h
    go_enter Try.func76, Try.ntmps76
    go_wp2_with (go_at_call 59; refine (pick_rds _ _ _ _ hr hP hn).mono ?_; rintro e w' ⟨m, rfl, hm0, hm1, hd⟩)
    go_ret
    exact ⟨_, rfl, fun h => absurd h (by omega), by assumption⟩

/-- One digit. -/
def digS (n : Int) : ByteArray := strOfNums [48 + n]
theorem digS_size (n : Int) : (digS n).size = 1 := strOfNums_size _

set_option maxRecDepth 100000 in
theorem l3Digit_any (w : World) (n : Int) (h0 : 0 ≤ n) (h9 : n ≤ 9) :
    Calls Try.prog 148 #[.int .i64 n] w fun e w' => e = .returned (.string (digS n)) ∧ Below w.heap.size w w' := by
  have hcv := run_convert_bytes_arg (P := Try.prog) (w.alloc (.cells #[.int .u8 (48 + n)] 5)) 22 5 Try.underlying22 Try.underlying5 w.heap.size 0 1 1 [48 + n] rfl
    (fun i hi => by have : i = 0 := by omega
                    subst this; simp) 9 Try.underlying9
  go_enter Try.func148, Try.ntmps148
  go_wp2
  go_ret
  exact ⟨rfl, belowOne _ _⟩

theorem append_size (a b : ByteArray) : (a ++ b).size = a.size + b.size := by simp

theorem l3Plain_any (w : World) (n : Int) (h0 : 0 ≤ n) (h9 : n ≤ 1000000) :
    Calls Try.prog 136 #[.int .i64 n] w fun e w' => ∃ s : ByteArray, e = .returned (.string s) ∧ s.size ≤ 1000001 ∧ Below w.heap.size w w' := by
  go_enter Try.func136, Try.ntmps136
  go_wp2
  go_loopw [0, 3] (fun i o wr => ∃ (m : Int) (s : ByteArray), i = .int .i64 m ∧ o = .string s ∧ 0 ≤ m ∧ m ≤ 1000000 ∧ (s.size : Int) ≤ 1000000 - m ∧ Below w.heap.size w wr) (fun i _ _ => (intOf i).toNat)
  case atStart => exact ⟨n, _, rfl, rfl, h0, h9, by show ((0 : Nat) : Int) ≤ _; omega, Below.refl _ _⟩
  case round =>
    obtain ⟨m, s, rfl, rfl, hm0, hm1, hs, hb⟩ := hrel
    by_cases h : 9 < m
    · have hd := digS_size (m % 10)
      have HD := Lib.hid hd
      have hd1 : (digS (m % 10)).size ≤ 1 := by omega
      clear hd
      go_wp2_with (go_at_call 148; refine (l3Digit_any _ _ (by omega) (by omega)).mono ?_; rintro e w1 ⟨rfl, hb1⟩; have hq := belowNext hb hb1; clear hb1)
      go_roundw
      case rel => exact ⟨m / 10, _, by go_num, rfl, by omega, by omega, by rw [append_size]; omega, by assumption⟩
      case measure => simp [intOf]; omega
    · have HD := Lib.hid (digS_size m)
      have hd1 : (digS m).size ≤ 1 := by have := HD.out; omega
      go_wp2_with (go_at_call 148; refine (l3Digit_any _ _ (by omega) (by omega)).mono ?_; rintro e w1 ⟨rfl, hb1⟩; have hq := belowNext hb hb1; clear hb1)
      go_ret
      exact ⟨_, rfl, by rw [append_size]; omega, by assumption⟩

end Go.Proofs.Ytkamlibfcakblaa

/- A reader is opened over a code. -/
namespace Go.Proofs.Ytkamlibfcakblaa
open Go.RowKit

/-- A slice of bytes that came in. -/
def Code8 (w : World) (v : Value) (n : Nat) : Prop :=
  ∃ A c, ∃ f : Nat → Int, v = .slice A n c ∧ n ≤ c ∧ c ≤ maxLen ∧ (∀ j, 0 ≤ f j ∧ f j ≤ 255) ∧ (0 < n → ∃ b off, A = some ⟨b, off, none⟩ ∧ b < w.heap.size ∧ ∀ j, j < n → w.cell? ⟨b, off + j, none⟩ = some (.int .u8 (f j)))
theorem Code8.below {w w' : World} {v : Value} {n : Nat} (h : Code8 w v n) (hb : Below w.heap.size w w') : Code8 w' v n := by
  obtain ⟨A, c, f, hv, h1, h2, h3, h4⟩ := h
  refine ⟨A, c, f, hv, h1, h2, h3, fun hn => ?_⟩
  obtain ⟨b, off, hA, hlt, hc⟩ := h4 hn
  exact ⟨b, off, hA, Nat.lt_of_lt_of_le hlt hb.size, fun j hj => (hb.cell (p := ⟨b, off + j, none⟩) hlt).trans (hc j hj)⟩

theorem rd_new (w : World) (A : Option Addr) (n c : Nat) (f : Nat → Int) (h1 : n ≤ 2000) (h2 : n ≤ c) (h3 : c ≤ maxLen) (h4 : ∀ j, 0 ≤ f j ∧ f j ≤ 255)
    (h5 : 0 < n → ∃ b off, A = some ⟨b, off, none⟩ ∧ b < w.heap.size ∧ ∀ j, j < n → w.cell? ⟨b, off + j, none⟩ = some (.int .u8 (f j))) :
    Rd (w.alloc (.cells #[.slice A n c, .int .i64 0] 130)) w.heap.size 0 := by
  refine ⟨A, n, c, f, Go.Deep.blk_alloc_new _ _, h1, h2, h3, h4, fun hn => ?_⟩
  obtain ⟨b, off, hA, hlt, hc⟩ := h5 hn
  exact ⟨b, off, hA, hlt, fun j hj => ((belowOne w _).cell (p := ⟨b, off + j, none⟩) hlt).trans (hc j hj)⟩

theorem l20Open_any (w : World) (v : Value) (n : Nat) (hv : Code8 w v n) :
    Calls Try.prog 57 #[v] w fun e w' => e = .returned (.pointer (some ⟨w.heap.size, 0, none⟩)) ∧ Rd w' w.heap.size 0 ∧ Below w.heap.size w w' := by
  obtain ⟨A, c, f, rfl, h1, h2, h3, h4⟩ := hv
  by_cases hn : 2000 < n
  · obtain ⟨b, off, rfl, hlt, hc⟩ := h4 (by omega)
    have HR := Lib.hid (rd_new w (some ⟨b, off, none⟩) 2000 c f (Nat.le_refl _) (by omega) h2 h3 (fun _ => ⟨b, off, rfl, hlt, fun j hj => hc j (by omega)⟩))
    unfold maxLen at h2
    clear h3 h4 hc
    go_enter Try.func57, Try.ntmps57
    go_wp2
    go_ret
    exact ⟨rfl, HR.out, belowOne _ _⟩
  · have HR := Lib.hid (rd_new w A n c f (by omega) h1 h2 h3 h4)
    unfold maxLen at h2
    clear h3 h4
    go_enter Try.func57, Try.ntmps57
    go_wp2
    go_ret
    exact ⟨rfl, HR.out, belowOne _ _⟩

end Go.Proofs.Ytkamlibfcakblaa

/- From the reading of a code that came in to the words of Code8. -/
namespace Go.Proofs.Ytkamlibfcakblaa
open Go.ChangeShapes Go.WideShapes Go.ChangeAt Go.RowKit Go.Joins

section
variable {H : Type} {enc : TypeId × Value → H} {W : World}
theorem wf_u8 {n : Int} (h : (Lit.int .u8 n).wf = true) : 0 ≤ n ∧ n ≤ 255 := by
  simpa [Lit.wf, IntKind.min, IntKind.max, IntKind.signed, IntKind.bits] using h
set_option maxRecDepth 100000 in
theorem codeOf {b0 : Nat} {v : Value} {d : DataW H} {p : List MemPlace} (hv : Value.okWide Try.prog W .any b0 22 v) (h : DataW.Trod enc Try.prog W 0 (fun _ => true) true 22 v d p) :
    ∃ n, Code8 W v n := by
  obtain ⟨a0, len, cap, rfl⟩ := okWide_slice Try.underlying22 hv
  obtain ⟨fuel, hf⟩ := h
  rcases open_ints Try.underlying22 Try.underlying5 (by kernel_rfl) hf with ⟨hcs, _⟩ | ⟨a, l, c, zs, hcs, _, hl, hm, hz, _, hcell, hwz⟩
  · simp [Value.cells] at hcs
    obtain ⟨rfl, rfl, rfl⟩ := hcs
    exact ⟨0, none, 0, fun _ => 0, rfl, Nat.le_refl _, Nat.zero_le _, fun _ => ⟨by simp, by simp⟩, fun h => absurd h (by omega)⟩
  · simp [Value.cells] at hcs
    obtain ⟨rfl, rfl, rfl⟩ := hcs
    have hz' : zs.length = cap := by simpa using hz
    refine ⟨len, some a, cap, fun j => zs.getD j 0, rfl, hl, hm, fun j => ?_, fun hp => ?_⟩
    · show 0 ≤ zs.getD j 0 ∧ zs.getD j 0 ≤ 255
      rw [List.getD_eq_getElem?_getD]
      rcases Nat.lt_or_ge j zs.length with hj | hj
      · rw [List.getElem?_eq_getElem hj]
        exact wf_u8 (hwz _ (List.getElem_mem hj))
      · rw [List.getElem?_eq_none hj]; exact ⟨by decide, by decide⟩
    · obtain ⟨b, off, rfl, hc⟩ := ints_at hcell (by omega)
      have h0 := hc 0 (by omega)
      have hb : b < W.heap.size := by
        rcases Nat.lt_or_ge b W.heap.size with hlt | hge
        · exact hlt
        · simp [World.cell?, Array.getElem?_eq_none hge] at h0
      exact ⟨b, off, rfl, hb, fun j hj => hc j (by omega)⟩
end

end Go.Proofs.Ytkamlibfcakblaa
