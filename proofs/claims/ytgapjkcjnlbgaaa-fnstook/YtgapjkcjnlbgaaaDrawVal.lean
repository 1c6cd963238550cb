/- Drawn numbers, and drawn writes. -/
import Derived.Test.YtgapjkcjnlbgaaaDrawKey2
import Derived.Test.YtgapjkcjnlbgaaaGet
namespace Go.Proofs.Ytgapjkcjnlbgaaa
open Go.RowKit

theorem OwnInts.drew {w w' : World} {g lo : Nat} {P : Int} {v : Value} {xs : List Int} (h : OwnInts w lo v xs) (hd : Drew g P w w') (hg : g < lo) : OwnInts w' lo v xs :=
  h.kept hd.2 (by
    cases hv : v.ownBlock with
    | none => exact .inl rfl
    | some b =>
      refine .inr fun e => ?_
      have h1 := (h.lt b hv).1
      have h2 : b = g := Option.some.inj e
      omega)
theorem OwnInts.lit (w : World) (lo : Nat) (hlo : lo ≤ w.heap.size) (xs : List Int) (hl : xs.length ≤ maxLen) : OwnInts (w.alloc (.cells (xs.map (Value.int .i64)).toArray 3)) lo (.slice (some ⟨w.heap.size, 0, none⟩) xs.length xs.length) xs := by
  have := World.ownsRow_lit (base := lo) (e := 3) (size := 1) w (xs.map (Value.int .i64)).toArray xs.length hlo hl (by simp)
  simpa [OwnInts] using this
theorem Ints.one (w : World) (m : Int) : Ints (w.alloc (.cells #[.int .i64 m] 3)) (w.alloc (.cells #[.int .i64 m] 3)).heap.size (.slice (some ⟨w.heap.size, 0, none⟩) 1 1) [m] :=
  (OwnInts.lit w 0 (Nat.zero_le _) [m] (by unfold maxLen; simp)).ints
theorem OwnInts.alloc {w : World} {lo : Nat} {v : Value} {xs : List Int} (h : OwnInts w lo v xs) (o : Obj) : OwnInts (w.alloc o) lo v xs := h.below (belowOne w o)

/-- The literals of numbers with something wrong. -/
def valLits (w : World) : World := ((((w.alloc (.cells #[] 3)).alloc (.cells #[.int .i64 (-1)] 3)).alloc (.cells #[.int .i64 10000] 3)).alloc (.cells #[.int .i64 1, .int .i64 2, .int .i64 3, .int .i64 4] 3)).alloc (.cells #[.slice (some ⟨w.heap.size, 0, none⟩) 0 0, .slice (some ⟨w.heap.size + 1, 0, none⟩) 1 1, .slice (some ⟨w.heap.size + 1 + 1, 0, none⟩) 1 1, .slice (some ⟨w.heap.size + 1 + 1 + 1, 0, none⟩) 4 4] 32)
theorem valLits_at (w : World) (lo : Nat) (hlo : lo ≤ w.heap.size) : ∀ k, k < 4 → ∃ u ys, (valLits w).cell? ⟨w.heap.size + 1 + 1 + 1 + 1, k, none⟩ = some u ∧ ys.length ≤ 4 ∧ OwnInts (valLits w) lo u ys := by
  intro k hk
  have hm : ∀ n, n ≤ 4 → n ≤ maxLen := fun n hn => by unfold maxLen; omega
  unfold valLits
  have h0 := OwnInts.lit w lo hlo [] (hm _ (by decide))
  have h1 := OwnInts.lit (w.alloc (.cells #[] 3)) lo (by simp; omega) [-1] (hm _ (by decide))
  have h2 := OwnInts.lit ((w.alloc (.cells #[] 3)).alloc (.cells #[.int .i64 (-1)] 3)) lo (by simp; omega) [10000] (hm _ (by decide))
  have h3 := OwnInts.lit (((w.alloc (.cells #[] 3)).alloc (.cells #[.int .i64 (-1)] 3)).alloc (.cells #[.int .i64 10000] 3)) lo (by simp; omega) [1, 2, 3, 4] (hm _ (by decide))
  have hz : ((((w.alloc (.cells #[] 3)).alloc (.cells #[.int .i64 (-1)] 3)).alloc (.cells #[.int .i64 10000] 3)).alloc (.cells #[.int .i64 1, .int .i64 2, .int .i64 3, .int .i64 4] 3)).heap.size = w.heap.size + 1 + 1 + 1 + 1 := by simp
  have hH := Held.new ((((w.alloc (.cells #[] 3)).alloc (.cells #[.int .i64 (-1)] 3)).alloc (.cells #[.int .i64 10000] 3)).alloc (.cells #[.int .i64 1, .int .i64 2, .int .i64 3, .int .i64 4] 3)) #[.slice (some ⟨w.heap.size, 0, none⟩) 0 0, .slice (some ⟨w.heap.size + 1, 0, none⟩) 1 1, .slice (some ⟨w.heap.size + 1 + 1, 0, none⟩) 1 1, .slice (some ⟨w.heap.size + 1 + 1 + 1, 0, none⟩) 4 4] 32
  rw [hz] at hH
  rcases (by omega : k = 0 ∨ k = 1 ∨ k = 2 ∨ k = 3) with rfl | rfl | rfl | rfl
  · exact ⟨_, [], hH.of 0 _ rfl, by decide, (((h0.alloc _).alloc _).alloc _).alloc _⟩
  · exact ⟨_, [-1], hH.of 1 _ rfl, by decide, by simpa using ((h1.alloc _).alloc _).alloc _⟩
  · exact ⟨_, [10000], hH.of 2 _ rfl, by decide, by simpa using (h2.alloc _).alloc _⟩
  · exact ⟨_, [1, 2, 3, 4], hH.of 3 _ rfl, by decide, by simpa using h3.alloc _⟩

/-- What a draw of numbers leaves. -/
def DrewInts (g : Nat) (P : Int) (w : World) (e : Ending) (w' : World) : Prop :=
  ∃ v xs, e = .returned v ∧ xs.length ≤ 4 ∧ OwnInts w' w.heap.size v xs ∧ Drew g P w w'

set_option maxRecDepth 100000 in
set_option maxHeartbeats 1000000 in
theorem l20Val_any (w : World) (g : Nat) (P n : Int) (hr : Rds w g P) (hP0 : 0 ≤ P) (hP : P ≤ 900000000) (hn : n ≤ 1000000) :
    Calls Try.prog 73 #[.pointer (some ⟨g, 0, none⟩), .int .i64 n] w (DrewInts g (P + 10) w) := by
  have hgw := hr.lt
  go_enter Try.func73, Try.ntmps73
  go_wp2_with fail
  refine (pick_rds _ g _ _ hr (by omega) (by omega)).mono ?_
  rintro e w1 ⟨m, rfl, hm0, hm1, hd1⟩
  have HA := Lib.hid (hd1.alloc (.cells #[.int .i64 m] 3))
  have HO := Lib.hid (OwnInts.lit w1 w.heap.size hd1.2.size [m] (by unfold maxLen; simp))
  clear hr hm1 hd1 hm0
  go_wp2_with fail
  refine (pick_rds _ g _ _ HA.out.1 (by omega) (by omega)).mono ?_
  rintro e w2 ⟨k, rfl, hk0, hk1, hd2⟩
  obtain ⟨k, rfl⟩ := Int.eq_ofNat_of_zero_le hk0
  have hk : k < 3 := by have := hk1 (by omega); omega
  have HD2 := Lib.hid (HA.out.trans hd2)
  have HO2 := Lib.hid (HO.out.drew hd2 hgw)
  clear hk0 hk1 hd2 HA HO
  go_wp2
  go_loopw [5, 6] (fun a b wr => ∃ (xs : List Int) (j : Nat), OwnInts wr w.heap.size a xs ∧ b = .int .i64 j ∧ j ≤ 2 ∧ xs.length + j ≤ 3 ∧ Drew g (P + 4 - j) w wr) (fun _ b _ => (intOf b).toNat)
  case atStart => exact ⟨[m], k, HO2.out, rfl, by omega, by simp; omega, HD2.out.1.more (by omega), HD2.out.2⟩
  case round =>
    clear HD2 HO2
    obtain ⟨xs, j, hown, rfl, hj2, hxj, hd⟩ := hrel
    have HO := Lib.hid hown
    have HD := Lib.hid hd
    have hz : w.heap.size ≤ wr.heap.size := hd.2.size
    clear hown hd
    by_cases hj : 0 < j
    · go_wp2_with fail
      refine (pick_rds _ g _ _ HD.out.1 (by omega) (by omega)).mono ?_
      rintro e w3 ⟨q, rfl, hq0, hq1, hd3⟩
      have HD3 := Lib.hid (HD.out.trans hd3)
      have HO3 := Lib.hid ((HO.out.drew hd3 hgw).alloc (.cells #[.int .i64 q] 3))
      have hz3 : w.heap.size ≤ w3.heap.size := Nat.le_trans hz hd3.2.size
      clear hq0 hq1 hd3 HD HO hz
      go_wp2_with (at_builtin; refine wpl_append_ints rfl _ _ rfl w.heap.size _ xs rfl HO3.out _ _ _ [q] rfl (Ints.one w3 q) (by simp; omega) (by simp; omega) ?_; intro u w4 hown4 hg4; have HO4 := Lib.hid hown4; have HG4 := Lib.hid hg4; clear hown4 hg4)
      have HD4 := Lib.hid ((HD3.out.alloc _).grown HG4.out (fun k hk => (HO3.out.lt k hk).1) hgw)
      clear HD3 HO3 HG4
      go_wp2
      go_roundw
      case rel => exact ⟨xs ++ [q], j - 1, HO4.out, by go_num, by omega, by simp; omega, HD4.out.1.more (by omega), HD4.out.2⟩
      case measure => simp [intOf]; omega
    · go_wp2_with fail
      refine (odd_any _ g _ _ HD.out.1 (by omega) hn).mono ?_
      rintro e w3 ⟨bb, rfl, hbb, hd3⟩
      have HD3 := Lib.hid (HD.out.trans hd3)
      have HO3 := Lib.hid (HO.out.drew hd3 hgw)
      have hz3 : w.heap.size ≤ w3.heap.size := Nat.le_trans hz hd3.2.size
      clear hbb hd3 HD HO hz
      cases bb
      · go_wp2
        go_ret
        exact ⟨_, xs, rfl, by omega, HO3.out, HD3.out.1.more (by omega), HD3.out.2⟩
      · have HL := Lib.hid (valLits_at w3 w.heap.size hz3)
        have HA := Lib.hid (show Drew g (P + 4 - j + 1) w (valLits w3) from ((((HD3.out.alloc _).alloc _).alloc _).alloc _).alloc _)
        go_wp2_with fail
        refine (pick_rds (valLits w3) g _ _ HA.out.1 (by omega) (by omega)).mono ?_
        rintro e w4 ⟨m4, rfl, hm0, hm1, hd4⟩
        obtain ⟨q, rfl⟩ := Int.eq_ofNat_of_zero_le hm0
        have hq : q < 4 := by have := hm1 (by omega); omega
        obtain ⟨u, ys, hx, hys, hown⟩ := HL.out q hq
        have hx2 := hd4.2.cell hx (fun e => by have := Option.some.inj e; simp at this; omega)
        obtain ⟨Au, cu, huf, -, -⟩ := hown.ints.form
        have HO4 := Lib.hid (hown.drew hd4 hgw)
        have HD4 := Lib.hid (HA.out.trans hd4)
        subst huf
        clear hm0 hm1 hd4 hx hown HA HL HD3 HO3
        go_wp2
        go_ret
        exact ⟨_, ys, rfl, hys, HO4.out, HD4.out.1.more (by omega), HD4.out.2⟩

end Go.Proofs.Ytgapjkcjnlbgaaa
