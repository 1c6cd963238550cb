/- The walk of FnWrtOk. -/
import Derived.Test.YtgapjkcjnlbgaaaDrawOpen
import Derived.Test.YtgapjkcjnlbgaaaWrt
namespace Go.Proofs.Ytgapjkcjnlbgaaa
open Go.RowKit

theorem wrtB_flip {key : ByteArray} {del : Bool} {xs : List Int} (h : wrtB key del xs = true) : wrtB key (!del) xs = false := by
  unfold wrtB valB at *
  cases del <;> cases xs <;> simp at *
theorem wrtB_nokey {key : ByteArray} {del : Bool} {xs : List Int} (h : key.size = 0) : wrtB key del xs = false := wrtB_key (keyB_size (by omega))
theorem wrtB_goes {key : ByteArray} {del : Bool} {xs : List Int} (h : wrtB key del xs = true) : wrtB key true [] = true := by
  unfold wrtB at *; simp at *; exact h.1
theorem wrtB_nought {key : ByteArray} {del : Bool} {xs : List Int} (h : wrtB key del xs = true) : wrtB key false [0] = true := by
  unfold wrtB at *; simp [valB] at *; exact h.1

set_option maxRecDepth 100000 in
theorem jaOk_any (w : World) : Calls Try.prog 16 #[] w fun e w' => e = .returned (.bool true) ∧ Below w.heap.size w w' := by
  have HI := Lib.hid (Ints.one w 1)
  have HK : Hid (wrtB ⟨#[97, 49]⟩ false [1] = true) := by show wrtB ⟨#[97, 49]⟩ false [1] = true; decide
  go_enter Try.func16, Try.ntmps16
  go_wp2_with fail
  refine (implWrtOk_any _ _ _ _ [1] (by show 2 ≤ _; unfold maxLen; omega) HI.out).mono ?_
  rintro e w1 ⟨rfl, hb1⟩
  rw [HK.out]
  have HB := Lib.hid (belowNext (belowOne _ _) hb1)
  clear hb1
  go_wp2
  go_ret
  exact ⟨rfl, HB.out⟩

set_option maxRecDepth 100000 in
set_option maxHeartbeats 1000000 in
theorem lawWrtOk_any (w : World) (v : Value) (n : Nat) (hv : Code8 w v n) :
    Calls Try.prog 7 #[v] w fun e w' => e = .returned (.bool true) ∧ Below w.heap.size w w' := by
  have HV := Lib.hid hv
  obtain ⟨A, c, f, rfl, h1, h2, -, -⟩ := hv
  unfold maxLen at h2
  by_cases hn : 1048576 < n
  · clear HV
    go_enter Try.func7, Try.ntmps7
    go_wp2
    go_ret
    exact ⟨rfl, Below.refl _ _⟩
  · have hn' : n ≤ 1048576 := by omega
    clear hn
    go_enter Try.func7, Try.ntmps7
    go_wp2_with fail
    refine (drawWrtOk_any _ _ _ HV.out).mono ?_
    rintro e w1 ⟨s, d, u, xs, rfl, hs, hxs, hu, hb1⟩
    obtain ⟨Au, cu, huf, -, -⟩ := hu.form
    subst huf
    have HU := Lib.hid (hu.alloc (Nat.le_refl _) (.cells #[.string s, .bool d, .slice Au xs.length cu] 45))
    have HX := Lib.hid (Held.new w1 #[.string s, .bool d, .slice Au xs.length cu] 45)
    have HB := Lib.hid (hb1.alloc hb1.size (.cells #[.string s, .bool d, .slice Au xs.length cu] 45))
    have hsm : s.size ≤ maxLen := by unfold maxLen; omega
    have hz1 : w.heap.size ≤ w1.heap.size := hb1.size
    clear hu hb1 HV
    go_wp2_with fail
    refine (implWrtOk_any _ _ _ _ xs hsm (HU.out.more (by simp))).mono ?_
    rintro e w2 ⟨rfl, hb2⟩
    have HU2 := Lib.hid (HU.out.below (hb2.mono (by simp)))
    have HX2 := Lib.hid (HX.out.below hb2 HX.out.1)
    have HB2 := Lib.hid (HB.out.trans (hb2.mono (by simp; omega)))
    clear hb2 HU HX HB
    have hz2 : w1.heap.size < w2.heap.size := HX2.out.1
    obtain ⟨x0, x1, x2⟩ := HX2.out.cells
    go_wp2_with fail
    refine (specWrtOk_any _ _ _ _ xs hsm (HU2.out.more (by omega))).mono ?_
    rintro e w3 ⟨rfl, hb3⟩
    have HU3 := Lib.hid (HU2.out.below (hb3.mono (by omega)))
    have HX3 := Lib.hid (HX2.out.below hb3 hz2)
    have HB3 := Lib.hid (HB2.out.trans (hb3.mono (by omega)))
    clear hb3 HU2 HX2 HB2 x0 x1 x2
    have hz3 : w1.heap.size < w3.heap.size := HX3.out.1
    obtain ⟨x0, x1, x2⟩ := HX3.out.cells
    rcases hok : wrtB s d xs
    · go_wp2_with (go_at_call 16; refine (jaOk_any _).mono ?_; rintro e w4 ⟨rfl, hb4⟩; have HB4 := Lib.hid (HB3.out.trans (hb4.mono (by omega))); clear hb4)
      go_ret
      exact ⟨rfl, HB4.out⟩
    · have H1 := Lib.hid (wrtB_flip hok)
      have H2 := Lib.hid (wrtB_nokey (key := ⟨#[]⟩) (del := d) (xs := xs) rfl)
      have H3 := Lib.hid (wrtB_goes hok)
      have H4 := Lib.hid (wrtB_nought hok)
      have HU4 := Lib.hid ((HU3.out.alloc (by omega) (.cells #[.string s, .bool (!d), .slice Au xs.length cu] 45)).alloc (by simp; omega) (.cells #[.string ⟨#[]⟩, .bool d, .slice Au xs.length cu] 45))
      have HX4 := Lib.hid ((HX3.out.after (.cells #[.string s, .bool (!d), .slice Au xs.length cu] 45)).after (.cells #[.string ⟨#[]⟩, .bool d, .slice Au xs.length cu] 45))
      have HB4 := Lib.hid ((HB3.out.alloc (by omega) (.cells #[.string s, .bool (!d), .slice Au xs.length cu] 45)).alloc (by simp; omega) (.cells #[.string ⟨#[]⟩, .bool d, .slice Au xs.length cu] 45))
      have HY4 := Lib.hid (Held.new (w3.alloc (.cells #[.string s, .bool (!d), .slice Au xs.length cu] 45)) #[.string ⟨#[]⟩, .bool d, .slice Au xs.length cu] 45)
      go_wp2_with fail
      refine (implWrtOk_any _ _ _ _ xs hsm (HU4.out.more (by simp; omega))).mono ?_
      rintro e w5 ⟨rfl, hb5⟩
      rw [H1.out]
      have HU5 := Lib.hid (HU4.out.below (hb5.mono (by simp; omega)))
      have HX5 := Lib.hid (HX4.out.below hb5 (by simp; omega))
      have HB5 := Lib.hid (HB4.out.trans (hb5.mono (by simp; omega)))
      have hsz : (w3.alloc (.cells #[.string s, .bool (!d), .slice Au xs.length cu] 45)).heap.size = w3.heap.size + 1 := by simp
      have HY5 := Lib.hid (HY4.out.below hb5 HY4.out.1)
      rw [hsz] at HY5
      clear hb5 HU4 HX4 HB4 HY4 HU3 HX3 HB3 x0 x1 x2 hsz
      have hz5 : w1.heap.size < w5.heap.size := HX5.out.1
      have hz5' : w3.heap.size + 1 < w5.heap.size := HY5.out.1
      obtain ⟨x0, x1, x2⟩ := HX5.out.cells
      obtain ⟨y0, y1, y2⟩ := HY5.out.cells
      go_wp2_with fail
      refine (implWrtOk_any _ _ _ _ xs (by show 0 ≤ _; unfold maxLen; omega) (HU5.out.more (by omega))).mono ?_
      rintro e w6 ⟨rfl, hb6⟩
      rw [H2.out]
      have HX6 := Lib.hid (HX5.out.below hb6 hz5)
      have HB6 := Lib.hid (HB5.out.trans (hb6.mono (by omega)))
      clear hb6 HU5 HX5 HB5 HY5 x0 x1 x2 y0 y1 y2 hz5'
      have hz6 : w1.heap.size < w6.heap.size := HX6.out.1
      obtain ⟨x0, x1, x2⟩ := HX6.out.cells
      go_wp2_with fail
      refine (implWrtOk_any _ _ _ _ [] hsm (ownNil w6 0).ints).mono ?_
      rintro e w7 ⟨rfl, hb7⟩
      rw [H3.out]
      have HX7 := Lib.hid (HX6.out.below hb7 hz6)
      have HB7 := Lib.hid (HB6.out.trans (hb7.mono (by omega)))
      clear hb7 HX6 HB6 x0 x1 x2
      have hz7 : w1.heap.size < w7.heap.size := HX7.out.1
      obtain ⟨x0, x1, x2⟩ := HX7.out.cells
      go_wp2_with fail
      refine (implWrtOk_any _ _ _ _ [0] hsm (Ints.one w7 0)).mono ?_
      rintro e w8 ⟨rfl, hb8⟩
      rw [H4.out]
      have HB8 := Lib.hid ((HB7.out.alloc (by omega) (.cells #[.int .i64 0] 3)).trans (hb8.mono (by simp; omega)))
      clear hb8
      go_wp2
      go_ret
      exact ⟨rfl, HB8.out⟩

end Go.Proofs.Ytgapjkcjnlbgaaa
