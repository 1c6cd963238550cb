/- Texts that follow each other, merged: HStoStore, PlcOkS. -/
import Derived.Test.YtecdibpiojgppaaGreatXHStr
import Derived.Test.YtecdibpiojgppaaGreatXCopyI
import Derived.Deep.RegionHeld3
import Derived.Test.YtecdibpiojgppaaGreatXPlcIt
import Derived.Test.YtecdibpiojgppaaGreatXTree

/- The helpers of the exact laws over StoStore: a count, a copy, a comparison, marks. By shgen.py. -/
namespace Go.Proofs.YtecdibpiojgppaaGreat
open Go.RowKit

end Go.Proofs.YtecdibpiojgppaaGreat

/- What the model's PlcOk answers. By plcgen2.py. -/
namespace Go.Proofs.YtecdibpiojgppaaGreat
open Go.RowKit

set_option maxRecDepth 100000 in
set_option maxHeartbeats 4000000 in
theorem l3Form1 (w : World) (v : Value) (its : List Item) (hv : Items w w.heap.size v its) (hE : Each its its.length) :
    Calls Tryz.prog 85 #[.int .i64 1, .agg #[v]] w fun e w' => e = .returned (.bool (formB 1 its)) ∧ Below w.heap.size w w' := by
  obtain ⟨A, c, rfl, hc2, hc1⟩ := hv.form
  unfold maxLen at hc2
  have HE := Lib.hid hE
  have HV := Lib.hid (hv.alloc (Nat.le_refl _) (.cells #[.slice A its.length c] 35))
  have HBx := Lib.hid (Held.new w #[.slice A its.length c] 35)
  have HWx := Lib.hid (belowOne w (.cells #[.slice A its.length c] 35))
  clear hv hE
  go_enter Tryz.func85, Tryz.ntmps85
  go_wp2
  generalize w.alloc (.cells #[.slice A its.length c] 35) = w0 at *
  have hzw : w.heap.size < w0.heap.size := HBx.out.1
  go_loopw [5] (fun i wr => ∃ k : Nat, k ≤ its.length ∧ i = .int .i64 k ∧ FormTo 1 its k ∧ Below w0.heap.size w0 wr) (fun i _ => its.length - (intOf i).toNat)
  case atStart => exact ⟨0, Nat.zero_le _, rfl, FormTo.start _ its, Below.refl _ _⟩
  case round =>
    obtain ⟨k, hk, rfl, he, hb⟩ := hrel
    have hzr : w0.heap.size ≤ wr.heap.size := hb.size
    have HWr := Lib.hid (HWx.out.trans (hb.mono (Nat.le_of_lt hzw)))
    have HVr := Lib.hid (HV.out.below (hb.mono (Nat.le_of_lt hzw)))
    have c0 := (HBx.out.below hb hzw).of 0 _ rfl
    have HBw := Lib.hid hb
    clear hb
    by_cases hlt : k < its.length
    · obtain ⟨b, off, c', it, u, e1, hit, hB, hs, ck, cu, hu⟩ := HVr.out.at_ (k := k) hlt
      injection e1 with e1a e1b e1c
      subst e1a
      clear e1b e1c
      have HI := Lib.hid hit
      obtain ⟨k2, k3, n1, n3, hnn⟩ := itemB_parts (HE.out k it hlt hit)
      obtain ⟨A', c'', rfl, d1, d2, hrow⟩ := hu
      obtain ⟨b', off', rfl, hb', hcell⟩ := hrow (by omega)
      have hbr : b' < wr.heap.size := by omega
      have v0 := hcell 0 (by omega)
      rw [Nat.add_zero] at v0
      have V1 := Lib.hid (hcell 1)
      have V2 := Lib.hid (hcell 2)
      have p0 := hnn 0 (by omega)
      have h0 : 0 < it.key.size := by omega
      obtain ⟨c, hc⟩ : ∃ c : Int, ((it.key[0]'h0).toNat : Int) = c := ⟨_, rfl⟩
      have HC := Lib.hid ((chr0_at h0).trans hc)
      have HX := Lib.hid (itP1 it.key it.val)
      unfold maxLen at d2
      clear hcell hnn hrow hit HVr
      by_cases h115 : c = 115
      · subst h115
        by_cases hn : it.val.length = 1
        · have gn : ((it.val.length : Int) == 1) = true := by simp [hn]
          have HN := Lib.hid hn
          clear hn
          by_cases hv0 : nth it.val 0 ≤ 9
          ·
            by_cases hk2 : it.key.size = 2
            · have gk : ((it.key.size : Int) != 2) = false := by simp; omega
              have HK := Lib.hid hk2
              clear hk2
              have HF := Lib.hid (he.step HI.out (HX.out.trans (decide_eq_true (by have := HC.out; (try have := HN.out); (try have := HK.out); omega))))
              go_wp2_with (go_at_call 41; refine (l1In_any _ _ _ _).mono ?_; rintro e w' ⟨rfl, rfl⟩)
              go_roundw
              case rel => exact ⟨k + 1, by omega, by go_num, HF.out, HBw.out.alloc (by omega) _⟩
              case measure => simp [intOf]; omega
            · have gk : ((it.key.size : Int) != 2) = true := by simp; omega
              have HK := Lib.hid hk2
              clear hk2
              have HF := Lib.hid (formB_bad HI.out (HX.out.trans (decide_eq_false (by have := HC.out; (try have := HN.out); (try have := HK.out); omega))))
              go_wp2_with (go_at_call 41; refine (l1In_any _ _ _ _).mono ?_; rintro e w' ⟨rfl, rfl⟩)
              go_ret
              exact ⟨ret_bool HF.out.symm, HWr.out.alloc (by omega) _⟩
          · have gv0 : 9 < nth it.val 0 := by omega
            clear hv0
            have HF := Lib.hid (formB_bad HI.out (HX.out.trans (decide_eq_false (by have := HC.out; (try have := HN.out); (try have := HK.out); omega))))
            go_wp2_with (go_at_call 41; refine (l1In_any _ _ _ _).mono ?_; rintro e w' ⟨rfl, rfl⟩)
            go_ret
            exact ⟨ret_bool HF.out.symm, HWr.out.alloc (by omega) _⟩
        · have gn : ((it.val.length : Int) == 1) = false := by simp; omega
          have HN := Lib.hid hn
          clear hn
          have HF := Lib.hid (formB_bad HI.out (HX.out.trans (decide_eq_false (by have := HC.out; (try have := HN.out); (try have := HK.out); omega))))
          go_wp2_with (go_at_call 41; refine (l1In_any _ _ _ _).mono ?_; rintro e w' ⟨rfl, rfl⟩)
          go_ret
          exact ⟨ret_bool HF.out.symm, HWr.out.alloc (by omega) _⟩
      · have g115 : (c == 115) = false := by simpa using h115
        have f115 : (c != 115) = true := by simpa using h115
        replace HC := Lib.hid (And.intro HC.out h115)
        clear h115
        have HF := Lib.hid (formB_bad HI.out (HX.out.trans (decide_eq_false (by have := HC.out; (try have := HN.out); (try have := HK.out); omega))))
        go_wp2_with (go_at_call 41; refine (l1In_any _ _ _ _).mono ?_; rintro e w' ⟨rfl, rfl⟩)
        go_ret
        exact ⟨ret_bool HF.out.symm, HWr.out.alloc (by omega) _⟩
    · have HF := Lib.hid (formB_all ((show k = its.length by omega) ▸ he))
      go_wp2
      go_ret
      exact ⟨ret_bool HF.out.symm, HWr.out⟩

set_option maxRecDepth 100000 in
set_option maxHeartbeats 4000000 in
theorem l3Form2 (w : World) (v : Value) (its : List Item) (hv : Items w w.heap.size v its) (hE : Each its its.length) :
    Calls Tryz.prog 85 #[.int .i64 2, .agg #[v]] w fun e w' => e = .returned (.bool (formB 2 its)) ∧ Below w.heap.size w w' := by
  obtain ⟨A, c, rfl, hc2, hc1⟩ := hv.form
  unfold maxLen at hc2
  have HE := Lib.hid hE
  have HV := Lib.hid (hv.alloc (Nat.le_refl _) (.cells #[.slice A its.length c] 35))
  have HBx := Lib.hid (Held.new w #[.slice A its.length c] 35)
  have HWx := Lib.hid (belowOne w (.cells #[.slice A its.length c] 35))
  clear hv hE
  go_enter Tryz.func85, Tryz.ntmps85
  go_wp2
  generalize w.alloc (.cells #[.slice A its.length c] 35) = w0 at *
  have hzw : w.heap.size < w0.heap.size := HBx.out.1
  go_loopw [5] (fun i wr => ∃ k : Nat, k ≤ its.length ∧ i = .int .i64 k ∧ FormTo 2 its k ∧ Below w0.heap.size w0 wr) (fun i _ => its.length - (intOf i).toNat)
  case atStart => exact ⟨0, Nat.zero_le _, rfl, FormTo.start _ its, Below.refl _ _⟩
  case round =>
    obtain ⟨k, hk, rfl, he, hb⟩ := hrel
    have hzr : w0.heap.size ≤ wr.heap.size := hb.size
    have HWr := Lib.hid (HWx.out.trans (hb.mono (Nat.le_of_lt hzw)))
    have HVr := Lib.hid (HV.out.below (hb.mono (Nat.le_of_lt hzw)))
    have c0 := (HBx.out.below hb hzw).of 0 _ rfl
    have HBw := Lib.hid hb
    clear hb
    by_cases hlt : k < its.length
    · obtain ⟨b, off, c', it, u, e1, hit, hB, hs, ck, cu, hu⟩ := HVr.out.at_ (k := k) hlt
      injection e1 with e1a e1b e1c
      subst e1a
      clear e1b e1c
      have HI := Lib.hid hit
      obtain ⟨k2, k3, n1, n3, hnn⟩ := itemB_parts (HE.out k it hlt hit)
      obtain ⟨A', c'', rfl, d1, d2, hrow⟩ := hu
      obtain ⟨b', off', rfl, hb', hcell⟩ := hrow (by omega)
      have hbr : b' < wr.heap.size := by omega
      have v0 := hcell 0 (by omega)
      rw [Nat.add_zero] at v0
      have V1 := Lib.hid (hcell 1)
      have V2 := Lib.hid (hcell 2)
      have p0 := hnn 0 (by omega)
      have h0 : 0 < it.key.size := by omega
      obtain ⟨c, hc⟩ : ∃ c : Int, ((it.key[0]'h0).toNat : Int) = c := ⟨_, rfl⟩
      have HC := Lib.hid ((chr0_at h0).trans hc)
      have HX := Lib.hid (itP2 it.key it.val)
      unfold maxLen at d2
      clear hcell hnn hrow hit HVr
      by_cases hv0 : nth it.val 0 ≤ 9
      ·
        by_cases h99 : c = 99
        · subst h99
          by_cases hn : it.val.length = 2
          · have gn : ((it.val.length : Int) == 2) = true := by simp [hn]
            have HN := Lib.hid hn
            clear hn
            by_cases hk2 : it.key.size = 2
            · have gk : ((it.key.size : Int) != 2) = false := by simp; omega
              have HK := Lib.hid hk2
              clear hk2
              have HF := Lib.hid (he.step HI.out (HX.out.trans (decide_eq_true (by have := HC.out; (try have := HN.out); (try have := HK.out); omega))))
              go_wp2_with (go_at_call 41; refine (l1In_any _ _ _ _).mono ?_; rintro e w' ⟨rfl, rfl⟩)
              go_roundw
              case rel => exact ⟨k + 1, by omega, by go_num, HF.out, HBw.out.alloc (by omega) _⟩
              case measure => simp [intOf]; omega
            · have gk : ((it.key.size : Int) != 2) = true := by simp; omega
              have HK := Lib.hid hk2
              clear hk2
              have HF := Lib.hid (formB_bad HI.out (HX.out.trans (decide_eq_false (by have := HC.out; (try have := HN.out); (try have := HK.out); omega))))
              go_wp2_with (go_at_call 41; refine (l1In_any _ _ _ _).mono ?_; rintro e w' ⟨rfl, rfl⟩)
              go_ret
              exact ⟨ret_bool HF.out.symm, HWr.out.alloc (by omega) _⟩
          · have gn : ((it.val.length : Int) == 2) = false := by simp; omega
            have HN := Lib.hid hn
            clear hn
            have HF := Lib.hid (formB_bad HI.out (HX.out.trans (decide_eq_false (by have := HC.out; (try have := HN.out); (try have := HK.out); omega))))
            go_wp2_with (go_at_call 41; refine (l1In_any _ _ _ _).mono ?_; rintro e w' ⟨rfl, rfl⟩)
            go_ret
            exact ⟨ret_bool HF.out.symm, HWr.out.alloc (by omega) _⟩
        · have g99 : (c == 99) = false := by simpa using h99
          have f99 : (c != 99) = true := by simpa using h99
          replace HC := Lib.hid (And.intro HC.out h99)
          clear h99
          by_cases h102 : c = 102
          · subst h102
            by_cases hn : it.val.length = 3
            · have gn : ((it.val.length : Int) == 3) = true := by simp [hn]
              have HN := Lib.hid hn
              clear hn
              have l1 : 1 < it.val.length := by have := HN.out; omega
              have l2 : 2 < it.val.length := by have := HN.out; omega
              have l3 : (1 : Int) < (it.val.length : Int) := by omega
              have l4 : (2 : Int) < (it.val.length : Int) := by omega
              have v1 := V1.out l1
              have v2 := V2.out l2
              by_cases hv1 : 1 ≤ nth it.val 1 ∧ nth it.val 1 ≤ 99
              · have gv1 := inB_yes hv1.1 hv1.2
                replace HC := Lib.hid (And.intro HC.out hv1)
                clear hv1
                by_cases hv2 : nth it.val 2 ≤ 1
                ·
                  by_cases hk2 : it.key.size = 2
                  · have gk : ((it.key.size : Int) != 2) = false := by simp; omega
                    have HK := Lib.hid hk2
                    clear hk2
                    have HF := Lib.hid (he.step HI.out (HX.out.trans (decide_eq_true (by have := HC.out; (try have := HN.out); (try have := HK.out); omega))))
                    go_wp2_with (go_at_call 41; refine (l1In_any _ _ _ _).mono ?_; rintro e w' ⟨rfl, rfl⟩)
                    go_roundw
                    case rel => exact ⟨k + 1, by omega, by go_num, HF.out, HBw.out.alloc (by omega) _⟩
                    case measure => simp [intOf]; omega
                  · have gk : ((it.key.size : Int) != 2) = true := by simp; omega
                    have HK := Lib.hid hk2
                    clear hk2
                    have HF := Lib.hid (formB_bad HI.out (HX.out.trans (decide_eq_false (by have := HC.out; (try have := HN.out); (try have := HK.out); omega))))
                    go_wp2_with (go_at_call 41; refine (l1In_any _ _ _ _).mono ?_; rintro e w' ⟨rfl, rfl⟩)
                    go_ret
                    exact ⟨ret_bool HF.out.symm, HWr.out.alloc (by omega) _⟩
                · have gv2 : 1 < nth it.val 2 := by omega
                  clear hv2
                  have HF := Lib.hid (formB_bad HI.out (HX.out.trans (decide_eq_false (by have := HC.out; (try have := HN.out); (try have := HK.out); omega))))
                  go_wp2_with (go_at_call 41; refine (l1In_any _ _ _ _).mono ?_; rintro e w' ⟨rfl, rfl⟩)
                  go_ret
                  exact ⟨ret_bool HF.out.symm, HWr.out.alloc (by omega) _⟩
              · have gv1 := inB_no (n := nth it.val 1) (lo := 1) (hi := 99) (by omega)
                replace HC := Lib.hid (And.intro HC.out hv1)
                clear hv1
                have HF := Lib.hid (formB_bad HI.out (HX.out.trans (decide_eq_false (by have := HC.out; (try have := HN.out); (try have := HK.out); omega))))
                go_wp2_with (go_at_call 41; refine (l1In_any _ _ _ _).mono ?_; rintro e w' ⟨rfl, rfl⟩)
                go_ret
                exact ⟨ret_bool HF.out.symm, HWr.out.alloc (by omega) _⟩
            · have gn : ((it.val.length : Int) == 3) = false := by simp; omega
              have HN := Lib.hid hn
              clear hn
              have HF := Lib.hid (formB_bad HI.out (HX.out.trans (decide_eq_false (by have := HC.out; (try have := HN.out); (try have := HK.out); omega))))
              go_wp2_with (go_at_call 41; refine (l1In_any _ _ _ _).mono ?_; rintro e w' ⟨rfl, rfl⟩)
              go_ret
              exact ⟨ret_bool HF.out.symm, HWr.out.alloc (by omega) _⟩
          · have g102 : (c == 102) = false := by simpa using h102
            have f102 : (c != 102) = true := by simpa using h102
            replace HC := Lib.hid (And.intro HC.out h102)
            clear h102
            have HF := Lib.hid (formB_bad HI.out (HX.out.trans (decide_eq_false (by have := HC.out; (try have := HN.out); (try have := HK.out); omega))))
            go_wp2_with (go_at_call 41; refine (l1In_any _ _ _ _).mono ?_; rintro e w' ⟨rfl, rfl⟩)
            go_ret
            exact ⟨ret_bool HF.out.symm, HWr.out.alloc (by omega) _⟩
      · have gv0 : 9 < nth it.val 0 := by omega
        clear hv0
        have HF := Lib.hid (formB_bad HI.out (HX.out.trans (decide_eq_false (by have := HC.out; (try have := HN.out); (try have := HK.out); omega))))
        go_wp2_with (go_at_call 41; refine (l1In_any _ _ _ _).mono ?_; rintro e w' ⟨rfl, rfl⟩)
        go_ret
        exact ⟨ret_bool HF.out.symm, HWr.out.alloc (by omega) _⟩
    · have HF := Lib.hid (formB_all ((show k = its.length by omega) ▸ he))
      go_wp2
      go_ret
      exact ⟨ret_bool HF.out.symm, HWr.out⟩

set_option maxRecDepth 100000 in
set_option maxHeartbeats 4000000 in
theorem l3Form3 (w : World) (v : Value) (its : List Item) (hv : Items w w.heap.size v its) (hE : Each its its.length) :
    Calls Tryz.prog 85 #[.int .i64 3, .agg #[v]] w fun e w' => e = .returned (.bool (formB 3 its)) ∧ Below w.heap.size w w' := by
  obtain ⟨A, c, rfl, hc2, hc1⟩ := hv.form
  unfold maxLen at hc2
  have HE := Lib.hid hE
  have HV := Lib.hid (hv.alloc (Nat.le_refl _) (.cells #[.slice A its.length c] 35))
  have HBx := Lib.hid (Held.new w #[.slice A its.length c] 35)
  have HWx := Lib.hid (belowOne w (.cells #[.slice A its.length c] 35))
  clear hv hE
  go_enter Tryz.func85, Tryz.ntmps85
  go_wp2
  generalize w.alloc (.cells #[.slice A its.length c] 35) = w0 at *
  have hzw : w.heap.size < w0.heap.size := HBx.out.1
  go_loopw [5] (fun i wr => ∃ k : Nat, k ≤ its.length ∧ i = .int .i64 k ∧ FormTo 3 its k ∧ Below w0.heap.size w0 wr) (fun i _ => its.length - (intOf i).toNat)
  case atStart => exact ⟨0, Nat.zero_le _, rfl, FormTo.start _ its, Below.refl _ _⟩
  case round =>
    obtain ⟨k, hk, rfl, he, hb⟩ := hrel
    have hzr : w0.heap.size ≤ wr.heap.size := hb.size
    have HWr := Lib.hid (HWx.out.trans (hb.mono (Nat.le_of_lt hzw)))
    have HVr := Lib.hid (HV.out.below (hb.mono (Nat.le_of_lt hzw)))
    have c0 := (HBx.out.below hb hzw).of 0 _ rfl
    have HBw := Lib.hid hb
    clear hb
    by_cases hlt : k < its.length
    · obtain ⟨b, off, c', it, u, e1, hit, hB, hs, ck, cu, hu⟩ := HVr.out.at_ (k := k) hlt
      injection e1 with e1a e1b e1c
      subst e1a
      clear e1b e1c
      have HI := Lib.hid hit
      obtain ⟨k2, k3, n1, n3, hnn⟩ := itemB_parts (HE.out k it hlt hit)
      obtain ⟨A', c'', rfl, d1, d2, hrow⟩ := hu
      obtain ⟨b', off', rfl, hb', hcell⟩ := hrow (by omega)
      have hbr : b' < wr.heap.size := by omega
      have v0 := hcell 0 (by omega)
      rw [Nat.add_zero] at v0
      have V1 := Lib.hid (hcell 1)
      have V2 := Lib.hid (hcell 2)
      have p0 := hnn 0 (by omega)
      have h0 : 0 < it.key.size := by omega
      obtain ⟨c, hc⟩ : ∃ c : Int, ((it.key[0]'h0).toNat : Int) = c := ⟨_, rfl⟩
      have HC := Lib.hid ((chr0_at h0).trans hc)
      have HX := Lib.hid (itP3 it.key it.val)
      unfold maxLen at d2
      clear hcell hnn hrow hit HVr
      by_cases h97 : c = 97
      · subst h97
        by_cases hn : it.val.length = 1
        · have gn : ((it.val.length : Int) == 1) = true := by simp [hn]
          have HN := Lib.hid hn
          clear hn
          have HF := Lib.hid (he.step HI.out (HX.out.trans (decide_eq_true (by have := HC.out; (try have := HN.out); (try have := HK.out); omega))))
          go_wp2_with (go_at_call 41; refine (l1In_any _ _ _ _).mono ?_; rintro e w' ⟨rfl, rfl⟩)
          go_roundw
          case rel => exact ⟨k + 1, by omega, by go_num, HF.out, HBw.out.alloc (by omega) _⟩
          case measure => simp [intOf]; omega
        · have gn : ((it.val.length : Int) == 1) = false := by simp; omega
          have HN := Lib.hid hn
          clear hn
          have HF := Lib.hid (formB_bad HI.out (HX.out.trans (decide_eq_false (by have := HC.out; (try have := HN.out); (try have := HK.out); omega))))
          go_wp2_with (go_at_call 41; refine (l1In_any _ _ _ _).mono ?_; rintro e w' ⟨rfl, rfl⟩)
          go_ret
          exact ⟨ret_bool HF.out.symm, HWr.out.alloc (by omega) _⟩
      · have g97 : (c == 97) = false := by simpa using h97
        have f97 : (c != 97) = true := by simpa using h97
        replace HC := Lib.hid (And.intro HC.out h97)
        clear h97
        have HF := Lib.hid (formB_bad HI.out (HX.out.trans (decide_eq_false (by have := HC.out; (try have := HN.out); (try have := HK.out); omega))))
        go_wp2_with (go_at_call 41; refine (l1In_any _ _ _ _).mono ?_; rintro e w' ⟨rfl, rfl⟩)
        go_ret
        exact ⟨ret_bool HF.out.symm, HWr.out.alloc (by omega) _⟩
    · have HF := Lib.hid (formB_all ((show k = its.length by omega) ▸ he))
      go_wp2
      go_ret
      exact ⟨ret_bool HF.out.symm, HWr.out⟩

theorem l3Form_any (w : World) (p : Int) (v : Value) (its : List Item) (hv : Items w w.heap.size v its) (hE : Each its its.length) (hp : p = 1 ∨ p = 2 ∨ p = 3) :
    Calls Tryz.prog 85 #[.int .i64 p, .agg #[v]] w fun e w' => e = .returned (.bool (formB p its)) ∧ Below w.heap.size w w' := by
  rcases hp with rfl | rfl | rfl
  · exact l3Form1 w v its hv hE
  · exact l3Form2 w v its hv hE
  · exact l3Form3 w v its hv hE

set_option maxRecDepth 100000 in
set_option maxHeartbeats 1000000 in
theorem specPlcOk_any (w : World) (p : Int) (v : Value) (its : List Item) (hv : Items w w.heap.size v its) :
    Calls Tryz.prog 51 #[.int .i64 p, .agg #[v]] w fun e w' => e = .returned (.bool (plcB p its)) ∧ Below w.heap.size w w' := by
  obtain ⟨A, c, rfl, hc2, hc1⟩ := hv.form
  unfold maxLen at hc2
  have HV := Lib.hid (hv.alloc (Nat.le_refl _) (.cells #[.slice A its.length c] 35))
  have HBx := Lib.hid (Held.new w #[.slice A its.length c] 35)
  have HWx := Lib.hid (belowOne w (.cells #[.slice A its.length c] 35))
  clear hv
  rcases hp : inB p 1 3
  · have HK := Lib.hid (plcB_place (its := its) hp)
    go_enter Tryz.func51, Tryz.ntmps51
    go_wp2_with (go_at_call 41; refine (l1In_any _ _ _ _).mono ?_; rintro e w' ⟨rfl, rfl⟩)
    go_ret
    exact ⟨ret_bool HK.out.symm, HWx.out⟩
  rcases hsb : stoB its
  · have HK := Lib.hid (plcB_sto (p := p) hsb)
    go_enter Tryz.func51, Tryz.ntmps51
    go_wp2_with (first | (go_at_call 41; refine (l1In_any _ _ _ _).mono ?_; rintro e w' ⟨rfl, rfl⟩) | (go_at_call 84; refine (specStoOk_any _ _ _ (HV.out.more (by simp))).mono ?_; rintro e w1 ⟨rfl, hb1⟩; have HB1 := Lib.hid (belowNext HWx.out hb1); clear hb1))
    go_ret
    exact ⟨ret_bool HK.out.symm, HB1.out⟩
  obtain ⟨h40, heach, -⟩ := stoB_parts hsb
  have HE := Lib.hid heach
  have HP := Lib.hid (And.intro hp hsb)
  have HQ := Lib.hid (show plcB p its = formB p its by simp [plcB, hp, hsb])
  clear heach
  go_enter Tryz.func51, Tryz.ntmps51
  go_wp2_with (first | (go_at_call 41; refine (l1In_any _ _ _ _).mono ?_; rintro e w' ⟨rfl, rfl⟩) | fail)
  refine (specStoOk_any _ _ _ (HV.out.more (by simp))).mono ?_
  rintro e w0 ⟨rfl, hb⟩
  rw [hsb]
  clear hsb
  have hsz : w.heap.size < (w.alloc (.cells #[.slice A its.length c] 35)).heap.size := by simp
  replace HV := Lib.hid (HV.out.below (hb.mono (Nat.le_of_lt hsz)))
  replace HBx := Lib.hid (HBx.out.below hb HBx.out.1)
  replace HWx := Lib.hid (belowNext HWx.out hb)
  clear hb hsz
  have hzw : w.heap.size < w0.heap.size := HBx.out.1
  have c0 := HBx.out.of 0 _ rfl
  go_wp2_with fail
  refine (l3Form_any _ _ _ _ (HV.out.more (by omega)) HE.out (inB3 HP.out.1)).mono ?_
  rintro e w1 ⟨rfl, hb⟩
  replace HWx := Lib.hid (belowNext HWx.out hb)
  clear hb c0
  go_wp2
  go_ret
  exact ⟨ret_bool HQ.out.symm, HWx.out⟩

end Go.Proofs.YtecdibpiojgppaaGreat
