/- Which things a place may keep: itemOk of the program, by cases. By plcgen.py. -/
import Derived.Test.YtecdibpiojgppaaXShapesLog
import Derived.Test.YtecdibpiojgppaaXStoOk
import Derived.Deep.QuietTactic
import Derived.BigQuiet
namespace Go.Proofs.Ytecdibpiojgppaa
open Go.RowKit

/-- The first byte of a text. -/
def chr0 (s : ByteArray) : Int := if h : 0 < s.size then ((s[0]'h).toNat : Int) else 0
theorem chr0_at {s : ByteArray} (h : 0 < s.size) : chr0 s = ((s[0]'h).toNat : Int) := by unfold chr0; rw [dif_pos h]
/-- Whether a place may keep a thing. -/
def itP (p : Int) (key : ByteArray) (val : List Int) : Bool :=
  if p = 3 then decide (chr0 key = 97 ∧ val.length = 1)
  else if p = 1 then decide (key.size = 2 ∧ nth val 0 ≤ 9 ∧ chr0 key = 115 ∧ val.length = 1)
  else decide (key.size = 2 ∧ nth val 0 ≤ 9 ∧ (chr0 key = 99 ∧ val.length = 2 ∨ chr0 key = 102 ∧ val.length = 3 ∧ 1 ≤ nth val 1 ∧ nth val 1 ≤ 99 ∧ nth val 2 ≤ 1))
theorem itP3 (key : ByteArray) (val : List Int) : itP 3 key val = decide (chr0 key = 97 ∧ val.length = 1) := by simp [itP]
theorem itP1 (key : ByteArray) (val : List Int) : itP 1 key val = decide (key.size = 2 ∧ nth val 0 ≤ 9 ∧ chr0 key = 115 ∧ val.length = 1) := by simp [itP]
theorem itP2 (key : ByteArray) (val : List Int) : itP 2 key val = decide (key.size = 2 ∧ nth val 0 ≤ 9 ∧ (chr0 key = 99 ∧ val.length = 2 ∨ chr0 key = 102 ∧ val.length = 3 ∧ 1 ≤ nth val 1 ∧ nth val 1 ≤ 99 ∧ nth val 2 ≤ 1)) := by simp [itP]
theorem itemB_parts {it : Item} (h : itemB it = true) : 2 ≤ it.key.size ∧ it.key.size ≤ 3 ∧ 1 ≤ it.val.length ∧ it.val.length ≤ 3 ∧ ∀ j, j < it.val.length → 0 ≤ nth it.val j := by
  simp only [itemB, Bool.and_eq_true] at h
  obtain ⟨h1, h2⟩ := h
  have h3 := h1
  unfold keyB at h3
  rw [decide_eq_true_iff] at h3
  unfold valB at h2
  simp only [Bool.and_eq_true, decide_eq_true_eq, List.all_eq_true] at h2
  refine ⟨h3.1, h3.2.1, h2.1.1, h2.1.2, fun j hj => ?_⟩
  rw [nth_get hj]
  exact (h2.2 _ (List.getElem_mem hj)).1


set_option maxRecDepth 100000 in
set_option maxHeartbeats 4000000 in
theorem itemOk_any (w : World) (p : Int) (key : ByteArray) (val : List Int) (u : Value) (hu : Ints w w.heap.size u val) (hit : itemB ⟨key, val⟩ = true) (hp : p = 1 ∨ p = 2 ∨ p = 3) :
    Calls Try.prog 63 #[.int .i64 p, .agg #[.string key, u]] w fun e w' => e = .returned (.bool (itP p key val)) ∧ Below w.heap.size w w' := by
  obtain ⟨k2, k3, n1, n3, hnn⟩ := itemB_parts hit
  dsimp only at k2 k3 n1 n3 hnn
  obtain ⟨A, cc, rfl, hc1, hc2, hrow⟩ := hu
  obtain ⟨b, off, rfl, hb, hcell⟩ := hrow (by omega)
  have v0 := hcell 0 (by omega)
  rw [Nat.add_zero] at v0
  have V1 := Lib.hid (hcell 1)
  have V2 := Lib.hid (hcell 2)
  have p0 := hnn 0 (by omega)
  have P2 := Lib.hid (hnn 2)
  have h0 : 0 < key.size := by omega
  obtain ⟨c, hc⟩ : ∃ c : Int, ((key[0]'h0).toNat : Int) = c := ⟨_, rfl⟩
  have HC := Lib.hid ((chr0_at h0).trans hc)
  unfold maxLen at hc2
  clear hcell hit hnn hrow
  have HB := Lib.hid (belowOne w (.cells #[.string key, .slice (some ⟨b, off, none⟩) val.length cc] 102))
  rcases hp with rfl | rfl | rfl
  ·
    have HI := Lib.hid (itP1 key val)
    replace HC := Lib.hid HC.out
    by_cases hk : key.size = 2
    · have gk : ((key.size : Int) - 1 != 1) = false := by simp; omega
      have HK := Lib.hid hk
      clear hk
      by_cases hv0 : 0 ≤ nth val 0 ∧ nth val 0 ≤ 9
      · have gv0 := inB_yes hv0.1 hv0.2
        replace HC := Lib.hid (And.intro HC.out hv0)
        clear hv0
        by_cases h115 : c = 115
        · subst h115
          by_cases hn : val.length = 1
          · have gn : ((val.length : Int) == 1) = true := by simp [hn]
            have HN := Lib.hid hn
            clear hn
            go_enter Try.func63, Try.ntmps63
            go_wp2
            go_quiet (fail)
            go_wp2_with (go_at_call 131; refine (within_any _ _ _ _).mono ?_; rintro e w' ⟨rfl, rfl⟩)
            go_ret
            exact ⟨ret_bool (HI.out.trans (decide_eq_true (by have := HC.out; (try have := HN.out); (try have := HK.out); omega))).symm, by first | exact HB.out | exact belowDraws HB.out _⟩
          · have gn : ((val.length : Int) == 1) = false := by simp; omega
            have HN := Lib.hid hn
            clear hn
            go_enter Try.func63, Try.ntmps63
            go_wp2
            go_quiet (fail)
            go_wp2_with (go_at_call 131; refine (within_any _ _ _ _).mono ?_; rintro e w' ⟨rfl, rfl⟩)
            go_ret
            exact ⟨ret_bool (HI.out.trans (decide_eq_false (by have := HC.out; (try have := HN.out); (try have := HK.out); omega))).symm, by first | exact HB.out | exact belowDraws HB.out _⟩
        · have g115 : (c == 115) = false := by simpa using h115
          replace HC := Lib.hid (And.intro HC.out h115)
          clear h115
          go_enter Try.func63, Try.ntmps63
          go_wp2
          go_quiet (fail)
          go_wp2_with (go_at_call 131; refine (within_any _ _ _ _).mono ?_; rintro e w' ⟨rfl, rfl⟩)
          go_ret
          exact ⟨ret_bool (HI.out.trans (decide_eq_false (by have := HC.out; (try have := HN.out); (try have := HK.out); omega))).symm, by first | exact HB.out | exact belowDraws HB.out _⟩
      · have gv0 := inB_no (n := nth val 0) (lo := 0) (hi := 9) (by omega)
        replace HC := Lib.hid (And.intro HC.out hv0)
        clear hv0
        go_enter Try.func63, Try.ntmps63
        go_wp2
        go_quiet (fail)
        go_wp2_with (go_at_call 131; refine (within_any _ _ _ _).mono ?_; rintro e w' ⟨rfl, rfl⟩)
        go_ret
        exact ⟨ret_bool (HI.out.trans (decide_eq_false (by have := HC.out; (try have := HN.out); (try have := HK.out); omega))).symm, by first | exact HB.out | exact belowDraws HB.out _⟩
    · have gk : ((key.size : Int) - 1 != 1) = true := by simp; omega
      have HK := Lib.hid hk
      clear hk
      go_enter Try.func63, Try.ntmps63
      go_wp2
      go_quiet (fail)
      go_wp2_with (go_at_call 131; refine (within_any _ _ _ _).mono ?_; rintro e w' ⟨rfl, rfl⟩)
      go_ret
      exact ⟨ret_bool (HI.out.trans (decide_eq_false (by have := HC.out; (try have := HN.out); (try have := HK.out); omega))).symm, by first | exact HB.out | exact belowDraws HB.out _⟩
  ·
    have HI := Lib.hid (itP2 key val)
    replace HC := Lib.hid HC.out
    by_cases hk : key.size = 2
    · have gk : ((key.size : Int) - 1 != 1) = false := by simp; omega
      have HK := Lib.hid hk
      clear hk
      by_cases hv0 : 0 ≤ nth val 0 ∧ nth val 0 ≤ 9
      · have gv0 := inB_yes hv0.1 hv0.2
        replace HC := Lib.hid (And.intro HC.out hv0)
        clear hv0
        by_cases h99 : c = 99
        · subst h99
          by_cases hn : val.length = 2
          · have gn : ((val.length : Int) == 2) = true := by simp [hn]
            have HN := Lib.hid hn
            clear hn
            go_enter Try.func63, Try.ntmps63
            go_wp2
            go_quiet (fail)
            go_wp2_with (go_at_call 131; refine (within_any _ _ _ _).mono ?_; rintro e w' ⟨rfl, rfl⟩)
            go_ret
            exact ⟨ret_bool (HI.out.trans (decide_eq_true (by have := HC.out; (try have := HN.out); (try have := HK.out); omega))).symm, by first | exact HB.out | exact belowDraws HB.out _⟩
          · have gn : ((val.length : Int) == 2) = false := by simp; omega
            have HN := Lib.hid hn
            clear hn
            go_enter Try.func63, Try.ntmps63
            go_wp2
            go_quiet (fail)
            go_wp2_with (go_at_call 131; refine (within_any _ _ _ _).mono ?_; rintro e w' ⟨rfl, rfl⟩)
            go_ret
            exact ⟨ret_bool (HI.out.trans (decide_eq_false (by have := HC.out; (try have := HN.out); (try have := HK.out); omega))).symm, by first | exact HB.out | exact belowDraws HB.out _⟩
        · have g99 : (c == 99) = false := by simpa using h99
          replace HC := Lib.hid (And.intro HC.out h99)
          clear h99
          by_cases h102 : c = 102
          · subst h102
            by_cases hn : val.length = 3
            · have gn : ((val.length : Int) == 3) = true := by simp [hn]
              have HN := Lib.hid hn
              clear hn
              have l1 : 1 < val.length := by have := HN.out; omega
              have l2 : 2 < val.length := by have := HN.out; omega
              have l3 : (1 : Int) < (val.length : Int) := by omega
              have l4 : (2 : Int) < (val.length : Int) := by omega
              have v1 := V1.out (by have := HN.out; omega)
              have v2 := V2.out (by have := HN.out; omega)
              have p2 := P2.out (by have := HN.out; omega)
              by_cases hv1 : 1 ≤ nth val 1 ∧ nth val 1 ≤ 99
              · have gv1 := inB_yes hv1.1 hv1.2
                replace HC := Lib.hid (And.intro HC.out hv1)
                clear hv1
                by_cases hv2 : 0 ≤ nth val 2 ∧ nth val 2 ≤ 1
                · have gv2 := inB_yes hv2.1 hv2.2
                  replace HC := Lib.hid (And.intro HC.out hv2)
                  clear hv2
                  go_enter Try.func63, Try.ntmps63
                  go_wp2
                  go_quiet (fail)
                  go_wp2_with (go_at_call 131; refine (within_any _ _ _ _).mono ?_; rintro e w' ⟨rfl, rfl⟩)
                  go_ret
                  exact ⟨ret_bool (HI.out.trans (decide_eq_true (by have := HC.out; (try have := HN.out); (try have := HK.out); omega))).symm, by first | exact HB.out | exact belowDraws HB.out _⟩
                · have gv2 := inB_no (n := nth val 2) (lo := 0) (hi := 1) (by omega)
                  replace HC := Lib.hid (And.intro HC.out hv2)
                  clear hv2
                  go_enter Try.func63, Try.ntmps63
                  go_wp2
                  go_quiet (fail)
                  go_wp2_with (go_at_call 131; refine (within_any _ _ _ _).mono ?_; rintro e w' ⟨rfl, rfl⟩)
                  go_ret
                  exact ⟨ret_bool (HI.out.trans (decide_eq_false (by have := HC.out; (try have := HN.out); (try have := HK.out); omega))).symm, by first | exact HB.out | exact belowDraws HB.out _⟩
              · have gv1 := inB_no (n := nth val 1) (lo := 1) (hi := 99) (by omega)
                replace HC := Lib.hid (And.intro HC.out hv1)
                clear hv1
                go_enter Try.func63, Try.ntmps63
                go_wp2
                go_quiet (fail)
                go_wp2_with (go_at_call 131; refine (within_any _ _ _ _).mono ?_; rintro e w' ⟨rfl, rfl⟩)
                go_ret
                exact ⟨ret_bool (HI.out.trans (decide_eq_false (by have := HC.out; (try have := HN.out); (try have := HK.out); omega))).symm, by first | exact HB.out | exact belowDraws HB.out _⟩
            · have gn : ((val.length : Int) == 3) = false := by simp; omega
              have HN := Lib.hid hn
              clear hn
              go_enter Try.func63, Try.ntmps63
              go_wp2
              go_quiet (fail)
              go_wp2_with (go_at_call 131; refine (within_any _ _ _ _).mono ?_; rintro e w' ⟨rfl, rfl⟩)
              go_ret
              exact ⟨ret_bool (HI.out.trans (decide_eq_false (by have := HC.out; (try have := HN.out); (try have := HK.out); omega))).symm, by first | exact HB.out | exact belowDraws HB.out _⟩
          · have g102 : (c == 102) = false := by simpa using h102
            replace HC := Lib.hid (And.intro HC.out h102)
            clear h102
            go_enter Try.func63, Try.ntmps63
            go_wp2
            go_quiet (fail)
            go_wp2_with (go_at_call 131; refine (within_any _ _ _ _).mono ?_; rintro e w' ⟨rfl, rfl⟩)
            go_ret
            exact ⟨ret_bool (HI.out.trans (decide_eq_false (by have := HC.out; (try have := HN.out); (try have := HK.out); omega))).symm, by first | exact HB.out | exact belowDraws HB.out _⟩
      · have gv0 := inB_no (n := nth val 0) (lo := 0) (hi := 9) (by omega)
        replace HC := Lib.hid (And.intro HC.out hv0)
        clear hv0
        go_enter Try.func63, Try.ntmps63
        go_wp2
        go_quiet (fail)
        go_wp2_with (go_at_call 131; refine (within_any _ _ _ _).mono ?_; rintro e w' ⟨rfl, rfl⟩)
        go_ret
        exact ⟨ret_bool (HI.out.trans (decide_eq_false (by have := HC.out; (try have := HN.out); (try have := HK.out); omega))).symm, by first | exact HB.out | exact belowDraws HB.out _⟩
    · have gk : ((key.size : Int) - 1 != 1) = true := by simp; omega
      have HK := Lib.hid hk
      clear hk
      go_enter Try.func63, Try.ntmps63
      go_wp2
      go_quiet (fail)
      go_wp2_with (go_at_call 131; refine (within_any _ _ _ _).mono ?_; rintro e w' ⟨rfl, rfl⟩)
      go_ret
      exact ⟨ret_bool (HI.out.trans (decide_eq_false (by have := HC.out; (try have := HN.out); (try have := HK.out); omega))).symm, by first | exact HB.out | exact belowDraws HB.out _⟩
  ·
    have HI := Lib.hid (itP3 key val)
    replace HC := Lib.hid HC.out
    by_cases h97 : c = 97
    · subst h97
      by_cases hn : val.length = 1
      · have gn : ((val.length : Int) == 1) = true := by simp [hn]
        have HN := Lib.hid hn
        clear hn
        go_enter Try.func63, Try.ntmps63
        go_wp2
        go_quiet (fail)
        go_wp2_with (go_at_call 131; refine (within_any _ _ _ _).mono ?_; rintro e w' ⟨rfl, rfl⟩)
        go_ret
        exact ⟨ret_bool (HI.out.trans (decide_eq_true (by have := HC.out; (try have := HN.out); (try have := HK.out); omega))).symm, by first | exact HB.out | exact belowDraws HB.out _⟩
      · have gn : ((val.length : Int) == 1) = false := by simp; omega
        have HN := Lib.hid hn
        clear hn
        go_enter Try.func63, Try.ntmps63
        go_wp2
        go_quiet (fail)
        go_wp2_with (go_at_call 131; refine (within_any _ _ _ _).mono ?_; rintro e w' ⟨rfl, rfl⟩)
        go_ret
        exact ⟨ret_bool (HI.out.trans (decide_eq_false (by have := HC.out; (try have := HN.out); (try have := HK.out); omega))).symm, by first | exact HB.out | exact belowDraws HB.out _⟩
    · have g97 : (c == 97) = false := by simpa using h97
      replace HC := Lib.hid (And.intro HC.out h97)
      clear h97
      go_enter Try.func63, Try.ntmps63
      go_wp2
      go_quiet (fail)
      go_wp2_with (go_at_call 131; refine (within_any _ _ _ _).mono ?_; rintro e w' ⟨rfl, rfl⟩)
      go_ret
      exact ⟨ret_bool (HI.out.trans (decide_eq_false (by have := HC.out; (try have := HN.out); (try have := HK.out); omega))).symm, by first | exact HB.out | exact belowDraws HB.out _⟩

end Go.Proofs.Ytecdibpiojgppaa
