/- Texts that follow each other, merged: PlcIt, PlcOk, MarkSize, HMark. -/
import Derived.Test.YtecdibpiojgppaaGreatXPlanSh
import Derived.Test.YtecdibpiojgppaaGreatXTree
import Derived.Deep.QuietTactic
import Derived.BigQuiet
import Derived.Test.YtecdibpiojgppaaGreatXCmp
import Derived.Test.YtecdibpiojgppaaGreatXExItems
import Derived.Test.YtecdibpiojgppaaGreatXHStr
import Derived.Deep.RegionHeld3

/- Which things a place may keep: itemOk of the program, by cases. By plcgen.py. -/
namespace Go.Proofs.YtecdibpiojgppaaGreat
open Go.RowKit

/-- The first byte of a text. -/
def chr0 (s : ByteArray) : Int := if h : 0 < s.size then ((s[0]'h).toNat : Int) else 0
theorem chr0_at {s : ByteArray} (h : 0 < s.size) : chr0 s = ((s[0]'h).toNat : Int) := by unfold chr0; rw [dif_pos h]
/-- Whether a place may keep a thing. -/
def itP (p : Int) (key : ByteArray) (val : List Int) : Bool :=
  if p = 3 then decide (chr0 key = 97 ∧ val.length = 1)
  else if p = 1 then decide (key.size = 2 ∧ nth val 0 ≤ 9 ∧ chr0 key = 115 ∧ val.length = 1)
  else decide (key.size = 2 ∧ nth val 0 ≤ 9 ∧ (chr0 key = 99 ∧ val.length = 2 ∨ chr0 key = 102 ∧ val.length = 3 ∧ 1 ≤ nth val 1 ∧ nth val 1 ≤ 99 ∧ nth val 2 ≤ 1))
theorem itP3 (key : ByteArray) (val : List Int) : itP 3 key val = decide (chr0 key = 97 ∧ val.length = 1) := by simp [itP]
theorem itP1 (key : ByteArray) (val : List Int) : itP 1 key val = decide (key.size = 2 ∧ nth val 0 ≤ 9 ∧ chr0 key = 115 ∧ val.length = 1) := by simp [itP]
theorem itP2 (key : ByteArray) (val : List Int) : itP 2 key val = decide (key.size = 2 ∧ nth val 0 ≤ 9 ∧ (chr0 key = 99 ∧ val.length = 2 ∨ chr0 key = 102 ∧ val.length = 3 ∧ 1 ≤ nth val 1 ∧ nth val 1 ≤ 99 ∧ nth val 2 ≤ 1)) := by simp [itP]
theorem itemB_parts {it : Item} (h : itemB it = true) : 2 ≤ it.key.size ∧ it.key.size ≤ 3 ∧ 1 ≤ it.val.length ∧ it.val.length ≤ 3 ∧ ∀ j, j < it.val.length → 0 ≤ nth it.val j := by
  simp only [itemB, Bool.and_eq_true] at h
  obtain ⟨h1, h2⟩ := h
  have h3 := h1
  unfold keyB at h3
  rw [decide_eq_true_iff] at h3
  unfold valB at h2
  simp only [Bool.and_eq_true, decide_eq_true_eq, List.all_eq_true] at h2
  refine ⟨h3.1, h3.2.1, h2.1.1, h2.1.2, fun j hj => ?_⟩
  rw [nth_get hj]
  exact (h2.2 _ (List.getElem_mem hj)).1


set_option maxRecDepth 100000 in
set_option maxHeartbeats 4000000 in
theorem itemOk_any (w : World) (p : Int) (key : ByteArray) (val : List Int) (u : Value) (hu : Ints w w.heap.size u val) (hit : itemB ⟨key, val⟩ = true) (hp : p = 1 ∨ p = 2 ∨ p = 3) :
    Calls Tryz.prog 83 #[.int .i64 p, .agg #[.string key, u]] w fun e w' => e = .returned (.bool (itP p key val)) ∧ Below w.heap.size w w' := by
  obtain ⟨k2, k3, n1, n3, hnn⟩ := itemB_parts hit
  dsimp only at k2 k3 n1 n3 hnn
  obtain ⟨A, cc, rfl, hc1, hc2, hrow⟩ := hu
  obtain ⟨b, off, rfl, hb, hcell⟩ := hrow (by omega)
  have v0 := hcell 0 (by omega)
  rw [Nat.add_zero] at v0
  have V1 := Lib.hid (hcell 1)
  have V2 := Lib.hid (hcell 2)
  have p0 := hnn 0 (by omega)
  have P2 := Lib.hid (hnn 2)
  have h0 : 0 < key.size := by omega
  obtain ⟨c, hc⟩ : ∃ c : Int, ((key[0]'h0).toNat : Int) = c := ⟨_, rfl⟩
  have HC := Lib.hid ((chr0_at h0).trans hc)
  unfold maxLen at hc2
  clear hcell hit hnn hrow
  have HB := Lib.hid (belowOne w (.cells #[.string key, .slice (some ⟨b, off, none⟩) val.length cc] 95))
  rcases hp with rfl | rfl | rfl
  ·
    have HI := Lib.hid (itP1 key val)
    replace HC := Lib.hid HC.out
    by_cases hk : key.size = 2
    · have gk : ((key.size : Int) - 1 != 1) = false := by simp; omega
      have HK := Lib.hid hk
      clear hk
      by_cases hv0 : 0 ≤ nth val 0 ∧ nth val 0 ≤ 9
      · have gv0 := inB_yes hv0.1 hv0.2
        replace HC := Lib.hid (And.intro HC.out hv0)
        clear hv0
        by_cases h115 : c = 115
        · subst h115
          by_cases hn : val.length = 1
          · have gn : ((val.length : Int) == 1) = true := by simp [hn]
            have HN := Lib.hid hn
            clear hn
            go_enter Tryz.func83, Tryz.ntmps83
            go_wp2
            go_quiet (fail)
            go_wp2_with (go_at_call 76; refine (within_any _ _ _ _).mono ?_; rintro e w' ⟨rfl, rfl⟩)
            go_ret
            exact ⟨ret_bool (HI.out.trans (decide_eq_true (by have := HC.out; (try have := HN.out); (try have := HK.out); omega))).symm, by first | exact HB.out | exact belowDraws HB.out _⟩
          · have gn : ((val.length : Int) == 1) = false := by simp; omega
            have HN := Lib.hid hn
            clear hn
            go_enter Tryz.func83, Tryz.ntmps83
            go_wp2
            go_quiet (fail)
            go_wp2_with (go_at_call 76; refine (within_any _ _ _ _).mono ?_; rintro e w' ⟨rfl, rfl⟩)
            go_ret
            exact ⟨ret_bool (HI.out.trans (decide_eq_false (by have := HC.out; (try have := HN.out); (try have := HK.out); omega))).symm, by first | exact HB.out | exact belowDraws HB.out _⟩
        · have g115 : (c == 115) = false := by simpa using h115
          replace HC := Lib.hid (And.intro HC.out h115)
          clear h115
          go_enter Tryz.func83, Tryz.ntmps83
          go_wp2
          go_quiet (fail)
          go_wp2_with (go_at_call 76; refine (within_any _ _ _ _).mono ?_; rintro e w' ⟨rfl, rfl⟩)
          go_ret
          exact ⟨ret_bool (HI.out.trans (decide_eq_false (by have := HC.out; (try have := HN.out); (try have := HK.out); omega))).symm, by first | exact HB.out | exact belowDraws HB.out _⟩
      · have gv0 := inB_no (n := nth val 0) (lo := 0) (hi := 9) (by omega)
        replace HC := Lib.hid (And.intro HC.out hv0)
        clear hv0
        go_enter Tryz.func83, Tryz.ntmps83
        go_wp2
        go_quiet (fail)
        go_wp2_with (go_at_call 76; refine (within_any _ _ _ _).mono ?_; rintro e w' ⟨rfl, rfl⟩)
        go_ret
        exact ⟨ret_bool (HI.out.trans (decide_eq_false (by have := HC.out; (try have := HN.out); (try have := HK.out); omega))).symm, by first | exact HB.out | exact belowDraws HB.out _⟩
    · have gk : ((key.size : Int) - 1 != 1) = true := by simp; omega
      have HK := Lib.hid hk
      clear hk
      go_enter Tryz.func83, Tryz.ntmps83
      go_wp2
      go_quiet (fail)
      go_wp2_with (go_at_call 76; refine (within_any _ _ _ _).mono ?_; rintro e w' ⟨rfl, rfl⟩)
      go_ret
      exact ⟨ret_bool (HI.out.trans (decide_eq_false (by have := HC.out; (try have := HN.out); (try have := HK.out); omega))).symm, by first | exact HB.out | exact belowDraws HB.out _⟩
  ·
    have HI := Lib.hid (itP2 key val)
    replace HC := Lib.hid HC.out
    by_cases hk : key.size = 2
    · have gk : ((key.size : Int) - 1 != 1) = false := by simp; omega
      have HK := Lib.hid hk
      clear hk
      by_cases hv0 : 0 ≤ nth val 0 ∧ nth val 0 ≤ 9
      · have gv0 := inB_yes hv0.1 hv0.2
        replace HC := Lib.hid (And.intro HC.out hv0)
        clear hv0
        by_cases h99 : c = 99
        · subst h99
          by_cases hn : val.length = 2
          · have gn : ((val.length : Int) == 2) = true := by simp [hn]
            have HN := Lib.hid hn
            clear hn
            go_enter Tryz.func83, Tryz.ntmps83
            go_wp2
            go_quiet (fail)
            go_wp2_with (go_at_call 76; refine (within_any _ _ _ _).mono ?_; rintro e w' ⟨rfl, rfl⟩)
            go_ret
            exact ⟨ret_bool (HI.out.trans (decide_eq_true (by have := HC.out; (try have := HN.out); (try have := HK.out); omega))).symm, by first | exact HB.out | exact belowDraws HB.out _⟩
          · have gn : ((val.length : Int) == 2) = false := by simp; omega
            have HN := Lib.hid hn
            clear hn
            go_enter Tryz.func83, Tryz.ntmps83
            go_wp2
            go_quiet (fail)
            go_wp2_with (go_at_call 76; refine (within_any _ _ _ _).mono ?_; rintro e w' ⟨rfl, rfl⟩)
            go_ret
            exact ⟨ret_bool (HI.out.trans (decide_eq_false (by have := HC.out; (try have := HN.out); (try have := HK.out); omega))).symm, by first | exact HB.out | exact belowDraws HB.out _⟩
        · have g99 : (c == 99) = false := by simpa using h99
          replace HC := Lib.hid (And.intro HC.out h99)
          clear h99
          by_cases h102 : c = 102
          · subst h102
            by_cases hn : val.length = 3
            · have gn : ((val.length : Int) == 3) = true := by simp [hn]
              have HN := Lib.hid hn
              clear hn
              have l1 : 1 < val.length := by have := HN.out; omega
              have l2 : 2 < val.length := by have := HN.out; omega
              have l3 : (1 : Int) < (val.length : Int) := by omega
              have l4 : (2 : Int) < (val.length : Int) := by omega
              have v1 := V1.out (by have := HN.out; omega)
              have v2 := V2.out (by have := HN.out; omega)
              have p2 := P2.out (by have := HN.out; omega)
              by_cases hv1 : 1 ≤ nth val 1 ∧ nth val 1 ≤ 99
              · have gv1 := inB_yes hv1.1 hv1.2
                replace HC := Lib.hid (And.intro HC.out hv1)
                clear hv1
                by_cases hv2 : 0 ≤ nth val 2 ∧ nth val 2 ≤ 1
                · have gv2 := inB_yes hv2.1 hv2.2
                  replace HC := Lib.hid (And.intro HC.out hv2)
                  clear hv2
                  go_enter Tryz.func83, Tryz.ntmps83
                  go_wp2
                  go_quiet (fail)
                  go_wp2_with (go_at_call 76; refine (within_any _ _ _ _).mono ?_; rintro e w' ⟨rfl, rfl⟩)
                  go_ret
                  exact ⟨ret_bool (HI.out.trans (decide_eq_true (by have := HC.out; (try have := HN.out); (try have := HK.out); omega))).symm, by first | exact HB.out | exact belowDraws HB.out _⟩
                · have gv2 := inB_no (n := nth val 2) (lo := 0) (hi := 1) (by omega)
                  replace HC := Lib.hid (And.intro HC.out hv2)
                  clear hv2
                  go_enter Tryz.func83, Tryz.ntmps83
                  go_wp2
                  go_quiet (fail)
                  go_wp2_with (go_at_call 76; refine (within_any _ _ _ _).mono ?_; rintro e w' ⟨rfl, rfl⟩)
                  go_ret
                  exact ⟨ret_bool (HI.out.trans (decide_eq_false (by have := HC.out; (try have := HN.out); (try have := HK.out); omega))).symm, by first | exact HB.out | exact belowDraws HB.out _⟩
              · have gv1 := inB_no (n := nth val 1) (lo := 1) (hi := 99) (by omega)
                replace HC := Lib.hid (And.intro HC.out hv1)
                clear hv1
                go_enter Tryz.func83, Tryz.ntmps83
                go_wp2
                go_quiet (fail)
                go_wp2_with (go_at_call 76; refine (within_any _ _ _ _).mono ?_; rintro e w' ⟨rfl, rfl⟩)
                go_ret
                exact ⟨ret_bool (HI.out.trans (decide_eq_false (by have := HC.out; (try have := HN.out); (try have := HK.out); omega))).symm, by first | exact HB.out | exact belowDraws HB.out _⟩
            · have gn : ((val.length : Int) == 3) = false := by simp; omega
              have HN := Lib.hid hn
              clear hn
              go_enter Tryz.func83, Tryz.ntmps83
              go_wp2
              go_quiet (fail)
              go_wp2_with (go_at_call 76; refine (within_any _ _ _ _).mono ?_; rintro e w' ⟨rfl, rfl⟩)
              go_ret
              exact ⟨ret_bool (HI.out.trans (decide_eq_false (by have := HC.out; (try have := HN.out); (try have := HK.out); omega))).symm, by first | exact HB.out | exact belowDraws HB.out _⟩
          · have g102 : (c == 102) = false := by simpa using h102
            replace HC := Lib.hid (And.intro HC.out h102)
            clear h102
            go_enter Tryz.func83, Tryz.ntmps83
            go_wp2
            go_quiet (fail)
            go_wp2_with (go_at_call 76; refine (within_any _ _ _ _).mono ?_; rintro e w' ⟨rfl, rfl⟩)
            go_ret
            exact ⟨ret_bool (HI.out.trans (decide_eq_false (by have := HC.out; (try have := HN.out); (try have := HK.out); omega))).symm, by first | exact HB.out | exact belowDraws HB.out _⟩
      · have gv0 := inB_no (n := nth val 0) (lo := 0) (hi := 9) (by omega)
        replace HC := Lib.hid (And.intro HC.out hv0)
        clear hv0
        go_enter Tryz.func83, Tryz.ntmps83
        go_wp2
        go_quiet (fail)
        go_wp2_with (go_at_call 76; refine (within_any _ _ _ _).mono ?_; rintro e w' ⟨rfl, rfl⟩)
        go_ret
        exact ⟨ret_bool (HI.out.trans (decide_eq_false (by have := HC.out; (try have := HN.out); (try have := HK.out); omega))).symm, by first | exact HB.out | exact belowDraws HB.out _⟩
    · have gk : ((key.size : Int) - 1 != 1) = true := by simp; omega
      have HK := Lib.hid hk
      clear hk
      go_enter Tryz.func83, Tryz.ntmps83
      go_wp2
      go_quiet (fail)
      go_wp2_with (go_at_call 76; refine (within_any _ _ _ _).mono ?_; rintro e w' ⟨rfl, rfl⟩)
      go_ret
      exact ⟨ret_bool (HI.out.trans (decide_eq_false (by have := HC.out; (try have := HN.out); (try have := HK.out); omega))).symm, by first | exact HB.out | exact belowDraws HB.out _⟩
  ·
    have HI := Lib.hid (itP3 key val)
    replace HC := Lib.hid HC.out
    by_cases h97 : c = 97
    · subst h97
      by_cases hn : val.length = 1
      · have gn : ((val.length : Int) == 1) = true := by simp [hn]
        have HN := Lib.hid hn
        clear hn
        go_enter Tryz.func83, Tryz.ntmps83
        go_wp2
        go_quiet (fail)
        go_wp2_with (go_at_call 76; refine (within_any _ _ _ _).mono ?_; rintro e w' ⟨rfl, rfl⟩)
        go_ret
        exact ⟨ret_bool (HI.out.trans (decide_eq_true (by have := HC.out; (try have := HN.out); (try have := HK.out); omega))).symm, by first | exact HB.out | exact belowDraws HB.out _⟩
      · have gn : ((val.length : Int) == 1) = false := by simp; omega
        have HN := Lib.hid hn
        clear hn
        go_enter Tryz.func83, Tryz.ntmps83
        go_wp2
        go_quiet (fail)
        go_wp2_with (go_at_call 76; refine (within_any _ _ _ _).mono ?_; rintro e w' ⟨rfl, rfl⟩)
        go_ret
        exact ⟨ret_bool (HI.out.trans (decide_eq_false (by have := HC.out; (try have := HN.out); (try have := HK.out); omega))).symm, by first | exact HB.out | exact belowDraws HB.out _⟩
    · have g97 : (c == 97) = false := by simpa using h97
      replace HC := Lib.hid (And.intro HC.out h97)
      clear h97
      go_enter Tryz.func83, Tryz.ntmps83
      go_wp2
      go_quiet (fail)
      go_wp2_with (go_at_call 76; refine (within_any _ _ _ _).mono ?_; rintro e w' ⟨rfl, rfl⟩)
      go_ret
      exact ⟨ret_bool (HI.out.trans (decide_eq_false (by have := HC.out; (try have := HN.out); (try have := HK.out); omega))).symm, by first | exact HB.out | exact belowDraws HB.out _⟩

end Go.Proofs.YtecdibpiojgppaaGreat

/- What PlcOk of the program answers. -/
namespace Go.Proofs.YtecdibpiojgppaaGreat
open Go.RowKit

/-- What a place keeps is what it may keep. -/
def formB (p : Int) (its : List Item) : Bool := its.all fun it => itP p it.key it.val
def plcB (p : Int) (its : List Item) : Bool := inB p 1 3 && (stoB its && formB p its)
/-- The first k things may be kept. -/
def FormTo (p : Int) (its : List Item) (k : Nat) : Prop := ∀ j it, j < k → its[j]? = some it → itP p it.key it.val = true
theorem FormTo.start (p : Int) (its : List Item) : FormTo p its 0 := fun j _ h => absurd h (by omega)
theorem FormTo.step {p : Int} {its : List Item} {k : Nat} {it : Item} (h : FormTo p its k) (hit : its[k]? = some it) (hp : itP p it.key it.val = true) : FormTo p its (k + 1) := by
  intro j x hj hx
  rcases Nat.lt_or_ge j k with hlt | hge
  · exact h j x hlt hx
  · have : j = k := by omega
    subst this
    rw [hit] at hx
    injection hx with hx
    subst hx; exact hp
theorem formB_all {p : Int} {its : List Item} (h : FormTo p its its.length) : formB p its = true := by
  unfold formB
  rw [List.all_eq_true]
  intro x hx
  obtain ⟨j, hj, rfl⟩ := List.getElem_of_mem hx
  exact h j _ hj (List.getElem?_eq_getElem hj)
theorem formB_bad {p : Int} {its : List Item} {k : Nat} {it : Item} (hit : its[k]? = some it) (h : itP p it.key it.val = false) : formB p its = false := by
  unfold formB
  rw [List.all_eq_false]
  exact ⟨it, List.mem_of_getElem? hit, by simp [h]⟩
theorem plcB_place {p : Int} {its : List Item} (h : inB p 1 3 = false) : plcB p its = false := by simp [plcB, h]
theorem plcB_sto {p : Int} {its : List Item} (h : stoB its = false) : plcB p its = false := by simp [plcB, h]
theorem plcB_form {p : Int} {its : List Item} (h : formB p its = false) : plcB p its = false := by simp [plcB, h]
theorem plcB_yes {p : Int} {its : List Item} (h1 : inB p 1 3 = true) (h2 : stoB its = true) (h3 : formB p its = true) : plcB p its = true := by simp [plcB, h1, h2, h3]
theorem inB3 {p : Int} (h : inB p 1 3 = true) : p = 1 ∨ p = 2 ∨ p = 3 := by
  unfold inB at h; rw [decide_eq_true_iff] at h; omega

theorem isService_any (p : Int) (w : World) : Calls Tryz.prog 82 #[.int .i64 p] w fun e w' => e = .returned (.bool (inB p 1 3)) ∧ w = w' := by
  go_enter Tryz.func82, Tryz.ntmps82
  go_wp2_with (go_at_call 76; refine (within_any _ _ _ _).mono ?_; rintro e w' ⟨rfl, rfl⟩)
  go_ret
  exact ⟨rfl, rfl⟩

set_option maxRecDepth 100000 in
set_option maxHeartbeats 1000000 in
theorem implPlcOk_any (w : World) (p : Int) (v : Value) (its : List Item) (hv : Items w w.heap.size v its) :
    Calls Tryz.prog 47 #[.int .i64 p, .agg #[v]] w fun e w' => e = .returned (.bool (plcB p its)) ∧ Below w.heap.size w w' := by
  obtain ⟨A, c, rfl, hc2, hc1⟩ := hv.form
  unfold maxLen at hc2
  have HV := Lib.hid (hv.alloc (Nat.le_refl _) (.cells #[.slice A its.length c] 35))
  have HBx := Lib.hid (Held.new w #[.slice A its.length c] 35)
  have HWx := Lib.hid (belowOne w (.cells #[.slice A its.length c] 35))
  clear hv
  rcases hp : inB p 1 3
  · have HK := Lib.hid (plcB_place (its := its) hp)
    go_enter Tryz.func47, Tryz.ntmps47
    go_wp2_with (go_at_call 82; refine (isService_any _ _).mono ?_; rintro e w' ⟨rfl, rfl⟩)
    go_ret
    exact ⟨ret_bool HK.out.symm, HWx.out⟩
  rcases hsb : stoB its
  · have HK := Lib.hid (plcB_sto (p := p) hsb)
    go_enter Tryz.func47, Tryz.ntmps47
    go_wp2_with (first | (go_at_call 82; refine (isService_any _ _).mono ?_; rintro e w' ⟨rfl, rfl⟩) | (go_at_call 54; refine (implStoOk_any _ _ _ (HV.out.more (by simp))).mono ?_; rintro e w1 ⟨rfl, hb1⟩; have HB1 := Lib.hid (belowNext HWx.out hb1); clear hb1))
    go_ret
    exact ⟨ret_bool HK.out.symm, HB1.out⟩
  obtain ⟨h40, heach, -⟩ := stoB_parts hsb
  have HE := Lib.hid heach
  clear heach
  have HP := Lib.hid (And.intro hp hsb)
  go_enter Tryz.func47, Tryz.ntmps47
  go_wp2_with (first | (go_at_call 82; refine (isService_any _ _).mono ?_; rintro e w' ⟨rfl, rfl⟩) | fail)
  refine (implStoOk_any _ _ _ (HV.out.more (by simp))).mono ?_
  rintro e w0 ⟨rfl, hb⟩
  rw [hsb]
  clear hp hsb
  have hsz : w.heap.size < (w.alloc (.cells #[.slice A its.length c] 35)).heap.size := by simp
  replace HV := Lib.hid (HV.out.below (hb.mono (Nat.le_of_lt hsz)))
  replace HBx := Lib.hid (HBx.out.below hb HBx.out.1)
  replace HWx := Lib.hid (belowNext HWx.out hb)
  clear hb hsz
  have hzw : w.heap.size < w0.heap.size := HBx.out.1
  have c0 := HBx.out.of 0 _ rfl
  go_wp2
  clear c0
  go_loopw [18] (fun i wr => ∃ k : Nat, k ≤ its.length ∧ i = .int .i64 k ∧ FormTo p its k ∧ Below w0.heap.size w0 wr) (fun i _ => its.length - (intOf i).toNat)
  case atStart => exact ⟨0, Nat.zero_le _, rfl, FormTo.start p its, Below.refl _ _⟩
  case round =>
    obtain ⟨k, hk, rfl, he, hb⟩ := hrel
    have hzr : w0.heap.size ≤ wr.heap.size := hb.size
    have HWr := Lib.hid (HWx.out.trans (hb.mono (Nat.le_of_lt hzw)))
    have HVr := Lib.hid (HV.out.below (hb.mono (Nat.le_of_lt hzw)))
    have HBw := Lib.hid hb
    clear hb
    by_cases hlt : k < its.length
    · obtain ⟨b, off, c', it, u, e1, hit, hB, hs, ck, cu, hu⟩ := HVr.out.at_ (k := k) hlt
      obtain ⟨A', c'', hu', _, _⟩ := hu.form
      subst hu'
      injection e1 with e1a e1b e1c
      subst e1a
      clear e1b e1c
      have HI := Lib.hid hit
      have HU := Lib.hid ((hu.alloc (Nat.le_of_lt (Nat.lt_of_lt_of_le hzw hzr)) (.cells #[.string it.key, .slice A' it.val.length c''] 95)).more (B' := (wr.alloc (.cells #[.string it.key, .slice A' it.val.length c''] 95)).heap.size) (by simp; omega))
      have hib := HE.out k it hlt hit
      have hp3 := Lib.hid (inB3 HP.out.1)
      have HIB := Lib.hid (show itemB ⟨it.key, it.val⟩ = true from hib)
      clear hit hu HVr hib
      rcases hkb : itP p it.key it.val
      · have HK := Lib.hid (plcB_form (formB_bad HI.out hkb))
        go_wp2_with fail
        refine (itemOk_any _ _ _ _ _ HU.out HIB.out hp3.out).mono ?_
        rintro e w1 ⟨rfl, hb1⟩
        rw [hkb]
        have HB1 := Lib.hid ((HWr.out.alloc (by omega) (.cells #[.string it.key, .slice A' it.val.length c''] 95)).trans (hb1.mono (by simp; omega)))
        clear hb1
        go_wp2
        go_ret
        exact ⟨ret_bool HK.out.symm, HB1.out⟩
      · have HF := Lib.hid (he.step HI.out hkb)
        go_wp2_with fail
        refine (itemOk_any _ _ _ _ _ HU.out HIB.out hp3.out).mono ?_
        rintro e w1 ⟨rfl, hb1⟩
        rw [hkb]
        have HB1 := Lib.hid ((HBw.out.alloc (by omega) (.cells #[.string it.key, .slice A' it.val.length c''] 95)).trans (hb1.mono (by simp; omega)))
        clear hb1
        go_wp2
        go_roundw
        case rel => exact ⟨k + 1, by omega, by go_num, HF.out, HB1.out⟩
        case measure => simp [intOf]; omega
    · have HK := Lib.hid (plcB_yes HP.out.1 HP.out.2 (formB_all ((show k = its.length by omega) ▸ he)))
      go_wp2
      go_ret
      exact ⟨ret_bool HK.out.symm, HWr.out⟩

end Go.Proofs.YtecdibpiojgppaaGreat

/- How long a mark's text is. -/
namespace Go.Proofs.YtecdibpiojgppaaGreat
open Go.RowKit

end Go.Proofs.YtecdibpiojgppaaGreat

/- Marks on numbers and on texts, by shapes. -/
namespace Go.Proofs.YtecdibpiojgppaaGreat
open Go.RowKit

end Go.Proofs.YtecdibpiojgppaaGreat
