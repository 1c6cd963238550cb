/- Texts that follow each other, merged: PlcOk, RegTake. -/
import Derived.Test.YtecdibpiojgppaaXPlcIt
import Derived.Test.YtecdibpiojgppaaXGet
import Derived.Deep.RegionHeld3

/- What PlcOk of the program answers. -/
namespace Go.Proofs.Ytecdibpiojgppaa
open Go.RowKit

/-- What a place keeps is what it may keep. -/
def formB (p : Int) (its : List Item) : Bool := its.all fun it => itP p it.key it.val
def plcB (p : Int) (its : List Item) : Bool := inB p 1 3 && (stoB its && formB p its)
/-- The first k things may be kept. -/
def FormTo (p : Int) (its : List Item) (k : Nat) : Prop := ∀ j it, j < k → its[j]? = some it → itP p it.key it.val = true
theorem FormTo.start (p : Int) (its : List Item) : FormTo p its 0 := fun j _ h => absurd h (by omega)
theorem FormTo.step {p : Int} {its : List Item} {k : Nat} {it : Item} (h : FormTo p its k) (hit : its[k]? = some it) (hp : itP p it.key it.val = true) : FormTo p its (k + 1) := by
  intro j x hj hx
  rcases Nat.lt_or_ge j k with hlt | hge
  · exact h j x hlt hx
  · have : j = k := by omega
    subst this
    rw [hit] at hx
    injection hx with hx
    subst hx; exact hp
theorem formB_all {p : Int} {its : List Item} (h : FormTo p its its.length) : formB p its = true := by
  unfold formB
  rw [List.all_eq_true]
  intro x hx
  obtain ⟨j, hj, rfl⟩ := List.getElem_of_mem hx
  exact h j _ hj (List.getElem?_eq_getElem hj)
theorem formB_bad {p : Int} {its : List Item} {k : Nat} {it : Item} (hit : its[k]? = some it) (h : itP p it.key it.val = false) : formB p its = false := by
  unfold formB
  rw [List.all_eq_false]
  exact ⟨it, List.mem_of_getElem? hit, by simp [h]⟩
theorem plcB_place {p : Int} {its : List Item} (h : inB p 1 3 = false) : plcB p its = false := by simp [plcB, h]
theorem plcB_sto {p : Int} {its : List Item} (h : stoB its = false) : plcB p its = false := by simp [plcB, h]
theorem plcB_form {p : Int} {its : List Item} (h : formB p its = false) : plcB p its = false := by simp [plcB, h]
theorem plcB_yes {p : Int} {its : List Item} (h1 : inB p 1 3 = true) (h2 : stoB its = true) (h3 : formB p its = true) : plcB p its = true := by simp [plcB, h1, h2, h3]
theorem inB3 {p : Int} (h : inB p 1 3 = true) : p = 1 ∨ p = 2 ∨ p = 3 := by
  unfold inB at h; rw [decide_eq_true_iff] at h; omega

theorem isService_any (p : Int) (w : World) : Calls Try.prog 61 #[.int .i64 p] w fun e w' => e = .returned (.bool (inB p 1 3)) ∧ w = w' := by
  go_enter Try.func61, Try.ntmps61
  go_wp2_with (go_at_call 131; refine (within_any _ _ _ _).mono ?_; rintro e w' ⟨rfl, rfl⟩)
  go_ret
  exact ⟨rfl, rfl⟩

set_option maxRecDepth 100000 in
set_option maxHeartbeats 1000000 in
theorem implPlcOk_any (w : World) (p : Int) (v : Value) (its : List Item) (hv : Items w w.heap.size v its) :
    Calls Try.prog 17 #[.int .i64 p, .agg #[v]] w fun e w' => e = .returned (.bool (plcB p its)) ∧ Below w.heap.size w w' := by
  obtain ⟨A, c, rfl, hc2, hc1⟩ := hv.form
  unfold maxLen at hc2
  have HV := Lib.hid (hv.alloc (Nat.le_refl _) (.cells #[.slice A its.length c] 30))
  have HBx := Lib.hid (Held.new w #[.slice A its.length c] 30)
  have HWx := Lib.hid (belowOne w (.cells #[.slice A its.length c] 30))
  clear hv
  rcases hp : inB p 1 3
  · have HK := Lib.hid (plcB_place (its := its) hp)
    go_enter Try.func17, Try.ntmps17
    go_wp2_with (go_at_call 61; refine (isService_any _ _).mono ?_; rintro e w' ⟨rfl, rfl⟩)
    go_ret
    exact ⟨ret_bool HK.out.symm, HWx.out⟩
  rcases hsb : stoB its
  · have HK := Lib.hid (plcB_sto (p := p) hsb)
    go_enter Try.func17, Try.ntmps17
    go_wp2_with (first | (go_at_call 61; refine (isService_any _ _).mono ?_; rintro e w' ⟨rfl, rfl⟩) | (go_at_call 62; refine (implStoOk_any _ _ _ (HV.out.more (by simp))).mono ?_; rintro e w1 ⟨rfl, hb1⟩; have HB1 := Lib.hid (belowNext HWx.out hb1); clear hb1))
    go_ret
    exact ⟨ret_bool HK.out.symm, HB1.out⟩
  obtain ⟨h40, heach, -⟩ := stoB_parts hsb
  have HE := Lib.hid heach
  clear heach
  have HP := Lib.hid (And.intro hp hsb)
  go_enter Try.func17, Try.ntmps17
  go_wp2_with (first | (go_at_call 61; refine (isService_any _ _).mono ?_; rintro e w' ⟨rfl, rfl⟩) | fail)
  refine (implStoOk_any _ _ _ (HV.out.more (by simp))).mono ?_
  rintro e w0 ⟨rfl, hb⟩
  rw [hsb]
  clear hp hsb
  have hsz : w.heap.size < (w.alloc (.cells #[.slice A its.length c] 30)).heap.size := by simp
  replace HV := Lib.hid (HV.out.below (hb.mono (Nat.le_of_lt hsz)))
  replace HBx := Lib.hid (HBx.out.below hb HBx.out.1)
  replace HWx := Lib.hid (belowNext HWx.out hb)
  clear hb hsz
  have hzw : w.heap.size < w0.heap.size := HBx.out.1
  have c0 := HBx.out.of 0 _ rfl
  go_wp2
  clear c0
  go_loopw [18] (fun i wr => ∃ k : Nat, k ≤ its.length ∧ i = .int .i64 k ∧ FormTo p its k ∧ Below w0.heap.size w0 wr) (fun i _ => its.length - (intOf i).toNat)
  case atStart => exact ⟨0, Nat.zero_le _, rfl, FormTo.start p its, Below.refl _ _⟩
  case round =>
    obtain ⟨k, hk, rfl, he, hb⟩ := hrel
    have hzr : w0.heap.size ≤ wr.heap.size := hb.size
    have HWr := Lib.hid (HWx.out.trans (hb.mono (Nat.le_of_lt hzw)))
    have HVr := Lib.hid (HV.out.below (hb.mono (Nat.le_of_lt hzw)))
    have HBw := Lib.hid hb
    clear hb
    by_cases hlt : k < its.length
    · obtain ⟨b, off, c', it, u, e1, hit, hB, hs, ck, cu, hu⟩ := HVr.out.at_ (k := k) hlt
      obtain ⟨A', c'', hu', _, _⟩ := hu.form
      subst hu'
      injection e1 with e1a e1b e1c
      subst e1a
      clear e1b e1c
      have HI := Lib.hid hit
      have HU := Lib.hid ((hu.alloc (Nat.le_of_lt (Nat.lt_of_lt_of_le hzw hzr)) (.cells #[.string it.key, .slice A' it.val.length c''] 102)).more (B' := (wr.alloc (.cells #[.string it.key, .slice A' it.val.length c''] 102)).heap.size) (by simp; omega))
      have hib := HE.out k it hlt hit
      have hp3 := Lib.hid (inB3 HP.out.1)
      have HIB := Lib.hid (show itemB ⟨it.key, it.val⟩ = true from hib)
      clear hit hu HVr hib
      rcases hkb : itP p it.key it.val
      · have HK := Lib.hid (plcB_form (formB_bad HI.out hkb))
        go_wp2_with fail
        refine (itemOk_any _ _ _ _ _ HU.out HIB.out hp3.out).mono ?_
        rintro e w1 ⟨rfl, hb1⟩
        rw [hkb]
        have HB1 := Lib.hid ((HWr.out.alloc (by omega) (.cells #[.string it.key, .slice A' it.val.length c''] 102)).trans (hb1.mono (by simp; omega)))
        clear hb1
        go_wp2
        go_ret
        exact ⟨ret_bool HK.out.symm, HB1.out⟩
      · have HF := Lib.hid (he.step HI.out hkb)
        go_wp2_with fail
        refine (itemOk_any _ _ _ _ _ HU.out HIB.out hp3.out).mono ?_
        rintro e w1 ⟨rfl, hb1⟩
        rw [hkb]
        have HB1 := Lib.hid ((HBw.out.alloc (by omega) (.cells #[.string it.key, .slice A' it.val.length c''] 102)).trans (hb1.mono (by simp; omega)))
        clear hb1
        go_wp2
        go_roundw
        case rel => exact ⟨k + 1, by omega, by go_num, HF.out, HB1.out⟩
        case measure => simp [intOf]; omega
    · have HK := Lib.hid (plcB_yes HP.out.1 HP.out.2 (formB_all ((show k = its.length by omega) ▸ he)))
      go_wp2
      go_ret
      exact ⟨ret_bool HK.out.symm, HWr.out⟩

end Go.Proofs.Ytecdibpiojgppaa

/- A region that draws its order, operation by operation: taken first, or passed over; the slot written out. Nothing of the program. -/
namespace Go.Proofs.Ytecdibpiojgppaa

section
variable {P : Program} {md : Region.Mode} {ops : Array Oper} {Q : Exit → Act → World → Prop} {S : World → Prop}
/-- Taken first. -/
theorem take_first (i d : Nat) {oi : Oper} {v : Value} {fuel : Nat} {listed : Array Bool} {a : Act} {w : World} (hi : ops[i]? = some oi) (hd : oi.dst = some d)
    (hs : Region.noSelect ops = true) (hf : Region.free md ops listed i = true) (hr : (Region.ready md ops listed).contains i = true)
    (hQ : ∀ c a w, Q (.panic c) (a.put oi.dst v) w → Q (.panic c) a w) (hw : Region.wanted oi (yielded ops a.tmps) = true) (hy : ∀ w, S w → (execOp a.eval oi).run P w = .ok (.value v) w) (hS : S w)
    (h : wpAnyH P md ops Q S fuel (listed.setIfInBounds i true) (a.put (some d) v) w) : wpAnyH P md ops Q S (fuel + 1) listed a w :=
  wpAnyH_take hi hs hf hr hQ (.inl ⟨hw, hy⟩) hS (by rw [hd]; exact h)
/-- Passed over: it is not wanted. -/
theorem pass_over (i d : Nat) {oi : Oper} {fuel : Nat} {listed : Array Bool} {a : Act} {w : World} (hi : ops[i]? = some oi) (hd : oi.dst = some d)
    (hs : Region.noSelect ops = true) (hf : Region.free md ops listed i = true) (hr : (Region.ready md ops listed).contains i = true)
    (hQ : ∀ c a w, Q (.panic c) (a.put oi.dst undef) w → Q (.panic c) a w) (hw : Region.wanted oi (yielded ops a.tmps) = false) (hS : S w)
    (h : wpAnyH P md ops Q S fuel (listed.setIfInBounds i true) (a.put (some d) undef) w) : wpAnyH P md ops Q S (fuel + 1) listed a w :=
  wpAnyH_take hi hs hf hr hQ (.inr ⟨hw, rfl⟩) hS (by rw [hd]; exact h)
end

end Go.Proofs.Ytecdibpiojgppaa
