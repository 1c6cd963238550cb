/- The walk of FnGloFam. By famgen.py. -/
import Derived.Test.YtmbkhohgciakfaaXPlayNoted
namespace Go.Proofs.Ytmbkhohgciakfaa
open Go.RowKit

/-- While what is done is gone through: how many keys of each family were made. -/
def FamI (w2 : World) (os : List Op) (k : Nat) (x : Value) (W : World) : Prop :=
  ∃ a b c gs S, PlayAt os k a b c ∧ stoSh.Own 36 W S x (playTo os k).1 ∧ ¬ S w2.heap.size ∧ GensAt b k gs ∧ Held W w2.heap.size (intsV gs) ∧ Below w2.heap.size w2 W
theorem digs_at {i : Nat} (h : i < 10) : (#[.string ⟨#[48]⟩, .string ⟨#[49]⟩, .string ⟨#[50]⟩, .string ⟨#[51]⟩, .string ⟨#[52]⟩, .string ⟨#[53]⟩, .string ⟨#[54]⟩, .string ⟨#[55]⟩, .string ⟨#[56]⟩, .string ⟨#[57]⟩] : Array Value).toList[i]? = some (.string (digS (i : Int))) := by
  have : i = 0 ∨ i = 1 ∨ i = 2 ∨ i = 3 ∨ i = 4 ∨ i = 5 ∨ i = 6 ∨ i = 7 ∨ i = 8 ∨ i = 9 := by omega
  rcases this with rfl | rfl | rfl | rfl | rfl | rfl | rfl | rfl | rfl | rfl <;> rfl
set_option maxRecDepth 100000 in
set_option maxHeartbeats 20000000 in
theorem lawGloFam_any (w : World) (v : Value) (n : Nat) (hv : Code8 w v n) :
    Calls Try.prog 3 #[v] w fun e w' => e = .returned (.bool true) ∧ Below w.heap.size w w' := by
  have HV := Lib.hid hv
  obtain ⟨A, c, f, rfl, h1, h2, -, -⟩ := hv
  unfold maxLen at h2
  by_cases hn : 1048576 < n
  · have hn' : (1048576 : Int) < (n : Int) := by omega
    go_enter Try.func3, Try.ntmps3
    go_wp2
    go_ret
    exact ⟨rfl, Below.refl _ _⟩
  have hn' : (n : Int) ≤ 1048576 := by omega
  clear hn
  go_enter Try.func3, Try.ntmps3
  go_wp2_with fail
  refine (drawGloPlay_any _ _ n HV.out).mono ?_
  rintro e w1 ⟨u, os, rfl, hol, hog, hrow, hb1⟩
  obtain ⟨Ao, co, hof, hoc, -⟩ := hrow.form
  subst hof
  unfold maxLen at hoc
  have HG := Lib.hid hog
  have HR1 := Lib.hid hrow
  have HB1 := Lib.hid hb1
  clear hrow hog hb1 HV
  go_wp2_with fail
  refine (implGloNew_any _).mono ?_
  rintro e w2 ⟨ux, rfl, hx, hb2⟩
  obtain ⟨Ax, cx, hfx, -, -⟩ := hx.row.form
  subst hfx
  have HR2 := Lib.hid ((HR1.out.below hb2).more hb2.size)
  have HB2 := Lib.hid (belowNext HB1.out hb2)
  have HI := Lib.hid (show FamI w2 os 0 (.slice Ax newG.length cx) (w2.alloc (.cells #[.int .i64 0, .int .i64 0, .int .i64 0, .int .i64 0, .int .i64 0, .int .i64 0, .int .i64 0, .int .i64 0, .int .i64 0, .int .i64 0] 3)) from ⟨[], [], [], _, _, PlayAt.start, hx.below (belowOne w2 _), fun h => by have := h.2; omega, GensAt.start, Held.new w2 #[.int .i64 0, .int .i64 0, .int .i64 0, .int .i64 0, .int .i64 0, .int .i64 0, .int .i64 0, .int .i64 0, .int .i64 0, .int .i64 0] 3, belowOne w2 _⟩)
  clear hx hb2 HB1 HR1
  have hmk : ∀ w, (Instr.makeSlice 27 (.int .i64 10) (.int .i64 10)).run Try.prog w = .ok (.slice (some ⟨w.heap.size, 0, none⟩) 10 10) (w.alloc (.cells #[.int .i64 0, .int .i64 0, .int .i64 0, .int .i64 0, .int .i64 0, .int .i64 0, .int .i64 0, .int .i64 0, .int .i64 0, .int .i64 0] 3)) := fun _ => by kernel_rfl
  go_wp2
  clear hmk
  go_loopw [4, 6] (fun a i wr => ∃ k : Nat, k ≤ os.length ∧ i = .int .i64 k ∧ FamI w2 os k a wr) (fun _ i _ => os.length - (intOf i).toNat)
  case atStart => exact ⟨0, Nat.zero_le _, rfl, HI.out⟩
  case round =>
    clear HI
    obtain ⟨k, hk, rfl, ia, ib, ic, gs, S1, hpl, hl, hns, hca, hh, hb⟩ := hrel
    obtain ⟨A1, c1, hf1, -, -⟩ := hl.row.form
    subst hf1
    by_cases hlt : k < os.length
    · obtain ⟨b, off, c', o, e1, ho, hB, q0, q1, q2, q3, q4, q5, q6⟩ := ops_at (HR2.out.below hb) hlt
      injection e1 with e1a e1b e1c
      subst e1a
      have hob := HG.out o (List.mem_of_getElem? ho)
      have hop := opB_parts hob
      obtain ⟨i, hi⟩ := Int.eq_ofNat_of_zero_le hop.2.2.2.2.2.2.2.2.1
      have hi9 : i < 10 := by omega
      have hg99 : 0 ≤ o.gen ∧ o.gen ≤ 99 := by omega
      have hlo : k ≤ 29 := by omega
      have HO := Lib.hid ho
      have HP := Lib.hid hpl
      have HOB := Lib.hid hob
      have HIT := Lib.hid hi
      have HCA := Lib.hid hca
      have HNS := Lib.hid hns
      have HL := Lib.hid hl
      have HHh := Lib.hid hh
      have HBb0 := Lib.hid hb
      clear e1b e1c hpl ho hob hop hi hk hca hns hl hh hb
      go_wp2_with fail
      clear q0 q1 q2 q3 q4 q5 q6
      refine (implGloDo_any _ _ _ HL.out.row _ o).mono ?_
      rintro e w3 ⟨u3, rfl, hu3, hb3⟩
      obtain ⟨A3, c3, hf3, -, -⟩ := hu3.row.form
      subst hf3
      have HL3 := Lib.hid (HL.out.below hb3)
      have HU3 := Lib.hid hu3
      have hg2 : w2.heap.size < wr.heap.size := HHh.out.1
      have hg3 : w2.heap.size < w3.heap.size := Nat.lt_of_lt_of_le hg2 hb3.size
      have HB3 := Lib.hid (belowNext HBb0.out hb3)
      have HH := Lib.hid (HHh.out.below hb3 HHh.out.1)
      clear hb3 HHh HBb0 HL hu3
      obtain ⟨b', off', c'', o', e1, ho, hB', q0, q1, q2, q3, q4, q5, q6⟩ := ops_at (HR2.out.below HB3.out) hlt
      injection e1 with e1a e1b e1c
      injection e1a with e1a
      injection e1a with e1x e1y
      subst e1x e1y
      rw [HO.out] at ho
      injection ho with ho
      subst ho
      rw [HIT.out] at q5
      generalize hy : (gloDo (playTo os k).1 k o).2 = y
      have HY := Lib.hid hy
      clear hy e1b e1c hB'
      rcases opK_kind HOB.out with hkd | hkd | hkd | hkd | hkd
      · rw [hkd] at q0
        have HKD := Lib.hid hkd
        clear hkd
        have HBo := Lib.hid (belowOne w3 (.cells #[.int .i64 1, .int .i64 o.who, .int .i64 o.inn, .int .i64 o.code, .int .i64 o.sec, .int .i64 i, .int .i64 o.gen] 31))
        have HNo := Lib.hid (fun (X : World) (hX : Below w3.heap.size w3 X) (hy : (gloDo (playTo os k).1 k o).2 = false) => show FamI w2 os (k + 1) (.slice A1 (playTo os k).1.length c1) X from ⟨_, _, _, gs, S1, HP.out.no HO.out hy, by rw [playTo_no HO.out hy]; exact HL3.out.below hX, HNS.out, HCA.out.no, HH.out.below hX HH.out.1, belowNext HB3.out hX⟩)
        cases y with
        | false =>
          have HN := Lib.hid (HNo.out _ HBo.out HY.out)
          clear HNo HBo HU3 HL3 HH HB3
          go_wp2
          go_roundw
          case rel => exact ⟨k + 1, by omega, by go_num, HN.out⟩
          case measure => simp [intOf]; omega
        | true =>
          have HN := Lib.hid (show FamI w2 os (k + 1) (.slice A3 (gloDo (playTo os k).1 k o).1.length c3) (w3.alloc (.cells #[.int .i64 1, .int .i64 o.who, .int .i64 o.inn, .int .i64 o.code, .int .i64 o.sec, .int .i64 i, .int .i64 o.gen] 31)) from ⟨_, _, _, gs, _, (HP.out.yes HO.out HOB.out hlo HY.out).2, by rw [playTo_yes HO.out HY.out]; exact HU3.out.below HBo.out, fun h => by have := h.1; omega, HCA.out.rest HP.out HOB.out hlo (by rw [HKD.out]; decide) (by rw [HKD.out]; decide) HY.out, HH.out.below HBo.out HH.out.1, belowNext HB3.out HBo.out⟩)
          clear HNo HBo HU3 HL3 HH HB3
          go_wp2
          go_roundw
          case rel => exact ⟨k + 1, by omega, by go_num, HN.out⟩
          case measure => simp [intOf]; omega
      · rw [hkd] at q0
        have HKD := Lib.hid hkd
        clear hkd
        have HBo := Lib.hid (belowOne w3 (.cells #[.int .i64 2, .int .i64 o.who, .int .i64 o.inn, .int .i64 o.code, .int .i64 o.sec, .int .i64 i, .int .i64 o.gen] 31))
        have HNo := Lib.hid (fun (X : World) (hX : Below w3.heap.size w3 X) (hy : (gloDo (playTo os k).1 k o).2 = false) => show FamI w2 os (k + 1) (.slice A1 (playTo os k).1.length c1) X from ⟨_, _, _, gs, S1, HP.out.no HO.out hy, by rw [playTo_no HO.out hy]; exact HL3.out.below hX, HNS.out, HCA.out.no, HH.out.below hX HH.out.1, belowNext HB3.out hX⟩)
        cases y with
        | false =>
          have HN := Lib.hid (HNo.out _ HBo.out HY.out)
          clear HNo HBo HU3 HL3 HH HB3
          go_wp2
          go_roundw
          case rel => exact ⟨k + 1, by omega, by go_num, HN.out⟩
          case measure => simp [intOf]; omega
        | true =>
          have HN := Lib.hid (show FamI w2 os (k + 1) (.slice A3 (gloDo (playTo os k).1 k o).1.length c3) (w3.alloc (.cells #[.int .i64 2, .int .i64 o.who, .int .i64 o.inn, .int .i64 o.code, .int .i64 o.sec, .int .i64 i, .int .i64 o.gen] 31)) from ⟨_, _, _, gs, _, (HP.out.yes HO.out HOB.out hlo HY.out).2, by rw [playTo_yes HO.out HY.out]; exact HU3.out.below HBo.out, fun h => by have := h.1; omega, HCA.out.rest HP.out HOB.out hlo (by rw [HKD.out]; decide) (by rw [HKD.out]; decide) HY.out, HH.out.below HBo.out HH.out.1, belowNext HB3.out HBo.out⟩)
          clear HNo HBo HU3 HL3 HH HB3
          go_wp2
          go_roundw
          case rel => exact ⟨k + 1, by omega, by go_num, HN.out⟩
          case measure => simp [intOf]; omega
      · rw [hkd] at q0
        have HKD := Lib.hid hkd
        clear hkd
        have HBo := Lib.hid (belowOne w3 (.cells #[.int .i64 3, .int .i64 o.who, .int .i64 o.inn, .int .i64 o.code, .int .i64 o.sec, .int .i64 i, .int .i64 o.gen] 31))
        have HNo := Lib.hid (fun (X : World) (hX : Below w3.heap.size w3 X) (hy : (gloDo (playTo os k).1 k o).2 = false) => show FamI w2 os (k + 1) (.slice A1 (playTo os k).1.length c1) X from ⟨_, _, _, gs, S1, HP.out.no HO.out hy, by rw [playTo_no HO.out hy]; exact HL3.out.below hX, HNS.out, HCA.out.no, HH.out.below hX HH.out.1, belowNext HB3.out hX⟩)
        cases y with
        | false =>
          have HN := Lib.hid (HNo.out _ HBo.out HY.out)
          clear HNo HBo HU3 HL3 HH HB3
          go_wp2
          go_roundw
          case rel => exact ⟨k + 1, by omega, by go_num, HN.out⟩
          case measure => simp [intOf]; omega
        | true =>
          obtain ⟨hls, hca⟩ := HCA.out.trade HP.out HOB.out hlo HKD.out HIT.out HY.out
          have z1 := HH.out.of i _ (intsV_at hls)
          have z0 := HH.out.2.1 i
          have HN := Lib.hid (show FamI w2 os (k + 1) (.slice A3 (gloDo (playTo os k).1 k o).1.length c3) ((w3.setCell ⟨w2.heap.size, i, none⟩ (.int .i64 1)).alloc (.cells #[.int .i64 3, .int .i64 o.who, .int .i64 o.inn, .int .i64 o.code, .int .i64 o.sec, .int .i64 i, .int .i64 o.gen] 31)) from ⟨_, _, _, _, _, (HP.out.yes HO.out HOB.out hlo HY.out).2, by rw [playTo_yes HO.out HY.out]; exact (HU3.out.keep (w' := w3.setCell ⟨w2.heap.size, i, none⟩ (.int .i64 1)) (fun b hb _ => Below.heap_setCell w3 _ _ b (fun e => by have := hb.1; simp at e; omega))).below (belowOne _ _), fun h => by have := h.1; omega, hca, by rw [← intsV_set]; exact (Held.set_ (w := w3) HH.out _).after _, belowNext (HB3.out.setCell (p := ⟨w2.heap.size, i, none⟩) (Nat.le_refl _) _) (belowOne _ _)⟩)
          clear HNo HBo HU3 HL3 HH HB3 hls hca
          go_wp2
          go_roundw
          case rel => exact ⟨k + 1, by omega, by go_num, HN.out⟩
          case measure => simp [intOf]; omega
      · rw [hkd] at q0
        have HKD := Lib.hid hkd
        clear hkd
        have HBo := Lib.hid (belowOne w3 (.cells #[.int .i64 4, .int .i64 o.who, .int .i64 o.inn, .int .i64 o.code, .int .i64 o.sec, .int .i64 i, .int .i64 o.gen] 31))
        have HNo := Lib.hid (fun (X : World) (hX : Below w3.heap.size w3 X) (hy : (gloDo (playTo os k).1 k o).2 = false) => show FamI w2 os (k + 1) (.slice A1 (playTo os k).1.length c1) X from ⟨_, _, _, gs, S1, HP.out.no HO.out hy, by rw [playTo_no HO.out hy]; exact HL3.out.below hX, HNS.out, HCA.out.no, HH.out.below hX HH.out.1, belowNext HB3.out hX⟩)
        cases y with
        | false =>
          have HF := Lib.hid (HCA.out.may HP.out HOB.out hlo HKD.out HIT.out)
          have HX := Lib.hid (show Held (w3.alloc (.cells #[.int .i64 4, .int .i64 o.who, .int .i64 o.inn, .int .i64 o.code, .int .i64 o.sec, .int .i64 i, .int .i64 o.gen] 31)) w3.heap.size _ from Held.new w3 #[.int .i64 4, .int .i64 o.who, .int .i64 o.inn, .int .i64 o.code, .int .i64 o.sec, .int .i64 i, .int .i64 o.gen] 31)
          have HFc := Lib.hid (fun (X : World) (hX : Below (w3.alloc (.cells #[.int .i64 4, .int .i64 o.who, .int .i64 o.inn, .int .i64 o.code, .int .i64 o.sec, .int .i64 i, .int .i64 o.gen] 31)).heap.size (w3.alloc (.cells #[.int .i64 4, .int .i64 o.who, .int .i64 o.inn, .int .i64 o.code, .int .i64 o.sec, .int .i64 i, .int .i64 o.gen] 31)) X) => And.intro (HX.out.below hX HX.out.1) (And.intro ((HH.out.after (.cells #[.int .i64 4, .int .i64 o.who, .int .i64 o.inn, .int .i64 o.code, .int .i64 o.sec, .int .i64 i, .int .i64 o.gen] 31)).below hX (HH.out.after _).1) (belowNext HBo.out hX)))
          have hl3 : (playTo os k).1.length = 3 := by rw [HP.out.is]; rfl
          obtain ⟨b1, of1, d1, x1, p1, e1, hx1, hB1, r1, hi1⟩ := stos_at HL3.out.row (k := 1) (by rw [hl3]; omega)
          rw [HP.out.is] at hx1
          have hx1' : (⟨ib⟩ : Sto) = x1 := Option.some.inj hx1
          subst hx1'
          injection e1 with e1a e1b e1c
          subst e1a
          obtain ⟨Ai, ci, hfi, -, -⟩ := hi1.form
          subst hfi
          have r1w := (HBo.out.cell (p := ⟨b1, of1 + 1, none⟩) hB1).trans r1
          have k0 := And.intro r1w (HX.out.of 5 _ rfl)
          have hdig : ∀ h, ([.string ⟨#[48]⟩, .string ⟨#[49]⟩, .string ⟨#[50]⟩, .string ⟨#[51]⟩, .string ⟨#[52]⟩, .string ⟨#[53]⟩, .string ⟨#[54]⟩, .string ⟨#[55]⟩, .string ⟨#[56]⟩, .string ⟨#[57]⟩] : List Value)[i]'h = .string (digS (i : Int)) := fun h => by have := digs_at hi9; rw [List.getElem?_eq_getElem (by simpa using hi9)] at this; exact Option.some.inj this
          have HIt := Lib.hid (fun (X : World) (hX : Below (w3.alloc (.cells #[.int .i64 4, .int .i64 o.who, .int .i64 o.inn, .int .i64 o.code, .int .i64 o.sec, .int .i64 i, .int .i64 o.gen] 31)).heap.size (w3.alloc (.cells #[.int .i64 4, .int .i64 o.who, .int .i64 o.inn, .int .i64 o.code, .int .i64 o.sec, .int .i64 i, .int .i64 o.gen] 31)) X) => show Items X X.heap.size (.slice Ai ib.length ci) ib from items_row.1 ((hi1.below (belowNext HBo.out hX)).more (Nat.le_trans HBo.out.size hX.size)))
          have HBs := Lib.hid ((belowOne (w3.alloc (.cells #[.int .i64 4, .int .i64 o.who, .int .i64 o.inn, .int .i64 o.code, .int .i64 o.sec, .int .i64 i, .int .i64 o.gen] 31)) (.cells #[.string ⟨#[48]⟩, .string ⟨#[49]⟩, .string ⟨#[50]⟩, .string ⟨#[51]⟩, .string ⟨#[52]⟩, .string ⟨#[53]⟩, .string ⟨#[54]⟩, .string ⟨#[55]⟩, .string ⟨#[56]⟩, .string ⟨#[57]⟩] 9)).drew)
          have HBt := Lib.hid (show Below (w3.alloc (.cells #[.int .i64 4, .int .i64 o.who, .int .i64 o.inn, .int .i64 o.code, .int .i64 o.sec, .int .i64 i, .int .i64 o.gen] 31)).heap.size (w3.alloc (.cells #[.int .i64 4, .int .i64 o.who, .int .i64 o.inn, .int .i64 o.code, .int .i64 o.sec, .int .i64 i, .int .i64 o.gen] 31)) ((w3.alloc (.cells #[.int .i64 4, .int .i64 o.who, .int .i64 o.inn, .int .i64 o.code, .int .i64 o.sec, .int .i64 i, .int .i64 o.gen] 31)).alloc (.cells #[.string ⟨#[48]⟩, .string ⟨#[49]⟩, .string ⟨#[50]⟩, .string ⟨#[51]⟩, .string ⟨#[52]⟩, .string ⟨#[53]⟩, .string ⟨#[54]⟩, .string ⟨#[55]⟩, .string ⟨#[56]⟩, .string ⟨#[57]⟩] 9)).drew from (belowOne (w3.alloc (.cells #[.int .i64 4, .int .i64 o.who, .int .i64 o.inn, .int .i64 o.code, .int .i64 o.sec, .int .i64 i, .int .i64 o.gen] 31)) _).drew)
          have hds : (digS (i : Int)).size = 1 := digS_size _
          have HKE := Lib.hid (show (⟨#[102]⟩ : ByteArray) ++ digS (i : Int) = keyN 102 (i : Int) from (keyN_digit 102 (by omega)).symm)
          have HSB := Lib.hid (plc_parts (gloB_parts HP.out.ok).2.1).1
          have i10 : (i : Int) < 10 := by omega
          have i00 : (0 : Int) ≤ (i : Int) := by omega
          have hb1w : b1 < (w3.alloc (.cells #[.int .i64 4, .int .i64 o.who, .int .i64 o.inn, .int .i64 o.code, .int .i64 o.sec, .int .i64 i, .int .i64 o.gen] 31)).heap.size := Nat.lt_of_lt_of_le hB1 HBo.out.size
          have HXl := Lib.hid HX.out.1
          rw [hl3] at *
          clear hl3 hx1 e1b e1c hi1 r1 HBs
          go_wp2
          refine wp_region_held_drew (S := (fun w' => w'.cell? ⟨b1, of1 + 1, none⟩ = some (.slice Ai ib.length ci) ∧ w'.cell? ⟨w3.heap.size, 5, none⟩ = some (.int .i64 i))) (by kernel_rfl) ?hSff (fun hHeldff => ?stff)
          case hSff => (first | (dsimp only; (first | with_reducible exact k2 | with_reducible exact k1 | with_reducible exact k0 | exact k0)) | (first | with_reducible exact k2 | with_reducible exact k1 | with_reducible exact k0 | exact k0))
          refine take_first 0 48 (v := ?vff_1) rfl rfl (by kernel_rfl) (by kernel_rfl) (by kernel_rfl) (fun _ _ _ h => h) (by rfl) ?yff_1 (by assumption) ?rff_1
          case yff_1 => (intro w hSw; (try dsimp only at hSw); go_simp; (try with_reducible rfl))
          simp only [Act.put, List.setIfInBounds_toArray, List.set_cons_zero, List.set_cons_succ]
          refine take_first 1 49 (v := ?vff_2) rfl rfl (by kernel_rfl) (by kernel_rfl) (by kernel_rfl) (fun _ _ _ h => h) (by rfl) ?yff_2 (by assumption) ?rff_2
          case yff_2 => (intro w hSw; (try dsimp only at hSw); go_simp; (try with_reducible rfl))
          simp only [Act.put, List.setIfInBounds_toArray, List.set_cons_zero, List.set_cons_succ]
          refine take_first 2 50 (v := ?vff_3) rfl rfl (by kernel_rfl) (by kernel_rfl) (by kernel_rfl) (fun _ _ _ h => h) (by rfl) ?yff_3 (by assumption) ?rff_3
          case yff_3 => (intro w hSw; (try dsimp only at hSw); go_simp; (try with_reducible rfl))
          simp only [Act.put, List.setIfInBounds_toArray, List.set_cons_zero, List.set_cons_succ]
          refine take_first 4 52 (v := ?vff_4) rfl rfl (by kernel_rfl) (by kernel_rfl) (by kernel_rfl) (fun _ _ _ h => h) (by rfl) ?yff_4 (by assumption) ?rff_4
          case yff_4 => (intro w hSw; (try dsimp only at hSw); go_simp; (try with_reducible rfl))
          simp only [Act.put, List.setIfInBounds_toArray, List.set_cons_zero, List.set_cons_succ]
          refine take_first 5 53 (v := ?vff_5) rfl rfl (by kernel_rfl) (by kernel_rfl) (by kernel_rfl) (fun _ _ _ h => h) (by rfl) ?yff_5 (by assumption) ?rff_5
          case yff_5 => (intro w hSw; (try dsimp only at hSw); go_simp; (try with_reducible rfl))
          simp only [Act.put, List.setIfInBounds_toArray, List.set_cons_zero, List.set_cons_succ]
          refine wpAnyH_ready (rs := [3]) (by kernel_rfl) (by simp) ?_
          refine AllReadyH.cons (o := _) rfl (fun Kff_6 hKff_6 => ?cff_6) ?mff_6
          case mff_6 => exact AllReadyH.nil
          go_simp
          have k1 := And.intro ((HBt.out.cell (p := ⟨b1, of1 + 1, none⟩) hb1w).trans r1w) ((HFc.out _ HBt.out).1.of 5 _ rfl)
          go_wp2_with fail
          refine hKff_6.out _ _ ?kff_6 (fun hHeldff_6 => ?dff_6)
          case kff_6 => (first | (dsimp only; (first | with_reducible exact k2 | with_reducible exact k1 | with_reducible exact k0 | exact k0)) | (first | with_reducible exact k2 | with_reducible exact k1 | with_reducible exact k0 | exact k0))
          clear hKff_6 Kff_6
          refine take_first 6 54 (v := ?vff_7) rfl rfl (by kernel_rfl) (by kernel_rfl) (by kernel_rfl) (fun _ _ _ h => h) (by rfl) ?yff_7 (by assumption) ?rff_7
          case yff_7 => (intro w hSw; (try dsimp only at hSw); go_simp; (try with_reducible rfl))
          simp only [Act.put, List.setIfInBounds_toArray, List.set_cons_zero, List.set_cons_succ]
          refine wpAnyH_ready (rs := [7]) (by kernel_rfl) (by simp) ?_
          refine AllReadyH.cons (o := _) rfl (fun Kff_8 hKff_8 => ?cff_8) ?mff_8
          case mff_8 => exact AllReadyH.nil
          go_simp
          skip
          go_wp2_with fail
          refine hKff_8.out _ _ ?kff_8 (fun hHeldff_8 => ?dff_8)
          case kff_8 => (first | (dsimp only; (first | with_reducible exact k2 | with_reducible exact k1 | with_reducible exact k0 | exact k0)) | (first | with_reducible exact k2 | with_reducible exact k1 | with_reducible exact k0 | exact k0))
          clear hKff_8 Kff_8
          refine take_first 8 56 (v := ?vff_9) rfl rfl (by kernel_rfl) (by kernel_rfl) (by kernel_rfl) (fun _ _ _ h => h) (by rfl) ?yff_9 (by assumption) ?rff_9
          case yff_9 => (intro w hSw; (try dsimp only at hSw); go_simp; (try with_reducible rfl))
          simp only [Act.put, List.setIfInBounds_toArray, List.set_cons_zero, List.set_cons_succ]
          refine wpAnyH_ready (rs := [9]) (by kernel_rfl) (by simp) ?_
          refine AllReadyH.cons (o := _) rfl (fun Kff_10 hKff_10 => ?cff_10) ?mff_10
          case mff_10 => exact AllReadyH.nil
          go_simp
          (with_reducible refine (implStoGet_any _ _ ib _ (HIt.out _ HBt.out)).mono ?_); rintro e w7 ⟨u7, rfl, ho7, hb7⟩; rw [HKE.out, getOk_yes HSB.out]; rw [HKE.out, getV_yes HSB.out] at ho7; have HB7 := Lib.hid (HBt.out.trans (hb7.mono HBt.out.size)); have HO7 := Lib.hid ho7; have k2 : w7.cell? ⟨b1, of1 + 1, none⟩ = some (.slice Ai ib.length ci) ∧ w7.cell? ⟨w3.heap.size, 5, none⟩ = some (.int .i64 i) := And.intro ((HB7.out.cell (p := ⟨b1, of1 + 1, none⟩) hb1w).trans r1w) ((HFc.out _ HB7.out).1.of 5 _ rfl); clear ho7 hb7
          go_wp2_with fail
          refine hKff_10.out _ _ ?kff_10 (fun hHeldff_10 => ?dff_10)
          case kff_10 => (first | (dsimp only; (first | with_reducible exact k2 | with_reducible exact k1 | with_reducible exact k0 | exact k0)) | (first | with_reducible exact k2 | with_reducible exact k1 | with_reducible exact k0 | exact k0))
          clear hKff_10 Kff_10
          refine take_first 10 47 (v := ?vff_11) rfl rfl (by kernel_rfl) (by kernel_rfl) (by kernel_rfl) (fun _ _ _ h => h) (by rfl) ?yff_11 (by assumption) ?rff_11
          case yff_11 => (intro w hSw; (try dsimp only at hSw); go_simp; (try with_reducible rfl))
          simp only [Act.put, List.setIfInBounds_toArray, List.set_cons_zero, List.set_cons_succ]
          refine take_first 11 58 (v := ?vff_12) rfl rfl (by kernel_rfl) (by kernel_rfl) (by kernel_rfl) (fun _ _ _ h => h) (by rfl) ?yff_12 (by assumption) ?rff_12
          case yff_12 => (intro w hSw; (try dsimp only at hSw); go_simp; (try with_reducible rfl))
          simp only [Act.put, List.setIfInBounds_toArray, List.set_cons_zero, List.set_cons_succ]
          refine take_first 12 59 (v := ?vff_13) rfl rfl (by kernel_rfl) (by kernel_rfl) (by kernel_rfl) (fun _ _ _ h => h) (by rfl) ?yff_13 (by assumption) ?rff_13
          case yff_13 => (intro w hSw; (try dsimp only at hSw); go_simp; (try with_reducible rfl))
          simp only [Act.put, List.setIfInBounds_toArray, List.set_cons_zero, List.set_cons_succ]
          refine take_first 13 11 (v := ?vff_14) rfl rfl (by kernel_rfl) (by kernel_rfl) (by kernel_rfl) (fun _ _ _ h => h) (by rfl) ?yff_14 (by assumption) ?rff_14
          case yff_14 => (intro w hSw; (try dsimp only at hSw); go_simp; (try with_reducible rfl))
          simp only [Act.put, List.setIfInBounds_toArray, List.set_cons_zero, List.set_cons_succ]
          refine take_first 14 12 (v := ?vff_15) rfl rfl (by kernel_rfl) (by kernel_rfl) (by kernel_rfl) (fun _ _ _ h => h) (by rfl) ?yff_15 (by assumption) ?rff_15
          case yff_15 => (intro w hSw; (try dsimp only at hSw); go_simp; (try with_reducible rfl))
          simp only [Act.put, List.setIfInBounds_toArray, List.set_cons_zero, List.set_cons_succ]
          refine wpAnyH_done (by kernel_rfl) ?eff _
          clear k0 k1 k2 hdig hds r1w
          obtain ⟨A7, c7, hf7, l7, d7, row7⟩ := HO7.out.ints
          clear HO7
          rcases hlk : lookOk ib (keyN 102 (i : Int))
          · have hv0 : lookV ib (keyN 102 (i : Int)) = [] := by unfold lookOk at hlk; unfold lookV; cases hl : look ib (keyN 102 (i : Int)) with | none => rfl | some x => rw [hl] at hlk; cases hlk
            rw [hv0] at hf7
            subst hf7
            have hc7 := HFc.out _ HB7.out
            have y0 := hc7.1.of 0 _ rfl
            have y5 := hc7.1.of 5 _ rfl
            have y6 := hc7.1.of 6 _ rfl
            clear hc7
            clear row7 HF hv0 hlk
            go_wp2
            go_quiet (fail)
            have HB8 := Lib.hid (HB7.out.trans ((belowDraws (Below.refl w7.heap.size w7) nq).mono HB7.out.size))
            clear y0 y5 y6
            generalize w7.drewN nq = w8 at *
            have hc8 := HFc.out _ HB8.out
            have y0 := hc8.1.of 0 _ rfl
            have y5 := hc8.1.of 5 _ rfl
            have y6 := hc8.1.of 6 _ rfl
            clear hc8
            go_wp2
            go_quiet (fail)
            have HB9 := Lib.hid (HB8.out.trans ((belowDraws (Below.refl w8.heap.size w8) nq).mono HB8.out.size))
            clear y0 y5 y6
            generalize w8.drewN nq = w9 at *
            have hc9 := HFc.out _ HB9.out
            have y0 := hc9.1.of 0 _ rfl
            have y5 := hc9.1.of 5 _ rfl
            have y6 := hc9.1.of 6 _ rfl
            clear hc9
            have HN := Lib.hid (HNo.out _ (belowNext HBo.out HB9.out) HY.out)
            go_wp2
            go_roundw
            case rel => exact ⟨k + 1, by omega, by go_num, HN.out⟩
            case measure => simp [intOf]; omega
          ·
            have hfam := HP.out.fam hlk
            rw [hfam.1] at hf7 row7
            subst hf7
            obtain ⟨b7, of7, hA7, hB7, cell7⟩ := row7 (by omega)
            subst hA7
            have z1 := cell7 1 (by omega)
            have z2 := cell7 2 (by omega)
            dsimp only at z1 z2
            have hf0 := HF.out.symm.trans HY.out
            rw [hlk] at hf0
            rcases hfam.2.2 with h20 | h21
            · rw [h20] at z2
              have hc7 := HFc.out _ HB7.out
              have y0 := hc7.1.of 0 _ rfl
              have y5 := hc7.1.of 5 _ rfl
              have y6 := hc7.1.of 6 _ rfl
              clear hc7
              clear row7 cell7 hfam hf0 h20 HF hlk
              go_wp2
              go_quiet (fail)
              have HB8 := Lib.hid (HB7.out.trans ((belowDraws (Below.refl w7.heap.size w7) nq).mono HB7.out.size))
              clear z1
              clear z2
              clear y0 y5 y6
              generalize w7.drewN nq = w8 at *
              have hc8 := HFc.out _ HB8.out
              have y0 := hc8.1.of 0 _ rfl
              have y5 := hc8.1.of 5 _ rfl
              have y6 := hc8.1.of 6 _ rfl
              clear hc8
              go_wp2
              go_quiet (fail)
              have HB9 := Lib.hid (HB8.out.trans ((belowDraws (Below.refl w8.heap.size w8) nq).mono HB8.out.size))
              clear y0 y5 y6
              generalize w8.drewN nq = w9 at *
              have hc9 := HFc.out _ HB9.out
              have y0 := hc9.1.of 0 _ rfl
              have y5 := hc9.1.of 5 _ rfl
              have y6 := hc9.1.of 6 _ rfl
              clear hc9
              have HN := Lib.hid (HNo.out _ (belowNext HBo.out HB9.out) HY.out)
              go_wp2
              go_roundw
              case rel => exact ⟨k + 1, by omega, by go_num, HN.out⟩
              case measure => simp [intOf]; omega
            · rw [h21] at z2 hf0
              have HLV := Lib.hid (HCA.out.live hi9 hlk h21)
              have hc7 := HFc.out _ HB7.out
              have y0 := hc7.1.of 0 _ rfl
              have y5 := hc7.1.of 5 _ rfl
              have y6 := hc7.1.of 6 _ rfl
              have a1 := hc7.2.1.of i _ (intsV_at HLV.out)
              have a2 := hc7.2.1.2.1 i
              clear hc7
              clear row7 cell7 hfam h21 HF hlk
              generalize nth (lookV ib (keyN 102 (i : Int))) 1 = x1 at *
              have t3 : (x1 != x1) = false := by simp
              by_cases hg1 : 1 ≤ o.gen
              · have t1 : decide (1 ≤ o.gen) = true := by simpa using hg1
                have t2 : decide (o.gen ≤ x1) = false := by rw [t1] at hf0; simpa using hf0
                clear hf0 hg1
                go_wp2
                go_quiet (fail)
                have HB8 := Lib.hid (HB7.out.trans ((belowDraws (Below.refl w7.heap.size w7) nq).mono HB7.out.size))
                clear z1
                clear z2
                clear t1
                clear t2
                clear t3
                clear y0 y5 y6 a1 a2
                generalize w7.drewN nq = w8 at *
                have hc8 := HFc.out _ HB8.out
                have y0 := hc8.1.of 0 _ rfl
                have y5 := hc8.1.of 5 _ rfl
                have y6 := hc8.1.of 6 _ rfl
                have a1 := hc8.2.1.of i _ (intsV_at HLV.out)
                have a2 := hc8.2.1.2.1 i
                clear hc8
                go_wp2
                go_quiet (fail)
                have HB9 := Lib.hid (HB8.out.trans ((belowDraws (Below.refl w8.heap.size w8) nq).mono HB8.out.size))
                clear y0 y5 y6 a1 a2
                generalize w8.drewN nq = w9 at *
                have hc9 := HFc.out _ HB9.out
                have y0 := hc9.1.of 0 _ rfl
                have y5 := hc9.1.of 5 _ rfl
                have y6 := hc9.1.of 6 _ rfl
                have a1 := hc9.2.1.of i _ (intsV_at HLV.out)
                have a2 := hc9.2.1.2.1 i
                clear hc9
                have HN := Lib.hid (HNo.out _ (belowNext HBo.out HB9.out) HY.out)
                go_wp2
                go_roundw
                case rel => exact ⟨k + 1, by omega, by go_num, HN.out⟩
                case measure => simp [intOf]; omega
              · have t1 : decide (1 ≤ o.gen) = false := by simpa using hg1
                clear hf0 hg1
                go_wp2
                go_quiet (fail)
                have HB8 := Lib.hid (HB7.out.trans ((belowDraws (Below.refl w7.heap.size w7) nq).mono HB7.out.size))
                clear z1
                clear z2
                clear t1
                clear t3
                clear y0 y5 y6 a1 a2
                generalize w7.drewN nq = w8 at *
                have hc8 := HFc.out _ HB8.out
                have y0 := hc8.1.of 0 _ rfl
                have y5 := hc8.1.of 5 _ rfl
                have y6 := hc8.1.of 6 _ rfl
                have a1 := hc8.2.1.of i _ (intsV_at HLV.out)
                have a2 := hc8.2.1.2.1 i
                clear hc8
                go_wp2
                go_quiet (fail)
                have HB9 := Lib.hid (HB8.out.trans ((belowDraws (Below.refl w8.heap.size w8) nq).mono HB8.out.size))
                clear y0 y5 y6 a1 a2
                generalize w8.drewN nq = w9 at *
                have hc9 := HFc.out _ HB9.out
                have y0 := hc9.1.of 0 _ rfl
                have y5 := hc9.1.of 5 _ rfl
                have y6 := hc9.1.of 6 _ rfl
                have a1 := hc9.2.1.of i _ (intsV_at HLV.out)
                have a2 := hc9.2.1.2.1 i
                clear hc9
                have HN := Lib.hid (HNo.out _ (belowNext HBo.out HB9.out) HY.out)
                go_wp2
                go_roundw
                case rel => exact ⟨k + 1, by omega, by go_num, HN.out⟩
                case measure => simp [intOf]; omega
        | true =>
          have HF := Lib.hid (HCA.out.may HP.out HOB.out hlo HKD.out HIT.out)
          have HX := Lib.hid (show Held (w3.alloc (.cells #[.int .i64 4, .int .i64 o.who, .int .i64 o.inn, .int .i64 o.code, .int .i64 o.sec, .int .i64 i, .int .i64 o.gen] 31)) w3.heap.size _ from Held.new w3 #[.int .i64 4, .int .i64 o.who, .int .i64 o.inn, .int .i64 o.code, .int .i64 o.sec, .int .i64 i, .int .i64 o.gen] 31)
          have HFc := Lib.hid (fun (X : World) (hX : Below (w3.alloc (.cells #[.int .i64 4, .int .i64 o.who, .int .i64 o.inn, .int .i64 o.code, .int .i64 o.sec, .int .i64 i, .int .i64 o.gen] 31)).heap.size (w3.alloc (.cells #[.int .i64 4, .int .i64 o.who, .int .i64 o.inn, .int .i64 o.code, .int .i64 o.sec, .int .i64 i, .int .i64 o.gen] 31)) X) => And.intro (HX.out.below hX HX.out.1) (And.intro ((HH.out.after (.cells #[.int .i64 4, .int .i64 o.who, .int .i64 o.inn, .int .i64 o.code, .int .i64 o.sec, .int .i64 i, .int .i64 o.gen] 31)).below hX (HH.out.after _).1) (belowNext HBo.out hX)))
          have hl3 : (playTo os k).1.length = 3 := by rw [HP.out.is]; rfl
          obtain ⟨b1, of1, d1, x1, p1, e1, hx1, hB1, r1, hi1⟩ := stos_at HL3.out.row (k := 1) (by rw [hl3]; omega)
          rw [HP.out.is] at hx1
          have hx1' : (⟨ib⟩ : Sto) = x1 := Option.some.inj hx1
          subst hx1'
          injection e1 with e1a e1b e1c
          subst e1a
          obtain ⟨Ai, ci, hfi, -, -⟩ := hi1.form
          subst hfi
          have r1w := (HBo.out.cell (p := ⟨b1, of1 + 1, none⟩) hB1).trans r1
          have k0 := And.intro r1w (HX.out.of 5 _ rfl)
          have hdig : ∀ h, ([.string ⟨#[48]⟩, .string ⟨#[49]⟩, .string ⟨#[50]⟩, .string ⟨#[51]⟩, .string ⟨#[52]⟩, .string ⟨#[53]⟩, .string ⟨#[54]⟩, .string ⟨#[55]⟩, .string ⟨#[56]⟩, .string ⟨#[57]⟩] : List Value)[i]'h = .string (digS (i : Int)) := fun h => by have := digs_at hi9; rw [List.getElem?_eq_getElem (by simpa using hi9)] at this; exact Option.some.inj this
          have HIt := Lib.hid (fun (X : World) (hX : Below (w3.alloc (.cells #[.int .i64 4, .int .i64 o.who, .int .i64 o.inn, .int .i64 o.code, .int .i64 o.sec, .int .i64 i, .int .i64 o.gen] 31)).heap.size (w3.alloc (.cells #[.int .i64 4, .int .i64 o.who, .int .i64 o.inn, .int .i64 o.code, .int .i64 o.sec, .int .i64 i, .int .i64 o.gen] 31)) X) => show Items X X.heap.size (.slice Ai ib.length ci) ib from items_row.1 ((hi1.below (belowNext HBo.out hX)).more (Nat.le_trans HBo.out.size hX.size)))
          have HBs := Lib.hid ((belowOne (w3.alloc (.cells #[.int .i64 4, .int .i64 o.who, .int .i64 o.inn, .int .i64 o.code, .int .i64 o.sec, .int .i64 i, .int .i64 o.gen] 31)) (.cells #[.string ⟨#[48]⟩, .string ⟨#[49]⟩, .string ⟨#[50]⟩, .string ⟨#[51]⟩, .string ⟨#[52]⟩, .string ⟨#[53]⟩, .string ⟨#[54]⟩, .string ⟨#[55]⟩, .string ⟨#[56]⟩, .string ⟨#[57]⟩] 9)).drew)
          have HBt := Lib.hid (show Below (w3.alloc (.cells #[.int .i64 4, .int .i64 o.who, .int .i64 o.inn, .int .i64 o.code, .int .i64 o.sec, .int .i64 i, .int .i64 o.gen] 31)).heap.size (w3.alloc (.cells #[.int .i64 4, .int .i64 o.who, .int .i64 o.inn, .int .i64 o.code, .int .i64 o.sec, .int .i64 i, .int .i64 o.gen] 31)) ((w3.alloc (.cells #[.int .i64 4, .int .i64 o.who, .int .i64 o.inn, .int .i64 o.code, .int .i64 o.sec, .int .i64 i, .int .i64 o.gen] 31)).alloc (.cells #[.string ⟨#[48]⟩, .string ⟨#[49]⟩, .string ⟨#[50]⟩, .string ⟨#[51]⟩, .string ⟨#[52]⟩, .string ⟨#[53]⟩, .string ⟨#[54]⟩, .string ⟨#[55]⟩, .string ⟨#[56]⟩, .string ⟨#[57]⟩] 9)).drew from (belowOne (w3.alloc (.cells #[.int .i64 4, .int .i64 o.who, .int .i64 o.inn, .int .i64 o.code, .int .i64 o.sec, .int .i64 i, .int .i64 o.gen] 31)) _).drew)
          have hds : (digS (i : Int)).size = 1 := digS_size _
          have HKE := Lib.hid (show (⟨#[102]⟩ : ByteArray) ++ digS (i : Int) = keyN 102 (i : Int) from (keyN_digit 102 (by omega)).symm)
          have HSB := Lib.hid (plc_parts (gloB_parts HP.out.ok).2.1).1
          have i10 : (i : Int) < 10 := by omega
          have i00 : (0 : Int) ≤ (i : Int) := by omega
          have hb1w : b1 < (w3.alloc (.cells #[.int .i64 4, .int .i64 o.who, .int .i64 o.inn, .int .i64 o.code, .int .i64 o.sec, .int .i64 i, .int .i64 o.gen] 31)).heap.size := Nat.lt_of_lt_of_le hB1 HBo.out.size
          have HXl := Lib.hid HX.out.1
          rw [hl3] at *
          clear hl3 hx1 e1b e1c hi1 r1 HBs
          go_wp2
          refine wp_region_held_drew (S := (fun w' => w'.cell? ⟨b1, of1 + 1, none⟩ = some (.slice Ai ib.length ci) ∧ w'.cell? ⟨w3.heap.size, 5, none⟩ = some (.int .i64 i))) (by kernel_rfl) ?hSft (fun hHeldft => ?stft)
          case hSft => (first | (dsimp only; (first | with_reducible exact k2 | with_reducible exact k1 | with_reducible exact k0 | exact k0)) | (first | with_reducible exact k2 | with_reducible exact k1 | with_reducible exact k0 | exact k0))
          refine take_first 0 48 (v := ?vft_1) rfl rfl (by kernel_rfl) (by kernel_rfl) (by kernel_rfl) (fun _ _ _ h => h) (by rfl) ?yft_1 (by assumption) ?rft_1
          case yft_1 => (intro w hSw; (try dsimp only at hSw); go_simp; (try with_reducible rfl))
          simp only [Act.put, List.setIfInBounds_toArray, List.set_cons_zero, List.set_cons_succ]
          refine take_first 1 49 (v := ?vft_2) rfl rfl (by kernel_rfl) (by kernel_rfl) (by kernel_rfl) (fun _ _ _ h => h) (by rfl) ?yft_2 (by assumption) ?rft_2
          case yft_2 => (intro w hSw; (try dsimp only at hSw); go_simp; (try with_reducible rfl))
          simp only [Act.put, List.setIfInBounds_toArray, List.set_cons_zero, List.set_cons_succ]
          refine take_first 2 50 (v := ?vft_3) rfl rfl (by kernel_rfl) (by kernel_rfl) (by kernel_rfl) (fun _ _ _ h => h) (by rfl) ?yft_3 (by assumption) ?rft_3
          case yft_3 => (intro w hSw; (try dsimp only at hSw); go_simp; (try with_reducible rfl))
          simp only [Act.put, List.setIfInBounds_toArray, List.set_cons_zero, List.set_cons_succ]
          refine take_first 4 52 (v := ?vft_4) rfl rfl (by kernel_rfl) (by kernel_rfl) (by kernel_rfl) (fun _ _ _ h => h) (by rfl) ?yft_4 (by assumption) ?rft_4
          case yft_4 => (intro w hSw; (try dsimp only at hSw); go_simp; (try with_reducible rfl))
          simp only [Act.put, List.setIfInBounds_toArray, List.set_cons_zero, List.set_cons_succ]
          refine take_first 5 53 (v := ?vft_5) rfl rfl (by kernel_rfl) (by kernel_rfl) (by kernel_rfl) (fun _ _ _ h => h) (by rfl) ?yft_5 (by assumption) ?rft_5
          case yft_5 => (intro w hSw; (try dsimp only at hSw); go_simp; (try with_reducible rfl))
          simp only [Act.put, List.setIfInBounds_toArray, List.set_cons_zero, List.set_cons_succ]
          refine wpAnyH_ready (rs := [3]) (by kernel_rfl) (by simp) ?_
          refine AllReadyH.cons (o := _) rfl (fun Kft_6 hKft_6 => ?cft_6) ?mft_6
          case mft_6 => exact AllReadyH.nil
          go_simp
          have k1 := And.intro ((HBt.out.cell (p := ⟨b1, of1 + 1, none⟩) hb1w).trans r1w) ((HFc.out _ HBt.out).1.of 5 _ rfl)
          go_wp2_with fail
          refine hKft_6.out _ _ ?kft_6 (fun hHeldft_6 => ?dft_6)
          case kft_6 => (first | (dsimp only; (first | with_reducible exact k2 | with_reducible exact k1 | with_reducible exact k0 | exact k0)) | (first | with_reducible exact k2 | with_reducible exact k1 | with_reducible exact k0 | exact k0))
          clear hKft_6 Kft_6
          refine take_first 6 54 (v := ?vft_7) rfl rfl (by kernel_rfl) (by kernel_rfl) (by kernel_rfl) (fun _ _ _ h => h) (by rfl) ?yft_7 (by assumption) ?rft_7
          case yft_7 => (intro w hSw; (try dsimp only at hSw); go_simp; (try with_reducible rfl))
          simp only [Act.put, List.setIfInBounds_toArray, List.set_cons_zero, List.set_cons_succ]
          refine wpAnyH_ready (rs := [7]) (by kernel_rfl) (by simp) ?_
          refine AllReadyH.cons (o := _) rfl (fun Kft_8 hKft_8 => ?cft_8) ?mft_8
          case mft_8 => exact AllReadyH.nil
          go_simp
          skip
          go_wp2_with fail
          refine hKft_8.out _ _ ?kft_8 (fun hHeldft_8 => ?dft_8)
          case kft_8 => (first | (dsimp only; (first | with_reducible exact k2 | with_reducible exact k1 | with_reducible exact k0 | exact k0)) | (first | with_reducible exact k2 | with_reducible exact k1 | with_reducible exact k0 | exact k0))
          clear hKft_8 Kft_8
          refine take_first 8 56 (v := ?vft_9) rfl rfl (by kernel_rfl) (by kernel_rfl) (by kernel_rfl) (fun _ _ _ h => h) (by rfl) ?yft_9 (by assumption) ?rft_9
          case yft_9 => (intro w hSw; (try dsimp only at hSw); go_simp; (try with_reducible rfl))
          simp only [Act.put, List.setIfInBounds_toArray, List.set_cons_zero, List.set_cons_succ]
          refine wpAnyH_ready (rs := [9]) (by kernel_rfl) (by simp) ?_
          refine AllReadyH.cons (o := _) rfl (fun Kft_10 hKft_10 => ?cft_10) ?mft_10
          case mft_10 => exact AllReadyH.nil
          go_simp
          (with_reducible refine (implStoGet_any _ _ ib _ (HIt.out _ HBt.out)).mono ?_); rintro e w7 ⟨u7, rfl, ho7, hb7⟩; rw [HKE.out, getOk_yes HSB.out]; rw [HKE.out, getV_yes HSB.out] at ho7; have HB7 := Lib.hid (HBt.out.trans (hb7.mono HBt.out.size)); have HO7 := Lib.hid ho7; have k2 : w7.cell? ⟨b1, of1 + 1, none⟩ = some (.slice Ai ib.length ci) ∧ w7.cell? ⟨w3.heap.size, 5, none⟩ = some (.int .i64 i) := And.intro ((HB7.out.cell (p := ⟨b1, of1 + 1, none⟩) hb1w).trans r1w) ((HFc.out _ HB7.out).1.of 5 _ rfl); clear ho7 hb7
          go_wp2_with fail
          refine hKft_10.out _ _ ?kft_10 (fun hHeldft_10 => ?dft_10)
          case kft_10 => (first | (dsimp only; (first | with_reducible exact k2 | with_reducible exact k1 | with_reducible exact k0 | exact k0)) | (first | with_reducible exact k2 | with_reducible exact k1 | with_reducible exact k0 | exact k0))
          clear hKft_10 Kft_10
          refine take_first 10 47 (v := ?vft_11) rfl rfl (by kernel_rfl) (by kernel_rfl) (by kernel_rfl) (fun _ _ _ h => h) (by rfl) ?yft_11 (by assumption) ?rft_11
          case yft_11 => (intro w hSw; (try dsimp only at hSw); go_simp; (try with_reducible rfl))
          simp only [Act.put, List.setIfInBounds_toArray, List.set_cons_zero, List.set_cons_succ]
          refine take_first 11 58 (v := ?vft_12) rfl rfl (by kernel_rfl) (by kernel_rfl) (by kernel_rfl) (fun _ _ _ h => h) (by rfl) ?yft_12 (by assumption) ?rft_12
          case yft_12 => (intro w hSw; (try dsimp only at hSw); go_simp; (try with_reducible rfl))
          simp only [Act.put, List.setIfInBounds_toArray, List.set_cons_zero, List.set_cons_succ]
          refine take_first 12 59 (v := ?vft_13) rfl rfl (by kernel_rfl) (by kernel_rfl) (by kernel_rfl) (fun _ _ _ h => h) (by rfl) ?yft_13 (by assumption) ?rft_13
          case yft_13 => (intro w hSw; (try dsimp only at hSw); go_simp; (try with_reducible rfl))
          simp only [Act.put, List.setIfInBounds_toArray, List.set_cons_zero, List.set_cons_succ]
          refine take_first 13 11 (v := ?vft_14) rfl rfl (by kernel_rfl) (by kernel_rfl) (by kernel_rfl) (fun _ _ _ h => h) (by rfl) ?yft_14 (by assumption) ?rft_14
          case yft_14 => (intro w hSw; (try dsimp only at hSw); go_simp; (try with_reducible rfl))
          simp only [Act.put, List.setIfInBounds_toArray, List.set_cons_zero, List.set_cons_succ]
          refine take_first 14 12 (v := ?vft_15) rfl rfl (by kernel_rfl) (by kernel_rfl) (by kernel_rfl) (fun _ _ _ h => h) (by rfl) ?yft_15 (by assumption) ?rft_15
          case yft_15 => (intro w hSw; (try dsimp only at hSw); go_simp; (try with_reducible rfl))
          simp only [Act.put, List.setIfInBounds_toArray, List.set_cons_zero, List.set_cons_succ]
          refine wpAnyH_done (by kernel_rfl) ?eft _
          clear k0 k1 k2 hdig hds r1w
          obtain ⟨A7, c7, hf7, l7, d7, row7⟩ := HO7.out.ints
          clear HO7
          have hyt := HF.out.symm.trans HY.out
          simp only [Bool.and_eq_true, beq_iff_eq, decide_eq_true_iff] at hyt
          obtain ⟨hlk, h21, hg1, hg2⟩ := hyt
          have hfam := HP.out.fam hlk
          rw [hfam.1] at hf7 row7
          subst hf7
          obtain ⟨b7, of7, hA7, hB7, cell7⟩ := row7 (by omega)
          subst hA7
          have z1 := cell7 1 (by omega)
          have z2 := cell7 2 (by omega)
          dsimp only at z1 z2
          rw [h21] at z2
          have HLV := Lib.hid (HCA.out.live hi9 hlk h21)
          obtain ⟨xx, hxx, hE, hNe⟩ := HCA.out.next HP.out HOB.out hlo HKD.out HIT.out HY.out
          rw [HLV.out] at hxx
          have hxx' := Option.some.inj hxx
          rw [← hxx'] at hE hNe
          have HE := Lib.hid hE
          have HNe := Lib.hid hNe
          rw [hlk]
          have hc7 := HFc.out _ HB7.out
          have y0 := hc7.1.of 0 _ rfl
          have y5 := hc7.1.of 5 _ rfl
          have y6 := hc7.1.of 6 _ rfl
          have a1 := hc7.2.1.of i _ (intsV_at HLV.out)
          have a2 := hc7.2.1.2.1 i
          clear hc7
          clear hlk h21 hxx hxx' hE hNe row7 cell7 hfam HF
          generalize nth (lookV ib (keyN 102 (i : Int))) 1 = x1 at *
          have t1 : decide (1 ≤ o.gen) = true := by simpa using hg1
          have t2 : decide (o.gen ≤ x1) = true := by simpa using hg2
          have t3 : (x1 != x1) = false := by simp
          have t4 : (o.gen == x1) = decide (o.gen = x1) := by by_cases h : o.gen = x1 <;> simp [h]
          go_wp2
          go_quiet (fail)
          have HB8 := Lib.hid (HB7.out.trans ((belowDraws (Below.refl w7.heap.size w7) nq).mono HB7.out.size))
          clear z1
          clear z2
          clear t1
          clear t2
          clear t3
          clear y0 y5 y6 a1 a2
          generalize w7.drewN nq = w8 at *
          have hc8 := HFc.out _ HB8.out
          have y0 := hc8.1.of 0 _ rfl
          have y5 := hc8.1.of 5 _ rfl
          have y6 := hc8.1.of 6 _ rfl
          have a1 := hc8.2.1.of i _ (intsV_at HLV.out)
          have a2 := hc8.2.1.2.1 i
          clear hc8
          by_cases he : o.gen = x1
          · have t5 : (o.gen == x1) = true := by simp [he]
            have HGE := Lib.hid (HE.out he)
            clear he t4
            go_wp2
            go_quiet (fail)
            have HB9 := Lib.hid (HB8.out.trans ((belowDraws (Below.refl w8.heap.size w8) nq).mono HB8.out.size))
            clear t5
            clear y0 y5 y6 a1 a2
            generalize w8.drewN nq = w9 at *
            have hc9 := HFc.out _ HB9.out
            have y0 := hc9.1.of 0 _ rfl
            have y5 := hc9.1.of 5 _ rfl
            have y6 := hc9.1.of 6 _ rfl
            have a1 := hc9.2.1.of i _ (intsV_at HLV.out)
            have a2 := hc9.2.1.2.1 i
            clear hc9
            have HN := Lib.hid (show FamI w2 os (k + 1) (.slice A3 (gloDo (playTo os k).1 k o).1.length c3) (w9.setCell ⟨w2.heap.size, i, none⟩ (.int .i64 (o.gen + 1))) from ⟨_, _, _, _, _, (HP.out.yes HO.out HOB.out hlo HY.out).2, by rw [playTo_yes HO.out HY.out]; exact ((HU3.out.below HBo.out).below HB9.out).keep (w' := w9.setCell ⟨w2.heap.size, i, none⟩ (.int .i64 (o.gen + 1))) (fun b hb _ => Below.heap_setCell w9 _ _ b (fun e => by have := hb.1; simp at e; omega)), fun h => by have := h.1; omega, HGE.out, by rw [← intsV_set]; exact Held.set_ (w := w9) (HFc.out _ HB9.out).2.1 _, Below.setCell (p := ⟨w2.heap.size, i, none⟩) (belowNext HB3.out (belowNext HBo.out HB9.out)) (Nat.le_refl _) _⟩)
            go_wp2
            go_roundw
            case rel => exact ⟨k + 1, by omega, by go_num, HN.out⟩
            case measure => simp [intOf]; omega
          · have t5 : (o.gen == x1) = false := by simp [he]
            have HGE := Lib.hid (HNe.out he)
            clear he t4
            go_wp2
            go_quiet (fail)
            have HB9 := Lib.hid (HB8.out.trans ((belowDraws (Below.refl w8.heap.size w8) nq).mono HB8.out.size))
            clear t5
            clear y0 y5 y6 a1 a2
            generalize w8.drewN nq = w9 at *
            have hc9 := HFc.out _ HB9.out
            have y0 := hc9.1.of 0 _ rfl
            have y5 := hc9.1.of 5 _ rfl
            have y6 := hc9.1.of 6 _ rfl
            have a1 := hc9.2.1.of i _ (intsV_at HLV.out)
            have a2 := hc9.2.1.2.1 i
            clear hc9
            have HN := Lib.hid (show FamI w2 os (k + 1) (.slice A3 (gloDo (playTo os k).1 k o).1.length c3) w9 from ⟨_, _, _, _, _, (HP.out.yes HO.out HOB.out hlo HY.out).2, by rw [playTo_yes HO.out HY.out]; exact (HU3.out.below HBo.out).below HB9.out, fun h => by have := h.1; omega, HGE.out, (HFc.out _ HB9.out).2.1, belowNext HB3.out (belowNext HBo.out HB9.out)⟩)
            go_wp2
            go_roundw
            case rel => exact ⟨k + 1, by omega, by go_num, HN.out⟩
            case measure => simp [intOf]; omega
      · rw [hkd] at q0
        have HKD := Lib.hid hkd
        clear hkd
        have HBo := Lib.hid (belowOne w3 (.cells #[.int .i64 5, .int .i64 o.who, .int .i64 o.inn, .int .i64 o.code, .int .i64 o.sec, .int .i64 i, .int .i64 o.gen] 31))
        have HNo := Lib.hid (fun (X : World) (hX : Below w3.heap.size w3 X) (hy : (gloDo (playTo os k).1 k o).2 = false) => show FamI w2 os (k + 1) (.slice A1 (playTo os k).1.length c1) X from ⟨_, _, _, gs, S1, HP.out.no HO.out hy, by rw [playTo_no HO.out hy]; exact HL3.out.below hX, HNS.out, HCA.out.no, HH.out.below hX HH.out.1, belowNext HB3.out hX⟩)
        cases y with
        | false =>
          have HN := Lib.hid (HNo.out _ HBo.out HY.out)
          clear HNo HBo HU3 HL3 HH HB3
          go_wp2
          go_roundw
          case rel => exact ⟨k + 1, by omega, by go_num, HN.out⟩
          case measure => simp [intOf]; omega
        | true =>
          have HN := Lib.hid (show FamI w2 os (k + 1) (.slice A3 (gloDo (playTo os k).1 k o).1.length c3) (w3.alloc (.cells #[.int .i64 5, .int .i64 o.who, .int .i64 o.inn, .int .i64 o.code, .int .i64 o.sec, .int .i64 i, .int .i64 o.gen] 31)) from ⟨_, _, _, gs, _, (HP.out.yes HO.out HOB.out hlo HY.out).2, by rw [playTo_yes HO.out HY.out]; exact HU3.out.below HBo.out, fun h => by have := h.1; omega, HCA.out.rest HP.out HOB.out hlo (by rw [HKD.out]; decide) (by rw [HKD.out]; decide) HY.out, HH.out.below HBo.out HH.out.1, belowNext HB3.out HBo.out⟩)
          clear HNo HBo HU3 HL3 HH HB3
          go_wp2
          go_roundw
          case rel => exact ⟨k + 1, by omega, by go_num, HN.out⟩
          case measure => simp [intOf]; omega
    · have hkk : k = os.length := by omega
      subst hkk
      have HBe := Lib.hid (HB2.out.trans (hb.mono HB2.out.size))
      have HL := Lib.hid hl.row
      have HK := Lib.hid hpl.ok
      have HIS := Lib.hid hpl.is
      clear hh hb hlt hpl hk hca hns hl
      go_wp2_with fail
      refine (implGloOk_any _ _ _ HL.out).mono ?_
      rintro e w4 ⟨rfl, hb4⟩
      rw [HIS.out, HK.out]
      have HB4 := Lib.hid (belowNext HBe.out hb4)
      clear hb4
      go_wp2_with fail
      refine (jaOk_any _).mono ?_
      rintro e w5 ⟨rfl, hb5⟩
      have HB5 := Lib.hid (belowNext HB4.out hb5)
      clear hb5
      go_wp2
      go_ret
      exact ⟨rfl, HB5.out⟩

end Go.Proofs.Ytmbkhohgciakfaa
