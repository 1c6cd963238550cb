/- The walk of FnGloCode. By codegen.py. -/
import Derived.Test.YtlmcpkijcadalaaXPlayNoted
namespace Go.Proofs.Ytlmcpkijcadalaa
open Go.RowKit

/-- While what is done is gone through: what is let. -/
def CodeI (w2 : World) (os : List Op) (k : Nat) (x : Value) (W : World) : Prop :=
  ∃ a b c ls S, PlayAt os k a b c ∧ stoSh.Own 56 W S x (playTo os k).1 ∧ ¬ S w2.heap.size ∧ CodesAt b ls ∧ Held W w2.heap.size (intsV ls) ∧ Below w2.heap.size w2 W
theorem mid_codes : midI 10 = List.replicate 10 (-1) := by decide
set_option maxRecDepth 100000 in
set_option maxHeartbeats 20000000 in
theorem lawGloCode_any (w : World) (v : Value) (n : Nat) (hv : Code8 w v n) :
    Calls Try.prog 8 #[v] w fun e w' => e = .returned (.bool true) ∧ Below w.heap.size w w' := by
  have HV := Lib.hid hv
  obtain ⟨A, c, f, rfl, h1, h2, -, -⟩ := hv
  unfold maxLen at h2
  by_cases hn : 1048576 < n
  · have hn' : (1048576 : Int) < (n : Int) := by omega
    go_enter Try.func8, Try.ntmps8
    go_wp2
    go_ret
    exact ⟨rfl, Below.refl _ _⟩
  have hn' : (n : Int) ≤ 1048576 := by omega
  clear hn
  go_enter Try.func8, Try.ntmps8
  go_wp2_with fail
  refine (drawGloPlay_any _ _ n HV.out).mono ?_
  rintro e w1 ⟨u, os, rfl, hol, hog, hrow, hb1⟩
  obtain ⟨Ao, co, hof, hoc, -⟩ := hrow.form
  subst hof
  unfold maxLen at hoc
  have HG := Lib.hid hog
  have HR1 := Lib.hid hrow
  have HB1 := Lib.hid hb1
  clear hrow hog hb1 HV
  go_wp2_with fail
  refine (implGloNew_any _).mono ?_
  rintro e w2 ⟨ux, rfl, hx, hb2⟩
  obtain ⟨Ax, cx, hfx, -, -⟩ := hx.row.form
  subst hfx
  have HX2 := Lib.hid hx
  have HR2 := Lib.hid ((HR1.out.below hb2).more hb2.size)
  have HB2 := Lib.hid (belowNext HB1.out hb2)
  clear hx hb2 HB1 HR1
  have hmk : ∀ w, (Instr.makeSlice 43 (.int .i64 10) (.int .i64 10)).run Try.prog w = .ok (.slice (some ⟨w.heap.size, 0, none⟩) 10 10) (w.alloc (.cells #[.int .i64 0, .int .i64 0, .int .i64 0, .int .i64 0, .int .i64 0, .int .i64 0, .int .i64 0, .int .i64 0, .int .i64 0, .int .i64 0] 3)) := fun _ => by kernel_rfl
  go_wp2
  clear hmk
  go_loopw [6] (fun i wr => ∃ k : Nat, k ≤ 10 ∧ i = .int .i64 k ∧ stoSh.Own 56 wr (fun b => w1.heap.size ≤ b ∧ b < w2.heap.size) (.slice Ax newG.length cx) newG ∧ Held wr w2.heap.size (intsV (midI k)) ∧ Below w2.heap.size w2 wr) (fun i _ => 10 - (intOf i).toNat)
  case atStart => exact ⟨0, by omega, rfl, HX2.out.below (belowOne w2 _), Held.new w2 _ _, belowOne w2 _⟩
  case round =>
    clear HX2
    obtain ⟨kf, hk, rfl, hxx, hh, hb⟩ := hrel
    by_cases hlt : kf < 10
    · have z0 := hh.2.1 kf
      have z1 := hh.of kf _ (intsV_at (midI_at (k := kf) hlt))
      have HXX := Lib.hid (show stoSh.Own 56 (wr.setCell ⟨w2.heap.size, kf, none⟩ (.int .i64 (-1))) (fun b => w1.heap.size ≤ b ∧ b < w2.heap.size) (.slice Ax newG.length cx) newG from hxx.keep fun b hb _ => Below.heap_setCell wr _ _ b (fun e => by have := hb.2; simp at e; omega))
      have HH := Lib.hid (show Held (wr.setCell ⟨w2.heap.size, kf, none⟩ (.int .i64 (-1))) w2.heap.size (intsV (midI (kf + 1))) from by rw [← midI_step hlt, ← intsV_set]; exact hh.set_ _)
      have HBn := Lib.hid (show Below w2.heap.size w2 (wr.setCell ⟨w2.heap.size, kf, none⟩ (.int .i64 (-1))) from hb.setCell (p := ⟨w2.heap.size, kf, none⟩) (Nat.le_refl _) _)
      clear hh hb hxx
      go_wp2
      go_roundw
      case rel => exact ⟨kf + 1, by omega, by go_num, HXX.out, HH.out, HBn.out⟩
      case measure => simp [intOf]; omega
    · have hkk : kf = 10 := by omega
      have HI := Lib.hid (show CodeI w2 os 0 (.slice Ax newG.length cx) wr from ⟨[], [], [], _, _, PlayAt.start, hxx, fun h => by have := h.2; omega, CodesAt.start, by rw [← mid_codes, ← hkk]; exact hh, hb⟩)
      clear hh hb hk hkk hxx
      go_wp2
      go_loopw [4, 7] (fun a i wr => ∃ k : Nat, k ≤ os.length ∧ i = .int .i64 k ∧ CodeI w2 os k a wr) (fun _ i _ => os.length - (intOf i).toNat)
      case atStart => exact ⟨0, Nat.zero_le _, rfl, HI.out⟩
      case round =>
        clear HI
        obtain ⟨k, hk, rfl, ia, ib, ic, ls, S1, hpl, hl, hns, hca, hh, hb⟩ := hrel
        obtain ⟨A1, c1, hf1, -, -⟩ := hl.row.form
        subst hf1
        by_cases hlt : k < os.length
        · obtain ⟨b, off, c', o, e1, ho, hB, q0, q1, q2, q3, q4, q5, q6⟩ := ops_at (HR2.out.below hb) hlt
          injection e1 with e1a e1b e1c
          subst e1a
          have hob := HG.out o (List.mem_of_getElem? ho)
          have hop := opB_parts hob
          obtain ⟨i, hi⟩ := Int.eq_ofNat_of_zero_le hop.2.2.2.2.1
          have hi9 : i < 10 := by omega
          have hlo : k ≤ 29 := by omega
          have HO := Lib.hid ho
          have HP := Lib.hid hpl
          have HOB := Lib.hid hob
          have HIT := Lib.hid hi
          have HCA := Lib.hid hca
          have HNS := Lib.hid hns
          have HL := Lib.hid hl
          have HHh := Lib.hid hh
          have HBb0 := Lib.hid hb
          clear e1b e1c hpl ho hob hop hi hk hca hns hl hh hb
          go_wp2_with fail
          clear q0 q1 q2 q3 q4 q5 q6
          refine (implGloDo_any _ _ _ HL.out.row _ o).mono ?_
          rintro e w3 ⟨u3, rfl, hu3, hb3⟩
          obtain ⟨A3, c3, hf3, -, -⟩ := hu3.row.form
          subst hf3
          have hl3 := HL.out.below hb3
          have hg2 : w2.heap.size < wr.heap.size := HHh.out.1
          have hg3 : w2.heap.size < w3.heap.size := Nat.lt_of_lt_of_le hg2 hb3.size
          have HB3 := Lib.hid (belowNext HBb0.out hb3)
          have HH := Lib.hid (HHh.out.below hb3 HHh.out.1)
          clear hb3 HHh HBb0 HL
          obtain ⟨b', off', c'', o', e1, ho, hB', q0, q1, q2, q3, q4, q5, q6⟩ := ops_at (HR2.out.below HB3.out) hlt
          injection e1 with e1a e1b e1c
          injection e1a with e1a
          injection e1a with e1x e1y
          subst e1x e1y
          rw [HO.out] at ho
          injection ho with ho
          subst ho
          rw [HIT.out] at q3
          generalize hy : (gloDo (playTo os k).1 k o).2 = y
          have HY := Lib.hid hy
          clear hy e1b e1c hB'
          rcases opK_kind HOB.out with hkd | hkd | hkd | hkd | hkd
          · rw [hkd] at q0
            have HKD := Lib.hid hkd
            clear hkd
            have HHb := Lib.hid (show Held (w3.alloc (.cells #[.int .i64 1, .int .i64 o.who, .int .i64 o.inn, .int .i64 i, .int .i64 o.sec, .int .i64 o.fam, .int .i64 o.gen] 27)) w2.heap.size (intsV ls) from HH.out.after _)
            have HBb := Lib.hid (show Below w2.heap.size w2 (w3.alloc (.cells #[.int .i64 1, .int .i64 o.who, .int .i64 o.inn, .int .i64 i, .int .i64 o.sec, .int .i64 o.fam, .int .i64 o.gen] 27)) from belowNext HB3.out (belowOne w3 _))
            have HUb := Lib.hid (hu3.below (belowOne w3 (.cells #[.int .i64 1, .int .i64 o.who, .int .i64 o.inn, .int .i64 i, .int .i64 o.sec, .int .i64 o.fam, .int .i64 o.gen] 27)))
            have HLb := Lib.hid (hl3.below (belowOne w3 (.cells #[.int .i64 1, .int .i64 o.who, .int .i64 o.inn, .int .i64 i, .int .i64 o.sec, .int .i64 o.fam, .int .i64 o.gen] 27)))
            cases y with
            | false =>
              have HN := Lib.hid (show CodeI w2 os (k + 1) (.slice A1 (playTo os k).1.length c1) (w3.alloc (.cells #[.int .i64 1, .int .i64 o.who, .int .i64 o.inn, .int .i64 i, .int .i64 o.sec, .int .i64 o.fam, .int .i64 o.gen] 27)) from ⟨_, _, _, ls, S1, HP.out.no HO.out HY.out, by rw [playTo_no HO.out HY.out]; exact HLb.out, HNS.out, HCA.out, HHb.out, HBb.out⟩)
              clear HHb HBb HUb HLb hu3 hl3 HH HB3
              go_wp2
              go_roundw
              case rel => exact ⟨k + 1, by omega, by go_num, HN.out⟩
              case measure => simp [intOf]; omega
            | true =>
              have HN := Lib.hid (show CodeI w2 os (k + 1) (.slice A3 (gloDo (playTo os k).1 k o).1.length c3) (w3.alloc (.cells #[.int .i64 1, .int .i64 o.who, .int .i64 o.inn, .int .i64 i, .int .i64 o.sec, .int .i64 o.fam, .int .i64 o.gen] 27)) from ⟨_, _, _, ls, _, (HP.out.yes HO.out HOB.out hlo HY.out).2, by rw [playTo_yes HO.out HY.out]; exact HUb.out, fun h => by have := h.1; omega, HCA.out.rest HP.out HOB.out hlo (by rw [HKD.out]; decide) (by rw [HKD.out]; decide) HY.out, HHb.out, HBb.out⟩)
              clear HHb HBb HUb HLb hu3 hl3 HH HB3
              go_wp2
              go_roundw
              case rel => exact ⟨k + 1, by omega, by go_num, HN.out⟩
              case measure => simp [intOf]; omega
          · rw [hkd] at q0
            have HKD := Lib.hid hkd
            clear hkd
            have HHb := Lib.hid (show Held (w3.alloc (.cells #[.int .i64 2, .int .i64 o.who, .int .i64 o.inn, .int .i64 i, .int .i64 o.sec, .int .i64 o.fam, .int .i64 o.gen] 27)) w2.heap.size (intsV ls) from HH.out.after _)
            have HBb := Lib.hid (show Below w2.heap.size w2 (w3.alloc (.cells #[.int .i64 2, .int .i64 o.who, .int .i64 o.inn, .int .i64 i, .int .i64 o.sec, .int .i64 o.fam, .int .i64 o.gen] 27)) from belowNext HB3.out (belowOne w3 _))
            have HUb := Lib.hid (hu3.below (belowOne w3 (.cells #[.int .i64 2, .int .i64 o.who, .int .i64 o.inn, .int .i64 i, .int .i64 o.sec, .int .i64 o.fam, .int .i64 o.gen] 27)))
            have HLb := Lib.hid (hl3.below (belowOne w3 (.cells #[.int .i64 2, .int .i64 o.who, .int .i64 o.inn, .int .i64 i, .int .i64 o.sec, .int .i64 o.fam, .int .i64 o.gen] 27)))
            cases y with
            | false =>
              have HN := Lib.hid (show CodeI w2 os (k + 1) (.slice A1 (playTo os k).1.length c1) (w3.alloc (.cells #[.int .i64 2, .int .i64 o.who, .int .i64 o.inn, .int .i64 i, .int .i64 o.sec, .int .i64 o.fam, .int .i64 o.gen] 27)) from ⟨_, _, _, ls, S1, HP.out.no HO.out HY.out, by rw [playTo_no HO.out HY.out]; exact HLb.out, HNS.out, HCA.out, HHb.out, HBb.out⟩)
              clear HHb HBb HUb HLb hu3 hl3 HH HB3
              go_wp2
              go_roundw
              case rel => exact ⟨k + 1, by omega, by go_num, HN.out⟩
              case measure => simp [intOf]; omega
            | true =>
              obtain ⟨hls, hca⟩ := HCA.out.let_ HP.out HOB.out hlo HKD.out HIT.out HY.out
              have z1 := HHb.out.of i _ (intsV_at hls)
              have z0 := HHb.out.2.1 i
              have HN := Lib.hid (show CodeI w2 os (k + 1) (.slice A3 (gloDo (playTo os k).1 k o).1.length c3) ((w3.setCell ⟨w2.heap.size, i, none⟩ (.int .i64 o.sec)).alloc (.cells #[.int .i64 2, .int .i64 o.who, .int .i64 o.inn, .int .i64 i, .int .i64 o.sec, .int .i64 o.fam, .int .i64 o.gen] 27)) from ⟨_, _, _, _, _, (HP.out.yes HO.out HOB.out hlo HY.out).2, by rw [playTo_yes HO.out HY.out]; exact (hu3.keep (w' := w3.setCell ⟨w2.heap.size, i, none⟩ (.int .i64 o.sec)) (fun b hb _ => Below.heap_setCell w3 _ _ b (fun e => by have := hb.1; simp at e; omega))).below ((belowOne _ _)), fun h => by have := h.1; omega, hca, by rw [← intsV_set]; exact (Held.set_ (w := w3) HH.out _).after _, (belowNext (HB3.out.setCell (p := ⟨w2.heap.size, i, none⟩) (Nat.le_refl _) _) (belowOne _ _))⟩)
              clear HHb HBb HUb HLb hls hca hu3 hl3 HH HB3
              go_wp2
              go_roundw
              case rel => exact ⟨k + 1, by omega, by go_num, HN.out⟩
              case measure => simp [intOf]; omega
          · rw [hkd] at q0
            have HKD := Lib.hid hkd
            clear hkd
            have HHb := Lib.hid (show Held (w3.alloc (.cells #[.int .i64 3, .int .i64 o.who, .int .i64 o.inn, .int .i64 i, .int .i64 o.sec, .int .i64 o.fam, .int .i64 o.gen] 27)) w2.heap.size (intsV ls) from HH.out.after _)
            have HBb := Lib.hid (show Below w2.heap.size w2 (w3.alloc (.cells #[.int .i64 3, .int .i64 o.who, .int .i64 o.inn, .int .i64 i, .int .i64 o.sec, .int .i64 o.fam, .int .i64 o.gen] 27)) from belowNext HB3.out (belowOne w3 _))
            have HUb := Lib.hid (hu3.below (belowOne w3 (.cells #[.int .i64 3, .int .i64 o.who, .int .i64 o.inn, .int .i64 i, .int .i64 o.sec, .int .i64 o.fam, .int .i64 o.gen] 27)))
            have HLb := Lib.hid (hl3.below (belowOne w3 (.cells #[.int .i64 3, .int .i64 o.who, .int .i64 o.inn, .int .i64 i, .int .i64 o.sec, .int .i64 o.fam, .int .i64 o.gen] 27)))
            cases y with
            | false =>
              have HN := Lib.hid (show CodeI w2 os (k + 1) (.slice A1 (playTo os k).1.length c1) (w3.alloc (.cells #[.int .i64 3, .int .i64 o.who, .int .i64 o.inn, .int .i64 i, .int .i64 o.sec, .int .i64 o.fam, .int .i64 o.gen] 27)) from ⟨_, _, _, ls, S1, HP.out.no HO.out HY.out, by rw [playTo_no HO.out HY.out]; exact HLb.out, HNS.out, HCA.out, HHb.out, HBb.out⟩)
              clear HHb HBb HUb HLb hu3 hl3 HH HB3
              go_wp2
              go_roundw
              case rel => exact ⟨k + 1, by omega, by go_num, HN.out⟩
              case measure => simp [intOf]; omega
            | true =>
              obtain ⟨hls, hca⟩ := HCA.out.trade HP.out HOB.out hlo HKD.out HIT.out HY.out
              have z1 := HHb.out.of i _ (intsV_at hls)
              have z0 := HHb.out.2.1 i
              have HN := Lib.hid (show CodeI w2 os (k + 1) (.slice A3 (gloDo (playTo os k).1 k o).1.length c3) ((w3.setCell ⟨w2.heap.size, i, none⟩ (.int .i64 (-1))).alloc (.cells #[.int .i64 3, .int .i64 o.who, .int .i64 o.inn, .int .i64 i, .int .i64 o.sec, .int .i64 o.fam, .int .i64 o.gen] 27)).drew from ⟨_, _, _, _, _, (HP.out.yes HO.out HOB.out hlo HY.out).2, by rw [playTo_yes HO.out HY.out]; exact (hu3.keep (w' := w3.setCell ⟨w2.heap.size, i, none⟩ (.int .i64 (-1))) (fun b hb _ => Below.heap_setCell w3 _ _ b (fun e => by have := hb.1; simp at e; omega))).below ((belowOne _ _).drew), fun h => by have := h.1; omega, hca, by rw [← intsV_set]; exact (Held.set_ (w := w3) HH.out _).after _, (belowNext (HB3.out.setCell (p := ⟨w2.heap.size, i, none⟩) (Nat.le_refl _) _) (belowOne _ _)).drew⟩)
              have i10 : (i : Int) < 10 := by omega
              have i00 : (0 : Int) ≤ (i : Int) := by omega
              have HX := Lib.hid (show Held (w3.alloc (.cells #[.int .i64 3, .int .i64 o.who, .int .i64 o.inn, .int .i64 i, .int .i64 o.sec, .int .i64 o.fam, .int .i64 o.gen] 27)) w3.heap.size _ from Held.new w3 #[.int .i64 3, .int .i64 o.who, .int .i64 o.inn, .int .i64 i, .int .i64 o.sec, .int .i64 o.fam, .int .i64 o.gen] 27)
              have k0 := And.intro z1 (And.intro (HX.out.of 3 _ rfl) (HX.out.of 4 _ rfl))
              clear HHb HBb HUb HLb hls hca HX hu3 hl3 HH HB3
              go_wp2
              refine wp_region_held_drew (S := (fun w' => w'.cell? ⟨w2.heap.size, i, none⟩ = some (.int .i64 o.sec) ∧ w'.cell? ⟨w3.heap.size, 3, none⟩ = some (.int .i64 i) ∧ w'.cell? ⟨w3.heap.size, 4, none⟩ = some (.int .i64 o.sec))) (by kernel_rfl) ?hSr22 (fun hHeldr22 => ?str22)
              case hSr22 => (first | (dsimp only; (exact k0)) | (exact k0))
              refine take_first 0 73 (v := ?vr22_1) rfl rfl (by kernel_rfl) (by kernel_rfl) (by kernel_rfl) (fun _ _ _ h => h) (by rfl) ?yr22_1 (by assumption) ?rr22_1
              case yr22_1 => (intro w hSw; (try dsimp only at hSw); go_simp; (try with_reducible rfl))
              simp only [Act.put, List.setIfInBounds_toArray, List.set_cons_zero, List.set_cons_succ]
              refine take_first 1 74 (v := ?vr22_2) rfl rfl (by kernel_rfl) (by kernel_rfl) (by kernel_rfl) (fun _ _ _ h => h) (by rfl) ?yr22_2 (by assumption) ?rr22_2
              case yr22_2 => (intro w hSw; (try dsimp only at hSw); go_simp; (try with_reducible rfl))
              simp only [Act.put, List.setIfInBounds_toArray, List.set_cons_zero, List.set_cons_succ]
              refine take_first 2 75 (v := ?vr22_3) rfl rfl (by kernel_rfl) (by kernel_rfl) (by kernel_rfl) (fun _ _ _ h => h) (by rfl) ?yr22_3 (by assumption) ?rr22_3
              case yr22_3 => (intro w hSw; (try dsimp only at hSw); go_simp; (try with_reducible rfl))
              simp only [Act.put, List.setIfInBounds_toArray, List.set_cons_zero, List.set_cons_succ]
              refine take_first 3 76 (v := ?vr22_4) rfl rfl (by kernel_rfl) (by kernel_rfl) (by kernel_rfl) (fun _ _ _ h => h) (by rfl) ?yr22_4 (by assumption) ?rr22_4
              case yr22_4 => (intro w hSw; (try dsimp only at hSw); go_simp; (try with_reducible rfl))
              simp only [Act.put, List.setIfInBounds_toArray, List.set_cons_zero, List.set_cons_succ]
              refine take_first 4 77 (v := ?vr22_5) rfl rfl (by kernel_rfl) (by kernel_rfl) (by kernel_rfl) (fun _ _ _ h => h) (by rfl) ?yr22_5 (by assumption) ?rr22_5
              case yr22_5 => (intro w hSw; (try dsimp only at hSw); go_simp; (try with_reducible rfl))
              simp only [Act.put, List.setIfInBounds_toArray, List.set_cons_zero, List.set_cons_succ]
              refine take_first 5 78 (v := ?vr22_6) rfl rfl (by kernel_rfl) (by kernel_rfl) (by kernel_rfl) (fun _ _ _ h => h) (by rfl) ?yr22_6 (by assumption) ?rr22_6
              case yr22_6 => (intro w hSw; (try dsimp only at hSw); go_simp; (try with_reducible rfl))
              simp only [Act.put, List.setIfInBounds_toArray, List.set_cons_zero, List.set_cons_succ]
              refine take_first 6 79 (v := ?vr22_7) rfl rfl (by kernel_rfl) (by kernel_rfl) (by kernel_rfl) (fun _ _ _ h => h) (by rfl) ?yr22_7 (by assumption) ?rr22_7
              case yr22_7 => (intro w hSw; (try dsimp only at hSw); go_simp; (try with_reducible rfl))
              simp only [Act.put, List.setIfInBounds_toArray, List.set_cons_zero, List.set_cons_succ]
              refine take_first 7 80 (v := ?vr22_8) rfl rfl (by kernel_rfl) (by kernel_rfl) (by kernel_rfl) (fun _ _ _ h => h) (by rfl) ?yr22_8 (by assumption) ?rr22_8
              case yr22_8 => (intro w hSw; (try dsimp only at hSw); go_simp; (try with_reducible rfl))
              simp only [Act.put, List.setIfInBounds_toArray, List.set_cons_zero, List.set_cons_succ]
              refine wpAnyH_done (by kernel_rfl) ?er22 _
              obtain ⟨k1, k2, k3⟩ := k0
              go_wp2
              go_roundw
              case rel => exact ⟨k + 1, by omega, by go_num, HN.out⟩
              case measure => simp [intOf]; omega
          · rw [hkd] at q0
            have HKD := Lib.hid hkd
            clear hkd
            have HHb := Lib.hid (show Held (w3.alloc (.cells #[.int .i64 4, .int .i64 o.who, .int .i64 o.inn, .int .i64 i, .int .i64 o.sec, .int .i64 o.fam, .int .i64 o.gen] 27)) w2.heap.size (intsV ls) from HH.out.after _)
            have HBb := Lib.hid (show Below w2.heap.size w2 (w3.alloc (.cells #[.int .i64 4, .int .i64 o.who, .int .i64 o.inn, .int .i64 i, .int .i64 o.sec, .int .i64 o.fam, .int .i64 o.gen] 27)) from belowNext HB3.out (belowOne w3 _))
            have HUb := Lib.hid (hu3.below (belowOne w3 (.cells #[.int .i64 4, .int .i64 o.who, .int .i64 o.inn, .int .i64 i, .int .i64 o.sec, .int .i64 o.fam, .int .i64 o.gen] 27)))
            have HLb := Lib.hid (hl3.below (belowOne w3 (.cells #[.int .i64 4, .int .i64 o.who, .int .i64 o.inn, .int .i64 i, .int .i64 o.sec, .int .i64 o.fam, .int .i64 o.gen] 27)))
            cases y with
            | false =>
              have HN := Lib.hid (show CodeI w2 os (k + 1) (.slice A1 (playTo os k).1.length c1) (w3.alloc (.cells #[.int .i64 4, .int .i64 o.who, .int .i64 o.inn, .int .i64 i, .int .i64 o.sec, .int .i64 o.fam, .int .i64 o.gen] 27)) from ⟨_, _, _, ls, S1, HP.out.no HO.out HY.out, by rw [playTo_no HO.out HY.out]; exact HLb.out, HNS.out, HCA.out, HHb.out, HBb.out⟩)
              clear HHb HBb HUb HLb hu3 hl3 HH HB3
              go_wp2
              go_roundw
              case rel => exact ⟨k + 1, by omega, by go_num, HN.out⟩
              case measure => simp [intOf]; omega
            | true =>
              have HN := Lib.hid (show CodeI w2 os (k + 1) (.slice A3 (gloDo (playTo os k).1 k o).1.length c3) (w3.alloc (.cells #[.int .i64 4, .int .i64 o.who, .int .i64 o.inn, .int .i64 i, .int .i64 o.sec, .int .i64 o.fam, .int .i64 o.gen] 27)) from ⟨_, _, _, ls, _, (HP.out.yes HO.out HOB.out hlo HY.out).2, by rw [playTo_yes HO.out HY.out]; exact HUb.out, fun h => by have := h.1; omega, HCA.out.rest HP.out HOB.out hlo (by rw [HKD.out]; decide) (by rw [HKD.out]; decide) HY.out, HHb.out, HBb.out⟩)
              clear HHb HBb HUb HLb hu3 hl3 HH HB3
              go_wp2
              go_roundw
              case rel => exact ⟨k + 1, by omega, by go_num, HN.out⟩
              case measure => simp [intOf]; omega
          · rw [hkd] at q0
            have HKD := Lib.hid hkd
            clear hkd
            have HHb := Lib.hid (show Held (w3.alloc (.cells #[.int .i64 5, .int .i64 o.who, .int .i64 o.inn, .int .i64 i, .int .i64 o.sec, .int .i64 o.fam, .int .i64 o.gen] 27)) w2.heap.size (intsV ls) from HH.out.after _)
            have HBb := Lib.hid (show Below w2.heap.size w2 (w3.alloc (.cells #[.int .i64 5, .int .i64 o.who, .int .i64 o.inn, .int .i64 i, .int .i64 o.sec, .int .i64 o.fam, .int .i64 o.gen] 27)) from belowNext HB3.out (belowOne w3 _))
            have HUb := Lib.hid (hu3.below (belowOne w3 (.cells #[.int .i64 5, .int .i64 o.who, .int .i64 o.inn, .int .i64 i, .int .i64 o.sec, .int .i64 o.fam, .int .i64 o.gen] 27)))
            have HLb := Lib.hid (hl3.below (belowOne w3 (.cells #[.int .i64 5, .int .i64 o.who, .int .i64 o.inn, .int .i64 i, .int .i64 o.sec, .int .i64 o.fam, .int .i64 o.gen] 27)))
            cases y with
            | false =>
              have HN := Lib.hid (show CodeI w2 os (k + 1) (.slice A1 (playTo os k).1.length c1) (w3.alloc (.cells #[.int .i64 5, .int .i64 o.who, .int .i64 o.inn, .int .i64 i, .int .i64 o.sec, .int .i64 o.fam, .int .i64 o.gen] 27)) from ⟨_, _, _, ls, S1, HP.out.no HO.out HY.out, by rw [playTo_no HO.out HY.out]; exact HLb.out, HNS.out, HCA.out, HHb.out, HBb.out⟩)
              clear HHb HBb HUb HLb hu3 hl3 HH HB3
              go_wp2
              go_roundw
              case rel => exact ⟨k + 1, by omega, by go_num, HN.out⟩
              case measure => simp [intOf]; omega
            | true =>
              have HN := Lib.hid (show CodeI w2 os (k + 1) (.slice A3 (gloDo (playTo os k).1 k o).1.length c3) (w3.alloc (.cells #[.int .i64 5, .int .i64 o.who, .int .i64 o.inn, .int .i64 i, .int .i64 o.sec, .int .i64 o.fam, .int .i64 o.gen] 27)) from ⟨_, _, _, ls, _, (HP.out.yes HO.out HOB.out hlo HY.out).2, by rw [playTo_yes HO.out HY.out]; exact HUb.out, fun h => by have := h.1; omega, HCA.out.rest HP.out HOB.out hlo (by rw [HKD.out]; decide) (by rw [HKD.out]; decide) HY.out, HHb.out, HBb.out⟩)
              clear HHb HBb HUb HLb hu3 hl3 HH HB3
              go_wp2
              go_roundw
              case rel => exact ⟨k + 1, by omega, by go_num, HN.out⟩
              case measure => simp [intOf]; omega
        · have : k = os.length := by omega
          subst this
          have HBe := Lib.hid (HB2.out.trans (hb.mono HB2.out.size))
          have HL := Lib.hid hl.row
          have HK := Lib.hid hpl.ok
          have HIS := Lib.hid hpl.is
          clear hh hb hlt hpl hk hca hns hl
          go_wp2_with fail
          refine (implGloOk_any _ _ _ HL.out).mono ?_
          rintro e w4 ⟨rfl, hb4⟩
          rw [HIS.out, HK.out]
          have HB4 := Lib.hid (belowNext HBe.out hb4)
          clear hb4
          go_wp2_with fail
          refine (jaOk_any _).mono ?_
          rintro e w5 ⟨rfl, hb5⟩
          have HB5 := Lib.hid (belowNext HB4.out hb5)
          clear hb5
          go_wp2
          go_ret
          exact ⟨rfl, HB5.out⟩

end Go.Proofs.Ytlmcpkijcadalaa
