/- The walk of FnGloNone. -/
import Derived.Test.YtfmddejgoojghaaXPlay
namespace Go.Proofs.Ytfmddejgoojghaa
open Go.RowKit

set_option maxRecDepth 100000 in
set_option maxHeartbeats 2000000 in
theorem jaStos_same (w : World) (v u : Value) (xs : List Sto) (hv : stoSh.Row w w.heap.size v xs) (hu : stoSh.Row w w.heap.size u xs) :
    Calls Try.prog 32 #[v, u] w fun e w' => e = .returned (.bool true) ∧ Below w.heap.size w w' := by
  obtain ⟨A, c, rfl, hc2, hc1⟩ := hv.form
  obtain ⟨A', c', rfl, hc2', hc1'⟩ := hu.form
  unfold maxLen at hc2 hc2'
  go_enter Try.func32, Try.ntmps32
  go_wp2
  go_loopw [5] (fun i wr => ∃ k : Nat, k ≤ xs.length ∧ i = .int .i64 k ∧ Below w.heap.size w wr) (fun i _ => xs.length - (intOf i).toNat)
  case atStart => exact ⟨0, Nat.zero_le _, rfl, Below.refl _ _⟩
  case round =>
    obtain ⟨k, hk, rfl, hb⟩ := hrel
    by_cases hlt : k < xs.length
    · obtain ⟨b, off, d, x, p, e1, hx, hB, cu, hp⟩ := stos_at (hv.below hb) (k := k) hlt
      obtain ⟨b2, off2, d2, x2, p2, e2, hx2, hB2, cu2, hp2⟩ := stos_at (hu.below hb) (k := k) hlt
      rw [hx] at hx2
      injection hx2 with hx2
      subst hx2
      obtain ⟨Ap, cp, rfl, -, -⟩ := hp.form
      obtain ⟨Ap2, cp2, rfl, -, -⟩ := hp2.form
      injection e1 with e1a e1b e1c
      injection e2 with e2a e2b e2c
      subst e1a e2a
      have HP := Lib.hid (show Items wr.drew wr.drew.heap.size _ x.items from items_row.1 (hp.more hb.size))
      have HP2 := Lib.hid (show Items wr.drew wr.drew.heap.size _ x.items from items_row.1 (hp2.more hb.size))
      have HB := Lib.hid hb.drew
      have k0 := And.intro cu cu2
      have f3 : (0 : Int) ≤ (k : Int) := by omega
      have f4 : (k : Int) < (xs.length : Int) := by omega
      clear e1b e1c e2b e2c hv hu hx hp hp2 hb cu cu2
      go_wp2
      refine wp_region_held_drew (S := (fun w' => w'.cell? ⟨b, off + k, none⟩ = some (.slice Ap x.items.length cp) ∧ w'.cell? ⟨b2, off2 + k, none⟩ = some (.slice Ap2 x.items.length cp2))) (by kernel_rfl) ?hSr (fun hHeldr => ?str)
      case hSr => (first | (dsimp only; (first | exact k0 | exact k1.out)) | (first | exact k0 | exact k1.out))
      refine take_first 0 17 (v := ?vr_1) rfl rfl (by kernel_rfl) (by kernel_rfl) (by kernel_rfl) (fun _ _ _ h => h) (by rfl) ?yr_1 (by assumption) ?rr_1
      case yr_1 => (intro w hSw; (try dsimp only at hSw); go_simp; (try with_reducible rfl))
      simp only [Act.put, List.setIfInBounds_toArray, List.set_cons_zero, List.set_cons_succ]
      refine take_first 1 18 (v := ?vr_2) rfl rfl (by kernel_rfl) (by kernel_rfl) (by kernel_rfl) (fun _ _ _ h => h) (by rfl) ?yr_2 (by assumption) ?rr_2
      case yr_2 => (intro w hSw; (try dsimp only at hSw); go_simp; (try with_reducible rfl))
      simp only [Act.put, List.setIfInBounds_toArray, List.set_cons_zero, List.set_cons_succ]
      refine take_first 2 19 (v := ?vr_3) rfl rfl (by kernel_rfl) (by kernel_rfl) (by kernel_rfl) (fun _ _ _ h => h) (by rfl) ?yr_3 (by assumption) ?rr_3
      case yr_3 => (intro w hSw; (try dsimp only at hSw); go_simp; (try with_reducible rfl))
      simp only [Act.put, List.setIfInBounds_toArray, List.set_cons_zero, List.set_cons_succ]
      refine take_first 3 20 (v := ?vr_4) rfl rfl (by kernel_rfl) (by kernel_rfl) (by kernel_rfl) (fun _ _ _ h => h) (by rfl) ?yr_4 (by assumption) ?rr_4
      case yr_4 => (intro w hSw; (try dsimp only at hSw); go_simp; (try with_reducible rfl))
      simp only [Act.put, List.setIfInBounds_toArray, List.set_cons_zero, List.set_cons_succ]
      refine take_first 4 21 (v := ?vr_5) rfl rfl (by kernel_rfl) (by kernel_rfl) (by kernel_rfl) (fun _ _ _ h => h) (by rfl) ?yr_5 (by assumption) ?rr_5
      case yr_5 => (intro w hSw; (try dsimp only at hSw); go_simp; (try with_reducible rfl))
      simp only [Act.put, List.setIfInBounds_toArray, List.set_cons_zero, List.set_cons_succ]
      refine take_first 5 22 (v := ?vr_6) rfl rfl (by kernel_rfl) (by kernel_rfl) (by kernel_rfl) (fun _ _ _ h => h) (by rfl) ?yr_6 (by assumption) ?rr_6
      case yr_6 => (intro w hSw; (try dsimp only at hSw); go_simp; (try with_reducible rfl))
      simp only [Act.put, List.setIfInBounds_toArray, List.set_cons_zero, List.set_cons_succ]
      refine take_first 6 23 (v := ?vr_7) rfl rfl (by kernel_rfl) (by kernel_rfl) (by kernel_rfl) (fun _ _ _ h => h) (by rfl) ?yr_7 (by assumption) ?rr_7
      case yr_7 => (intro w hSw; (try dsimp only at hSw); go_simp; (try with_reducible rfl))
      simp only [Act.put, List.setIfInBounds_toArray, List.set_cons_zero, List.set_cons_succ]
      refine take_first 7 24 (v := ?vr_8) rfl rfl (by kernel_rfl) (by kernel_rfl) (by kernel_rfl) (fun _ _ _ h => h) (by rfl) ?yr_8 (by assumption) ?rr_8
      case yr_8 => (intro w hSw; (try dsimp only at hSw); go_simp; (try with_reducible rfl))
      simp only [Act.put, List.setIfInBounds_toArray, List.set_cons_zero, List.set_cons_succ]
      refine wpAnyH_ready (rs := [8]) (by kernel_rfl) (by simp) ?_
      refine AllReadyH.cons (o := _) rfl (fun Kr_9 hKr_9 => ?cr_9) ?mr_9
      case mr_9 => exact AllReadyH.nil
      go_simp
      refine (jaSto_same _ _ _ x.items HP.out HP2.out).mono ?_; rintro e w1 ⟨rfl, hb1⟩; have HB1 := Lib.hid (HB.out.trans (hb1.mono HB.out.size)); have k1 := Lib.hid (And.intro ((hb1.cell (p := ⟨b, off + k, none⟩) (Nat.lt_of_lt_of_le hB HB.out.size)).trans k0.1) ((hb1.cell (p := ⟨b2, off2 + k, none⟩) (Nat.lt_of_lt_of_le hB2 HB.out.size)).trans k0.2)); clear hb1
      go_wp2_with fail
      refine hKr_9.out _ _ ?kr_9 (fun hHeldr_9 => ?dr_9)
      case kr_9 => (first | (dsimp only; (first | exact k0 | exact k1.out)) | (first | exact k0 | exact k1.out))
      clear hKr_9 Kr_9
      refine take_first 9 26 (v := ?vr_10) rfl rfl (by kernel_rfl) (by kernel_rfl) (by kernel_rfl) (fun _ _ _ h => h) (by rfl) ?yr_10 (by assumption) ?rr_10
      case yr_10 => (intro w hSw; (try dsimp only at hSw); go_simp; (try with_reducible rfl))
      simp only [Act.put, List.setIfInBounds_toArray, List.set_cons_zero, List.set_cons_succ]
      refine wpAnyH_done (by kernel_rfl) ?er _
      clear k0
      go_wp2
      go_roundw
      case rel => exact ⟨k + 1, by omega, by go_num, HB1.out⟩
      case measure => simp [intOf]; omega
    · clear hv hu
      go_wp2
      go_ret
      exact ⟨rfl, hb⟩

/-- While what may be is done again. -/
def NoneI (w2 : World) (os : List Op) (k : Nat) (x : Value) (W : World) : Prop := stoSh.Row W W.heap.size x (playTo os k).1 ∧ Below w2.heap.size w2 W
set_option maxRecDepth 100000 in
set_option maxHeartbeats 2000000 in
theorem lawGloNone_any (w : World) (v : Value) (n : Nat) (hv : Code8 w v n) :
    Calls Try.prog 14 #[v] w fun e w' => e = .returned (.bool true) ∧ Below w.heap.size w w' := by
  have HV := Lib.hid hv
  obtain ⟨A, c, f, rfl, h1, h2, -, -⟩ := hv
  unfold maxLen at h2
  by_cases hn : 1048576 < n
  · have hn' : (1048576 : Int) < (n : Int) := by omega
    go_enter Try.func14, Try.ntmps14
    go_wp2
    go_ret
    exact ⟨rfl, Below.refl _ _⟩
  have hn' : (n : Int) ≤ 1048576 := by omega
  clear hn
  go_enter Try.func14, Try.ntmps14
  go_wp2_with fail
  refine (drawGloPlay_any _ _ n HV.out).mono ?_
  rintro e w1 ⟨u, os, rfl, hol, hog, hrow, hb1⟩
  obtain ⟨Ao, co, hof, hoc, -⟩ := hrow.form
  subst hof
  unfold maxLen at hoc
  have HG := Lib.hid hog
  have HR1 := Lib.hid hrow
  have HB1 := Lib.hid hb1
  clear hrow hog hb1 HV
  go_wp2_with fail
  refine (jaGlo_any _ _ os HR1.out (by omega)).mono ?_
  rintro e w2 ⟨ul, ud, rfl, hl, hd, hb2⟩
  obtain ⟨Al, cl, hfl, -, -⟩ := hl.form
  obtain ⟨Ad, cd, hfd, -, -⟩ := hd.form
  rw [playTo_len os _ (Nat.le_refl _)] at hfd
  subst hfl
  subst hfd
  have HR2 := Lib.hid ((HR1.out.below hb2).more hb2.size)
  have HL2 := Lib.hid hl
  have HD2 := Lib.hid hd
  have HB2 := Lib.hid (belowNext HB1.out hb2)
  clear hl hd hb2 HB1 HR1
  go_wp2_with fail
  refine (implGloNew_any _).mono ?_
  rintro e w3 ⟨ux, rfl, hx, hb3⟩
  obtain ⟨Ax, cx, hfx, -, -⟩ := hx.row.form
  subst hfx
  have HI := Lib.hid (show NoneI w2 os 0 _ w3 from ⟨hx.row, hb3⟩)
  clear hx hb3
  go_wp2
  go_loopw [6, 7] (fun a i wr => ∃ k : Nat, k ≤ os.length ∧ i = .int .i64 k ∧ NoneI w2 os k a wr) (fun _ i _ => os.length - (intOf i).toNat)
  case atStart => exact ⟨0, Nat.zero_le _, rfl, HI.out⟩
  case round =>
    clear HI
    obtain ⟨k, hk, rfl, hI⟩ := hrel
    obtain ⟨A1, c1, hf1, -, -⟩ := hI.1.form
    subst hf1
    by_cases hlt : k < os.length
    · obtain ⟨b, off, c', o, e1, ho, hB, q0, q1, q2, q3, q4, q5, q6⟩ := ops_at (HR2.out.below hI.2) hlt
      injection e1 with e1a e1b e1c
      subst e1a
      obtain ⟨b2, off2, c2', y, e2, hy, hB2, r0⟩ := bools_at (HD2.out.below hI.2) (k := k) (by rw [playTo_len os _ (Nat.le_refl _)]; exact hlt)
      injection e2 with e2a e2b e2c
      subst e2a
      rw [playTo_at os _ (Nat.le_refl _) k o hlt ho] at hy
      have hy' : (gloDo (playTo os k).1 k o).2 = y := Option.some.inj hy
      have HO := Lib.hid ho
      have HI := Lib.hid hI
      clear e1b e1c e2b e2c hy hI ho hk
      cases y with
      | false =>
        have HX := Lib.hid (playTo_no HO.out hy')
        clear hy' q0 q1 q2 q3 q4 q5 q6
        go_wp2
        go_roundw
        case rel => exact ⟨k + 1, by omega, by go_num, by rw [HX.out]; exact HI.out.1, HI.out.2⟩
        case measure => simp [intOf]; omega
      | true =>
        have HX := Lib.hid (playTo_yes HO.out hy')
        have HY := Lib.hid hy'
        clear hy'
        go_wp2_with fail
        clear q0 q1 q2 q3 q4 q5 q6 r0
        refine (implGloDo_any _ _ _ HI.out.1 _ o).mono ?_
        rintro e w4 ⟨u4, rfl, hu4, hb4⟩
        rw [HY.out]
        obtain ⟨A4, c4, hf4, -, -⟩ := hu4.row.form
        subst hf4
        have HI4 := Lib.hid (show NoneI w2 os (k + 1) _ w4 from ⟨by rw [HX.out]; exact hu4.row, HI.out.2.trans (hb4.mono HI.out.2.size)⟩)
        clear hu4 hb4 HI HX HY
        go_wp2
        go_roundw
        case rel => exact ⟨k + 1, by omega, by go_num, HI4.out⟩
        case measure => simp [intOf]; omega
    · have : k = os.length := by omega
      subst this
      have HI := Lib.hid hI
      have HL3 := Lib.hid ((HL2.out.below hI.2).more hI.2.size)
      clear hI hk hlt
      go_wp2_with fail
      refine (jaStos_same _ _ _ _ HI.out.1 HL3.out).mono ?_
      rintro e w4 ⟨rfl, hb4⟩
      have HB4 := Lib.hid (belowNext HI.out.2 hb4)
      have HX4 := Lib.hid ((HI.out.1.below hb4).more hb4.size)
      have HK := Lib.hid (play_ok HG.out (show os.length ≤ 29 by omega) (Nat.le_refl os.length))
      clear hb4
      go_wp2_with fail
      refine (implGloOk_any _ _ _ HX4.out).mono ?_
      rintro e w5 ⟨rfl, hb5⟩
      rw [HK.out]
      have HB5 := Lib.hid (belowNext HB2.out (belowNext HB4.out hb5))
      clear hb5
      go_wp2
      go_ret
      exact ⟨rfl, HB5.out⟩

end Go.Proofs.Ytfmddejgoojghaa
