/- The walk of FnGloIn. By ingen.py. -/
import Derived.Test.YtlmcpkijcadalaaXPlayNoted
namespace Go.Proofs.Ytlmcpkijcadalaa
open Go.RowKit

/-- While what was done is gone through: who is in. -/
def InI (w2 : World) (os : List Op) (k : Nat) (W : World) : Prop :=
  ∃ a b c, PlayAt os k a b c ∧ Held W w2.heap.size (intsV (insOf a)) ∧ Below w2.heap.size w2 W
theorem heldDrew {w : World} {g : Nat} {cs : List Value} (h : Held w g cs) : Held w.drew g cs := h
set_option maxRecDepth 100000 in
set_option maxHeartbeats 20000000 in
theorem lawGloIn_any (w : World) (v : Value) (n : Nat) (hv : Code8 w v n) :
    Calls Try.prog 11 #[v] w fun e w' => e = .returned (.bool true) ∧ Below w.heap.size w w' := by
  have HV := Lib.hid hv
  obtain ⟨A, c, f, rfl, h1, h2, -, -⟩ := hv
  unfold maxLen at h2
  by_cases hn : 1048576 < n
  · have hn' : (1048576 : Int) < (n : Int) := by omega
    go_enter Try.func11, Try.ntmps11
    go_wp2
    go_ret
    exact ⟨rfl, Below.refl _ _⟩
  have hn' : (n : Int) ≤ 1048576 := by omega
  clear hn
  go_enter Try.func11, Try.ntmps11
  go_wp2_with fail
  refine (drawGloPlay_any _ _ n HV.out).mono ?_
  rintro e w1 ⟨u, os, rfl, hol, hog, hrow, hb1⟩
  obtain ⟨Ao, co, hof, hoc, -⟩ := hrow.form
  subst hof
  unfold maxLen at hoc
  have HG := Lib.hid hog
  have HR1 := Lib.hid hrow
  have HB1 := Lib.hid hb1
  clear hrow hog hb1 HV
  go_wp2_with fail
  refine (jaGlo_any _ _ os HR1.out (by omega)).mono ?_
  rintro e w2 ⟨ul, ud, rfl, hl, hd, hb2⟩
  obtain ⟨Al, cl, hfl, hcl, -⟩ := hl.form
  obtain ⟨Ad, cd, hfd, hcd, -⟩ := hd.form
  rw [playTo_len os _ (Nat.le_refl _)] at hfd
  unfold maxLen at hcl hcd
  subst hfl
  subst hfd
  have HR2 := Lib.hid ((HR1.out.below hb2).more hb2.size)
  have HL2 := Lib.hid hl
  have HD2 := Lib.hid hd
  have HB2 := Lib.hid (belowNext HB1.out hb2)
  clear hl hd hb2 HB1 HR1
  have hmk : ∀ w, (Instr.makeSlice 43 (.int .i64 10) (.int .i64 10)).run Try.prog w = .ok (.slice (some ⟨w.heap.size, 0, none⟩) 10 10) (w.alloc (.cells #[.int .i64 0, .int .i64 0, .int .i64 0, .int .i64 0, .int .i64 0, .int .i64 0, .int .i64 0, .int .i64 0, .int .i64 0, .int .i64 0] 3)) := fun _ => by kernel_rfl
  go_wp2
  clear hmk
  go_loopw [7] (fun i wr => ∃ k : Nat, k ≤ 10 ∧ i = .int .i64 k ∧ Held wr w2.heap.size (intsV (midI k)) ∧ Below w2.heap.size w2 wr) (fun i _ => 10 - (intOf i).toNat)
  case atStart => exact ⟨0, by omega, rfl, Held.new w2 _ _, belowOne w2 _⟩
  case round =>
    obtain ⟨kf, hk, rfl, hh, hb⟩ := hrel
    by_cases hlt : kf < 10
    · have z0 := hh.2.1 kf
      have z1 := hh.of kf _ (intsV_at (midI_at (k := kf) hlt))
      have HH := Lib.hid (show Held (wr.setCell ⟨w2.heap.size, kf, none⟩ (.int .i64 (-1))) w2.heap.size (intsV (midI (kf + 1))) from by rw [← midI_step hlt, ← intsV_set]; exact hh.set_ _)
      have HBn := Lib.hid (show Below w2.heap.size w2 (wr.setCell ⟨w2.heap.size, kf, none⟩ (.int .i64 (-1))) from hb.setCell (p := ⟨w2.heap.size, kf, none⟩) (Nat.le_refl _) _)
      clear hh hb
      go_wp2
      go_roundw
      case rel => exact ⟨kf + 1, by omega, by go_num, HH.out, HBn.out⟩
      case measure => simp [intOf]; omega
    · have hkk : kf = 10 := by omega
      have HI := Lib.hid (show InI w2 os 0 wr from ⟨[], [], [], PlayAt.start, by rw [← midI_end, ← hkk]; exact hh, hb⟩)
      clear hh hb hk hkk
      go_wp2
      go_loopw [8] (fun i wr => ∃ k : Nat, k ≤ os.length ∧ i = .int .i64 k ∧ InI w2 os k wr) (fun i _ => os.length - (intOf i).toNat)
      case atStart => exact ⟨0, Nat.zero_le _, rfl, HI.out⟩
      case round =>
        clear HI
        obtain ⟨k, hk, rfl, ia, ib, ic, hpl, hh, hb⟩ := hrel
        by_cases hlt : k < os.length
        · obtain ⟨b, off, c', o, e1, ho, hB, q0, q1, q2, q3, q4, q5, q6⟩ := ops_at (HR2.out.below hb) hlt
          injection e1 with e1a e1b e1c
          subst e1a
          obtain ⟨b2, off2, c2', y, e2, hy, hB2, r0⟩ := bools_at (HD2.out.below hb) (k := k) (by rw [playTo_len os _ (Nat.le_refl _)]; exact hlt)
          injection e2 with e2a e2b e2c
          subst e2a
          rw [playTo_at os _ (Nat.le_refl _) k o hlt ho] at hy
          have hy' : (gloDo (playTo os k).1 k o).2 = y := Option.some.inj hy
          have hob := HG.out o (List.mem_of_getElem? ho)
          have hop := opB_parts hob
          obtain ⟨i, hi⟩ := Int.eq_ofNat_of_zero_le hop.2.2.1
          have hi9 : i < 10 := by omega
          have hit : o.inn.toNat = i := by omega
          rw [hi] at q2
          have hsz : w2.heap.size ≤ wr.heap.size := hb.size
          have hlt2 : w2.heap.size < wr.heap.size := hh.1
          have hlo : k ≤ 29 := by omega
          have HO := Lib.hid ho
          have HP := Lib.hid hpl
          have HOB := Lib.hid hob
          have HIT := Lib.hid (And.intro hi hit)
          clear e1b e1c e2b e2c hy hpl ho hob hop hi hit hk
          rcases opK_kind HOB.out with hkd | hkd | hkd | hkd | hkd
          · rw [hkd] at q0
            cases y with
            | false =>
              have HH := Lib.hid (show Held (wr.alloc (.cells #[.int .i64 1, .int .i64 o.who, .int .i64 i, .int .i64 o.code, .int .i64 o.sec, .int .i64 o.fam, .int .i64 o.gen] 27)) w2.heap.size (intsV (insOf ia)) from hh.after _)
              have HX := Lib.hid (show Held (wr.alloc (.cells #[.int .i64 1, .int .i64 o.who, .int .i64 i, .int .i64 o.code, .int .i64 o.sec, .int .i64 o.fam, .int .i64 o.gen] 27)) wr.heap.size [.int .i64 1, .int .i64 o.who, .int .i64 i, .int .i64 o.code, .int .i64 o.sec, .int .i64 o.fam, .int .i64 o.gen] from Held.new wr _ _)
              have HBn := Lib.hid (show Below w2.heap.size w2 (wr.alloc (.cells #[.int .i64 1, .int .i64 o.who, .int .i64 i, .int .i64 o.code, .int .i64 o.sec, .int .i64 o.fam, .int .i64 o.gen] 27)) from hb.alloc hsz _)
              have k0 := And.intro (show (wr.alloc (.cells #[.int .i64 1, .int .i64 o.who, .int .i64 i, .int .i64 o.code, .int .i64 o.sec, .int .i64 o.fam, .int .i64 o.gen] 27)).cell? ⟨b2, off2 + k, none⟩ = some (.bool false) from (HBn.out.cell (p := ⟨b2, off2 + k, none⟩) hB2).trans ((hb.cell (p := ⟨b2, off2 + k, none⟩) hB2).symm.trans r0)) (And.intro (And.intro (HX.out.of 2 _ rfl) (HX.out.of 1 _ rfl)) (HH.out.of i _ (intsV_at (insOf_at ia hi9))))
              have c0 := HX.out.of 0 _ rfl
              have hx := HP.out.in1 HOB.out hlo hkd
              rw [hy', HIT.out.1] at hx
              have hx0 : 0 ≤ inOf ia (i : Int) := by have := of_decide_eq_false hx.symm; omega
              clear hx
              have HN := Lib.hid (show InI w2 os (k + 1) (wr.alloc (.cells #[.int .i64 1, .int .i64 o.who, .int .i64 i, .int .i64 o.code, .int .i64 o.sec, .int .i64 o.fam, .int .i64 o.gen] 27)).drew from ⟨_, _, _, HP.out.no HO.out hy', heldDrew HH.out, HBn.out.drew⟩)
              clear hh hb hkd hy' r0
              have i10 : (i : Int) < 10 := by omega
              have i00 : (0 : Int) ≤ (i : Int) := by omega
              have f3 : (0 : Int) ≤ (k : Int) := by omega
              have f4 : (k : Int) < (os.length : Int) := by omega
              go_wp2
              refine wp_region_held_drew (S := (fun w' => w'.cell? ⟨b2, off2 + k, none⟩ = some (.bool false) ∧ (w'.cell? ⟨wr.heap.size, 2, none⟩ = some (.int .i64 i) ∧ w'.cell? ⟨wr.heap.size, 1, none⟩ = some (.int .i64 o.who)) ∧ w'.cell? ⟨w2.heap.size, i, none⟩ = some (.int .i64 (inOf ia i)))) (by kernel_rfl) ?hSr1f (fun hHeldr1f => ?str1f)
              case hSr1f => (first | (dsimp only; (exact k0)) | (exact k0))
              refine take_first 0 44 (v := ?vr1f_1) rfl rfl (by kernel_rfl) (by kernel_rfl) (by kernel_rfl) (fun _ _ _ h => h) (by rfl) ?yr1f_1 (by assumption) ?rr1f_1
              case yr1f_1 => (intro w hSw; (try dsimp only at hSw); go_simp; (try with_reducible rfl))
              simp only [Act.put, List.setIfInBounds_toArray, List.set_cons_zero, List.set_cons_succ]
              refine take_first 1 45 (v := ?vr1f_2) rfl rfl (by kernel_rfl) (by kernel_rfl) (by kernel_rfl) (fun _ _ _ h => h) (by rfl) ?yr1f_2 (by assumption) ?rr1f_2
              case yr1f_2 => (intro w hSw; (try dsimp only at hSw); go_simp; (try with_reducible rfl))
              simp only [Act.put, List.setIfInBounds_toArray, List.set_cons_zero, List.set_cons_succ]
              refine take_first 2 46 (v := ?vr1f_3) rfl rfl (by kernel_rfl) (by kernel_rfl) (by kernel_rfl) (fun _ _ _ h => h) (by rfl) ?yr1f_3 (by assumption) ?rr1f_3
              case yr1f_3 => (intro w hSw; (try dsimp only at hSw); go_simp; (try with_reducible rfl))
              simp only [Act.put, List.setIfInBounds_toArray, List.set_cons_zero, List.set_cons_succ]
              refine take_first 3 47 (v := ?vr1f_4) rfl rfl (by kernel_rfl) (by kernel_rfl) (by kernel_rfl) (fun _ _ _ h => h) (by rfl) ?yr1f_4 (by assumption) ?rr1f_4
              case yr1f_4 => (intro w hSw; (try dsimp only at hSw); go_simp; (try with_reducible rfl))
              simp only [Act.put, List.setIfInBounds_toArray, List.set_cons_zero, List.set_cons_succ]
              refine take_first 4 48 (v := ?vr1f_5) rfl rfl (by kernel_rfl) (by kernel_rfl) (by kernel_rfl) (fun _ _ _ h => h) (by rfl) ?yr1f_5 (by assumption) ?rr1f_5
              case yr1f_5 => (intro w hSw; (try dsimp only at hSw); go_simp; (try with_reducible rfl))
              simp only [Act.put, List.setIfInBounds_toArray, List.set_cons_zero, List.set_cons_succ]
              refine take_first 5 49 (v := ?vr1f_6) rfl rfl (by kernel_rfl) (by kernel_rfl) (by kernel_rfl) (fun _ _ _ h => h) (by rfl) ?yr1f_6 (by assumption) ?rr1f_6
              case yr1f_6 => (intro w hSw; (try dsimp only at hSw); go_simp; (try with_reducible rfl))
              simp only [Act.put, List.setIfInBounds_toArray, List.set_cons_zero, List.set_cons_succ]
              refine take_first 6 50 (v := ?vr1f_7) rfl rfl (by kernel_rfl) (by kernel_rfl) (by kernel_rfl) (fun _ _ _ h => h) (by rfl) ?yr1f_7 (by assumption) ?rr1f_7
              case yr1f_7 => (intro w hSw; (try dsimp only at hSw); go_simp; (try with_reducible rfl))
              simp only [Act.put, List.setIfInBounds_toArray, List.set_cons_zero, List.set_cons_succ]
              refine take_first 7 51 (v := ?vr1f_8) rfl rfl (by kernel_rfl) (by kernel_rfl) (by kernel_rfl) (fun _ _ _ h => h) (by rfl) ?yr1f_8 (by assumption) ?rr1f_8
              case yr1f_8 => (intro w hSw; (try dsimp only at hSw); go_simp; (try with_reducible rfl))
              simp only [Act.put, List.setIfInBounds_toArray, List.set_cons_zero, List.set_cons_succ]
              refine take_first 8 52 (v := ?vr1f_9) rfl rfl (by kernel_rfl) (by kernel_rfl) (by kernel_rfl) (fun _ _ _ h => h) (by rfl) ?yr1f_9 (by assumption) ?rr1f_9
              case yr1f_9 => (intro w hSw; (try dsimp only at hSw); go_simp; (try with_reducible rfl))
              simp only [Act.put, List.setIfInBounds_toArray, List.set_cons_zero, List.set_cons_succ]
              refine take_first 9 53 (v := ?vr1f_10) rfl rfl (by kernel_rfl) (by kernel_rfl) (by kernel_rfl) (fun _ _ _ h => h) (by rfl) ?yr1f_10 (by assumption) ?rr1f_10
              case yr1f_10 => (intro w hSw; (try dsimp only at hSw); go_simp; (try with_reducible rfl))
              simp only [Act.put, List.setIfInBounds_toArray, List.set_cons_zero, List.set_cons_succ]
              refine take_first 10 54 (v := ?vr1f_11) rfl rfl (by kernel_rfl) (by kernel_rfl) (by kernel_rfl) (fun _ _ _ h => h) (by rfl) ?yr1f_11 (by assumption) ?rr1f_11
              case yr1f_11 => (intro w hSw; (try dsimp only at hSw); go_simp; (try with_reducible rfl))
              simp only [Act.put, List.setIfInBounds_toArray, List.set_cons_zero, List.set_cons_succ]
              refine wpAnyH_done (by kernel_rfl) ?er1f _
              obtain ⟨k1, ⟨k2, k3⟩, k4⟩ := k0
              clear HH HX HBn
              go_wp2
              go_roundw
              case rel => exact ⟨k + 1, by omega, by go_num, HN.out⟩
              case measure => simp [intOf]; omega
            | true =>
              have HH := Lib.hid (show Held (wr.alloc (.cells #[.int .i64 1, .int .i64 o.who, .int .i64 i, .int .i64 o.code, .int .i64 o.sec, .int .i64 o.fam, .int .i64 o.gen] 27)) w2.heap.size (intsV (insOf ia)) from hh.after _)
              have HX := Lib.hid (show Held (wr.alloc (.cells #[.int .i64 1, .int .i64 o.who, .int .i64 i, .int .i64 o.code, .int .i64 o.sec, .int .i64 o.fam, .int .i64 o.gen] 27)) wr.heap.size [.int .i64 1, .int .i64 o.who, .int .i64 i, .int .i64 o.code, .int .i64 o.sec, .int .i64 o.fam, .int .i64 o.gen] from Held.new wr _ _)
              have HBn := Lib.hid (show Below w2.heap.size w2 (wr.alloc (.cells #[.int .i64 1, .int .i64 o.who, .int .i64 i, .int .i64 o.code, .int .i64 o.sec, .int .i64 o.fam, .int .i64 o.gen] 27)) from hb.alloc hsz _)
              have k0 := And.intro (show (wr.alloc (.cells #[.int .i64 1, .int .i64 o.who, .int .i64 i, .int .i64 o.code, .int .i64 o.sec, .int .i64 o.fam, .int .i64 o.gen] 27)).cell? ⟨b2, off2 + k, none⟩ = some (.bool true) from (HBn.out.cell (p := ⟨b2, off2 + k, none⟩) hB2).trans ((hb.cell (p := ⟨b2, off2 + k, none⟩) hB2).symm.trans r0)) (And.intro (And.intro (HX.out.of 2 _ rfl) (HX.out.of 1 _ rfl)) (HH.out.of i _ (intsV_at (insOf_at ia hi9))))
              have c0 := HX.out.of 0 _ rfl
              have hx := HP.out.in1 HOB.out hlo hkd
              rw [hy', HIT.out.1] at hx
              have hx0 : inOf ia (i : Int) < 0 := by exact of_decide_eq_true hx.symm
              clear hx
              have HN := Lib.hid (show InI w2 os (k + 1) ((wr.setCell ⟨w2.heap.size, i, none⟩ (.int .i64 o.who)).alloc (.cells #[.int .i64 1, .int .i64 o.who, .int .i64 i, .int .i64 o.code, .int .i64 o.sec, .int .i64 o.fam, .int .i64 o.gen] 27)).drew from ⟨_, _, _, (HP.out.yes HO.out HOB.out hlo hy').2, by rw [HP.out.step1 HOB.out hlo hkd (by rw [HIT.out.1]; exact hx0), HIT.out.2, ← intsV_set]; exact (hh.set_ _).after _, (belowNext (hb.setCell (p := ⟨w2.heap.size, i, none⟩) (Nat.le_refl _) _) (belowOne _ _)).drew⟩)
              have z0 := Lib.hid (HH.out.2.1 i)
              clear hh hb hkd hy' r0
              have i10 : (i : Int) < 10 := by omega
              have i00 : (0 : Int) ≤ (i : Int) := by omega
              have f3 : (0 : Int) ≤ (k : Int) := by omega
              have f4 : (k : Int) < (os.length : Int) := by omega
              go_wp2
              refine wp_region_held_drew (S := (fun w' => w'.cell? ⟨b2, off2 + k, none⟩ = some (.bool true) ∧ (w'.cell? ⟨wr.heap.size, 2, none⟩ = some (.int .i64 i) ∧ w'.cell? ⟨wr.heap.size, 1, none⟩ = some (.int .i64 o.who)) ∧ w'.cell? ⟨w2.heap.size, i, none⟩ = some (.int .i64 (inOf ia i)))) (by kernel_rfl) ?hSr1t (fun hHeldr1t => ?str1t)
              case hSr1t => (first | (dsimp only; (exact k0)) | (exact k0))
              refine take_first 0 44 (v := ?vr1t_1) rfl rfl (by kernel_rfl) (by kernel_rfl) (by kernel_rfl) (fun _ _ _ h => h) (by rfl) ?yr1t_1 (by assumption) ?rr1t_1
              case yr1t_1 => (intro w hSw; (try dsimp only at hSw); go_simp; (try with_reducible rfl))
              simp only [Act.put, List.setIfInBounds_toArray, List.set_cons_zero, List.set_cons_succ]
              refine take_first 1 45 (v := ?vr1t_2) rfl rfl (by kernel_rfl) (by kernel_rfl) (by kernel_rfl) (fun _ _ _ h => h) (by rfl) ?yr1t_2 (by assumption) ?rr1t_2
              case yr1t_2 => (intro w hSw; (try dsimp only at hSw); go_simp; (try with_reducible rfl))
              simp only [Act.put, List.setIfInBounds_toArray, List.set_cons_zero, List.set_cons_succ]
              refine take_first 2 46 (v := ?vr1t_3) rfl rfl (by kernel_rfl) (by kernel_rfl) (by kernel_rfl) (fun _ _ _ h => h) (by rfl) ?yr1t_3 (by assumption) ?rr1t_3
              case yr1t_3 => (intro w hSw; (try dsimp only at hSw); go_simp; (try with_reducible rfl))
              simp only [Act.put, List.setIfInBounds_toArray, List.set_cons_zero, List.set_cons_succ]
              refine take_first 3 47 (v := ?vr1t_4) rfl rfl (by kernel_rfl) (by kernel_rfl) (by kernel_rfl) (fun _ _ _ h => h) (by rfl) ?yr1t_4 (by assumption) ?rr1t_4
              case yr1t_4 => (intro w hSw; (try dsimp only at hSw); go_simp; (try with_reducible rfl))
              simp only [Act.put, List.setIfInBounds_toArray, List.set_cons_zero, List.set_cons_succ]
              refine take_first 4 48 (v := ?vr1t_5) rfl rfl (by kernel_rfl) (by kernel_rfl) (by kernel_rfl) (fun _ _ _ h => h) (by rfl) ?yr1t_5 (by assumption) ?rr1t_5
              case yr1t_5 => (intro w hSw; (try dsimp only at hSw); go_simp; (try with_reducible rfl))
              simp only [Act.put, List.setIfInBounds_toArray, List.set_cons_zero, List.set_cons_succ]
              refine take_first 5 49 (v := ?vr1t_6) rfl rfl (by kernel_rfl) (by kernel_rfl) (by kernel_rfl) (fun _ _ _ h => h) (by rfl) ?yr1t_6 (by assumption) ?rr1t_6
              case yr1t_6 => (intro w hSw; (try dsimp only at hSw); go_simp; (try with_reducible rfl))
              simp only [Act.put, List.setIfInBounds_toArray, List.set_cons_zero, List.set_cons_succ]
              refine take_first 6 50 (v := ?vr1t_7) rfl rfl (by kernel_rfl) (by kernel_rfl) (by kernel_rfl) (fun _ _ _ h => h) (by rfl) ?yr1t_7 (by assumption) ?rr1t_7
              case yr1t_7 => (intro w hSw; (try dsimp only at hSw); go_simp; (try with_reducible rfl))
              simp only [Act.put, List.setIfInBounds_toArray, List.set_cons_zero, List.set_cons_succ]
              refine take_first 7 51 (v := ?vr1t_8) rfl rfl (by kernel_rfl) (by kernel_rfl) (by kernel_rfl) (fun _ _ _ h => h) (by rfl) ?yr1t_8 (by assumption) ?rr1t_8
              case yr1t_8 => (intro w hSw; (try dsimp only at hSw); go_simp; (try with_reducible rfl))
              simp only [Act.put, List.setIfInBounds_toArray, List.set_cons_zero, List.set_cons_succ]
              refine take_first 8 52 (v := ?vr1t_9) rfl rfl (by kernel_rfl) (by kernel_rfl) (by kernel_rfl) (fun _ _ _ h => h) (by rfl) ?yr1t_9 (by assumption) ?rr1t_9
              case yr1t_9 => (intro w hSw; (try dsimp only at hSw); go_simp; (try with_reducible rfl))
              simp only [Act.put, List.setIfInBounds_toArray, List.set_cons_zero, List.set_cons_succ]
              refine take_first 9 53 (v := ?vr1t_10) rfl rfl (by kernel_rfl) (by kernel_rfl) (by kernel_rfl) (fun _ _ _ h => h) (by rfl) ?yr1t_10 (by assumption) ?rr1t_10
              case yr1t_10 => (intro w hSw; (try dsimp only at hSw); go_simp; (try with_reducible rfl))
              simp only [Act.put, List.setIfInBounds_toArray, List.set_cons_zero, List.set_cons_succ]
              refine take_first 10 54 (v := ?vr1t_11) rfl rfl (by kernel_rfl) (by kernel_rfl) (by kernel_rfl) (fun _ _ _ h => h) (by rfl) ?yr1t_11 (by assumption) ?rr1t_11
              case yr1t_11 => (intro w hSw; (try dsimp only at hSw); go_simp; (try with_reducible rfl))
              simp only [Act.put, List.setIfInBounds_toArray, List.set_cons_zero, List.set_cons_succ]
              refine wpAnyH_done (by kernel_rfl) ?er1t _
              have z1 := z0.out
              obtain ⟨k1, ⟨k2, k3⟩, k4⟩ := k0
              clear HH HX HBn
              go_wp2
              go_roundw
              case rel => exact ⟨k + 1, by omega, by go_num, HN.out⟩
              case measure => simp [intOf]; omega
          · rw [hkd] at q0
            cases y with
            | false =>
              have HH := Lib.hid (show Held (wr.alloc (.cells #[.int .i64 2, .int .i64 o.who, .int .i64 i, .int .i64 o.code, .int .i64 o.sec, .int .i64 o.fam, .int .i64 o.gen] 27)) w2.heap.size (intsV (insOf ia)) from hh.after _)
              have HX := Lib.hid (show Held (wr.alloc (.cells #[.int .i64 2, .int .i64 o.who, .int .i64 i, .int .i64 o.code, .int .i64 o.sec, .int .i64 o.fam, .int .i64 o.gen] 27)) wr.heap.size [.int .i64 2, .int .i64 o.who, .int .i64 i, .int .i64 o.code, .int .i64 o.sec, .int .i64 o.fam, .int .i64 o.gen] from Held.new wr _ _)
              have HBn := Lib.hid (show Below w2.heap.size w2 (wr.alloc (.cells #[.int .i64 2, .int .i64 o.who, .int .i64 i, .int .i64 o.code, .int .i64 o.sec, .int .i64 o.fam, .int .i64 o.gen] 27)) from hb.alloc hsz _)
              have k0 := And.intro (show (wr.alloc (.cells #[.int .i64 2, .int .i64 o.who, .int .i64 i, .int .i64 o.code, .int .i64 o.sec, .int .i64 o.fam, .int .i64 o.gen] 27)).cell? ⟨b2, off2 + k, none⟩ = some (.bool false) from (HBn.out.cell (p := ⟨b2, off2 + k, none⟩) hB2).trans ((hb.cell (p := ⟨b2, off2 + k, none⟩) hB2).symm.trans r0)) (And.intro (And.intro (HX.out.of 2 _ rfl) (HX.out.of 1 _ rfl)) (HH.out.of i _ (intsV_at (insOf_at ia hi9))))
              have c0 := HX.out.of 0 _ rfl
              have HN := Lib.hid (show InI w2 os (k + 1) (wr.alloc (.cells #[.int .i64 2, .int .i64 o.who, .int .i64 i, .int .i64 o.code, .int .i64 o.sec, .int .i64 o.fam, .int .i64 o.gen] 27)).drew from ⟨_, _, _, HP.out.no HO.out hy', heldDrew HH.out, HBn.out.drew⟩)
              clear hh hb hkd hy' r0
              have i10 : (i : Int) < 10 := by omega
              have i00 : (0 : Int) ≤ (i : Int) := by omega
              have f3 : (0 : Int) ≤ (k : Int) := by omega
              have f4 : (k : Int) < (os.length : Int) := by omega
              go_wp2
              refine wp_region_held_drew (S := (fun w' => w'.cell? ⟨b2, off2 + k, none⟩ = some (.bool false) ∧ (w'.cell? ⟨wr.heap.size, 2, none⟩ = some (.int .i64 i) ∧ w'.cell? ⟨wr.heap.size, 1, none⟩ = some (.int .i64 o.who)) ∧ w'.cell? ⟨w2.heap.size, i, none⟩ = some (.int .i64 (inOf ia i)))) (by kernel_rfl) ?hSr2f (fun hHeldr2f => ?str2f)
              case hSr2f => (first | (dsimp only; (exact k0)) | (exact k0))
              refine take_first 0 67 (v := ?vr2f_1) rfl rfl (by kernel_rfl) (by kernel_rfl) (by kernel_rfl) (fun _ _ _ h => h) (by rfl) ?yr2f_1 (by assumption) ?rr2f_1
              case yr2f_1 => (intro w hSw; (try dsimp only at hSw); go_simp; (try with_reducible rfl))
              simp only [Act.put, List.setIfInBounds_toArray, List.set_cons_zero, List.set_cons_succ]
              refine take_first 1 68 (v := ?vr2f_2) rfl rfl (by kernel_rfl) (by kernel_rfl) (by kernel_rfl) (fun _ _ _ h => h) (by rfl) ?yr2f_2 (by assumption) ?rr2f_2
              case yr2f_2 => (intro w hSw; (try dsimp only at hSw); go_simp; (try with_reducible rfl))
              simp only [Act.put, List.setIfInBounds_toArray, List.set_cons_zero, List.set_cons_succ]
              refine take_first 2 69 (v := ?vr2f_3) rfl rfl (by kernel_rfl) (by kernel_rfl) (by kernel_rfl) (fun _ _ _ h => h) (by rfl) ?yr2f_3 (by assumption) ?rr2f_3
              case yr2f_3 => (intro w hSw; (try dsimp only at hSw); go_simp; (try with_reducible rfl))
              simp only [Act.put, List.setIfInBounds_toArray, List.set_cons_zero, List.set_cons_succ]
              refine take_first 3 70 (v := ?vr2f_4) rfl rfl (by kernel_rfl) (by kernel_rfl) (by kernel_rfl) (fun _ _ _ h => h) (by rfl) ?yr2f_4 (by assumption) ?rr2f_4
              case yr2f_4 => (intro w hSw; (try dsimp only at hSw); go_simp; (try with_reducible rfl))
              simp only [Act.put, List.setIfInBounds_toArray, List.set_cons_zero, List.set_cons_succ]
              refine take_first 4 71 (v := ?vr2f_5) rfl rfl (by kernel_rfl) (by kernel_rfl) (by kernel_rfl) (fun _ _ _ h => h) (by rfl) ?yr2f_5 (by assumption) ?rr2f_5
              case yr2f_5 => (intro w hSw; (try dsimp only at hSw); go_simp; (try with_reducible rfl))
              simp only [Act.put, List.setIfInBounds_toArray, List.set_cons_zero, List.set_cons_succ]
              refine pass_over 5 72 rfl rfl (by kernel_rfl) (by kernel_rfl) (by kernel_rfl) (fun _ _ _ h => h) (by rfl) (by assumption) ?rr2f_6
              simp only [Act.put, List.setIfInBounds_toArray, List.set_cons_zero, List.set_cons_succ]
              refine pass_over 6 73 rfl rfl (by kernel_rfl) (by kernel_rfl) (by kernel_rfl) (fun _ _ _ h => h) (by rfl) (by assumption) ?rr2f_7
              simp only [Act.put, List.setIfInBounds_toArray, List.set_cons_zero, List.set_cons_succ]
              refine pass_over 7 74 rfl rfl (by kernel_rfl) (by kernel_rfl) (by kernel_rfl) (fun _ _ _ h => h) (by rfl) (by assumption) ?rr2f_8
              simp only [Act.put, List.setIfInBounds_toArray, List.set_cons_zero, List.set_cons_succ]
              refine pass_over 8 75 rfl rfl (by kernel_rfl) (by kernel_rfl) (by kernel_rfl) (fun _ _ _ h => h) (by rfl) (by assumption) ?rr2f_9
              simp only [Act.put, List.setIfInBounds_toArray, List.set_cons_zero, List.set_cons_succ]
              refine pass_over 9 76 rfl rfl (by kernel_rfl) (by kernel_rfl) (by kernel_rfl) (fun _ _ _ h => h) (by rfl) (by assumption) ?rr2f_10
              simp only [Act.put, List.setIfInBounds_toArray, List.set_cons_zero, List.set_cons_succ]
              refine pass_over 10 77 rfl rfl (by kernel_rfl) (by kernel_rfl) (by kernel_rfl) (fun _ _ _ h => h) (by rfl) (by assumption) ?rr2f_11
              simp only [Act.put, List.setIfInBounds_toArray, List.set_cons_zero, List.set_cons_succ]
              refine pass_over 11 78 rfl rfl (by kernel_rfl) (by kernel_rfl) (by kernel_rfl) (fun _ _ _ h => h) (by rfl) (by assumption) ?rr2f_12
              simp only [Act.put, List.setIfInBounds_toArray, List.set_cons_zero, List.set_cons_succ]
              refine pass_over 12 79 rfl rfl (by kernel_rfl) (by kernel_rfl) (by kernel_rfl) (fun _ _ _ h => h) (by rfl) (by assumption) ?rr2f_13
              simp only [Act.put, List.setIfInBounds_toArray, List.set_cons_zero, List.set_cons_succ]
              refine take_first 13 80 (v := ?vr2f_14) rfl rfl (by kernel_rfl) (by kernel_rfl) (by kernel_rfl) (fun _ _ _ h => h) (by rfl) ?yr2f_14 (by assumption) ?rr2f_14
              case yr2f_14 => (intro w hSw; (try dsimp only at hSw); go_simp; (try with_reducible rfl))
              simp only [Act.put, List.setIfInBounds_toArray, List.set_cons_zero, List.set_cons_succ]
              refine wpAnyH_done (by kernel_rfl) ?er2f _
              obtain ⟨k1, ⟨k2, k3⟩, k4⟩ := k0
              clear HH HX HBn
              go_wp2
              go_roundw
              case rel => exact ⟨k + 1, by omega, by go_num, HN.out⟩
              case measure => simp [intOf]; omega
            | true =>
              have HH := Lib.hid (show Held (wr.alloc (.cells #[.int .i64 2, .int .i64 o.who, .int .i64 i, .int .i64 o.code, .int .i64 o.sec, .int .i64 o.fam, .int .i64 o.gen] 27)) w2.heap.size (intsV (insOf ia)) from hh.after _)
              have HX := Lib.hid (show Held (wr.alloc (.cells #[.int .i64 2, .int .i64 o.who, .int .i64 i, .int .i64 o.code, .int .i64 o.sec, .int .i64 o.fam, .int .i64 o.gen] 27)) wr.heap.size [.int .i64 2, .int .i64 o.who, .int .i64 i, .int .i64 o.code, .int .i64 o.sec, .int .i64 o.fam, .int .i64 o.gen] from Held.new wr _ _)
              have HBn := Lib.hid (show Below w2.heap.size w2 (wr.alloc (.cells #[.int .i64 2, .int .i64 o.who, .int .i64 i, .int .i64 o.code, .int .i64 o.sec, .int .i64 o.fam, .int .i64 o.gen] 27)) from hb.alloc hsz _)
              have k0 := And.intro (show (wr.alloc (.cells #[.int .i64 2, .int .i64 o.who, .int .i64 i, .int .i64 o.code, .int .i64 o.sec, .int .i64 o.fam, .int .i64 o.gen] 27)).cell? ⟨b2, off2 + k, none⟩ = some (.bool true) from (HBn.out.cell (p := ⟨b2, off2 + k, none⟩) hB2).trans ((hb.cell (p := ⟨b2, off2 + k, none⟩) hB2).symm.trans r0)) (And.intro (And.intro (HX.out.of 2 _ rfl) (HX.out.of 1 _ rfl)) (HH.out.of i _ (intsV_at (insOf_at ia hi9))))
              have c0 := HX.out.of 0 _ rfl
              have hx0 := HP.out.in2 HOB.out hlo hkd hy'
              rw [HIT.out.1] at hx0
              have HN := Lib.hid (show InI w2 os (k + 1) (wr.alloc (.cells #[.int .i64 2, .int .i64 o.who, .int .i64 i, .int .i64 o.code, .int .i64 o.sec, .int .i64 o.fam, .int .i64 o.gen] 27)).drew from ⟨_, _, _, (HP.out.yes HO.out HOB.out hlo hy').2, by rw [HP.out.step2 HOB.out hlo (by omega)]; exact heldDrew HH.out, HBn.out.drew⟩)
              clear hh hb hkd hy' r0
              have i10 : (i : Int) < 10 := by omega
              have i00 : (0 : Int) ≤ (i : Int) := by omega
              have f3 : (0 : Int) ≤ (k : Int) := by omega
              have f4 : (k : Int) < (os.length : Int) := by omega
              go_wp2
              refine wp_region_held_drew (S := (fun w' => w'.cell? ⟨b2, off2 + k, none⟩ = some (.bool true) ∧ (w'.cell? ⟨wr.heap.size, 2, none⟩ = some (.int .i64 i) ∧ w'.cell? ⟨wr.heap.size, 1, none⟩ = some (.int .i64 o.who)) ∧ w'.cell? ⟨w2.heap.size, i, none⟩ = some (.int .i64 (inOf ia i)))) (by kernel_rfl) ?hSr2t (fun hHeldr2t => ?str2t)
              case hSr2t => (first | (dsimp only; (exact k0)) | (exact k0))
              refine take_first 0 67 (v := ?vr2t_1) rfl rfl (by kernel_rfl) (by kernel_rfl) (by kernel_rfl) (fun _ _ _ h => h) (by rfl) ?yr2t_1 (by assumption) ?rr2t_1
              case yr2t_1 => (intro w hSw; (try dsimp only at hSw); go_simp; (try with_reducible rfl))
              simp only [Act.put, List.setIfInBounds_toArray, List.set_cons_zero, List.set_cons_succ]
              refine take_first 1 68 (v := ?vr2t_2) rfl rfl (by kernel_rfl) (by kernel_rfl) (by kernel_rfl) (fun _ _ _ h => h) (by rfl) ?yr2t_2 (by assumption) ?rr2t_2
              case yr2t_2 => (intro w hSw; (try dsimp only at hSw); go_simp; (try with_reducible rfl))
              simp only [Act.put, List.setIfInBounds_toArray, List.set_cons_zero, List.set_cons_succ]
              refine take_first 2 69 (v := ?vr2t_3) rfl rfl (by kernel_rfl) (by kernel_rfl) (by kernel_rfl) (fun _ _ _ h => h) (by rfl) ?yr2t_3 (by assumption) ?rr2t_3
              case yr2t_3 => (intro w hSw; (try dsimp only at hSw); go_simp; (try with_reducible rfl))
              simp only [Act.put, List.setIfInBounds_toArray, List.set_cons_zero, List.set_cons_succ]
              refine take_first 3 70 (v := ?vr2t_4) rfl rfl (by kernel_rfl) (by kernel_rfl) (by kernel_rfl) (fun _ _ _ h => h) (by rfl) ?yr2t_4 (by assumption) ?rr2t_4
              case yr2t_4 => (intro w hSw; (try dsimp only at hSw); go_simp; (try with_reducible rfl))
              simp only [Act.put, List.setIfInBounds_toArray, List.set_cons_zero, List.set_cons_succ]
              refine take_first 4 71 (v := ?vr2t_5) rfl rfl (by kernel_rfl) (by kernel_rfl) (by kernel_rfl) (fun _ _ _ h => h) (by rfl) ?yr2t_5 (by assumption) ?rr2t_5
              case yr2t_5 => (intro w hSw; (try dsimp only at hSw); go_simp; (try with_reducible rfl))
              simp only [Act.put, List.setIfInBounds_toArray, List.set_cons_zero, List.set_cons_succ]
              refine take_first 5 72 (v := ?vr2t_6) rfl rfl (by kernel_rfl) (by kernel_rfl) (by kernel_rfl) (fun _ _ _ h => h) (by rfl) ?yr2t_6 (by assumption) ?rr2t_6
              case yr2t_6 => (intro w hSw; (try dsimp only at hSw); go_simp; (try with_reducible rfl))
              simp only [Act.put, List.setIfInBounds_toArray, List.set_cons_zero, List.set_cons_succ]
              refine take_first 6 73 (v := ?vr2t_7) rfl rfl (by kernel_rfl) (by kernel_rfl) (by kernel_rfl) (fun _ _ _ h => h) (by rfl) ?yr2t_7 (by assumption) ?rr2t_7
              case yr2t_7 => (intro w hSw; (try dsimp only at hSw); go_simp; (try with_reducible rfl))
              simp only [Act.put, List.setIfInBounds_toArray, List.set_cons_zero, List.set_cons_succ]
              refine take_first 7 74 (v := ?vr2t_8) rfl rfl (by kernel_rfl) (by kernel_rfl) (by kernel_rfl) (fun _ _ _ h => h) (by rfl) ?yr2t_8 (by assumption) ?rr2t_8
              case yr2t_8 => (intro w hSw; (try dsimp only at hSw); go_simp; (try with_reducible rfl))
              simp only [Act.put, List.setIfInBounds_toArray, List.set_cons_zero, List.set_cons_succ]
              refine take_first 8 75 (v := ?vr2t_9) rfl rfl (by kernel_rfl) (by kernel_rfl) (by kernel_rfl) (fun _ _ _ h => h) (by rfl) ?yr2t_9 (by assumption) ?rr2t_9
              case yr2t_9 => (intro w hSw; (try dsimp only at hSw); go_simp; (try with_reducible rfl))
              simp only [Act.put, List.setIfInBounds_toArray, List.set_cons_zero, List.set_cons_succ]
              refine take_first 9 76 (v := ?vr2t_10) rfl rfl (by kernel_rfl) (by kernel_rfl) (by kernel_rfl) (fun _ _ _ h => h) (by rfl) ?yr2t_10 (by assumption) ?rr2t_10
              case yr2t_10 => (intro w hSw; (try dsimp only at hSw); go_simp; (try with_reducible rfl))
              simp only [Act.put, List.setIfInBounds_toArray, List.set_cons_zero, List.set_cons_succ]
              refine take_first 10 77 (v := ?vr2t_11) rfl rfl (by kernel_rfl) (by kernel_rfl) (by kernel_rfl) (fun _ _ _ h => h) (by rfl) ?yr2t_11 (by assumption) ?rr2t_11
              case yr2t_11 => (intro w hSw; (try dsimp only at hSw); go_simp; (try with_reducible rfl))
              simp only [Act.put, List.setIfInBounds_toArray, List.set_cons_zero, List.set_cons_succ]
              refine take_first 11 78 (v := ?vr2t_12) rfl rfl (by kernel_rfl) (by kernel_rfl) (by kernel_rfl) (fun _ _ _ h => h) (by rfl) ?yr2t_12 (by assumption) ?rr2t_12
              case yr2t_12 => (intro w hSw; (try dsimp only at hSw); go_simp; (try with_reducible rfl))
              simp only [Act.put, List.setIfInBounds_toArray, List.set_cons_zero, List.set_cons_succ]
              refine take_first 12 79 (v := ?vr2t_13) rfl rfl (by kernel_rfl) (by kernel_rfl) (by kernel_rfl) (fun _ _ _ h => h) (by rfl) ?yr2t_13 (by assumption) ?rr2t_13
              case yr2t_13 => (intro w hSw; (try dsimp only at hSw); go_simp; (try with_reducible rfl))
              simp only [Act.put, List.setIfInBounds_toArray, List.set_cons_zero, List.set_cons_succ]
              refine take_first 13 80 (v := ?vr2t_14) rfl rfl (by kernel_rfl) (by kernel_rfl) (by kernel_rfl) (fun _ _ _ h => h) (by rfl) ?yr2t_14 (by assumption) ?rr2t_14
              case yr2t_14 => (intro w hSw; (try dsimp only at hSw); go_simp; (try with_reducible rfl))
              simp only [Act.put, List.setIfInBounds_toArray, List.set_cons_zero, List.set_cons_succ]
              refine wpAnyH_done (by kernel_rfl) ?er2t _
              clear HH HX HBn
              go_wp2
              go_roundw
              case rel => exact ⟨k + 1, by omega, by go_num, HN.out⟩
              case measure => simp [intOf]; omega
          · rw [hkd] at q0
            have HH := Lib.hid (show Held (wr.alloc (.cells #[.int .i64 3, .int .i64 o.who, .int .i64 i, .int .i64 o.code, .int .i64 o.sec, .int .i64 o.fam, .int .i64 o.gen] 27)) w2.heap.size (intsV (insOf ia)) from hh.after _)
            have HBn := Lib.hid (show Below w2.heap.size w2 (wr.alloc (.cells #[.int .i64 3, .int .i64 o.who, .int .i64 i, .int .i64 o.code, .int .i64 o.sec, .int .i64 o.fam, .int .i64 o.gen] 27)) from hb.alloc hsz _)
            have c0 := (show Held (wr.alloc (.cells #[.int .i64 3, .int .i64 o.who, .int .i64 i, .int .i64 o.code, .int .i64 o.sec, .int .i64 o.fam, .int .i64 o.gen] 27)) wr.heap.size [.int .i64 3, .int .i64 o.who, .int .i64 i, .int .i64 o.code, .int .i64 o.sec, .int .i64 o.fam, .int .i64 o.gen] from Held.new wr _ _).of 0 _ rfl
            have HN := Lib.hid (show InI w2 os (k + 1) (wr.alloc (.cells #[.int .i64 3, .int .i64 o.who, .int .i64 i, .int .i64 o.code, .int .i64 o.sec, .int .i64 o.fam, .int .i64 o.gen] 27)) from by
              cases y with
              | false => exact ⟨_, _, _, HP.out.no HO.out hy', HH.out, HBn.out⟩
              | true => exact ⟨_, _, _, (HP.out.yes HO.out HOB.out hlo hy').2, by rw [HP.out.step2 HOB.out hlo (by omega)]; exact HH.out, HBn.out⟩)
            clear hh hb hkd hy' HH HBn
            go_wp2
            go_roundw
            case rel => exact ⟨k + 1, by omega, by go_num, HN.out⟩
            case measure => simp [intOf]; omega
          · rw [hkd] at q0
            have HH := Lib.hid (show Held (wr.alloc (.cells #[.int .i64 4, .int .i64 o.who, .int .i64 i, .int .i64 o.code, .int .i64 o.sec, .int .i64 o.fam, .int .i64 o.gen] 27)) w2.heap.size (intsV (insOf ia)) from hh.after _)
            have HBn := Lib.hid (show Below w2.heap.size w2 (wr.alloc (.cells #[.int .i64 4, .int .i64 o.who, .int .i64 i, .int .i64 o.code, .int .i64 o.sec, .int .i64 o.fam, .int .i64 o.gen] 27)) from hb.alloc hsz _)
            have c0 := (show Held (wr.alloc (.cells #[.int .i64 4, .int .i64 o.who, .int .i64 i, .int .i64 o.code, .int .i64 o.sec, .int .i64 o.fam, .int .i64 o.gen] 27)) wr.heap.size [.int .i64 4, .int .i64 o.who, .int .i64 i, .int .i64 o.code, .int .i64 o.sec, .int .i64 o.fam, .int .i64 o.gen] from Held.new wr _ _).of 0 _ rfl
            have HN := Lib.hid (show InI w2 os (k + 1) (wr.alloc (.cells #[.int .i64 4, .int .i64 o.who, .int .i64 i, .int .i64 o.code, .int .i64 o.sec, .int .i64 o.fam, .int .i64 o.gen] 27)) from by
              cases y with
              | false => exact ⟨_, _, _, HP.out.no HO.out hy', HH.out, HBn.out⟩
              | true => exact ⟨_, _, _, (HP.out.yes HO.out HOB.out hlo hy').2, by rw [HP.out.step2 HOB.out hlo (by omega)]; exact HH.out, HBn.out⟩)
            clear hh hb hkd hy' HH HBn
            go_wp2
            go_roundw
            case rel => exact ⟨k + 1, by omega, by go_num, HN.out⟩
            case measure => simp [intOf]; omega
          · rw [hkd] at q0
            cases y with
            | false =>
              have HH := Lib.hid (show Held (wr.alloc (.cells #[.int .i64 5, .int .i64 o.who, .int .i64 i, .int .i64 o.code, .int .i64 o.sec, .int .i64 o.fam, .int .i64 o.gen] 27)) w2.heap.size (intsV (insOf ia)) from hh.after _)
              have HX := Lib.hid (show Held (wr.alloc (.cells #[.int .i64 5, .int .i64 o.who, .int .i64 i, .int .i64 o.code, .int .i64 o.sec, .int .i64 o.fam, .int .i64 o.gen] 27)) wr.heap.size [.int .i64 5, .int .i64 o.who, .int .i64 i, .int .i64 o.code, .int .i64 o.sec, .int .i64 o.fam, .int .i64 o.gen] from Held.new wr _ _)
              have HBn := Lib.hid (show Below w2.heap.size w2 (wr.alloc (.cells #[.int .i64 5, .int .i64 o.who, .int .i64 i, .int .i64 o.code, .int .i64 o.sec, .int .i64 o.fam, .int .i64 o.gen] 27)) from hb.alloc hsz _)
              have k0 := And.intro (show (wr.alloc (.cells #[.int .i64 5, .int .i64 o.who, .int .i64 i, .int .i64 o.code, .int .i64 o.sec, .int .i64 o.fam, .int .i64 o.gen] 27)).cell? ⟨b2, off2 + k, none⟩ = some (.bool false) from (HBn.out.cell (p := ⟨b2, off2 + k, none⟩) hB2).trans ((hb.cell (p := ⟨b2, off2 + k, none⟩) hB2).symm.trans r0)) (And.intro (And.intro (HX.out.of 2 _ rfl) (HX.out.of 1 _ rfl)) (HH.out.of i _ (intsV_at (insOf_at ia hi9))))
              have c0 := HX.out.of 0 _ rfl
              have hx := HP.out.in5 HOB.out hlo hkd
              rw [hy', HIT.out.1] at hx
              have hx0 : ¬ inOf ia (i : Int) = o.who := of_decide_eq_false hx.symm
              clear hx
              have HN := Lib.hid (show InI w2 os (k + 1) (wr.alloc (.cells #[.int .i64 5, .int .i64 o.who, .int .i64 i, .int .i64 o.code, .int .i64 o.sec, .int .i64 o.fam, .int .i64 o.gen] 27)).drew from ⟨_, _, _, HP.out.no HO.out hy', heldDrew HH.out, HBn.out.drew⟩)
              clear hh hb hkd hy' r0
              have i10 : (i : Int) < 10 := by omega
              have i00 : (0 : Int) ≤ (i : Int) := by omega
              have f3 : (0 : Int) ≤ (k : Int) := by omega
              have f4 : (k : Int) < (os.length : Int) := by omega
              go_wp2
              refine wp_region_held_drew (S := (fun w' => w'.cell? ⟨b2, off2 + k, none⟩ = some (.bool false) ∧ (w'.cell? ⟨wr.heap.size, 2, none⟩ = some (.int .i64 i) ∧ w'.cell? ⟨wr.heap.size, 1, none⟩ = some (.int .i64 o.who)) ∧ w'.cell? ⟨w2.heap.size, i, none⟩ = some (.int .i64 (inOf ia i)))) (by kernel_rfl) ?hSr5f (fun hHeldr5f => ?str5f)
              case hSr5f => (first | (dsimp only; (exact k0)) | (exact k0))
              refine take_first 0 83 (v := ?vr5f_1) rfl rfl (by kernel_rfl) (by kernel_rfl) (by kernel_rfl) (fun _ _ _ h => h) (by rfl) ?yr5f_1 (by assumption) ?rr5f_1
              case yr5f_1 => (intro w hSw; (try dsimp only at hSw); go_simp; (try with_reducible rfl))
              simp only [Act.put, List.setIfInBounds_toArray, List.set_cons_zero, List.set_cons_succ]
              refine take_first 1 84 (v := ?vr5f_2) rfl rfl (by kernel_rfl) (by kernel_rfl) (by kernel_rfl) (fun _ _ _ h => h) (by rfl) ?yr5f_2 (by assumption) ?rr5f_2
              case yr5f_2 => (intro w hSw; (try dsimp only at hSw); go_simp; (try with_reducible rfl))
              simp only [Act.put, List.setIfInBounds_toArray, List.set_cons_zero, List.set_cons_succ]
              refine take_first 2 85 (v := ?vr5f_3) rfl rfl (by kernel_rfl) (by kernel_rfl) (by kernel_rfl) (fun _ _ _ h => h) (by rfl) ?yr5f_3 (by assumption) ?rr5f_3
              case yr5f_3 => (intro w hSw; (try dsimp only at hSw); go_simp; (try with_reducible rfl))
              simp only [Act.put, List.setIfInBounds_toArray, List.set_cons_zero, List.set_cons_succ]
              refine take_first 3 86 (v := ?vr5f_4) rfl rfl (by kernel_rfl) (by kernel_rfl) (by kernel_rfl) (fun _ _ _ h => h) (by rfl) ?yr5f_4 (by assumption) ?rr5f_4
              case yr5f_4 => (intro w hSw; (try dsimp only at hSw); go_simp; (try with_reducible rfl))
              simp only [Act.put, List.setIfInBounds_toArray, List.set_cons_zero, List.set_cons_succ]
              refine take_first 4 87 (v := ?vr5f_5) rfl rfl (by kernel_rfl) (by kernel_rfl) (by kernel_rfl) (fun _ _ _ h => h) (by rfl) ?yr5f_5 (by assumption) ?rr5f_5
              case yr5f_5 => (intro w hSw; (try dsimp only at hSw); go_simp; (try with_reducible rfl))
              simp only [Act.put, List.setIfInBounds_toArray, List.set_cons_zero, List.set_cons_succ]
              refine take_first 5 88 (v := ?vr5f_6) rfl rfl (by kernel_rfl) (by kernel_rfl) (by kernel_rfl) (fun _ _ _ h => h) (by rfl) ?yr5f_6 (by assumption) ?rr5f_6
              case yr5f_6 => (intro w hSw; (try dsimp only at hSw); go_simp; (try with_reducible rfl))
              simp only [Act.put, List.setIfInBounds_toArray, List.set_cons_zero, List.set_cons_succ]
              refine take_first 6 89 (v := ?vr5f_7) rfl rfl (by kernel_rfl) (by kernel_rfl) (by kernel_rfl) (fun _ _ _ h => h) (by rfl) ?yr5f_7 (by assumption) ?rr5f_7
              case yr5f_7 => (intro w hSw; (try dsimp only at hSw); go_simp; (try with_reducible rfl))
              simp only [Act.put, List.setIfInBounds_toArray, List.set_cons_zero, List.set_cons_succ]
              refine take_first 7 90 (v := ?vr5f_8) rfl rfl (by kernel_rfl) (by kernel_rfl) (by kernel_rfl) (fun _ _ _ h => h) (by rfl) ?yr5f_8 (by assumption) ?rr5f_8
              case yr5f_8 => (intro w hSw; (try dsimp only at hSw); go_simp; (try with_reducible rfl))
              simp only [Act.put, List.setIfInBounds_toArray, List.set_cons_zero, List.set_cons_succ]
              refine take_first 8 91 (v := ?vr5f_9) rfl rfl (by kernel_rfl) (by kernel_rfl) (by kernel_rfl) (fun _ _ _ h => h) (by rfl) ?yr5f_9 (by assumption) ?rr5f_9
              case yr5f_9 => (intro w hSw; (try dsimp only at hSw); go_simp; (try with_reducible rfl))
              simp only [Act.put, List.setIfInBounds_toArray, List.set_cons_zero, List.set_cons_succ]
              refine take_first 9 92 (v := ?vr5f_10) rfl rfl (by kernel_rfl) (by kernel_rfl) (by kernel_rfl) (fun _ _ _ h => h) (by rfl) ?yr5f_10 (by assumption) ?rr5f_10
              case yr5f_10 => (intro w hSw; (try dsimp only at hSw); go_simp; (try with_reducible rfl))
              simp only [Act.put, List.setIfInBounds_toArray, List.set_cons_zero, List.set_cons_succ]
              refine take_first 10 93 (v := ?vr5f_11) rfl rfl (by kernel_rfl) (by kernel_rfl) (by kernel_rfl) (fun _ _ _ h => h) (by rfl) ?yr5f_11 (by assumption) ?rr5f_11
              case yr5f_11 => (intro w hSw; (try dsimp only at hSw); go_simp; (try with_reducible rfl))
              simp only [Act.put, List.setIfInBounds_toArray, List.set_cons_zero, List.set_cons_succ]
              refine take_first 11 94 (v := ?vr5f_12) rfl rfl (by kernel_rfl) (by kernel_rfl) (by kernel_rfl) (fun _ _ _ h => h) (by rfl) ?yr5f_12 (by assumption) ?rr5f_12
              case yr5f_12 => (intro w hSw; (try dsimp only at hSw); go_simp; (try with_reducible rfl))
              simp only [Act.put, List.setIfInBounds_toArray, List.set_cons_zero, List.set_cons_succ]
              refine take_first 12 95 (v := ?vr5f_13) rfl rfl (by kernel_rfl) (by kernel_rfl) (by kernel_rfl) (fun _ _ _ h => h) (by rfl) ?yr5f_13 (by assumption) ?rr5f_13
              case yr5f_13 => (intro w hSw; (try dsimp only at hSw); go_simp; (try with_reducible rfl))
              simp only [Act.put, List.setIfInBounds_toArray, List.set_cons_zero, List.set_cons_succ]
              refine wpAnyH_done (by kernel_rfl) ?er5f _
              obtain ⟨k1, ⟨k2, k3⟩, k4⟩ := k0
              clear HH HX HBn
              go_wp2
              go_roundw
              case rel => exact ⟨k + 1, by omega, by go_num, HN.out⟩
              case measure => simp [intOf]; omega
            | true =>
              have HH := Lib.hid (show Held (wr.alloc (.cells #[.int .i64 5, .int .i64 o.who, .int .i64 i, .int .i64 o.code, .int .i64 o.sec, .int .i64 o.fam, .int .i64 o.gen] 27)) w2.heap.size (intsV (insOf ia)) from hh.after _)
              have HX := Lib.hid (show Held (wr.alloc (.cells #[.int .i64 5, .int .i64 o.who, .int .i64 i, .int .i64 o.code, .int .i64 o.sec, .int .i64 o.fam, .int .i64 o.gen] 27)) wr.heap.size [.int .i64 5, .int .i64 o.who, .int .i64 i, .int .i64 o.code, .int .i64 o.sec, .int .i64 o.fam, .int .i64 o.gen] from Held.new wr _ _)
              have HBn := Lib.hid (show Below w2.heap.size w2 (wr.alloc (.cells #[.int .i64 5, .int .i64 o.who, .int .i64 i, .int .i64 o.code, .int .i64 o.sec, .int .i64 o.fam, .int .i64 o.gen] 27)) from hb.alloc hsz _)
              have k0 := And.intro (show (wr.alloc (.cells #[.int .i64 5, .int .i64 o.who, .int .i64 i, .int .i64 o.code, .int .i64 o.sec, .int .i64 o.fam, .int .i64 o.gen] 27)).cell? ⟨b2, off2 + k, none⟩ = some (.bool true) from (HBn.out.cell (p := ⟨b2, off2 + k, none⟩) hB2).trans ((hb.cell (p := ⟨b2, off2 + k, none⟩) hB2).symm.trans r0)) (And.intro (And.intro (HX.out.of 2 _ rfl) (HX.out.of 1 _ rfl)) (HH.out.of i _ (intsV_at (insOf_at ia hi9))))
              have c0 := HX.out.of 0 _ rfl
              have hx := HP.out.in5 HOB.out hlo hkd
              rw [hy', HIT.out.1] at hx
              have hx0 : inOf ia (i : Int) = o.who := of_decide_eq_true hx.symm
              clear hx
              have HN := Lib.hid (show InI w2 os (k + 1) ((wr.setCell ⟨w2.heap.size, i, none⟩ (.int .i64 (-1))).alloc (.cells #[.int .i64 5, .int .i64 o.who, .int .i64 i, .int .i64 o.code, .int .i64 o.sec, .int .i64 o.fam, .int .i64 o.gen] 27)).drew from ⟨_, _, _, (HP.out.yes HO.out HOB.out hlo hy').2, by rw [HP.out.step5 HOB.out hlo hkd (by rw [HIT.out.1]; exact hx0), HIT.out.2, ← intsV_set]; exact (hh.set_ _).after _, (belowNext (hb.setCell (p := ⟨w2.heap.size, i, none⟩) (Nat.le_refl _) _) (belowOne _ _)).drew⟩)
              have z0 := Lib.hid (HH.out.2.1 i)
              clear hh hb hkd hy' r0
              have i10 : (i : Int) < 10 := by omega
              have i00 : (0 : Int) ≤ (i : Int) := by omega
              have f3 : (0 : Int) ≤ (k : Int) := by omega
              have f4 : (k : Int) < (os.length : Int) := by omega
              go_wp2
              refine wp_region_held_drew (S := (fun w' => w'.cell? ⟨b2, off2 + k, none⟩ = some (.bool true) ∧ (w'.cell? ⟨wr.heap.size, 2, none⟩ = some (.int .i64 i) ∧ w'.cell? ⟨wr.heap.size, 1, none⟩ = some (.int .i64 o.who)) ∧ w'.cell? ⟨w2.heap.size, i, none⟩ = some (.int .i64 (inOf ia i)))) (by kernel_rfl) ?hSr5t (fun hHeldr5t => ?str5t)
              case hSr5t => (first | (dsimp only; (exact k0)) | (exact k0))
              refine take_first 0 83 (v := ?vr5t_1) rfl rfl (by kernel_rfl) (by kernel_rfl) (by kernel_rfl) (fun _ _ _ h => h) (by rfl) ?yr5t_1 (by assumption) ?rr5t_1
              case yr5t_1 => (intro w hSw; (try dsimp only at hSw); go_simp; (try with_reducible rfl))
              simp only [Act.put, List.setIfInBounds_toArray, List.set_cons_zero, List.set_cons_succ]
              refine take_first 1 84 (v := ?vr5t_2) rfl rfl (by kernel_rfl) (by kernel_rfl) (by kernel_rfl) (fun _ _ _ h => h) (by rfl) ?yr5t_2 (by assumption) ?rr5t_2
              case yr5t_2 => (intro w hSw; (try dsimp only at hSw); go_simp; (try with_reducible rfl))
              simp only [Act.put, List.setIfInBounds_toArray, List.set_cons_zero, List.set_cons_succ]
              refine take_first 2 85 (v := ?vr5t_3) rfl rfl (by kernel_rfl) (by kernel_rfl) (by kernel_rfl) (fun _ _ _ h => h) (by rfl) ?yr5t_3 (by assumption) ?rr5t_3
              case yr5t_3 => (intro w hSw; (try dsimp only at hSw); go_simp; (try with_reducible rfl))
              simp only [Act.put, List.setIfInBounds_toArray, List.set_cons_zero, List.set_cons_succ]
              refine take_first 3 86 (v := ?vr5t_4) rfl rfl (by kernel_rfl) (by kernel_rfl) (by kernel_rfl) (fun _ _ _ h => h) (by rfl) ?yr5t_4 (by assumption) ?rr5t_4
              case yr5t_4 => (intro w hSw; (try dsimp only at hSw); go_simp; (try with_reducible rfl))
              simp only [Act.put, List.setIfInBounds_toArray, List.set_cons_zero, List.set_cons_succ]
              refine take_first 4 87 (v := ?vr5t_5) rfl rfl (by kernel_rfl) (by kernel_rfl) (by kernel_rfl) (fun _ _ _ h => h) (by rfl) ?yr5t_5 (by assumption) ?rr5t_5
              case yr5t_5 => (intro w hSw; (try dsimp only at hSw); go_simp; (try with_reducible rfl))
              simp only [Act.put, List.setIfInBounds_toArray, List.set_cons_zero, List.set_cons_succ]
              refine take_first 5 88 (v := ?vr5t_6) rfl rfl (by kernel_rfl) (by kernel_rfl) (by kernel_rfl) (fun _ _ _ h => h) (by rfl) ?yr5t_6 (by assumption) ?rr5t_6
              case yr5t_6 => (intro w hSw; (try dsimp only at hSw); go_simp; (try with_reducible rfl))
              simp only [Act.put, List.setIfInBounds_toArray, List.set_cons_zero, List.set_cons_succ]
              refine take_first 6 89 (v := ?vr5t_7) rfl rfl (by kernel_rfl) (by kernel_rfl) (by kernel_rfl) (fun _ _ _ h => h) (by rfl) ?yr5t_7 (by assumption) ?rr5t_7
              case yr5t_7 => (intro w hSw; (try dsimp only at hSw); go_simp; (try with_reducible rfl))
              simp only [Act.put, List.setIfInBounds_toArray, List.set_cons_zero, List.set_cons_succ]
              refine take_first 7 90 (v := ?vr5t_8) rfl rfl (by kernel_rfl) (by kernel_rfl) (by kernel_rfl) (fun _ _ _ h => h) (by rfl) ?yr5t_8 (by assumption) ?rr5t_8
              case yr5t_8 => (intro w hSw; (try dsimp only at hSw); go_simp; (try with_reducible rfl))
              simp only [Act.put, List.setIfInBounds_toArray, List.set_cons_zero, List.set_cons_succ]
              refine take_first 8 91 (v := ?vr5t_9) rfl rfl (by kernel_rfl) (by kernel_rfl) (by kernel_rfl) (fun _ _ _ h => h) (by rfl) ?yr5t_9 (by assumption) ?rr5t_9
              case yr5t_9 => (intro w hSw; (try dsimp only at hSw); go_simp; (try with_reducible rfl))
              simp only [Act.put, List.setIfInBounds_toArray, List.set_cons_zero, List.set_cons_succ]
              refine take_first 9 92 (v := ?vr5t_10) rfl rfl (by kernel_rfl) (by kernel_rfl) (by kernel_rfl) (fun _ _ _ h => h) (by rfl) ?yr5t_10 (by assumption) ?rr5t_10
              case yr5t_10 => (intro w hSw; (try dsimp only at hSw); go_simp; (try with_reducible rfl))
              simp only [Act.put, List.setIfInBounds_toArray, List.set_cons_zero, List.set_cons_succ]
              refine take_first 10 93 (v := ?vr5t_11) rfl rfl (by kernel_rfl) (by kernel_rfl) (by kernel_rfl) (fun _ _ _ h => h) (by rfl) ?yr5t_11 (by assumption) ?rr5t_11
              case yr5t_11 => (intro w hSw; (try dsimp only at hSw); go_simp; (try with_reducible rfl))
              simp only [Act.put, List.setIfInBounds_toArray, List.set_cons_zero, List.set_cons_succ]
              refine take_first 11 94 (v := ?vr5t_12) rfl rfl (by kernel_rfl) (by kernel_rfl) (by kernel_rfl) (fun _ _ _ h => h) (by rfl) ?yr5t_12 (by assumption) ?rr5t_12
              case yr5t_12 => (intro w hSw; (try dsimp only at hSw); go_simp; (try with_reducible rfl))
              simp only [Act.put, List.setIfInBounds_toArray, List.set_cons_zero, List.set_cons_succ]
              refine take_first 12 95 (v := ?vr5t_13) rfl rfl (by kernel_rfl) (by kernel_rfl) (by kernel_rfl) (fun _ _ _ h => h) (by rfl) ?yr5t_13 (by assumption) ?rr5t_13
              case yr5t_13 => (intro w hSw; (try dsimp only at hSw); go_simp; (try with_reducible rfl))
              simp only [Act.put, List.setIfInBounds_toArray, List.set_cons_zero, List.set_cons_succ]
              refine wpAnyH_done (by kernel_rfl) ?er5t _
              have z1 := z0.out
              obtain ⟨k1, ⟨k2, k3⟩, k4⟩ := k0
              clear HH HX HBn
              go_wp2
              go_roundw
              case rel => exact ⟨k + 1, by omega, by go_num, HN.out⟩
              case measure => simp [intOf]; omega
        · have : k = os.length := by omega
          subst this
          have HBe := Lib.hid (HB2.out.trans (hb.mono HB2.out.size))
          clear hh hb hlt hpl hk
          go_wp2_with fail
          refine (jaOk_any _).mono ?_
          rintro e w5 ⟨rfl, hb5⟩
          have HB5 := Lib.hid (belowNext HBe.out hb5)
          clear hb5
          go_wp2
          go_ret
          exact ⟨rfl, HB5.out⟩

end Go.Proofs.Ytlmcpkijcadalaa
