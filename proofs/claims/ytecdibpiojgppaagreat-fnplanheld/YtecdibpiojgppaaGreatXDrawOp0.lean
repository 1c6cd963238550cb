/- Texts that follow each other, merged: DrawOp0, Ops, SGlo4, DrawReg. -/
import Derived.Test.YtecdibpiojgppaaGreatXDrawOp
import Derived.Test.YtecdibpiojgppaaGreatXStoDoI
import Derived.Test.YtecdibpiojgppaaGreatXOwnWr
import Derived.Test.YtecdibpiojgppaaGreatXGlo
import Derived.Test.YtecdibpiojgppaaGreatXOwnIt
import Derived.Test.YtecdibpiojgppaaGreatXIntsOne

/- Something that may be done is drawn. By drawop0gen.py. -/
namespace Go.Proofs.YtecdibpiojgppaaGreat
open Go.RowKit

def OpDrew0 (g : Nat) (P : Int) (w : World) (e : Ending) (w' : World) : Prop := ∃ o : Op, e = .returned (opV o) ∧ opB o = true ∧ Drew g P w w'
theorem opB15 {k n1 n2 : Int} (hk : k = 1 ∨ k = 5) (a : 0 ≤ n1) (b : n1 < 2) (c : 0 ≤ n2) (d : n2 < 3) : opB ⟨k, n1, n2, 0, 0, 0, 0⟩ = true := by
  have h1 : inB n1 0 9 = true := inB_yes a (by omega)
  have h2 : inB n2 0 9 = true := inB_yes c (by omega)
  rcases hk with rfl | rfl <;> simp [opB, opK, h1, h2] <;> decide
theorem opB2 {n0 n1 n2 n3 : Int} (a0 : 0 ≤ n0) (a1 : n0 < 2) (b0 : 0 ≤ n1) (b1 : n1 < 3) (c0 : 0 ≤ n2) (c1 : n2 < 3) (d0 : 0 ≤ n3) (d1 : n3 < 3) : opB ⟨2, n0, n1, n2, n3, 0, 0⟩ = true := by
  have h1 : inB n0 0 9 = true := inB_yes a0 (by omega)
  have h2 : inB n1 0 9 = true := inB_yes b0 (by omega)
  have h3 : inB n2 0 9 = true := inB_yes c0 (by omega)
  have h4 : inB n3 0 99 = true := inB_yes d0 (by omega)
  simp [opB, opK, h1, h2, h3, h4]; decide
theorem opB3 {n0 n1 n2 : Int} (b0 : 0 ≤ n0) (b1 : n0 < 3) (c0 : 0 ≤ n1) (c1 : n1 < 3) (d0 : 0 ≤ n2) (d1 : n2 < 3) : opB ⟨3, 0, 0, n0, n1, n2, 0⟩ = true := by
  have h1 : inB n0 0 9 = true := inB_yes b0 (by omega)
  have h2 : inB n1 0 99 = true := inB_yes c0 (by omega)
  have h3 : inB n2 0 9 = true := inB_yes d0 (by omega)
  simp [opB, opK, h1, h2, h3]; decide
theorem opB4 {n0 n1 : Int} (b0 : 0 ≤ n0) (b1 : n0 < 3) (c0 : 0 ≤ n1) (c1 : n1 < 3) : opB ⟨4, 0, 0, 0, 0, n0, 1 + n1⟩ = true := by
  have h1 : inB n0 0 9 = true := inB_yes b0 (by omega)
  have h2 : inB (1 + n1) 0 99 = true := inB_yes (by omega) (by omega)
  simp [opB, opK, h1, h2]; decide

set_option maxRecDepth 100000 in
set_option maxHeartbeats 4000000 in
theorem l20Op_zero (w : World) (g : Nat) (P : Int) (hr : Rds w g P) (hP : P ≤ 1000000) :
    Calls Tryz.prog 33 #[.pointer (some ⟨g, 0, none⟩), .int .i64 0] w (OpDrew0 g (P + 8) w) := by
  have hgw := hr.lt
  have HR := Lib.hid (hr.alloc (.cells #[.int .i64 0, .int .i64 0, .int .i64 0, .int .i64 0, .int .i64 0, .int .i64 0, .int .i64 0] 25))
  have HH := Lib.hid (Held.new w #[.int .i64 0, .int .i64 0, .int .i64 0, .int .i64 0, .int .i64 0, .int .i64 0, .int .i64 0] 25)
  have HD := Lib.hid (Drew.alloc (show Drew g P w w from ⟨hr, World.grownBy.refl _ _⟩) (.cells #[.int .i64 0, .int .i64 0, .int .i64 0, .int .i64 0, .int .i64 0, .int .i64 0, .int .i64 0] 25))
  clear hr
  go_enter Tryz.func33, Tryz.ntmps33
  go_wp2_with fail
  refine (pick_rds _ _ _ _ HR.out (by omega) (by omega)).mono ?_
  rintro e w1 ⟨m, rfl, m0, m1, hd⟩
  have m2 : m < 5 := m1 (by omega)
  have HH1 := Lib.hid (HH.out.drew hd (by omega))
  have HD1 := Lib.hid (HD.out.trans hd)
  have hz1 : w.heap.size < w1.heap.size := HH1.out.1
  clear hd HH HD HR m1
  have HA := Lib.hid (show OpAt w g (P + 1) w.heap.size w1.heap.size (1 + m) 0 0 0 0 0 0 (w1.alloc (.cells #[.int .i64 (1 + m), .int .i64 0, .int .i64 0, .int .i64 0, .int .i64 0, .int .i64 0, .int .i64 0] 25)) from ⟨HH1.out.after _, Held.new w1 #[.int .i64 (1 + m), .int .i64 0, .int .i64 0, .int .i64 0, .int .i64 0, .int .i64 0, .int .i64 0] 25, HD1.out.alloc _, hgw, Nat.le_refl _, Nat.le_of_lt hz1, by omega⟩)
  clear HH1 HD1
  go_upto_block 0 with fail
  go_cut [] (fun wc => ∃ a0 a1 a2 a3 a4 a5 a6, opB ⟨a0, a1, a2, a3, a4, a5, a6⟩ = true ∧ OpAt w g (P + 5) w.heap.size w1.heap.size a0 a1 a2 a3 a4 a5 a6 wc)
  case first =>
    have m5 : m = 0 ∨ m = 1 ∨ m = 2 ∨ m = 3 ∨ m = 4 := by omega
    clear m0 m2
    rcases m5 with rfl | rfl | rfl | rfl | rfl
    ·
      replace HA := Lib.hid (show OpAt w g (P + 1) w.heap.size w1.heap.size 1 0 0 0 0 0 0 (w1.alloc (.cells #[.int .i64 1, .int .i64 0, .int .i64 0, .int .i64 0, .int .i64 0, .int .i64 0, .int .i64 0] 25)) from HA.out)
      have HA0 := Lib.hid HA.out.drewOne
      have c0 := HA0.out.op.of 0 _ rfl
      go_upto_region 6 with fail
      refine wp_region_held_drew (S := (fun w' => w'.cell? ⟨w1.heap.size, 0, none⟩ = some (.int .i64 1))) (by kernel_rfl) ?hSr1 (fun hHeldr1 => ?str1)
      case hSr1 => (first | (dsimp only; (first | with_reducible exact c3 | with_reducible exact c2 | with_reducible exact c1 | with_reducible exact c0)) | (first | with_reducible exact c3 | with_reducible exact c2 | with_reducible exact c1 | with_reducible exact c0))
      refine take_first 0 21 (v := ?vr1_1) rfl rfl (by kernel_rfl) (by kernel_rfl) (by kernel_rfl) (fun _ _ _ h => h) (by rfl) ?yr1_1 (by assumption) ?rr1_1
      case yr1_1 => (intro w hSw; (try dsimp only at hSw); go_simp; (try with_reducible rfl))
      simp only [Act.put, List.setIfInBounds_toArray, List.set_cons_zero, List.set_cons_succ]
      refine take_first 1 22 (v := ?vr1_2) rfl rfl (by kernel_rfl) (by kernel_rfl) (by kernel_rfl) (fun _ _ _ h => h) (by rfl) ?yr1_2 (by assumption) ?rr1_2
      case yr1_2 => (intro w hSw; (try dsimp only at hSw); go_simp; (try with_reducible rfl))
      simp only [Act.put, List.setIfInBounds_toArray, List.set_cons_zero, List.set_cons_succ]
      refine take_first 2 23 (v := ?vr1_3) rfl rfl (by kernel_rfl) (by kernel_rfl) (by kernel_rfl) (fun _ _ _ h => h) (by rfl) ?yr1_3 (by assumption) ?rr1_3
      case yr1_3 => (intro w hSw; (try dsimp only at hSw); go_simp; (try with_reducible rfl))
      simp only [Act.put, List.setIfInBounds_toArray, List.set_cons_zero, List.set_cons_succ]
      refine take_first 4 25 (v := ?vr1_4) rfl rfl (by kernel_rfl) (by kernel_rfl) (by kernel_rfl) (fun _ _ _ h => h) (by rfl) ?yr1_4 (by assumption) ?rr1_4
      case yr1_4 => (intro w hSw; (try dsimp only at hSw); go_simp; (try with_reducible rfl))
      simp only [Act.put, List.setIfInBounds_toArray, List.set_cons_zero, List.set_cons_succ]
      refine wpAnyH_ready (rs := [3]) (by kernel_rfl) (by simp) ?_
      refine AllReadyH.cons (o := _) rfl (fun Kr1_5 hKr1_5 => ?cr1_5) ?mr1_5
      case mr1_5 => exact AllReadyH.nil
      go_simp
      refine (pick_rds _ _ _ _ HA0.out.rds (by omega) (by omega)).mono ?_; rintro e w2 ⟨n1, rfl, y0, y1, hd1⟩; have N1 := Lib.hid (And.intro y0 (show n1 < 2 from y1 (by omega))); have HA1 := Lib.hid (HA0.out.pick hd1); have c1 := HA1.out.op.of 0 _ rfl; clear hd1 y0 y1
      go_wp2_with fail
      refine hKr1_5.out _ _ ?kr1_5 (fun hHeldr1_5 => ?dr1_5)
      case kr1_5 => (first | (dsimp only; (first | with_reducible exact c3 | with_reducible exact c2 | with_reducible exact c1 | with_reducible exact c0)) | (first | with_reducible exact c3 | with_reducible exact c2 | with_reducible exact c1 | with_reducible exact c0))
      clear hKr1_5 Kr1_5
      refine wpAnyH_ready (rs := [5]) (by kernel_rfl) (by simp) ?_
      refine AllReadyH.cons (o := _) rfl (fun Kr1_6 hKr1_6 => ?cr1_6) ?mr1_6
      case mr1_6 => exact AllReadyH.nil
      go_simp
      refine (pick_rds _ _ _ _ HA1.out.rds (by omega) (by omega)).mono ?_; rintro e w3 ⟨n2, rfl, y0, y1, hd2⟩; have N2 := Lib.hid (And.intro y0 (show n2 < 3 from y1 (by omega))); have HA2 := Lib.hid (HA1.out.pick hd2); have fr := HA2.out.op.2.1; have x0 := HA2.out.op.of 0 _ rfl; have x1 := HA2.out.op.of 1 _ rfl; have x2 := HA2.out.op.of 2 _ rfl; have x3 := HA2.out.op.of 3 _ rfl; have x4 := HA2.out.op.of 4 _ rfl; have x5 := HA2.out.op.of 5 _ rfl; have x6 := HA2.out.op.of 6 _ rfl; have c2 := x0; have HA3 := Lib.hid (HA2.out.put 1 n1 n2 0 0 0 0); have c3 := HA3.out.op.of 0 _ rfl; clear hd2 y0 y1
      go_wp2_with fail
      refine hKr1_6.out _ _ ?kr1_6 (fun hHeldr1_6 => ?dr1_6)
      case kr1_6 => (first | (dsimp only; (first | with_reducible exact c3 | with_reducible exact c2 | with_reducible exact c1 | with_reducible exact c0)) | (first | with_reducible exact c3 | with_reducible exact c2 | with_reducible exact c1 | with_reducible exact c0))
      clear hKr1_6 Kr1_6
      refine take_first 6 27 (v := ?vr1_7) rfl rfl (by kernel_rfl) (by kernel_rfl) (by kernel_rfl) (fun _ _ _ h => h) (by rfl) ?yr1_7 (by assumption) ?rr1_7
      case yr1_7 => (intro w hSw; (try dsimp only at hSw); go_simp; (try with_reducible rfl))
      simp only [Act.put, List.setIfInBounds_toArray, List.set_cons_zero, List.set_cons_succ]
      refine wpAnyH_ready (rs := [7]) (by kernel_rfl) (by simp) ?_
      refine AllReadyH.cons (o := _) rfl (fun Kr1_8 hKr1_8 => ?cr1_8) ?mr1_8
      case mr1_8 => exact AllReadyH.nil
      go_simp
      skip
      go_wp2_with fail
      refine hKr1_8.out _ _ ?kr1_8 (fun hHeldr1_8 => ?dr1_8)
      case kr1_8 => (first | (dsimp only; (first | with_reducible exact c3 | with_reducible exact c2 | with_reducible exact c1 | with_reducible exact c0)) | (first | with_reducible exact c3 | with_reducible exact c2 | with_reducible exact c1 | with_reducible exact c0))
      clear hKr1_8 Kr1_8
      refine wpAnyH_done (by kernel_rfl) ?er1 _
      go_wp2_with fail
      go_meet
      case rel => exact ⟨_, _, _, _, _, _, _, opB15 (by omega) N1.out.1 N1.out.2 N2.out.1 N2.out.2, HA3.out.more (by omega)⟩
    ·
      go_wp2_with fail
      refine (pick_rds _ _ _ _ HA.out.rds (by omega) (by omega)).mono ?_
      rintro e w2 ⟨n0, rfl, y0, y1, hd⟩
      replace HA := Lib.hid (HA.out.pick hd)
      have N0 := Lib.hid (And.intro y0 (show n0 < 2 from y1 (by omega)))
      clear hd y0 y1
      go_wp2_with fail
      refine (pick_rds _ _ _ _ HA.out.rds (by omega) (by omega)).mono ?_
      rintro e w3 ⟨n1, rfl, y0, y1, hd⟩
      replace HA := Lib.hid (HA.out.pick hd)
      have N1 := Lib.hid (And.intro y0 (show n1 < 3 from y1 (by omega)))
      clear hd y0 y1
      go_wp2_with fail
      refine (pick_rds _ _ _ _ HA.out.rds (by omega) (by omega)).mono ?_
      rintro e w4 ⟨n2, rfl, y0, y1, hd⟩
      replace HA := Lib.hid (HA.out.pick hd)
      have N2 := Lib.hid (And.intro y0 (show n2 < 3 from y1 (by omega)))
      clear hd y0 y1
      go_wp2_with fail
      refine (pick_rds _ _ _ _ HA.out.rds (by omega) (by omega)).mono ?_
      rintro e w5 ⟨n3, rfl, y0, y1, hd⟩
      replace HA := Lib.hid (HA.out.pick hd)
      have N3 := Lib.hid (And.intro y0 (show n3 < 3 from y1 (by omega)))
      clear hd y0 y1
      have x0 := HA.out.op.of 0 _ rfl
      have x1 := HA.out.op.of 1 _ rfl
      have x2 := HA.out.op.of 2 _ rfl
      have x3 := HA.out.op.of 3 _ rfl
      have x4 := HA.out.op.of 4 _ rfl
      have x5 := HA.out.op.of 5 _ rfl
      have x6 := HA.out.op.of 6 _ rfl
      have fr := HA.out.op.2.1
      go_wp2_with fail
      go_meet
      case rel => exact ⟨_, _, _, _, _, _, _, opB2 N0.out.1 N0.out.2 N1.out.1 N1.out.2 N2.out.1 N2.out.2 N3.out.1 N3.out.2, (HA.out.put (2) (n0) (n1) (n2) (n3) (0) (0)).more (by omega)⟩
    ·
      go_wp2_with fail
      refine (pick_rds _ _ _ _ HA.out.rds (by omega) (by omega)).mono ?_
      rintro e w2 ⟨n0, rfl, y0, y1, hd⟩
      replace HA := Lib.hid (HA.out.pick hd)
      have N0 := Lib.hid (And.intro y0 (show n0 < 3 from y1 (by omega)))
      clear hd y0 y1
      go_wp2_with fail
      refine (pick_rds _ _ _ _ HA.out.rds (by omega) (by omega)).mono ?_
      rintro e w3 ⟨n1, rfl, y0, y1, hd⟩
      replace HA := Lib.hid (HA.out.pick hd)
      have N1 := Lib.hid (And.intro y0 (show n1 < 3 from y1 (by omega)))
      clear hd y0 y1
      go_wp2_with fail
      refine (pick_rds _ _ _ _ HA.out.rds (by omega) (by omega)).mono ?_
      rintro e w4 ⟨n2, rfl, y0, y1, hd⟩
      replace HA := Lib.hid (HA.out.pick hd)
      have N2 := Lib.hid (And.intro y0 (show n2 < 3 from y1 (by omega)))
      clear hd y0 y1
      have x0 := HA.out.op.of 0 _ rfl
      have x1 := HA.out.op.of 1 _ rfl
      have x2 := HA.out.op.of 2 _ rfl
      have x3 := HA.out.op.of 3 _ rfl
      have x4 := HA.out.op.of 4 _ rfl
      have x5 := HA.out.op.of 5 _ rfl
      have x6 := HA.out.op.of 6 _ rfl
      have fr := HA.out.op.2.1
      go_wp2_with fail
      go_meet
      case rel => exact ⟨_, _, _, _, _, _, _, opB3 N0.out.1 N0.out.2 N1.out.1 N1.out.2 N2.out.1 N2.out.2, (HA.out.put (3) (0) (0) (n0) (n1) (n2) (0)).more (by omega)⟩
    ·
      go_wp2_with fail
      refine (pick_rds _ _ _ _ HA.out.rds (by omega) (by omega)).mono ?_
      rintro e w2 ⟨n0, rfl, y0, y1, hd⟩
      replace HA := Lib.hid (HA.out.pick hd)
      have N0 := Lib.hid (And.intro y0 (show n0 < 3 from y1 (by omega)))
      clear hd y0 y1
      go_wp2_with fail
      refine (pick_rds _ _ _ _ HA.out.rds (by omega) (by omega)).mono ?_
      rintro e w3 ⟨n1, rfl, y0, y1, hd⟩
      replace HA := Lib.hid (HA.out.pick hd)
      have N1 := Lib.hid (And.intro y0 (show n1 < 3 from y1 (by omega)))
      clear hd y0 y1
      have y0 := N1.out.1
      have y2 := N1.out.2
      have x0 := HA.out.op.of 0 _ rfl
      have x1 := HA.out.op.of 1 _ rfl
      have x2 := HA.out.op.of 2 _ rfl
      have x3 := HA.out.op.of 3 _ rfl
      have x4 := HA.out.op.of 4 _ rfl
      have x5 := HA.out.op.of 5 _ rfl
      have x6 := HA.out.op.of 6 _ rfl
      have fr := HA.out.op.2.1
      go_wp2_with fail
      go_meet
      case rel => exact ⟨_, _, _, _, _, _, _, opB4 N0.out.1 N0.out.2 N1.out.1 N1.out.2, (HA.out.put (4) (0) (0) (0) (0) (n0) (1 + n1)).more (by omega)⟩
    ·
      replace HA := Lib.hid (show OpAt w g (P + 1) w.heap.size w1.heap.size 5 0 0 0 0 0 0 (w1.alloc (.cells #[.int .i64 5, .int .i64 0, .int .i64 0, .int .i64 0, .int .i64 0, .int .i64 0, .int .i64 0] 25)) from HA.out)
      have HA0 := Lib.hid HA.out.drewOne
      have c0 := HA0.out.op.of 0 _ rfl
      go_upto_region 6 with fail
      refine wp_region_held_drew (S := (fun w' => w'.cell? ⟨w1.heap.size, 0, none⟩ = some (.int .i64 5))) (by kernel_rfl) ?hSr5 (fun hHeldr5 => ?str5)
      case hSr5 => (first | (dsimp only; (first | with_reducible exact c3 | with_reducible exact c2 | with_reducible exact c1 | with_reducible exact c0)) | (first | with_reducible exact c3 | with_reducible exact c2 | with_reducible exact c1 | with_reducible exact c0))
      refine take_first 0 21 (v := ?vr5_1) rfl rfl (by kernel_rfl) (by kernel_rfl) (by kernel_rfl) (fun _ _ _ h => h) (by rfl) ?yr5_1 (by assumption) ?rr5_1
      case yr5_1 => (intro w hSw; (try dsimp only at hSw); go_simp; (try with_reducible rfl))
      simp only [Act.put, List.setIfInBounds_toArray, List.set_cons_zero, List.set_cons_succ]
      refine take_first 1 22 (v := ?vr5_2) rfl rfl (by kernel_rfl) (by kernel_rfl) (by kernel_rfl) (fun _ _ _ h => h) (by rfl) ?yr5_2 (by assumption) ?rr5_2
      case yr5_2 => (intro w hSw; (try dsimp only at hSw); go_simp; (try with_reducible rfl))
      simp only [Act.put, List.setIfInBounds_toArray, List.set_cons_zero, List.set_cons_succ]
      refine take_first 2 23 (v := ?vr5_3) rfl rfl (by kernel_rfl) (by kernel_rfl) (by kernel_rfl) (fun _ _ _ h => h) (by rfl) ?yr5_3 (by assumption) ?rr5_3
      case yr5_3 => (intro w hSw; (try dsimp only at hSw); go_simp; (try with_reducible rfl))
      simp only [Act.put, List.setIfInBounds_toArray, List.set_cons_zero, List.set_cons_succ]
      refine take_first 4 25 (v := ?vr5_4) rfl rfl (by kernel_rfl) (by kernel_rfl) (by kernel_rfl) (fun _ _ _ h => h) (by rfl) ?yr5_4 (by assumption) ?rr5_4
      case yr5_4 => (intro w hSw; (try dsimp only at hSw); go_simp; (try with_reducible rfl))
      simp only [Act.put, List.setIfInBounds_toArray, List.set_cons_zero, List.set_cons_succ]
      refine wpAnyH_ready (rs := [3]) (by kernel_rfl) (by simp) ?_
      refine AllReadyH.cons (o := _) rfl (fun Kr5_5 hKr5_5 => ?cr5_5) ?mr5_5
      case mr5_5 => exact AllReadyH.nil
      go_simp
      refine (pick_rds _ _ _ _ HA0.out.rds (by omega) (by omega)).mono ?_; rintro e w2 ⟨n1, rfl, y0, y1, hd1⟩; have N1 := Lib.hid (And.intro y0 (show n1 < 2 from y1 (by omega))); have HA1 := Lib.hid (HA0.out.pick hd1); have c1 := HA1.out.op.of 0 _ rfl; clear hd1 y0 y1
      go_wp2_with fail
      refine hKr5_5.out _ _ ?kr5_5 (fun hHeldr5_5 => ?dr5_5)
      case kr5_5 => (first | (dsimp only; (first | with_reducible exact c3 | with_reducible exact c2 | with_reducible exact c1 | with_reducible exact c0)) | (first | with_reducible exact c3 | with_reducible exact c2 | with_reducible exact c1 | with_reducible exact c0))
      clear hKr5_5 Kr5_5
      refine wpAnyH_ready (rs := [5]) (by kernel_rfl) (by simp) ?_
      refine AllReadyH.cons (o := _) rfl (fun Kr5_6 hKr5_6 => ?cr5_6) ?mr5_6
      case mr5_6 => exact AllReadyH.nil
      go_simp
      refine (pick_rds _ _ _ _ HA1.out.rds (by omega) (by omega)).mono ?_; rintro e w3 ⟨n2, rfl, y0, y1, hd2⟩; have N2 := Lib.hid (And.intro y0 (show n2 < 3 from y1 (by omega))); have HA2 := Lib.hid (HA1.out.pick hd2); have fr := HA2.out.op.2.1; have x0 := HA2.out.op.of 0 _ rfl; have x1 := HA2.out.op.of 1 _ rfl; have x2 := HA2.out.op.of 2 _ rfl; have x3 := HA2.out.op.of 3 _ rfl; have x4 := HA2.out.op.of 4 _ rfl; have x5 := HA2.out.op.of 5 _ rfl; have x6 := HA2.out.op.of 6 _ rfl; have c2 := x0; have HA3 := Lib.hid (HA2.out.put 5 n1 n2 0 0 0 0); have c3 := HA3.out.op.of 0 _ rfl; clear hd2 y0 y1
      go_wp2_with fail
      refine hKr5_6.out _ _ ?kr5_6 (fun hHeldr5_6 => ?dr5_6)
      case kr5_6 => (first | (dsimp only; (first | with_reducible exact c3 | with_reducible exact c2 | with_reducible exact c1 | with_reducible exact c0)) | (first | with_reducible exact c3 | with_reducible exact c2 | with_reducible exact c1 | with_reducible exact c0))
      clear hKr5_6 Kr5_6
      refine take_first 6 27 (v := ?vr5_7) rfl rfl (by kernel_rfl) (by kernel_rfl) (by kernel_rfl) (fun _ _ _ h => h) (by rfl) ?yr5_7 (by assumption) ?rr5_7
      case yr5_7 => (intro w hSw; (try dsimp only at hSw); go_simp; (try with_reducible rfl))
      simp only [Act.put, List.setIfInBounds_toArray, List.set_cons_zero, List.set_cons_succ]
      refine wpAnyH_ready (rs := [7]) (by kernel_rfl) (by simp) ?_
      refine AllReadyH.cons (o := _) rfl (fun Kr5_8 hKr5_8 => ?cr5_8) ?mr5_8
      case mr5_8 => exact AllReadyH.nil
      go_simp
      skip
      go_wp2_with fail
      refine hKr5_8.out _ _ ?kr5_8 (fun hHeldr5_8 => ?dr5_8)
      case kr5_8 => (first | (dsimp only; (first | with_reducible exact c3 | with_reducible exact c2 | with_reducible exact c1 | with_reducible exact c0)) | (first | with_reducible exact c3 | with_reducible exact c2 | with_reducible exact c1 | with_reducible exact c0))
      clear hKr5_8 Kr5_8
      refine wpAnyH_done (by kernel_rfl) ?er5 _
      go_wp2_with fail
      go_meet
      case rel => exact ⟨_, _, _, _, _, _, _, opB15 (by omega) N1.out.1 N1.out.2 N2.out.1 N2.out.2, HA3.out.more (by omega)⟩
  case rest =>
    obtain ⟨a0, a1, a2, a3, a4, a5, a6, hG, hA⟩ := hcut
    have HB := Lib.hid hA
    have HG := Lib.hid hG
    clear hA hG HA m0 m2
    go_wp2_with fail
    refine (odd_any _ _ _ _ HB.out.rds (by omega) (by omega)).mono ?_
    rintro e w2 ⟨b, rfl, hbn, hd⟩
    have hbf : b = false := hbn (by omega)
    subst hbf
    replace HB := Lib.hid (HB.out.pick hd)
    clear hd hbn
    have x0 := HB.out.op.of 0 _ rfl
    have x1 := HB.out.op.of 1 _ rfl
    have x2 := HB.out.op.of 2 _ rfl
    have x3 := HB.out.op.of 3 _ rfl
    have x4 := HB.out.op.of 4 _ rfl
    have x5 := HB.out.op.of 5 _ rfl
    have x6 := HB.out.op.of 6 _ rfl
    have r0 := HB.out.res.of 0 _ rfl
    have r1 := HB.out.res.of 1 _ rfl
    have r2 := HB.out.res.of 2 _ rfl
    have r3 := HB.out.res.of 3 _ rfl
    have r4 := HB.out.res.of 4 _ rfl
    have r5 := HB.out.res.of 5 _ rfl
    have r6 := HB.out.res.of 6 _ rfl
    have gr := HB.out.res.2.1
    go_wp2_with fail
    clear x0 x1 x2 x3 x4 x5 x6 r0 r1 r2 r3 r4 r5 r6 gr
    have HQ := HB.out.res.put7 (.int .i64 a0) (.int .i64 a1) (.int .i64 a2) (.int .i64 a3) (.int .i64 a4) (.int .i64 a5) (.int .i64 a6)
    have q0 := HQ.of 0 _ rfl
    have q1 := HQ.of 1 _ rfl
    have q2 := HQ.of 2 _ rfl
    have q3 := HQ.of 3 _ rfl
    have q4 := HQ.of 4 _ rfl
    have q5 := HQ.of 5 _ rfl
    have q6 := HQ.of 6 _ rfl
    refine bodyPost_ret (v := .agg #[.int .i64 a0, .int .i64 a1, .int .i64 a2, .int .i64 a3, .int .i64 a4, .int .i64 a5, .int .i64 a6]) (by simp only [results, Tryz.results33, go_sem]; simp [go_sem, q0, q1, q2, q3, q4, q5, q6]) rfl ⟨⟨a0, a1, a2, a3, a4, a5, a6⟩, rfl, HG.out, ?_⟩
    exact (HB.out.more (P' := P + 8) (by omega)).drew.put7 w.heap.size (Nat.le_refl _) hgw _ _ _ _ _ _ _

end Go.Proofs.YtecdibpiojgppaaGreat

/- What is done, in rows; a play of it is drawn. -/
namespace Go.Proofs.YtecdibpiojgppaaGreat
open Go.RowKit

/-- Something that is done: seven numbers. -/
def opSh : Sh Op where
  wd := 7
  zc := [.int .i64 0, .int .i64 0, .int .i64 0, .int .i64 0, .int .i64 0, .int .i64 0, .int .i64 0]
  z := ⟨0, 0, 0, 0, 0, 0, 0⟩
  base := 7
  rel _ _ cs o := cs = [.int .i64 o.kind, .int .i64 o.who, .int .i64 o.inn, .int .i64 o.code, .int .i64 o.sec, .int .i64 o.fam, .int .i64 o.gen]
  own _ _ cs o := cs = [.int .i64 o.kind, .int .i64 o.who, .int .i64 o.inn, .int .i64 o.code, .int .i64 o.sec, .int .i64 o.fam, .int .i64 o.gen]
  wt _ := 0
  cnt _ := 7
  mkd k o := o = ⟨k, k + 1, k + 2, k + 3, k + 4, k + 5, k + 6⟩
  zlen := rfl
  rlen h := by rw [h]; rfl
  rone h := by rw [h]; intro u hu; simp at hu; rcases hu with rfl | rfl | rfl | rfl | rfl | rfl | rfl <;> rfl
  rkeep h _ := h
  rmore h _ := h
  omono h _ := h
  okeep h _ := h
  orel h := h
  ozero _ _ := rfl
  ocap h := h
  cntLe _ := by omega
section
variable {w : World} {B : Nat} {v : Value}
end
/-- A play: things that may be done, at most 25. -/
def PlayDrew (w : World) (e : Ending) (w' : World) : Prop :=
  ∃ u os, e = .returned u ∧ os.length ≤ 25 ∧ (∀ o ∈ os, opB o = true) ∧ opSh.Row w' w'.heap.size u os ∧ Below w.heap.size w w'
/-- While a play is drawn. -/
def PlayI (w w1 : World) (P : Int) (j : Nat) (a : Value) (W : World) : Prop :=
  ∃ os : List Op, os.length + j ≤ 25 ∧ (∀ o ∈ os, opB o = true) ∧ opSh.Own 25 W (fun b => w1.heap.size ≤ b) a os ∧ Drew w.heap.size P w1 W

end Go.Proofs.YtecdibpiojgppaaGreat

/- What three places keep is drawn. -/
namespace Go.Proofs.YtecdibpiojgppaaGreat
open Go.RowKit

/-- Three places that keep what they may, and not more than so much each. -/
def GloN (xs : List Sto) (n : Nat) : Prop := gloB xs = true ∧ ∀ x ∈ xs, x.items.length ≤ n
theorem gloN_new : GloN newG 0 := ⟨by decide, by decide⟩
theorem GloN.more {xs : List Sto} {n m : Nat} (h : GloN xs n) (hm : n ≤ m) : GloN xs m := ⟨h.1, fun x hx => Nat.le_trans (h.2 x hx) hm⟩
theorem GloN.three {xs : List Sto} {n : Nat} (h : GloN xs n) : ∃ a b c : List Item, xs = [⟨a⟩, ⟨b⟩, ⟨c⟩] ∧ a.length ≤ n ∧ b.length ≤ n ∧ c.length ≤ n := by
  have hl := gloB_three h.1
  match xs, hl with
  | [x, y, z], _ => exact ⟨x.items, y.items, z.items, rfl, h.2 x (by simp), h.2 y (by simp), h.2 z (by simp)⟩
theorem gloN_step {xs : List Sto} {n : Nat} {tx : Int} {o : Op} (h : GloN xs n) (hn : n ≤ 38) (ho : opB o = true) (ht : inB tx 0 29 = true) (hd : (gloDo xs tx o).2 = true) : GloN (gloDo xs tx o).1 (n + 1) := by
  obtain ⟨a, b, c, rfl, h1, h2, h3⟩ := h.three
  have hd' := gloDo_three h.1 ho ht
  rw [hd'] at hd ⊢
  simp only at hd
  rw [if_pos hd]
  obtain ⟨s1, s2, s3, s4⟩ := glo_step h.1 ho ht h1 h2 h3 hn
  exact ⟨s1, fun x hx => by simp at hx; rcases hx with rfl | rfl | rfl <;> assumption⟩

theorem itemsLoose {w : World} {S : Nat → Prop} {v : Value} {its : List Item} (h : itSh.Own 95 w S v its) : ItemsIn w S v its := by
  rcases h.form with ⟨rfl, rfl⟩ | ⟨g, cap, rfl, hS, hg, hc1, hc2⟩
  · exact ItemsIn.nil w S
  · refine ⟨_, cap, rfl, hc1, hc2, fun hn => ⟨g, 0, rfl, hg, hS, fun j it hit => ?_⟩⟩
    have hj : j < its.length := (List.getElem?_eq_some_iff.1 hit).1
    obtain ⟨g', cap', x, cs, Sj, e1, hx, -, -, ho, hSj, hc, -⟩ := h.at_ hj
    injection e1 with e1 _ _
    injection e1 with e1
    injection e1 with e1 _ _
    subst e1
    rw [hit] at hx
    injection hx with hx
    subst hx
    obtain ⟨u, rfl, hs, hu⟩ := it_own.1 ho
    have hwd : itSh.wd = 2 := rfl
    rw [hwd] at hc
    refine ⟨hs, by simpa using hc 0 _ rfl, u, by simpa using hc 1 _ rfl, ?_⟩
    have h2 := hu.cap
    rcases h2.form with ⟨rfl, h0⟩ | ⟨b, cb, rfl, hSb, hb, hd1, hd2⟩
    · exact ⟨none, 0, by rw [h0]; rfl, by rw [h0]; exact Nat.zero_le _, Nat.zero_le _, fun hp => absurd hp (by rw [h0]; simp)⟩
    · refine ⟨_, cb, rfl, hd1, hd2, fun _ => ⟨b, 0, rfl, hb, (hSj b hSb.1).1, fun i hi => ?_⟩⟩
      obtain ⟨g2, c2, y, cs2, S2, e2, hy, -, -, ho2, -, hc2, -⟩ := h2.at_ hi
      injection e2 with e2 _ _
      injection e2 with e2
      injection e2 with e2 _ _
      subst e2
      have ho2' : cs2 = [.int .i64 y] := ho2
      subst ho2'
      have h3 := hc2 0 _ rfl
      rw [List.getElem?_eq_getElem hi] at hy
      rw [nth_get hi, Option.some.inj hy]
      simpa [Sh.int] using h3
/-- What is owned is kept loosely, too. -/
theorem stosLoose {w : World} {S : Nat → Prop} {v : Value} {xs : List Sto} (h : stoSh.Own 35 w S v xs) : lstoSh.Own 35 w S v xs := by
  obtain ⟨C, F, h1, h2, h3, h4⟩ := h
  refine ⟨C, F, h1, h2, fun j x hx => ?_, h4⟩
  obtain ⟨a, b⟩ := h3 j x hx
  obtain ⟨u, hu, ho⟩ := sto_own.1 a
  exact ⟨lsto_own.2 ⟨u, hu, itemsLoose ho⟩, b⟩
/-- What is drawn of three places. -/
def DrewGlo (g : Nat) (P : Int) (w : World) (e : Ending) (w' : World) : Prop :=
  ∃ u xs, e = .returned u ∧ GloN xs 13 ∧ lstoSh.Own 35 w' (fun b => w.heap.size ≤ b ∧ b < w'.heap.size) u xs ∧ Drew g P w w'
theorem ownDrew {α : Type} {A : Sh α} {e : TypeId} {w w' : World} {S : Nat → Prop} {v : Value} {xs : List α} {g : Nat} {P : Int} (h : A.Own e w S v xs) (hd : Drew g P w w') (hg : ¬ S g) : A.Own e w' S v xs :=
  h.keep fun b hb hlt => hd.2.block b hlt fun e => hg (by rw [← Option.some.inj e]; exact hb)

set_option maxRecDepth 100000 in
set_option maxHeartbeats 4000000 in
theorem l20Glo_any (w : World) (g : Nat) (P : Int) (hr : Rds w g P) (hP0 : 0 ≤ P) (hP : P ≤ 500000) :
    Calls Tryz.prog 29 #[.pointer (some ⟨g, 0, none⟩)] w (DrewGlo g (P + 105) w) := by
  have hgw := hr.lt
  have HR := Lib.hid hr
  clear hr
  go_enter Tryz.func29, Tryz.ntmps29
  go_wp2_with fail
  refine (specGloNew_any _).mono ?_
  rintro e w1 ⟨u, rfl, hu, hb1⟩
  have hL : lstoSh.Own 35 w1 (fun b => w.heap.size ≤ b ∧ b < w1.heap.size) u newG := stosLoose hu
  have HD := Lib.hid (show Drew g P w w1 from (show Drew g P w w from ⟨HR.out, World.grownBy.refl _ _⟩).then_ hb1)
  have HL := Lib.hid hL
  clear hu hb1 hL
  obtain ⟨Au, cu, hf, -, -⟩ := HL.out.row.form
  subst hf
  go_wp2_with fail
  refine (pick_rds _ g P _ HD.out.1 (by omega) (by omega)).mono ?_
  rintro e w2 ⟨m, rfl, m0, m1, hd⟩
  have m2 : m < 14 := m1 (by omega)
  have HI := Lib.hid (show lstoSh.Own 35 w2 (fun b => w.heap.size ≤ b ∧ b < w2.heap.size) (.slice Au newG.length cu) newG ∧ Drew g (P + 1) w w2 from ⟨(ownDrew HL.out hd (fun h => by have := h.1; omega)).mono fun b hb => ⟨hb.1, Nat.lt_of_lt_of_le hb.2 hd.2.size⟩, HD.out.trans hd⟩)
  clear HL HD hd m1
  go_wp2
  go_loopw [3, 4] (fun l i wr => ∃ (k : Int) (xs : List Sto) (n : Nat), 0 ≤ k ∧ k ≤ 13 ∧ k + n ≤ 13 ∧ i = .int .i64 k ∧ GloN xs n ∧ lstoSh.Own 35 wr (fun b => w.heap.size ≤ b ∧ b < wr.heap.size) l xs ∧ Drew g (P + 1 + 8 * (13 - k)) w wr) (fun _ i _ => (intOf i).toNat)
  case atStart => exact ⟨m, newG, 0, m0, by omega, by omega, rfl, gloN_new, HI.out.1, HI.out.2.1.more (by omega), HI.out.2.2⟩
  case round =>
    clear HI
    obtain ⟨k, xs, n, hk0, hk13, hkn, rfl, hN, hL, hD⟩ := hrel
    obtain ⟨Al, cl, hf, -, -⟩ := hL.row.form
    subst hf
    have HN := Lib.hid hN
    have HL := Lib.hid hL
    have HD := Lib.hid hD
    clear hN hL hD
    by_cases hk : 0 < k
    · go_wp2_with fail
      refine (l20Op_zero _ g _ HD.out.1 (by omega)).mono ?_
      rintro e w3 ⟨o, rfl, ho, hd⟩
      have HO := Lib.hid ho
      have HL3 := Lib.hid ((ownDrew HL.out hd (fun h => by have := h.1; omega)).mono (S' := fun b => w.heap.size ≤ b ∧ b < w3.heap.size) fun b hb => ⟨hb.1, Nat.lt_of_lt_of_le hb.2 hd.2.size⟩)
      have HD3 := Lib.hid (HD.out.trans hd)
      clear ho hd HL HD
      unfold opV
      go_wp2_with fail
      refine (specGloDo_any _ _ xs HL3.out.row k o).mono ?_
      rintro e w4 ⟨u4, rfl, hu4, hb⟩
      have hz := hb.size
      have hz3 := HD3.out.2.size
      have HD4 := Lib.hid (HD3.out.then_ hb)
      have HL4 := Lib.hid ((HL3.out.below hb).mono (S' := fun b => w.heap.size ≤ b ∧ b < w4.heap.size) fun b hb => ⟨hb.1, by omega⟩)
      have HU4 := Lib.hid (hu4.mono (S' := fun b => w.heap.size ≤ b ∧ b < w4.heap.size) fun b hb => ⟨by omega, hb.2⟩)
      obtain ⟨A4, c4, hf4, -, -⟩ := hu4.row.form
      subst hf4
      clear hu4 hb HL3 HD3
      cases hd : (gloDo xs k o).2 with
      | true =>
        have HN4 := Lib.hid (gloN_step HN.out (by omega) HO.out (inB_yes (by omega) (by omega)) hd)
        clear hd
        go_wp2
        go_roundw
        case rel => exact ⟨k - 1, _, n + 1, by omega, by omega, by omega, rfl, HN4.out, HU4.out, HD4.out.1.more (by omega), HD4.out.2⟩
        case measure => simp [intOf]; omega
      | false =>
        clear hd
        go_wp2
        go_roundw
        case rel => exact ⟨k - 1, _, n, by omega, by omega, by omega, rfl, HN.out, HL4.out, HD4.out.1.more (by omega), HD4.out.2⟩
        case measure => simp [intOf]; omega
    · go_wp2
      go_ret
      exact ⟨_, xs, rfl, HN.out.more (by omega), HL.out, HD.out.1.more (by omega), HD.out.2⟩

end Go.Proofs.YtecdibpiojgppaaGreat

/- Words for regions that draw: what a slot may hold while numbers are drawn. -/
namespace Go.Proofs.YtecdibpiojgppaaGreat
open Go.RowKit

/-- A row of so many numbers in bounds, not the reader's block. -/
def rowIn (w : World) (g n : Nat) (lo hi : Int) (u : Value) : Prop := ∃ B, u = .slice (some ⟨B, 0, none⟩) n n ∧ B ≠ g ∧ B < w.heap.size ∧ ∀ j, j < n → ∃ x, w.cell? ⟨B, j, none⟩ = some x ∧ intIn lo hi x
/-- The place of a number in bounds. -/
def atIn (w : World) (g : Nat) (lo hi : Int) (u : Value) : Prop := ∃ B j x, u = .pointer (some ⟨B, j, none⟩) ∧ B ≠ g ∧ B < w.heap.size ∧ w.cell? ⟨B, j, none⟩ = some x ∧ intIn lo hi x
theorem rowIn_stable {w w' : World} {g n : Nat} {lo hi : Int} {u : Value} (h : w.grownBy w' (some g)) : rowIn w g n lo hi u → rowIn w' g n lo hi u := by
  rintro ⟨B, h1, h2, h3, h4⟩
  have hz := h.size
  exact ⟨B, h1, h2, by omega, fun j hj => by rw [World.cell?_of_block (h.block B h3 (fun e => h2 (Option.some.inj e)))]; exact h4 j hj⟩
theorem atIn_stable {w w' : World} {g : Nat} {lo hi : Int} {u : Value} (h : w.grownBy w' (some g)) : atIn w g lo hi u → atIn w' g lo hi u := by
  rintro ⟨B, j, x, h1, h2, h3, h4, h5⟩
  have hz := h.size
  exact ⟨B, j, x, h1, h2, by omega, by rw [World.cell?_of_block (h.block B h3 (fun e => h2 (Option.some.inj e)))]; exact h4, h5⟩
/-- A literal of numbers in bounds is a row. -/
theorem rowIn_lit {w : World} {g : Nat} {lo hi : Int} (l : List Int) (hg : g < w.heap.size) (hl : ∀ x ∈ l, lo ≤ x ∧ x < hi) : rowIn (w.alloc (.cells (l.map (Value.int .i64)).toArray 3)) g l.length lo hi (.slice (some ⟨w.heap.size, 0, none⟩) l.length l.length) := by
  refine ⟨w.heap.size, rfl, by omega, by simp, fun j hj => ⟨.int .i64 l[j], ?_, l[j], rfl, hl _ (List.getElem_mem hj)⟩⟩
  exact (Held.new w (l.map (Value.int .i64)).toArray 3).of j _ (by simp [hj])
theorem put7_far (w : World) (b : Nat) (b0 b1 b2 b3 b4 b5 b6 : Value) {c : Nat} (h : c ≠ b) : (put7 w b b0 b1 b2 b3 b4 b5 b6).heap[c]? = w.heap[c]? := by
  unfold put7
  rw [Below.heap_setCell _ ⟨b, 6, none⟩ _ c h, Below.heap_setCell _ ⟨b, 5, none⟩ _ c h, Below.heap_setCell _ ⟨b, 4, none⟩ _ c h, Below.heap_setCell _ ⟨b, 3, none⟩ _ c h, Below.heap_setCell _ ⟨b, 2, none⟩ _ c h, Below.heap_setCell _ ⟨b, 1, none⟩ _ c h, Below.heap_setCell _ ⟨b, 0, none⟩ _ c h]

end Go.Proofs.YtecdibpiojgppaaGreat
