/- Something that is done is drawn. By drawopgen.py. -/
import Derived.Test.YtecdibpiojgppaaGreatXPlain
import Derived.Test.YtecdibpiojgppaaGreatXIntsOne
import Derived.Test.YtecdibpiojgppaaGreatXPlanSh
import Derived.Test.YtecdibpiojgppaaGreatXWrts
import Derived.Deep.CutBlock
import Derived.Deep.DeepCutAuto
namespace Go.Proofs.YtecdibpiojgppaaGreat
open Go.RowKit

def OpDrew (g : Nat) (P : Int) (w : World) (e : Ending) (w' : World) : Prop := ∃ o : Op, e = .returned (opV o) ∧ Drew g P w w'
/-- What lies in memory ahead of the end: the result's block R, the block O of what is drawn. -/
structure OpAt (w0 : World) (g : Nat) (P : Int) (R O : Nat) (a0 a1 a2 a3 a4 a5 a6 : Int) (w : World) : Prop where
  res : Held w R [.int .i64 0, .int .i64 0, .int .i64 0, .int .i64 0, .int .i64 0, .int .i64 0, .int .i64 0]
  op : Held w O [.int .i64 a0, .int .i64 a1, .int .i64 a2, .int .i64 a3, .int .i64 a4, .int .i64 a5, .int .i64 a6]
  drew : Drew g P w0 w
  gw : g < w0.heap.size
  hR : w0.heap.size ≤ R
  hO : w0.heap.size ≤ O
  ne : R ≠ O
section
variable {w0 w w' : World} {g R O : Nat} {P P' : Int} {a0 a1 a2 a3 a4 a5 a6 : Int}
theorem OpAt.pick (h : OpAt w0 g P R O a0 a1 a2 a3 a4 a5 a6 w) (hd : Drew g P' w w') : OpAt w0 g P' R O a0 a1 a2 a3 a4 a5 a6 w' :=
  ⟨h.res.drew hd (by have := h.gw; have := h.hR; omega), h.op.drew hd (by have := h.gw; have := h.hO; omega), h.drew.trans hd, h.gw, h.hR, h.hO, h.ne⟩
theorem OpAt.made (h : OpAt w0 g P R O a0 a1 a2 a3 a4 a5 a6 w) (x : Obj) : OpAt w0 g P R O a0 a1 a2 a3 a4 a5 a6 (w.alloc x) :=
  ⟨h.res.after x, h.op.after x, h.drew.alloc x, h.gw, h.hR, h.hO, h.ne⟩
theorem OpAt.drewOne (h : OpAt w0 g P R O a0 a1 a2 a3 a4 a5 a6 w) : OpAt w0 g P R O a0 a1 a2 a3 a4 a5 a6 w.drew := ⟨h.res, h.op, h.drew.then_ (Below.refl _ w).drew, h.gw, h.hR, h.hO, h.ne⟩
theorem OpAt.put (h : OpAt w0 g P R O a0 a1 a2 a3 a4 a5 a6 w) (b0 b1 b2 b3 b4 b5 b6 : Int) : OpAt w0 g P R O b0 b1 b2 b3 b4 b5 b6 (put7 w O (.int .i64 b0) (.int .i64 b1) (.int .i64 b2) (.int .i64 b3) (.int .i64 b4) (.int .i64 b5) (.int .i64 b6)) :=
  ⟨h.res.far7 h.ne _ _ _ _ _ _ _, h.op.put7 _ _ _ _ _ _ _, h.drew.put7 O h.hO h.gw _ _ _ _ _ _ _, h.gw, h.hR, h.hO, h.ne⟩
theorem OpAt.more (h : OpAt w0 g P R O a0 a1 a2 a3 a4 a5 a6 w) (hP : P ≤ P') : OpAt w0 g P' R O a0 a1 a2 a3 a4 a5 a6 w := ⟨h.res, h.op, ⟨h.drew.1.more hP, h.drew.2⟩, h.gw, h.hR, h.hO, h.ne⟩
theorem OpAt.set_ (h : OpAt w0 g P R O a0 a1 a2 a3 a4 a5 a6 w) (i : Nat) (z : Int) (hi : i < 7) : ∃ b0 b1 b2 b3 b4 b5 b6, OpAt w0 g P R O b0 b1 b2 b3 b4 b5 b6 (w.setCell ⟨O, i, none⟩ (.int .i64 z)) := by
  have h1 := h.op.set_ (i := i) (.int .i64 z)
  have h2 := h.res.far (p := ⟨O, i, none⟩) h.ne (.int .i64 z)
  have h3 := h.drew.setCell (p := ⟨O, i, none⟩) h.hO h.gw (.int .i64 z)
  have hi' : i = 0 ∨ i = 1 ∨ i = 2 ∨ i = 3 ∨ i = 4 ∨ i = 5 ∨ i = 6 := by omega
  rcases hi' with rfl | rfl | rfl | rfl | rfl | rfl | rfl
  all_goals exact ⟨_, _, _, _, _, _, _, h2, h1, h3, h.gw, h.hR, h.hO, h.ne⟩
theorem OpAt.rds (h : OpAt w0 g P R O a0 a1 a2 a3 a4 a5 a6 w) : Rds w g P := h.drew.1
end

set_option maxRecDepth 100000 in
set_option maxHeartbeats 4000000 in
theorem l20Op_any (w : World) (g : Nat) (P n : Int) (hr : Rds w g P) (hP : P ≤ 1000000) (hn : n ≤ 1000000) :
    Calls Tryz.prog 33 #[.pointer (some ⟨g, 0, none⟩), .int .i64 n] w (OpDrew g (P + 8) w) := by
  have hgw := hr.lt
  have HR := Lib.hid (hr.alloc (.cells #[.int .i64 0, .int .i64 0, .int .i64 0, .int .i64 0, .int .i64 0, .int .i64 0, .int .i64 0] 25))
  have HH := Lib.hid (Held.new w #[.int .i64 0, .int .i64 0, .int .i64 0, .int .i64 0, .int .i64 0, .int .i64 0, .int .i64 0] 25)
  have HD := Lib.hid (Drew.alloc (show Drew g P w w from ⟨hr, World.grownBy.refl _ _⟩) (.cells #[.int .i64 0, .int .i64 0, .int .i64 0, .int .i64 0, .int .i64 0, .int .i64 0, .int .i64 0] 25))
  clear hr
  go_enter Tryz.func33, Tryz.ntmps33
  go_wp2_with fail
  refine (pick_rds _ _ _ _ HR.out (by omega) (by omega)).mono ?_
  rintro e w1 ⟨m, rfl, m0, m1, hd⟩
  have m2 : m < 5 := m1 (by omega)
  have HH1 := Lib.hid (HH.out.drew hd (by omega))
  have HD1 := Lib.hid (HD.out.trans hd)
  have hz1 : w.heap.size < w1.heap.size := HH1.out.1
  clear hd HH HD HR m1
  have HA := Lib.hid (show OpAt w g (P + 1) w.heap.size w1.heap.size (1 + m) 0 0 0 0 0 0 (w1.alloc (.cells #[.int .i64 (1 + m), .int .i64 0, .int .i64 0, .int .i64 0, .int .i64 0, .int .i64 0, .int .i64 0] 25)) from ⟨HH1.out.after _, Held.new w1 #[.int .i64 (1 + m), .int .i64 0, .int .i64 0, .int .i64 0, .int .i64 0, .int .i64 0, .int .i64 0] 25, HD1.out.alloc _, hgw, Nat.le_refl _, Nat.le_of_lt hz1, by omega⟩)
  clear HH1 HD1
  go_upto_block 0 with fail
  go_cut [] (fun wc => ∃ a0 a1 a2 a3 a4 a5 a6, OpAt w g (P + 5) w.heap.size w1.heap.size a0 a1 a2 a3 a4 a5 a6 wc)
  case first =>
    have m5 : m = 0 ∨ m = 1 ∨ m = 2 ∨ m = 3 ∨ m = 4 := by omega
    clear m0 m2
    rcases m5 with rfl | rfl | rfl | rfl | rfl
    ·
      replace HA := Lib.hid (show OpAt w g (P + 1) w.heap.size w1.heap.size 1 0 0 0 0 0 0 (w1.alloc (.cells #[.int .i64 1, .int .i64 0, .int .i64 0, .int .i64 0, .int .i64 0, .int .i64 0, .int .i64 0] 25)) from HA.out)
      have HA0 := Lib.hid HA.out.drewOne
      have c0 := HA0.out.op.of 0 _ rfl
      go_upto_region 6 with fail
      refine wp_region_held_drew (S := (fun w' => w'.cell? ⟨w1.heap.size, 0, none⟩ = some (.int .i64 1))) (by kernel_rfl) ?hSr1 (fun hHeldr1 => ?str1)
      case hSr1 => (first | (dsimp only; (first | with_reducible exact c3 | with_reducible exact c2 | with_reducible exact c1 | with_reducible exact c0)) | (first | with_reducible exact c3 | with_reducible exact c2 | with_reducible exact c1 | with_reducible exact c0))
      refine take_first 0 21 (v := ?vr1_1) rfl rfl (by kernel_rfl) (by kernel_rfl) (by kernel_rfl) (fun _ _ _ h => h) (by rfl) ?yr1_1 (by assumption) ?rr1_1
      case yr1_1 => (intro w hSw; (try dsimp only at hSw); go_simp; (try with_reducible rfl))
      simp only [Act.put, List.setIfInBounds_toArray, List.set_cons_zero, List.set_cons_succ]
      refine take_first 1 22 (v := ?vr1_2) rfl rfl (by kernel_rfl) (by kernel_rfl) (by kernel_rfl) (fun _ _ _ h => h) (by rfl) ?yr1_2 (by assumption) ?rr1_2
      case yr1_2 => (intro w hSw; (try dsimp only at hSw); go_simp; (try with_reducible rfl))
      simp only [Act.put, List.setIfInBounds_toArray, List.set_cons_zero, List.set_cons_succ]
      refine take_first 2 23 (v := ?vr1_3) rfl rfl (by kernel_rfl) (by kernel_rfl) (by kernel_rfl) (fun _ _ _ h => h) (by rfl) ?yr1_3 (by assumption) ?rr1_3
      case yr1_3 => (intro w hSw; (try dsimp only at hSw); go_simp; (try with_reducible rfl))
      simp only [Act.put, List.setIfInBounds_toArray, List.set_cons_zero, List.set_cons_succ]
      refine take_first 4 25 (v := ?vr1_4) rfl rfl (by kernel_rfl) (by kernel_rfl) (by kernel_rfl) (fun _ _ _ h => h) (by rfl) ?yr1_4 (by assumption) ?rr1_4
      case yr1_4 => (intro w hSw; (try dsimp only at hSw); go_simp; (try with_reducible rfl))
      simp only [Act.put, List.setIfInBounds_toArray, List.set_cons_zero, List.set_cons_succ]
      refine wpAnyH_ready (rs := [3]) (by kernel_rfl) (by simp) ?_
      refine AllReadyH.cons (o := _) rfl (fun Kr1_5 hKr1_5 => ?cr1_5) ?mr1_5
      case mr1_5 => exact AllReadyH.nil
      go_simp
      refine (pick_rds _ _ _ _ HA0.out.rds (by omega) (by omega)).mono ?_; rintro e w2 ⟨n1, rfl, -, -, hd1⟩; have HA1 := Lib.hid (HA0.out.pick hd1); have c1 := HA1.out.op.of 0 _ rfl; clear hd1
      go_wp2_with fail
      refine hKr1_5.out _ _ ?kr1_5 (fun hHeldr1_5 => ?dr1_5)
      case kr1_5 => (first | (dsimp only; (first | with_reducible exact c3 | with_reducible exact c2 | with_reducible exact c1 | with_reducible exact c0)) | (first | with_reducible exact c3 | with_reducible exact c2 | with_reducible exact c1 | with_reducible exact c0))
      clear hKr1_5 Kr1_5
      refine wpAnyH_ready (rs := [5]) (by kernel_rfl) (by simp) ?_
      refine AllReadyH.cons (o := _) rfl (fun Kr1_6 hKr1_6 => ?cr1_6) ?mr1_6
      case mr1_6 => exact AllReadyH.nil
      go_simp
      refine (pick_rds _ _ _ _ HA1.out.rds (by omega) (by omega)).mono ?_; rintro e w3 ⟨n2, rfl, -, -, hd2⟩; have HA2 := Lib.hid (HA1.out.pick hd2); have fr := HA2.out.op.2.1; have x0 := HA2.out.op.of 0 _ rfl; have x1 := HA2.out.op.of 1 _ rfl; have x2 := HA2.out.op.of 2 _ rfl; have x3 := HA2.out.op.of 3 _ rfl; have x4 := HA2.out.op.of 4 _ rfl; have x5 := HA2.out.op.of 5 _ rfl; have x6 := HA2.out.op.of 6 _ rfl; have c2 := x0; have HA3 := Lib.hid (HA2.out.put 1 n1 n2 0 0 0 0); have c3 := HA3.out.op.of 0 _ rfl; clear hd2
      go_wp2_with fail
      refine hKr1_6.out _ _ ?kr1_6 (fun hHeldr1_6 => ?dr1_6)
      case kr1_6 => (first | (dsimp only; (first | with_reducible exact c3 | with_reducible exact c2 | with_reducible exact c1 | with_reducible exact c0)) | (first | with_reducible exact c3 | with_reducible exact c2 | with_reducible exact c1 | with_reducible exact c0))
      clear hKr1_6 Kr1_6
      refine take_first 6 27 (v := ?vr1_7) rfl rfl (by kernel_rfl) (by kernel_rfl) (by kernel_rfl) (fun _ _ _ h => h) (by rfl) ?yr1_7 (by assumption) ?rr1_7
      case yr1_7 => (intro w hSw; (try dsimp only at hSw); go_simp; (try with_reducible rfl))
      simp only [Act.put, List.setIfInBounds_toArray, List.set_cons_zero, List.set_cons_succ]
      refine wpAnyH_ready (rs := [7]) (by kernel_rfl) (by simp) ?_
      refine AllReadyH.cons (o := _) rfl (fun Kr1_8 hKr1_8 => ?cr1_8) ?mr1_8
      case mr1_8 => exact AllReadyH.nil
      go_simp
      skip
      go_wp2_with fail
      refine hKr1_8.out _ _ ?kr1_8 (fun hHeldr1_8 => ?dr1_8)
      case kr1_8 => (first | (dsimp only; (first | with_reducible exact c3 | with_reducible exact c2 | with_reducible exact c1 | with_reducible exact c0)) | (first | with_reducible exact c3 | with_reducible exact c2 | with_reducible exact c1 | with_reducible exact c0))
      clear hKr1_8 Kr1_8
      refine wpAnyH_done (by kernel_rfl) ?er1 _
      go_wp2_with fail
      go_meet
      case rel => exact ⟨_, _, _, _, _, _, _, HA3.out.more (by omega)⟩
    ·
      go_wp2_with fail
      refine (pick_rds _ _ _ _ HA.out.rds (by omega) (by omega)).mono ?_
      rintro e w2 ⟨n0, rfl, -, -, hd⟩
      replace HA := Lib.hid (HA.out.pick hd)
      clear hd
      go_wp2_with fail
      refine (pick_rds _ _ _ _ HA.out.rds (by omega) (by omega)).mono ?_
      rintro e w3 ⟨n1, rfl, -, -, hd⟩
      replace HA := Lib.hid (HA.out.pick hd)
      clear hd
      go_wp2_with fail
      refine (pick_rds _ _ _ _ HA.out.rds (by omega) (by omega)).mono ?_
      rintro e w4 ⟨n2, rfl, -, -, hd⟩
      replace HA := Lib.hid (HA.out.pick hd)
      clear hd
      go_wp2_with fail
      refine (pick_rds _ _ _ _ HA.out.rds (by omega) (by omega)).mono ?_
      rintro e w5 ⟨n3, rfl, -, -, hd⟩
      replace HA := Lib.hid (HA.out.pick hd)
      clear hd
      have x0 := HA.out.op.of 0 _ rfl
      have x1 := HA.out.op.of 1 _ rfl
      have x2 := HA.out.op.of 2 _ rfl
      have x3 := HA.out.op.of 3 _ rfl
      have x4 := HA.out.op.of 4 _ rfl
      have x5 := HA.out.op.of 5 _ rfl
      have x6 := HA.out.op.of 6 _ rfl
      have fr := HA.out.op.2.1
      go_wp2_with fail
      go_meet
      case rel => exact ⟨_, _, _, _, _, _, _, (HA.out.put (2) (n0) (n1) (n2) (n3) (0) (0)).more (by omega)⟩
    ·
      go_wp2_with fail
      refine (pick_rds _ _ _ _ HA.out.rds (by omega) (by omega)).mono ?_
      rintro e w2 ⟨n0, rfl, -, -, hd⟩
      replace HA := Lib.hid (HA.out.pick hd)
      clear hd
      go_wp2_with fail
      refine (pick_rds _ _ _ _ HA.out.rds (by omega) (by omega)).mono ?_
      rintro e w3 ⟨n1, rfl, -, -, hd⟩
      replace HA := Lib.hid (HA.out.pick hd)
      clear hd
      go_wp2_with fail
      refine (pick_rds _ _ _ _ HA.out.rds (by omega) (by omega)).mono ?_
      rintro e w4 ⟨n2, rfl, -, -, hd⟩
      replace HA := Lib.hid (HA.out.pick hd)
      clear hd
      have x0 := HA.out.op.of 0 _ rfl
      have x1 := HA.out.op.of 1 _ rfl
      have x2 := HA.out.op.of 2 _ rfl
      have x3 := HA.out.op.of 3 _ rfl
      have x4 := HA.out.op.of 4 _ rfl
      have x5 := HA.out.op.of 5 _ rfl
      have x6 := HA.out.op.of 6 _ rfl
      have fr := HA.out.op.2.1
      go_wp2_with fail
      go_meet
      case rel => exact ⟨_, _, _, _, _, _, _, (HA.out.put (3) (0) (0) (n0) (n1) (n2) (0)).more (by omega)⟩
    ·
      go_wp2_with fail
      refine (pick_rds _ _ _ _ HA.out.rds (by omega) (by omega)).mono ?_
      rintro e w2 ⟨n0, rfl, -, -, hd⟩
      replace HA := Lib.hid (HA.out.pick hd)
      clear hd
      go_wp2_with fail
      refine (pick_rds _ _ _ _ HA.out.rds (by omega) (by omega)).mono ?_
      rintro e w3 ⟨n1, rfl, y0, y1, hd⟩
      replace HA := Lib.hid (HA.out.pick hd)
      clear hd
      have y2 : n1 < 3 := y1 (by omega)
      clear y1
      have x0 := HA.out.op.of 0 _ rfl
      have x1 := HA.out.op.of 1 _ rfl
      have x2 := HA.out.op.of 2 _ rfl
      have x3 := HA.out.op.of 3 _ rfl
      have x4 := HA.out.op.of 4 _ rfl
      have x5 := HA.out.op.of 5 _ rfl
      have x6 := HA.out.op.of 6 _ rfl
      have fr := HA.out.op.2.1
      go_wp2_with fail
      go_meet
      case rel => exact ⟨_, _, _, _, _, _, _, (HA.out.put (4) (0) (0) (0) (0) (n0) (1 + n1)).more (by omega)⟩
    ·
      replace HA := Lib.hid (show OpAt w g (P + 1) w.heap.size w1.heap.size 5 0 0 0 0 0 0 (w1.alloc (.cells #[.int .i64 5, .int .i64 0, .int .i64 0, .int .i64 0, .int .i64 0, .int .i64 0, .int .i64 0] 25)) from HA.out)
      have HA0 := Lib.hid HA.out.drewOne
      have c0 := HA0.out.op.of 0 _ rfl
      go_upto_region 6 with fail
      refine wp_region_held_drew (S := (fun w' => w'.cell? ⟨w1.heap.size, 0, none⟩ = some (.int .i64 5))) (by kernel_rfl) ?hSr5 (fun hHeldr5 => ?str5)
      case hSr5 => (first | (dsimp only; (first | with_reducible exact c3 | with_reducible exact c2 | with_reducible exact c1 | with_reducible exact c0)) | (first | with_reducible exact c3 | with_reducible exact c2 | with_reducible exact c1 | with_reducible exact c0))
      refine take_first 0 21 (v := ?vr5_1) rfl rfl (by kernel_rfl) (by kernel_rfl) (by kernel_rfl) (fun _ _ _ h => h) (by rfl) ?yr5_1 (by assumption) ?rr5_1
      case yr5_1 => (intro w hSw; (try dsimp only at hSw); go_simp; (try with_reducible rfl))
      simp only [Act.put, List.setIfInBounds_toArray, List.set_cons_zero, List.set_cons_succ]
      refine take_first 1 22 (v := ?vr5_2) rfl rfl (by kernel_rfl) (by kernel_rfl) (by kernel_rfl) (fun _ _ _ h => h) (by rfl) ?yr5_2 (by assumption) ?rr5_2
      case yr5_2 => (intro w hSw; (try dsimp only at hSw); go_simp; (try with_reducible rfl))
      simp only [Act.put, List.setIfInBounds_toArray, List.set_cons_zero, List.set_cons_succ]
      refine take_first 2 23 (v := ?vr5_3) rfl rfl (by kernel_rfl) (by kernel_rfl) (by kernel_rfl) (fun _ _ _ h => h) (by rfl) ?yr5_3 (by assumption) ?rr5_3
      case yr5_3 => (intro w hSw; (try dsimp only at hSw); go_simp; (try with_reducible rfl))
      simp only [Act.put, List.setIfInBounds_toArray, List.set_cons_zero, List.set_cons_succ]
      refine take_first 4 25 (v := ?vr5_4) rfl rfl (by kernel_rfl) (by kernel_rfl) (by kernel_rfl) (fun _ _ _ h => h) (by rfl) ?yr5_4 (by assumption) ?rr5_4
      case yr5_4 => (intro w hSw; (try dsimp only at hSw); go_simp; (try with_reducible rfl))
      simp only [Act.put, List.setIfInBounds_toArray, List.set_cons_zero, List.set_cons_succ]
      refine wpAnyH_ready (rs := [3]) (by kernel_rfl) (by simp) ?_
      refine AllReadyH.cons (o := _) rfl (fun Kr5_5 hKr5_5 => ?cr5_5) ?mr5_5
      case mr5_5 => exact AllReadyH.nil
      go_simp
      refine (pick_rds _ _ _ _ HA0.out.rds (by omega) (by omega)).mono ?_; rintro e w2 ⟨n1, rfl, -, -, hd1⟩; have HA1 := Lib.hid (HA0.out.pick hd1); have c1 := HA1.out.op.of 0 _ rfl; clear hd1
      go_wp2_with fail
      refine hKr5_5.out _ _ ?kr5_5 (fun hHeldr5_5 => ?dr5_5)
      case kr5_5 => (first | (dsimp only; (first | with_reducible exact c3 | with_reducible exact c2 | with_reducible exact c1 | with_reducible exact c0)) | (first | with_reducible exact c3 | with_reducible exact c2 | with_reducible exact c1 | with_reducible exact c0))
      clear hKr5_5 Kr5_5
      refine wpAnyH_ready (rs := [5]) (by kernel_rfl) (by simp) ?_
      refine AllReadyH.cons (o := _) rfl (fun Kr5_6 hKr5_6 => ?cr5_6) ?mr5_6
      case mr5_6 => exact AllReadyH.nil
      go_simp
      refine (pick_rds _ _ _ _ HA1.out.rds (by omega) (by omega)).mono ?_; rintro e w3 ⟨n2, rfl, -, -, hd2⟩; have HA2 := Lib.hid (HA1.out.pick hd2); have fr := HA2.out.op.2.1; have x0 := HA2.out.op.of 0 _ rfl; have x1 := HA2.out.op.of 1 _ rfl; have x2 := HA2.out.op.of 2 _ rfl; have x3 := HA2.out.op.of 3 _ rfl; have x4 := HA2.out.op.of 4 _ rfl; have x5 := HA2.out.op.of 5 _ rfl; have x6 := HA2.out.op.of 6 _ rfl; have c2 := x0; have HA3 := Lib.hid (HA2.out.put 5 n1 n2 0 0 0 0); have c3 := HA3.out.op.of 0 _ rfl; clear hd2
      go_wp2_with fail
      refine hKr5_6.out _ _ ?kr5_6 (fun hHeldr5_6 => ?dr5_6)
      case kr5_6 => (first | (dsimp only; (first | with_reducible exact c3 | with_reducible exact c2 | with_reducible exact c1 | with_reducible exact c0)) | (first | with_reducible exact c3 | with_reducible exact c2 | with_reducible exact c1 | with_reducible exact c0))
      clear hKr5_6 Kr5_6
      refine take_first 6 27 (v := ?vr5_7) rfl rfl (by kernel_rfl) (by kernel_rfl) (by kernel_rfl) (fun _ _ _ h => h) (by rfl) ?yr5_7 (by assumption) ?rr5_7
      case yr5_7 => (intro w hSw; (try dsimp only at hSw); go_simp; (try with_reducible rfl))
      simp only [Act.put, List.setIfInBounds_toArray, List.set_cons_zero, List.set_cons_succ]
      refine wpAnyH_ready (rs := [7]) (by kernel_rfl) (by simp) ?_
      refine AllReadyH.cons (o := _) rfl (fun Kr5_8 hKr5_8 => ?cr5_8) ?mr5_8
      case mr5_8 => exact AllReadyH.nil
      go_simp
      skip
      go_wp2_with fail
      refine hKr5_8.out _ _ ?kr5_8 (fun hHeldr5_8 => ?dr5_8)
      case kr5_8 => (first | (dsimp only; (first | with_reducible exact c3 | with_reducible exact c2 | with_reducible exact c1 | with_reducible exact c0)) | (first | with_reducible exact c3 | with_reducible exact c2 | with_reducible exact c1 | with_reducible exact c0))
      clear hKr5_8 Kr5_8
      refine wpAnyH_done (by kernel_rfl) ?er5 _
      go_wp2_with fail
      go_meet
      case rel => exact ⟨_, _, _, _, _, _, _, HA3.out.more (by omega)⟩
  case rest =>
    obtain ⟨a0, a1, a2, a3, a4, a5, a6, hA⟩ := hcut
    have HB := Lib.hid hA
    clear hA HA m0 m2
    go_wp2_with fail
    refine (odd_any _ _ _ _ HB.out.rds (by omega) hn).mono ?_
    rintro e w2 ⟨b, rfl, -, hd⟩
    replace HB := Lib.hid (HB.out.pick hd)
    clear hd
    cases b
    ·
      have x0 := HB.out.op.of 0 _ rfl
      have x1 := HB.out.op.of 1 _ rfl
      have x2 := HB.out.op.of 2 _ rfl
      have x3 := HB.out.op.of 3 _ rfl
      have x4 := HB.out.op.of 4 _ rfl
      have x5 := HB.out.op.of 5 _ rfl
      have x6 := HB.out.op.of 6 _ rfl
      have r0 := HB.out.res.of 0 _ rfl
      have r1 := HB.out.res.of 1 _ rfl
      have r2 := HB.out.res.of 2 _ rfl
      have r3 := HB.out.res.of 3 _ rfl
      have r4 := HB.out.res.of 4 _ rfl
      have r5 := HB.out.res.of 5 _ rfl
      have r6 := HB.out.res.of 6 _ rfl
      have gr := HB.out.res.2.1
      go_wp2_with fail
      clear x0 x1 x2 x3 x4 x5 x6 r0 r1 r2 r3 r4 r5 r6 gr
      have HQ := HB.out.res.put7 (.int .i64 a0) (.int .i64 a1) (.int .i64 a2) (.int .i64 a3) (.int .i64 a4) (.int .i64 a5) (.int .i64 a6)
      have q0 := HQ.of 0 _ rfl
      have q1 := HQ.of 1 _ rfl
      have q2 := HQ.of 2 _ rfl
      have q3 := HQ.of 3 _ rfl
      have q4 := HQ.of 4 _ rfl
      have q5 := HQ.of 5 _ rfl
      have q6 := HQ.of 6 _ rfl
      refine bodyPost_ret (v := .agg #[.int .i64 a0, .int .i64 a1, .int .i64 a2, .int .i64 a3, .int .i64 a4, .int .i64 a5, .int .i64 a6]) (by simp only [results, Tryz.results33, go_sem]; simp [go_sem, q0, q1, q2, q3, q4, q5, q6]) rfl ⟨⟨a0, a1, a2, a3, a4, a5, a6⟩, rfl, ?_⟩
      exact (HB.out.more (P' := P + 8) (by omega)).drew.put7 w.heap.size (Nat.le_refl _) hgw _ _ _ _ _ _ _
    ·
      go_wp2_with fail
      refine (pick_rds _ _ _ _ HB.out.rds (by omega) (by omega)).mono ?_
      rintro e w3 ⟨m3, rfl, m30, m31, hd⟩
      replace HB := Lib.hid (HB.out.pick hd)
      have m32 : m3 < 5 := m31 (by omega)
      clear hd m31
      go_upto_block 1 with fail
      go_cut [] (fun wd => ∃ a0 a1 a2 a3 a4 a5 a6, OpAt w g (P + 8) w.heap.size w1.heap.size a0 a1 a2 a3 a4 a5 a6 wd)
      case first =>
        have m5 : m3 = 0 ∨ m3 = 1 ∨ m3 = 2 ∨ m3 = 3 ∨ m3 = 4 := by omega
        clear m30 m32
        rcases m5 with rfl | rfl | rfl | rfl | rfl
        ·
          have HC := Lib.hid (HB.out.made (.cells #[.int .i64 0, .int .i64 6] 3))
          have HL := Lib.hid (Held.new w3 #[.int .i64 0, .int .i64 6] 3)
          have hz3 : w.heap.size < w3.heap.size := Nat.lt_of_le_of_lt HB.out.hR HB.out.res.1
          go_wp2_with fail
          refine (pick_rds _ _ _ _ HC.out.rds (by omega) (by omega)).mono ?_
          rintro e w4 ⟨m4, rfl, m40, m41, hd⟩
          have m42 : m4 < 2 := m41 (by omega)
          replace HC := Lib.hid (HC.out.pick hd)
          replace HL := Lib.hid (HL.out.drew hd (by omega))
          clear hd m41 hz3
          obtain ⟨j, rfl⟩ := Int.eq_ofNat_of_zero_le m40
          obtain ⟨z, hz⟩ : ∃ z : Int, w4.cell? ⟨w3.heap.size, j, none⟩ = some (.int .i64 z) := by
            have hj : j = 0 ∨ j = 1 := by omega
            rcases hj with rfl | rfl
            · exact ⟨_, HL.out.of 0 _ rfl⟩
            · exact ⟨_, HL.out.of 1 _ rfl⟩
          have x0 := HC.out.op.of 0 _ rfl
          have fr := HC.out.op.2.1
          clear m40
          go_wp2_with fail
          go_meet
          case rel =>
            obtain ⟨b0, b1, b2, b3, b4, b5, b6, hh⟩ := HC.out.set_ 0 z (by omega)
            exact ⟨b0, b1, b2, b3, b4, b5, b6, hh.more (by omega)⟩
        ·
          have HC := Lib.hid (HB.out.made (.cells #[.int .i64 (-1), .int .i64 10, .int .i64 1] 3))
          have HL := Lib.hid (Held.new w3 #[.int .i64 (-1), .int .i64 10, .int .i64 1] 3)
          have hz3 : w.heap.size < w3.heap.size := Nat.lt_of_le_of_lt HB.out.hR HB.out.res.1
          go_wp2_with fail
          refine (pick_rds _ _ _ _ HC.out.rds (by omega) (by omega)).mono ?_
          rintro e w4 ⟨m4, rfl, m40, m41, hd⟩
          have m42 : m4 < 3 := m41 (by omega)
          replace HC := Lib.hid (HC.out.pick hd)
          replace HL := Lib.hid (HL.out.drew hd (by omega))
          clear hd m41 hz3
          obtain ⟨j, rfl⟩ := Int.eq_ofNat_of_zero_le m40
          obtain ⟨z, hz⟩ : ∃ z : Int, w4.cell? ⟨w3.heap.size, j, none⟩ = some (.int .i64 z) := by
            have hj : j = 0 ∨ j = 1 ∨ j = 2 := by omega
            rcases hj with rfl | rfl | rfl
            · exact ⟨_, HL.out.of 0 _ rfl⟩
            · exact ⟨_, HL.out.of 1 _ rfl⟩
            · exact ⟨_, HL.out.of 2 _ rfl⟩
          have x0 := HC.out.op.of 1 _ rfl
          have fr := HC.out.op.2.1
          clear m40
          go_wp2_with fail
          go_meet
          case rel =>
            obtain ⟨b0, b1, b2, b3, b4, b5, b6, hh⟩ := HC.out.set_ 1 z (by omega)
            exact ⟨b0, b1, b2, b3, b4, b5, b6, hh.more (by omega)⟩
        ·
          have HC := Lib.hid (HB.out.made (.cells #[.int .i64 (-1), .int .i64 10, .int .i64 1] 3))
          have HL := Lib.hid (Held.new w3 #[.int .i64 (-1), .int .i64 10, .int .i64 1] 3)
          have hz3 : w.heap.size < w3.heap.size := Nat.lt_of_le_of_lt HB.out.hR HB.out.res.1
          go_wp2_with fail
          refine (pick_rds _ _ _ _ HC.out.rds (by omega) (by omega)).mono ?_
          rintro e w4 ⟨m4, rfl, m40, m41, hd⟩
          have m42 : m4 < 3 := m41 (by omega)
          replace HC := Lib.hid (HC.out.pick hd)
          replace HL := Lib.hid (HL.out.drew hd (by omega))
          clear hd m41 hz3
          obtain ⟨j, rfl⟩ := Int.eq_ofNat_of_zero_le m40
          obtain ⟨z, hz⟩ : ∃ z : Int, w4.cell? ⟨w3.heap.size, j, none⟩ = some (.int .i64 z) := by
            have hj : j = 0 ∨ j = 1 ∨ j = 2 := by omega
            rcases hj with rfl | rfl | rfl
            · exact ⟨_, HL.out.of 0 _ rfl⟩
            · exact ⟨_, HL.out.of 1 _ rfl⟩
            · exact ⟨_, HL.out.of 2 _ rfl⟩
          have x0 := HC.out.op.of 3 _ rfl
          have fr := HC.out.op.2.1
          clear m40
          go_wp2_with fail
          go_meet
          case rel =>
            obtain ⟨b0, b1, b2, b3, b4, b5, b6, hh⟩ := HC.out.set_ 3 z (by omega)
            exact ⟨b0, b1, b2, b3, b4, b5, b6, hh.more (by omega)⟩
        ·
          have HC := Lib.hid (HB.out.made (.cells #[.int .i64 (-1), .int .i64 100, .int .i64 1] 3))
          have HL := Lib.hid (Held.new w3 #[.int .i64 (-1), .int .i64 100, .int .i64 1] 3)
          have hz3 : w.heap.size < w3.heap.size := Nat.lt_of_le_of_lt HB.out.hR HB.out.res.1
          go_wp2_with fail
          refine (pick_rds _ _ _ _ HC.out.rds (by omega) (by omega)).mono ?_
          rintro e w4 ⟨m4, rfl, m40, m41, hd⟩
          have m42 : m4 < 3 := m41 (by omega)
          replace HC := Lib.hid (HC.out.pick hd)
          replace HL := Lib.hid (HL.out.drew hd (by omega))
          clear hd m41 hz3
          obtain ⟨j, rfl⟩ := Int.eq_ofNat_of_zero_le m40
          obtain ⟨z, hz⟩ : ∃ z : Int, w4.cell? ⟨w3.heap.size, j, none⟩ = some (.int .i64 z) := by
            have hj : j = 0 ∨ j = 1 ∨ j = 2 := by omega
            rcases hj with rfl | rfl | rfl
            · exact ⟨_, HL.out.of 0 _ rfl⟩
            · exact ⟨_, HL.out.of 1 _ rfl⟩
            · exact ⟨_, HL.out.of 2 _ rfl⟩
          have x0 := HC.out.op.of 6 _ rfl
          have fr := HC.out.op.2.1
          clear m40
          go_wp2_with fail
          go_meet
          case rel =>
            obtain ⟨b0, b1, b2, b3, b4, b5, b6, hh⟩ := HC.out.set_ 6 z (by omega)
            exact ⟨b0, b1, b2, b3, b4, b5, b6, hh.more (by omega)⟩
        ·
          have HC := Lib.hid (HB.out.made (.cells #[.int .i64 (-1), .int .i64 100, .int .i64 99] 3))
          have HL := Lib.hid (Held.new w3 #[.int .i64 (-1), .int .i64 100, .int .i64 99] 3)
          have hz3 : w.heap.size < w3.heap.size := Nat.lt_of_le_of_lt HB.out.hR HB.out.res.1
          go_wp2_with fail
          refine (pick_rds _ _ _ _ HC.out.rds (by omega) (by omega)).mono ?_
          rintro e w4 ⟨m4, rfl, m40, m41, hd⟩
          have m42 : m4 < 3 := m41 (by omega)
          replace HC := Lib.hid (HC.out.pick hd)
          replace HL := Lib.hid (HL.out.drew hd (by omega))
          clear hd m41 hz3
          obtain ⟨j, rfl⟩ := Int.eq_ofNat_of_zero_le m40
          obtain ⟨z, hz⟩ : ∃ z : Int, w4.cell? ⟨w3.heap.size, j, none⟩ = some (.int .i64 z) := by
            have hj : j = 0 ∨ j = 1 ∨ j = 2 := by omega
            rcases hj with rfl | rfl | rfl
            · exact ⟨_, HL.out.of 0 _ rfl⟩
            · exact ⟨_, HL.out.of 1 _ rfl⟩
            · exact ⟨_, HL.out.of 2 _ rfl⟩
          have x0 := HC.out.op.of 4 _ rfl
          have fr := HC.out.op.2.1
          clear m40
          go_wp2_with fail
          go_meet
          case rel =>
            obtain ⟨b0, b1, b2, b3, b4, b5, b6, hh⟩ := HC.out.set_ 4 z (by omega)
            exact ⟨b0, b1, b2, b3, b4, b5, b6, hh.more (by omega)⟩
      case rest =>
        clear HB m30 m32 a0 a1 a2 a3 a4 a5 a6
        obtain ⟨a0, a1, a2, a3, a4, a5, a6, hA⟩ := hcut
        have HB := Lib.hid hA
        clear hA
        have x0 := HB.out.op.of 0 _ rfl
        have x1 := HB.out.op.of 1 _ rfl
        have x2 := HB.out.op.of 2 _ rfl
        have x3 := HB.out.op.of 3 _ rfl
        have x4 := HB.out.op.of 4 _ rfl
        have x5 := HB.out.op.of 5 _ rfl
        have x6 := HB.out.op.of 6 _ rfl
        have r0 := HB.out.res.of 0 _ rfl
        have r1 := HB.out.res.of 1 _ rfl
        have r2 := HB.out.res.of 2 _ rfl
        have r3 := HB.out.res.of 3 _ rfl
        have r4 := HB.out.res.of 4 _ rfl
        have r5 := HB.out.res.of 5 _ rfl
        have r6 := HB.out.res.of 6 _ rfl
        have gr := HB.out.res.2.1
        go_wp2_with fail
        clear x0 x1 x2 x3 x4 x5 x6 r0 r1 r2 r3 r4 r5 r6 gr
        have HQ := HB.out.res.put7 (.int .i64 a0) (.int .i64 a1) (.int .i64 a2) (.int .i64 a3) (.int .i64 a4) (.int .i64 a5) (.int .i64 a6)
        have q0 := HQ.of 0 _ rfl
        have q1 := HQ.of 1 _ rfl
        have q2 := HQ.of 2 _ rfl
        have q3 := HQ.of 3 _ rfl
        have q4 := HQ.of 4 _ rfl
        have q5 := HQ.of 5 _ rfl
        have q6 := HQ.of 6 _ rfl
        refine bodyPost_ret (v := .agg #[.int .i64 a0, .int .i64 a1, .int .i64 a2, .int .i64 a3, .int .i64 a4, .int .i64 a5, .int .i64 a6]) (by simp only [results, Tryz.results33, go_sem]; simp [go_sem, q0, q1, q2, q3, q4, q5, q6]) rfl ⟨⟨a0, a1, a2, a3, a4, a5, a6⟩, rfl, ?_⟩
        exact (HB.out.more (P' := P + 8) (by omega)).drew.put7 w.heap.size (Nat.le_refl _) hgw _ _ _ _ _ _ _

end Go.Proofs.YtecdibpiojgppaaGreat
