/- What DrawDiskAdd draws. By drawdisk2gen.py. -/
import Derived.Test.YtkamlibfcakblaaXDrawDisk
import Derived.Test.YtkamlibfcakblaaXDrawOpen
import Derived.Test.YtkamlibfcakblaaXDrawKey
namespace Go.Proofs.Ytkamlibfcakblaa
open Go.RowKit

/-- What holds while a drawn place's notes are filled up: their box alone. -/
structure DaC (w : World) (g : Nat) (P : Int) (bx : Nat) (x : Disk) (u : Value) (S : Nat → Prop) (W : World) : Prop where
  hx : Held W bx [u, .int .i64 x.safe]
  own : noteSh.Own 36 W S u x.notes
  st : ∀ b, S b → w.heap.size ≤ b ∧ b < W.heap.size ∧ b ≠ bx
  dr : Drew g P w W
  gw : g < w.heap.size
  hb : w.heap.size ≤ bx
section
variable {w W W' : World} {g bx : Nat} {P P' : Int} {x : Disk} {u u' : Value} {S S' : Nat → Prop} {ns : List Note}
theorem DaC.draw (h : DaC w g P bx x u S W) (hd : Drew g P' W W') : DaC w g P' bx x u S W' := by
  have g1 := h.gw
  have g2 := h.hb
  have g3 := hd.2.size
  exact ⟨h.hx.drew hd (by omega), sh_drew h.own hd (fun b hb => by have := h.st b hb; omega), fun b hb => by have := h.st b hb; omega, h.dr.trans hd, h.gw, h.hb⟩
theorem DaC.more (h : DaC w g P bx x u S W) (hP : P ≤ P') : DaC w g P' bx x u S W := ⟨h.hx, h.own, h.st, ⟨h.dr.1.more hP, h.dr.2⟩, h.gw, h.hb⟩
theorem DaC.then_ (h : DaC w g P bx x u S W) (hb : Below W.heap.size W W') : DaC w g P bx x u S W' := by
  have g3 := hb.size
  exact ⟨h.hx.below hb h.hx.1, h.own.below hb, fun b hb => by have := h.st b hb; omega, h.dr.then_ hb, h.gw, h.hb⟩
/-- A note appended. -/
theorem DaC.put (h : DaC w g P bx x u S W) (hS : ∀ b, S' b → w.heap.size ≤ b ∧ b < W.heap.size ∧ b ≠ bx) (ho : noteSh.Own 36 W' (fun b => S b ∨ S' b ∨ b = W.heap.size) u' ns) (hg : W.grownBy W' u.ownBlock) : DaC w g P bx ⟨ns, x.safe⟩ u' (fun b => (S b ∨ S' b ∨ b = W.heap.size) ∧ b < W'.heap.size) (W'.setCell ⟨bx, 0, none⟩ u') := by
  have g2 := h.hb
  have g3 := h.hx.1
  have g4 := hg.size
  have hs : (W'.setCell ⟨bx, 0, none⟩ u').heap.size = W'.heap.size := by simp [World.setCell]
  have hO : Outs S W W' := Outs.of_grown hg (fun k e => h.own.blk k e)
  have hset : ∀ b, (S b ∨ S' b ∨ b = W.heap.size) ∧ b < W'.heap.size → w.heap.size ≤ b ∧ b < W'.heap.size ∧ b ≠ bx := fun b hb => by
    rcases hb.1 with h1 | h1 | h1
    · have := h.st b h1; omega
    · have := hS b h1; omega
    · omega
  exact ⟨(h.hx.outs hO (fun e => (h.st _ e).2.2 rfl)).set_ (i := 0) u', ho.cap.keep fun b hb _ => Below.heap_setCell _ _ _ _ (hset b hb).2.2, fun b hb => by rw [hs]; exact hset b hb, (h.dr.grown hg (fun k e => by have := h.st k (h.own.blk k e); omega) h.gw).setCell (p := ⟨bx, 0, none⟩) (by show w.heap.size ≤ bx; omega) h.gw _, h.gw, h.hb⟩
end
def DaW (w : World) (g : Nat) (P : Int) (bx : Nat) (x : Disk) (W : World) : Prop := ∃ A c S, DaC w g P bx x (.slice A x.notes.length c) S W
/-- What the draw leaves. -/
def DrewDA (w : World) (e : Ending) (w' : World) : Prop :=
  ∃ cs x ns y b, e = .returned (.tuple #[.agg (List.toArray cs), .agg (List.toArray ns), .bool b]) ∧ FewD 121 x ∧ FewN 8 8 y ∧ diskSh.own w' (fun b => w.heap.size ≤ b ∧ b < w'.heap.size) cs x ∧ noteSh.own w' (fun b => w.heap.size ≤ b ∧ b < w'.heap.size) ns y ∧ Below w.heap.size w w'

set_option maxRecDepth 100000 in
set_option maxHeartbeats 4000000 in
theorem drawDiskAdd_any (w : World) (v : Value) (n : Nat) (hv : Code8 w v n) : Calls Try.prog 28 #[v] w (DrewDA w) := by
  have HV := Lib.hid ((hv.below (belowOne w (.cells #[.slice none 0 0, .int .i64 0] 25))).below (belowOne _ (.cells #[.int .i64 0, .int .i64 0, .slice none 0 0, .slice none 0 0] 36)))
  have HH := Lib.hid ((Held.new w #[.slice none 0 0, .int .i64 0] 25).after (.cells #[.int .i64 0, .int .i64 0, .slice none 0 0, .slice none 0 0] 36))
  have HN := Lib.hid (show Held ((w.alloc (.cells #[.slice none 0 0, .int .i64 0] 25)).alloc (.cells #[.int .i64 0, .int .i64 0, .slice none 0 0, .slice none 0 0] 36)) (w.heap.size + 1) [.int .i64 0, .int .i64 0, .slice none 0 0, .slice none 0 0] from by have h := Held.new (w.alloc (.cells #[.slice none 0 0, .int .i64 0] 25)) #[.int .i64 0, .int .i64 0, .slice none 0 0, .slice none 0 0] 36; rwa [allocSize] at h)
  have HB0 := Lib.hid (belowTwo w (.cells #[.slice none 0 0, .int .i64 0] 25) (.cells #[.int .i64 0, .int .i64 0, .slice none 0 0, .slice none 0 0] 36))
  clear hv
  go_enter Try.func28, Try.ntmps28
  go_wp2_with fail
  refine (l20Open_any _ _ _ HV.out).mono ?_
  rintro e w1 ⟨rfl, hr, hb1⟩
  have HH1 := Lib.hid (HH.out.below hb1 HH.out.1)
  have HN1 := Lib.hid (HN.out.below hb1 HN.out.1)
  have HB1 := Lib.hid (HB0.out.trans (hb1.mono (by simp; omega)))
  simp only [allocSize] at hr
  have HR := Lib.hid (show Rds w1 (w.heap.size + 1 + 1) 0 from ⟨0, by omega, by omega, hr⟩)
  have hz1 : w.heap.size + 1 + 1 < w1.heap.size := HR.out.lt
  clear hr hb1 HH HN HB0 HV
  go_wp2_with fail
  refine (l20Disk_any _ _ _ _ HR.out (by omega) (by omega) (by omega)).mono ?_
  rintro e w2 ⟨cs, x, rfl, hfd, ho, hd⟩
  obtain ⟨u2, rfl, hu2⟩ := disk_own.1 ho
  obtain ⟨A2, c2, hf2, -, -⟩ := hu2.row.form
  subst hf2
  have HF := Lib.hid hfd
  have hz2 := hd.2.size
  have HC := Lib.hid (show DaC w1 (w.heap.size + 1 + 1) (0 + 20000) w2.heap.size x (.slice A2 x.notes.length c2) (fun b => w1.heap.size ≤ b ∧ b < w2.heap.size) (w2.alloc (.cells #[.slice A2 x.notes.length c2, .int .i64 x.safe] 25)) from
    ⟨Held.new w2 #[.slice A2 x.notes.length c2, .int .i64 x.safe] 25, hu2.below (belowOne w2 _), fun b hb => by rw [allocSize]; omega, hd.then_ (belowOne w2 _), hz1, hz2⟩)
  clear hd ho hu2 hfd
  go_wp2_with fail
  refine (odd_any _ _ _ _ HC.out.dr.1 (by omega) (by omega)).mono ?_
  rintro e w3 ⟨bb, rfl, -, hd3⟩
  have HC3 := Lib.hid (HC.out.draw hd3)
  clear hd3 HC
  go_upto_if 12 with fail
  go_cut [] from 13 to 22 (fun we => ∃ x, FewD 121 x ∧ DaW w1 (w.heap.size + 1 + 1) 30000 w2.heap.size x we)
  case first =>
    cases bb
    · go_wp2
      go_meet
      case rel => exact ⟨x, HF.out, _, _, _, HC3.out.more (by omega)⟩
    · go_wp2
      go_loopw [] (fun wr => ∃ x : Disk, FewD 121 x ∧ DaW w1 (w.heap.size + 1 + 1) 30000 w2.heap.size x wr) (fun wr => 121 - boxN wr w2.heap.size)
      case atStart => exact ⟨x, HF.out, _, _, _, HC3.out.more (by omega)⟩
      case round =>
        clear HC3 HF
        obtain ⟨x2, hf, A3, c3, S3, hC⟩ := hrel
        have HC := Lib.hid hC
        have HF := Lib.hid hf
        have d3 := hC.hx.of 0 _ rfl
        have HL := Lib.hid (boxN_at d3)
        clear hC hf
        by_cases hlt : x2.notes.length < 120
        · have H7 := Lib.hid (HC.out.then_ (belowOne wr (.cells #[.int .i64 3, .int .i64 0, .slice none 0 0, .slice none 0 0] 36)))
          have HQ := Lib.hid (show noteSh.own (wr.alloc (.cells #[.int .i64 3, .int .i64 0, .slice none 0 0, .slice none 0 0] 36)) (fun _ => False) [.int .i64 3, .int .i64 0, .slice none 0 0, .slice none 0 0] ⟨3, 0, [], []⟩ from note_own.2 ⟨_, _, fun _ => False, fun _ => False, rfl, Sh.Own.nil _ _, Sh.Own.nil _ _, fun _ h => h.elim, fun _ h => h.elim, fun _ h => h.elim⟩)
          go_wp2_with (at_builtin; refine wpl_one noteSh 23 36 _ 64 Try.underlying23 infoNoteA rfl (by decide) (by omega) rfl (.tmp 18) (.tmp 20) rfl S3 (fun _ => False) _ x2.notes rfl H7.out.own wr.heap.size rfl _ ⟨3, 0, [], []⟩ HQ.out (Held.new wr _ _) (fun b hb h => h) (by omega) ?_; intro v8 w8 ho8 hg8 _; obtain ⟨A8, c8, hf8, -, -⟩ := ho8.row.form; rw [List.length_append, List.length_singleton] at hf8; subst hf8; have H8 := Lib.hid (H7.out.put (S' := fun _ => False) (fun b hb => hb.elim) ho8 hg8); have HX8 := Lib.hid (H7.out.hx.outs (Outs.of_grown (S := S3) hg8 H7.out.own.blk) (fun e => (H7.out.st _ e).2.2 rfl)); have x8 := HX8.out.of 0 _ rfl; have f8 := HX8.out.2.1 0; clear ho8 hg8)
          have h8 := H8.out
          have hl8 := boxN_at (h8.hx.of 0 _ rfl)
          exact ⟨⟨⟨x2.notes ++ [⟨3, 0, [], []⟩], x2.safe⟩, few_le (few_snoc (m := 120) ⟨by omega, HF.out.2⟩ ⟨by simp, by simp, fun _ h => absurd h (by simp), fun _ h => absurd h (by simp)⟩) (by omega), A8, c8, _, by rw [show (x2.notes ++ [(⟨3, 0, [], []⟩ : Note)]).length = x2.notes.length + 1 by simp]; exact h8⟩, by rw [HL.out, hl8]; omega⟩
        · have hfl : ¬ ((x2.notes.length : Int) < 120) := by omega
          go_wp2
          go_meet
          case rel => exact ⟨x2, HF.out, _, _, _, HC.out⟩
  case rest =>
    obtain ⟨x, hfd, A3, c3, S3, hC⟩ := hcut
    have HC := Lib.hid (show DaC w1 (w.heap.size + 1 + 1) 30000 w2.heap.size x (.slice A3 x.notes.length c3) S3 wc.drew from hC.then_ (Below.refl _ wc).drew)
    have HFd := Lib.hid hfd
    have hzc := hC.dr.2.size
    clear hC hfd HC3 HF
    go_wp2
    refine wp_region_held_drew (S := (fun _ => True)) (by kernel_rfl) ?hSr (fun hHeldr => ?str)
    case hSr => exact trivial
    refine take_first 1 24 (v := ?vr_1) rfl rfl (by kernel_rfl) (by kernel_rfl) (by kernel_rfl) (fun _ _ _ h => h) (by rfl) ?yr_1 (by assumption) ?rr_1
    case yr_1 => (intro w hSw; (try dsimp only at hSw); go_simp; (try with_reducible rfl))
    simp only [Act.put, List.setIfInBounds_toArray, List.set_cons_zero, List.set_cons_succ]
    refine take_first 3 26 (v := ?vr_2) rfl rfl (by kernel_rfl) (by kernel_rfl) (by kernel_rfl) (fun _ _ _ h => h) (by rfl) ?yr_2 (by assumption) ?rr_2
    case yr_2 => (intro w hSw; (try dsimp only at hSw); go_simp; (try with_reducible rfl))
    simp only [Act.put, List.setIfInBounds_toArray, List.set_cons_zero, List.set_cons_succ]
    refine wpAnyH_ready (rs := [0, 2]) (by kernel_rfl) (by simp) ?_
    refine AllReadyH.cons (o := _) rfl (fun Kr_4 hKr_4 => ?cr_4) ?mr_4
    case cr_4 =>
      have ld0 := HC.out.hx.of 0 _ rfl
      have ld1 := HC.out.hx.of 1 _ rfl
      go_simp
      clear ld0 ld1
      go_wp2_with fail
      refine hKr_4.out _ _ ?kr_4 (fun hHeldr_4 => ?dr_4)
      case kr_4 => (first | (dsimp only; (exact trivial)) | (exact trivial))
      clear hKr_4 Kr_4
      refine wpAnyH_ready (rs := [2]) (by kernel_rfl) (by simp) ?_
      refine AllReadyH.cons (o := _) rfl (fun Kr_5 hKr_5 => ?cr_5) ?mr_5
      case mr_5 => exact AllReadyH.nil
      go_simp
      refine (l20Note_any _ _ _ _ HC.out.dr.1 (by omega) (by omega) (by omega)).mono ?_
      rintro e w11 ⟨cs2, m, rfl, hfm, ho2, hd2⟩
      obtain ⟨u5, v5, T1, T2, rfl, hu5, hv5, -, -, -⟩ := note_own.1 ho2
      obtain ⟨E1, d1, rfl, -, -⟩ := hu5.row.form
      obtain ⟨E2, d2, rfl, -, -⟩ := hv5.row.form
      have hzn : wc.heap.size ≤ w11.heap.size := by have h1 : wc.drew.heap.size ≤ w11.heap.size := hd2.2.size; have h2 : wc.drew.heap.size = wc.heap.size := rfl; omega
      replace HC := Lib.hid (HC.out.draw hd2)
      have HO2 := Lib.hid (noteSh.omono ho2 (S' := fun b => wc.heap.size ≤ b ∧ b < w11.heap.size) (fun b hb => ⟨by have h1 : wc.drew.heap.size ≤ b := hb.1; have h2 : wc.drew.heap.size = wc.heap.size := rfl; omega, hb.2⟩))
      have HFm := Lib.hid hfm
      clear hu5 hv5 ho2 hd2 hfm
      go_wp2_with fail
      refine hKr_5.out _ _ ?kr_5 (fun hHeldr_5 => ?dr_5)
      case kr_5 => (first | (dsimp only; (exact trivial)) | (exact trivial))
      clear hKr_5 Kr_5
      refine wpAnyH_ready (rs := [4]) (by kernel_rfl) (by simp) ?_
      refine AllReadyH.cons (o := _) rfl (fun Kr_6 hKr_6 => ?cr_6) ?mr_6
      case mr_6 => exact AllReadyH.nil
      go_simp
      refine (pick_rds _ _ _ _ HC.out.dr.1 (by omega) (by omega)).mono ?_
      rintro e w12 ⟨kb, rfl, -, -, hd3⟩
      replace HC := Lib.hid (HC.out.draw hd3)
      replace HO2 := Lib.hid (noteSh.okeep HO2.out (w' := w12) (fun b hb hlt => hd3.2.block b hlt (fun e => by have h1 := hb.1; have h2 := Option.some.inj e; omega)))
      have hzm := hd3.2.size
      clear hd3
      go_wp2_with fail
      refine hKr_6.out _ _ ?kr_6 (fun hHeldr_6 => ?dr_6)
      case kr_6 => (first | (dsimp only; (exact trivial)) | (exact trivial))
      clear hKr_6 Kr_6
      refine take_first 5 28 (v := ?vr_7) rfl rfl (by kernel_rfl) (by kernel_rfl) (by kernel_rfl) (fun _ _ _ h => h) (by rfl) ?yr_7 (by assumption) ?rr_7
      case yr_7 => (intro w hSw; (try dsimp only at hSw); go_simp; (try with_reducible rfl))
      simp only [Act.put, List.setIfInBounds_toArray, List.set_cons_zero, List.set_cons_succ]
      refine wpAnyH_ready (rs := [6]) (by kernel_rfl) (by simp) ?_
      refine AllReadyH.cons (o := _) rfl (fun Kr_8 hKr_8 => ?cr_8) ?mr_8
      case mr_8 => exact AllReadyH.nil
      have HA := Lib.hid (HH1.out.drew HC.out.dr (by omega))
      have HM := Lib.hid (HN1.out.drew HC.out.dr (by omega))
      have HBw := Lib.hid (HB1.out.trans (HC.out.dr.below (B := w.heap.size) (by omega) HB1.out.size))
      have st0 := HA.out.of 0 _ rfl
      have st1 := HA.out.of 1 _ rfl
      have stf := HA.out.2.1
      go_simp
      clear st0 st1 stf
      have HA6 := Lib.hid (HA.out.put2 (.slice A3 x.notes.length c3) (.int .i64 x.safe))
      have HM6 := Lib.hid (show Held (put2 w12 w.heap.size (.slice A3 x.notes.length c3) (.int .i64 x.safe)) (w.heap.size + 1) [.int .i64 0, .int .i64 0, .slice none 0 0, .slice none 0 0] from (HM.out.farS (p := ⟨w.heap.size, 0, none⟩) (by show w.heap.size + 1 ≠ w.heap.size; omega) _).farS (p := ⟨w.heap.size, 1, none⟩) (by show w.heap.size + 1 ≠ w.heap.size; omega) _)
      have HD6 := Lib.hid (HC.out.own.keep (w' := (put2 w12 w.heap.size (.slice A3 x.notes.length c3) (.int .i64 x.safe))) fun b hb _ => put2_far _ _ _ _ (by have := HC.out.st b hb; omega))
      have HO6 := Lib.hid (noteSh.okeep HO2.out (w' := (put2 w12 w.heap.size (.slice A3 x.notes.length c3) (.int .i64 x.safe))) fun b hb _ => put2_far _ _ _ _ (by have := hb.1; omega))
      have HB6 := Lib.hid (belowPut2 HBw.out w.heap.size (Nat.le_refl _) (.slice A3 x.notes.length c3) (.int .i64 x.safe))
      have hz6 := put2_size w12 w.heap.size (.slice A3 x.notes.length c3) (.int .i64 x.safe)
      have HSt := Lib.hid HC.out.st
      have hzz := HC.out.dr.2.size
      clear HC HO2 HA HM HBw
      go_wp2_with fail
      refine hKr_8.out _ _ ?kr_8 (fun hHeldr_8 => ?dr_8)
      case kr_8 => (first | (dsimp only; (exact trivial)) | (exact trivial))
      clear hKr_8 Kr_8
      refine wpAnyH_ready (rs := [7]) (by kernel_rfl) (by simp) ?_
      refine AllReadyH.cons (o := _) rfl (fun Kr_9 hKr_9 => ?cr_9) ?mr_9
      case mr_9 => exact AllReadyH.nil
      have st0 := HM6.out.of 0 _ rfl
      have st1 := HM6.out.of 1 _ rfl
      have st2 := HM6.out.of 2 _ rfl
      have st3 := HM6.out.of 3 _ rfl
      have stf := HM6.out.2.1
      go_simp
      clear st0 st1 st2 st3 stf
      go_wp2_with fail
      refine hKr_9.out _ _ ?kr_9 (fun hHeldr_9 => ?dr_9)
      case kr_9 => (first | (dsimp only; (exact trivial)) | (exact trivial))
      clear hKr_9 Kr_9
      refine take_first 8 4 (v := ?vr_10) rfl rfl (by kernel_rfl) (by kernel_rfl) (by kernel_rfl) (fun _ _ _ h => h) (by rfl) ?yr_10 (by assumption) ?rr_10
      case yr_10 => (intro w hSw; (try dsimp only at hSw); go_simp; (try with_reducible rfl))
      simp only [Act.put, List.setIfInBounds_toArray, List.set_cons_zero, List.set_cons_succ]
      refine wpAnyH_done (by kernel_rfl) ?er_11 _
      go_wp2
      have HM7 := Lib.hid (HM6.out.put4 (.int .i64 m.kind) (.int .i64 m.tx) (.slice E1 m.locks.length d1) (.slice E2 m.writes.length d2))
      have HA7 := Lib.hid (HA6.out.keep4 (q := w.heap.size + 1) (by omega) (.int .i64 m.kind) (.int .i64 m.tx) (.slice E1 m.locks.length d1) (.slice E2 m.writes.length d2))
      have q0 := HA7.out.of 0 _ rfl
      have q1 := HA7.out.of 1 _ rfl
      have q2 := HM7.out.of 0 _ rfl
      have q3 := HM7.out.of 1 _ rfl
      have q4 := HM7.out.of 2 _ rfl
      have q5 := HM7.out.of 3 _ rfl
      have hz7 := put4_size (put2 w12 w.heap.size (.slice A3 x.notes.length c3) (.int .i64 x.safe)) (w.heap.size + 1) (.int .i64 m.kind) (.int .i64 m.tx) (.slice E1 m.locks.length d1) (.slice E2 m.writes.length d2)
      refine bodyPost_ret (v := .tuple #[.agg #[.slice A3 x.notes.length c3, .int .i64 x.safe], .agg #[.int .i64 m.kind, .int .i64 m.tx, .slice E1 m.locks.length d1, .slice E2 m.writes.length d2], .bool (kb == 0)]) (by simp only [results, Try.results28, go_sem]; simp [go_sem, q0, q1, q2, q3, q4, q5]) rfl ⟨_, x, _, m, _, rfl, HFd.out, HFm.out, ?_, ?_, belowPut4 HB6.out (w.heap.size + 1) (by omega) _ _ _ _⟩
      · exact disk_own.2 ⟨_, rfl, (HD6.out.keep (w' := put4 (put2 w12 w.heap.size (.slice A3 x.notes.length c3) (.int .i64 x.safe)) (w.heap.size + 1) (.int .i64 m.kind) (.int .i64 m.tx) (.slice E1 m.locks.length d1) (.slice E2 m.writes.length d2)) fun b hb _ => put4_far _ _ _ _ _ _ (by have := HSt.out b hb; omega)).mono (fun b hb => by have h1 := HSt.out b hb; exact ⟨by omega, Nat.lt_of_lt_of_le h1.2.1 (by rw [← hz6, ← hz7]; exact Nat.le_refl _)⟩)⟩
      · exact noteSh.omono (noteSh.okeep HO6.out (w' := put4 (put2 w12 w.heap.size (.slice A3 x.notes.length c3) (.int .i64 x.safe)) (w.heap.size + 1) (.int .i64 m.kind) (.int .i64 m.tx) (.slice E1 m.locks.length d1) (.slice E2 m.writes.length d2)) fun b hb _ => put4_far _ _ _ _ _ _ (by have := hb.1; omega)) (fun b hb => ⟨by have := hb.1; omega, Nat.lt_of_lt_of_le hb.2 (Nat.le_trans hzm (by rw [← hz6, ← hz7]; exact Nat.le_refl _))⟩)
    refine AllReadyH.cons (o := _) rfl (fun Kr_12 hKr_12 => ?cr_12) ?mr_12
    case cr_12 =>
      go_simp
      refine (l20Note_any _ _ _ _ HC.out.dr.1 (by omega) (by omega) (by omega)).mono ?_
      rintro e w13 ⟨cs2, m, rfl, hfm, ho2, hd2⟩
      obtain ⟨u5, v5, T1, T2, rfl, hu5, hv5, -, -, -⟩ := note_own.1 ho2
      obtain ⟨E1, d1, rfl, -, -⟩ := hu5.row.form
      obtain ⟨E2, d2, rfl, -, -⟩ := hv5.row.form
      have hzn : wc.heap.size ≤ w13.heap.size := by have h1 : wc.drew.heap.size ≤ w13.heap.size := hd2.2.size; have h2 : wc.drew.heap.size = wc.heap.size := rfl; omega
      replace HC := Lib.hid (HC.out.draw hd2)
      have HO2 := Lib.hid (noteSh.omono ho2 (S' := fun b => wc.heap.size ≤ b ∧ b < w13.heap.size) (fun b hb => ⟨by have h1 : wc.drew.heap.size ≤ b := hb.1; have h2 : wc.drew.heap.size = wc.heap.size := rfl; omega, hb.2⟩))
      have HFm := Lib.hid hfm
      clear hu5 hv5 ho2 hd2 hfm
      go_wp2_with fail
      refine hKr_12.out _ _ ?kr_12 (fun hHeldr_12 => ?dr_12)
      case kr_12 => (first | (dsimp only; (exact trivial)) | (exact trivial))
      clear hKr_12 Kr_12
      refine wpAnyH_ready (rs := [0, 4]) (by kernel_rfl) (by simp) ?_
      refine AllReadyH.cons (o := _) rfl (fun Kr_14 hKr_14 => ?cr_14) ?mr_14
      case cr_14 =>
        have ld0 := HC.out.hx.of 0 _ rfl
        have ld1 := HC.out.hx.of 1 _ rfl
        go_simp
        clear ld0 ld1
        go_wp2_with fail
        refine hKr_14.out _ _ ?kr_14 (fun hHeldr_14 => ?dr_14)
        case kr_14 => (first | (dsimp only; (exact trivial)) | (exact trivial))
        clear hKr_14 Kr_14
        refine wpAnyH_ready (rs := [4]) (by kernel_rfl) (by simp) ?_
        refine AllReadyH.cons (o := _) rfl (fun Kr_15 hKr_15 => ?cr_15) ?mr_15
        case mr_15 => exact AllReadyH.nil
        go_simp
        refine (pick_rds _ _ _ _ HC.out.dr.1 (by omega) (by omega)).mono ?_
        rintro e w14 ⟨kb, rfl, -, -, hd3⟩
        replace HC := Lib.hid (HC.out.draw hd3)
        replace HO2 := Lib.hid (noteSh.okeep HO2.out (w' := w14) (fun b hb hlt => hd3.2.block b hlt (fun e => by have h1 := hb.1; have h2 := Option.some.inj e; omega)))
        have hzm := hd3.2.size
        clear hd3
        go_wp2_with fail
        refine hKr_15.out _ _ ?kr_15 (fun hHeldr_15 => ?dr_15)
        case kr_15 => (first | (dsimp only; (exact trivial)) | (exact trivial))
        clear hKr_15 Kr_15
        refine take_first 5 28 (v := ?vr_16) rfl rfl (by kernel_rfl) (by kernel_rfl) (by kernel_rfl) (fun _ _ _ h => h) (by rfl) ?yr_16 (by assumption) ?rr_16
        case yr_16 => (intro w hSw; (try dsimp only at hSw); go_simp; (try with_reducible rfl))
        simp only [Act.put, List.setIfInBounds_toArray, List.set_cons_zero, List.set_cons_succ]
        refine wpAnyH_ready (rs := [6]) (by kernel_rfl) (by simp) ?_
        refine AllReadyH.cons (o := _) rfl (fun Kr_17 hKr_17 => ?cr_17) ?mr_17
        case mr_17 => exact AllReadyH.nil
        have HA := Lib.hid (HH1.out.drew HC.out.dr (by omega))
        have HM := Lib.hid (HN1.out.drew HC.out.dr (by omega))
        have HBw := Lib.hid (HB1.out.trans (HC.out.dr.below (B := w.heap.size) (by omega) HB1.out.size))
        have st0 := HA.out.of 0 _ rfl
        have st1 := HA.out.of 1 _ rfl
        have stf := HA.out.2.1
        go_simp
        clear st0 st1 stf
        have HA6 := Lib.hid (HA.out.put2 (.slice A3 x.notes.length c3) (.int .i64 x.safe))
        have HM6 := Lib.hid (show Held (put2 w14 w.heap.size (.slice A3 x.notes.length c3) (.int .i64 x.safe)) (w.heap.size + 1) [.int .i64 0, .int .i64 0, .slice none 0 0, .slice none 0 0] from (HM.out.farS (p := ⟨w.heap.size, 0, none⟩) (by show w.heap.size + 1 ≠ w.heap.size; omega) _).farS (p := ⟨w.heap.size, 1, none⟩) (by show w.heap.size + 1 ≠ w.heap.size; omega) _)
        have HD6 := Lib.hid (HC.out.own.keep (w' := (put2 w14 w.heap.size (.slice A3 x.notes.length c3) (.int .i64 x.safe))) fun b hb _ => put2_far _ _ _ _ (by have := HC.out.st b hb; omega))
        have HO6 := Lib.hid (noteSh.okeep HO2.out (w' := (put2 w14 w.heap.size (.slice A3 x.notes.length c3) (.int .i64 x.safe))) fun b hb _ => put2_far _ _ _ _ (by have := hb.1; omega))
        have HB6 := Lib.hid (belowPut2 HBw.out w.heap.size (Nat.le_refl _) (.slice A3 x.notes.length c3) (.int .i64 x.safe))
        have hz6 := put2_size w14 w.heap.size (.slice A3 x.notes.length c3) (.int .i64 x.safe)
        have HSt := Lib.hid HC.out.st
        have hzz := HC.out.dr.2.size
        clear HC HO2 HA HM HBw
        go_wp2_with fail
        refine hKr_17.out _ _ ?kr_17 (fun hHeldr_17 => ?dr_17)
        case kr_17 => (first | (dsimp only; (exact trivial)) | (exact trivial))
        clear hKr_17 Kr_17
        refine wpAnyH_ready (rs := [7]) (by kernel_rfl) (by simp) ?_
        refine AllReadyH.cons (o := _) rfl (fun Kr_18 hKr_18 => ?cr_18) ?mr_18
        case mr_18 => exact AllReadyH.nil
        have st0 := HM6.out.of 0 _ rfl
        have st1 := HM6.out.of 1 _ rfl
        have st2 := HM6.out.of 2 _ rfl
        have st3 := HM6.out.of 3 _ rfl
        have stf := HM6.out.2.1
        go_simp
        clear st0 st1 st2 st3 stf
        go_wp2_with fail
        refine hKr_18.out _ _ ?kr_18 (fun hHeldr_18 => ?dr_18)
        case kr_18 => (first | (dsimp only; (exact trivial)) | (exact trivial))
        clear hKr_18 Kr_18
        refine take_first 8 4 (v := ?vr_19) rfl rfl (by kernel_rfl) (by kernel_rfl) (by kernel_rfl) (fun _ _ _ h => h) (by rfl) ?yr_19 (by assumption) ?rr_19
        case yr_19 => (intro w hSw; (try dsimp only at hSw); go_simp; (try with_reducible rfl))
        simp only [Act.put, List.setIfInBounds_toArray, List.set_cons_zero, List.set_cons_succ]
        refine wpAnyH_done (by kernel_rfl) ?er_20 _
        go_wp2
        have HM7 := Lib.hid (HM6.out.put4 (.int .i64 m.kind) (.int .i64 m.tx) (.slice E1 m.locks.length d1) (.slice E2 m.writes.length d2))
        have HA7 := Lib.hid (HA6.out.keep4 (q := w.heap.size + 1) (by omega) (.int .i64 m.kind) (.int .i64 m.tx) (.slice E1 m.locks.length d1) (.slice E2 m.writes.length d2))
        have q0 := HA7.out.of 0 _ rfl
        have q1 := HA7.out.of 1 _ rfl
        have q2 := HM7.out.of 0 _ rfl
        have q3 := HM7.out.of 1 _ rfl
        have q4 := HM7.out.of 2 _ rfl
        have q5 := HM7.out.of 3 _ rfl
        have hz7 := put4_size (put2 w14 w.heap.size (.slice A3 x.notes.length c3) (.int .i64 x.safe)) (w.heap.size + 1) (.int .i64 m.kind) (.int .i64 m.tx) (.slice E1 m.locks.length d1) (.slice E2 m.writes.length d2)
        refine bodyPost_ret (v := .tuple #[.agg #[.slice A3 x.notes.length c3, .int .i64 x.safe], .agg #[.int .i64 m.kind, .int .i64 m.tx, .slice E1 m.locks.length d1, .slice E2 m.writes.length d2], .bool (kb == 0)]) (by simp only [results, Try.results28, go_sem]; simp [go_sem, q0, q1, q2, q3, q4, q5]) rfl ⟨_, x, _, m, _, rfl, HFd.out, HFm.out, ?_, ?_, belowPut4 HB6.out (w.heap.size + 1) (by omega) _ _ _ _⟩
        · exact disk_own.2 ⟨_, rfl, (HD6.out.keep (w' := put4 (put2 w14 w.heap.size (.slice A3 x.notes.length c3) (.int .i64 x.safe)) (w.heap.size + 1) (.int .i64 m.kind) (.int .i64 m.tx) (.slice E1 m.locks.length d1) (.slice E2 m.writes.length d2)) fun b hb _ => put4_far _ _ _ _ _ _ (by have := HSt.out b hb; omega)).mono (fun b hb => by have h1 := HSt.out b hb; exact ⟨by omega, Nat.lt_of_lt_of_le h1.2.1 (by rw [← hz6, ← hz7]; exact Nat.le_refl _)⟩)⟩
        · exact noteSh.omono (noteSh.okeep HO6.out (w' := put4 (put2 w14 w.heap.size (.slice A3 x.notes.length c3) (.int .i64 x.safe)) (w.heap.size + 1) (.int .i64 m.kind) (.int .i64 m.tx) (.slice E1 m.locks.length d1) (.slice E2 m.writes.length d2)) fun b hb _ => put4_far _ _ _ _ _ _ (by have := hb.1; omega)) (fun b hb => ⟨by have := hb.1; omega, Nat.lt_of_lt_of_le hb.2 (Nat.le_trans hzm (by rw [← hz6, ← hz7]; exact Nat.le_refl _))⟩)
      refine AllReadyH.cons (o := _) rfl (fun Kr_21 hKr_21 => ?cr_21) ?mr_21
      case cr_21 =>
        go_simp
        refine (pick_rds _ _ _ _ HC.out.dr.1 (by omega) (by omega)).mono ?_
        rintro e w15 ⟨kb, rfl, -, -, hd3⟩
        replace HC := Lib.hid (HC.out.draw hd3)
        replace HO2 := Lib.hid (noteSh.okeep HO2.out (w' := w15) (fun b hb hlt => hd3.2.block b hlt (fun e => by have h1 := hb.1; have h2 := Option.some.inj e; omega)))
        have hzm := hd3.2.size
        clear hd3
        go_wp2_with fail
        refine hKr_21.out _ _ ?kr_21 (fun hHeldr_21 => ?dr_21)
        case kr_21 => (first | (dsimp only; (exact trivial)) | (exact trivial))
        clear hKr_21 Kr_21
        refine take_first 5 28 (v := ?vr_22) rfl rfl (by kernel_rfl) (by kernel_rfl) (by kernel_rfl) (fun _ _ _ h => h) (by rfl) ?yr_22 (by assumption) ?rr_22
        case yr_22 => (intro w hSw; (try dsimp only at hSw); go_simp; (try with_reducible rfl))
        simp only [Act.put, List.setIfInBounds_toArray, List.set_cons_zero, List.set_cons_succ]
        refine wpAnyH_ready (rs := [0]) (by kernel_rfl) (by simp) ?_
        refine AllReadyH.cons (o := _) rfl (fun Kr_23 hKr_23 => ?cr_23) ?mr_23
        case mr_23 => exact AllReadyH.nil
        have ld0 := HC.out.hx.of 0 _ rfl
        have ld1 := HC.out.hx.of 1 _ rfl
        go_simp
        clear ld0 ld1
        go_wp2_with fail
        refine hKr_23.out _ _ ?kr_23 (fun hHeldr_23 => ?dr_23)
        case kr_23 => (first | (dsimp only; (exact trivial)) | (exact trivial))
        clear hKr_23 Kr_23
        refine wpAnyH_ready (rs := [6]) (by kernel_rfl) (by simp) ?_
        refine AllReadyH.cons (o := _) rfl (fun Kr_24 hKr_24 => ?cr_24) ?mr_24
        case mr_24 => exact AllReadyH.nil
        have HA := Lib.hid (HH1.out.drew HC.out.dr (by omega))
        have HM := Lib.hid (HN1.out.drew HC.out.dr (by omega))
        have HBw := Lib.hid (HB1.out.trans (HC.out.dr.below (B := w.heap.size) (by omega) HB1.out.size))
        have st0 := HA.out.of 0 _ rfl
        have st1 := HA.out.of 1 _ rfl
        have stf := HA.out.2.1
        go_simp
        clear st0 st1 stf
        have HA6 := Lib.hid (HA.out.put2 (.slice A3 x.notes.length c3) (.int .i64 x.safe))
        have HM6 := Lib.hid (show Held (put2 w15 w.heap.size (.slice A3 x.notes.length c3) (.int .i64 x.safe)) (w.heap.size + 1) [.int .i64 0, .int .i64 0, .slice none 0 0, .slice none 0 0] from (HM.out.farS (p := ⟨w.heap.size, 0, none⟩) (by show w.heap.size + 1 ≠ w.heap.size; omega) _).farS (p := ⟨w.heap.size, 1, none⟩) (by show w.heap.size + 1 ≠ w.heap.size; omega) _)
        have HD6 := Lib.hid (HC.out.own.keep (w' := (put2 w15 w.heap.size (.slice A3 x.notes.length c3) (.int .i64 x.safe))) fun b hb _ => put2_far _ _ _ _ (by have := HC.out.st b hb; omega))
        have HO6 := Lib.hid (noteSh.okeep HO2.out (w' := (put2 w15 w.heap.size (.slice A3 x.notes.length c3) (.int .i64 x.safe))) fun b hb _ => put2_far _ _ _ _ (by have := hb.1; omega))
        have HB6 := Lib.hid (belowPut2 HBw.out w.heap.size (Nat.le_refl _) (.slice A3 x.notes.length c3) (.int .i64 x.safe))
        have hz6 := put2_size w15 w.heap.size (.slice A3 x.notes.length c3) (.int .i64 x.safe)
        have HSt := Lib.hid HC.out.st
        have hzz := HC.out.dr.2.size
        clear HC HO2 HA HM HBw
        go_wp2_with fail
        refine hKr_24.out _ _ ?kr_24 (fun hHeldr_24 => ?dr_24)
        case kr_24 => (first | (dsimp only; (exact trivial)) | (exact trivial))
        clear hKr_24 Kr_24
        refine wpAnyH_ready (rs := [7]) (by kernel_rfl) (by simp) ?_
        refine AllReadyH.cons (o := _) rfl (fun Kr_25 hKr_25 => ?cr_25) ?mr_25
        case mr_25 => exact AllReadyH.nil
        have st0 := HM6.out.of 0 _ rfl
        have st1 := HM6.out.of 1 _ rfl
        have st2 := HM6.out.of 2 _ rfl
        have st3 := HM6.out.of 3 _ rfl
        have stf := HM6.out.2.1
        go_simp
        clear st0 st1 st2 st3 stf
        go_wp2_with fail
        refine hKr_25.out _ _ ?kr_25 (fun hHeldr_25 => ?dr_25)
        case kr_25 => (first | (dsimp only; (exact trivial)) | (exact trivial))
        clear hKr_25 Kr_25
        refine take_first 8 4 (v := ?vr_26) rfl rfl (by kernel_rfl) (by kernel_rfl) (by kernel_rfl) (fun _ _ _ h => h) (by rfl) ?yr_26 (by assumption) ?rr_26
        case yr_26 => (intro w hSw; (try dsimp only at hSw); go_simp; (try with_reducible rfl))
        simp only [Act.put, List.setIfInBounds_toArray, List.set_cons_zero, List.set_cons_succ]
        refine wpAnyH_done (by kernel_rfl) ?er_27 _
        go_wp2
        have HM7 := Lib.hid (HM6.out.put4 (.int .i64 m.kind) (.int .i64 m.tx) (.slice E1 m.locks.length d1) (.slice E2 m.writes.length d2))
        have HA7 := Lib.hid (HA6.out.keep4 (q := w.heap.size + 1) (by omega) (.int .i64 m.kind) (.int .i64 m.tx) (.slice E1 m.locks.length d1) (.slice E2 m.writes.length d2))
        have q0 := HA7.out.of 0 _ rfl
        have q1 := HA7.out.of 1 _ rfl
        have q2 := HM7.out.of 0 _ rfl
        have q3 := HM7.out.of 1 _ rfl
        have q4 := HM7.out.of 2 _ rfl
        have q5 := HM7.out.of 3 _ rfl
        have hz7 := put4_size (put2 w15 w.heap.size (.slice A3 x.notes.length c3) (.int .i64 x.safe)) (w.heap.size + 1) (.int .i64 m.kind) (.int .i64 m.tx) (.slice E1 m.locks.length d1) (.slice E2 m.writes.length d2)
        refine bodyPost_ret (v := .tuple #[.agg #[.slice A3 x.notes.length c3, .int .i64 x.safe], .agg #[.int .i64 m.kind, .int .i64 m.tx, .slice E1 m.locks.length d1, .slice E2 m.writes.length d2], .bool (kb == 0)]) (by simp only [results, Try.results28, go_sem]; simp [go_sem, q0, q1, q2, q3, q4, q5]) rfl ⟨_, x, _, m, _, rfl, HFd.out, HFm.out, ?_, ?_, belowPut4 HB6.out (w.heap.size + 1) (by omega) _ _ _ _⟩
        · exact disk_own.2 ⟨_, rfl, (HD6.out.keep (w' := put4 (put2 w15 w.heap.size (.slice A3 x.notes.length c3) (.int .i64 x.safe)) (w.heap.size + 1) (.int .i64 m.kind) (.int .i64 m.tx) (.slice E1 m.locks.length d1) (.slice E2 m.writes.length d2)) fun b hb _ => put4_far _ _ _ _ _ _ (by have := HSt.out b hb; omega)).mono (fun b hb => by have h1 := HSt.out b hb; exact ⟨by omega, Nat.lt_of_lt_of_le h1.2.1 (by rw [← hz6, ← hz7]; exact Nat.le_refl _)⟩)⟩
        · exact noteSh.omono (noteSh.okeep HO6.out (w' := put4 (put2 w15 w.heap.size (.slice A3 x.notes.length c3) (.int .i64 x.safe)) (w.heap.size + 1) (.int .i64 m.kind) (.int .i64 m.tx) (.slice E1 m.locks.length d1) (.slice E2 m.writes.length d2)) fun b hb _ => put4_far _ _ _ _ _ _ (by have := hb.1; omega)) (fun b hb => ⟨by have := hb.1; omega, Nat.lt_of_lt_of_le hb.2 (Nat.le_trans hzm (by rw [← hz6, ← hz7]; exact Nat.le_refl _))⟩)
      exact AllReadyH.nil
    exact AllReadyH.nil

end Go.Proofs.Ytkamlibfcakblaa
