/- Texts that follow each other, merged: L2Copy, SDisk. -/
import Derived.Test.YtkamlibfcakblaaXL2Note
import Derived.Test.YtkamlibfcakblaaXNoteOkS

/- The model's copy of a place's notes. -/
namespace Go.Proofs.Ytkamlibfcakblaa
open Go.RowKit

/-- What holds between two rounds: the copy's box, the notes so far. -/
def LcW (w : World) (Au : Option Addr) (cu : Nat) (x : Disk) (k : Nat) (wr : World) : Prop :=
  ∃ A c S, Held wr (w.heap.size + 1 + 1) [.slice A k c, .int .i64 x.safe] ∧ noteSh.Own 36 wr S (.slice A k c) (x.notes.take k) ∧ (∀ b, S b → w.heap.size + 1 + 1 < b ∧ b < wr.heap.size) ∧
    Held wr w.heap.size [.slice Au x.notes.length cu, .int .i64 x.safe] ∧ Held wr (w.heap.size + 1) [.slice none 0 0, .int .i64 0] ∧ Below w.heap.size w wr

set_option maxRecDepth 100000 in
set_option maxHeartbeats 4000000 in
theorem l2Copy_any (w : World) (cs : List Value) (x : Disk) (h : diskSh.rel w w.heap.size cs x) (hl : x.notes.length ≤ 1000000) (hsm : ∀ n ∈ x.notes, SmallN n) :
    Calls Try.prog 78 #[.agg cs.toArray] w (DiskMade x w) := by
  obtain ⟨u, rfl, hu⟩ := disk_rel.1 h
  obtain ⟨Au, cu, rfl, hcu, hlu⟩ := hu.form
  unfold maxLen at hcu
  have HU := Lib.hid fun W (hb : Below w.heap.size w W) => hu.below hb
  have HI := Lib.hid (show LcW w Au cu x 0 (((w.alloc (.cells #[.slice Au x.notes.length cu, .int .i64 x.safe] 25)).alloc (.cells #[.slice none 0 0, .int .i64 0] 25)).alloc (.cells #[.slice none 0 0, .int .i64 x.safe] 25)) from ⟨none, 0, fun _ => False, (by have h := Held.new ((w.alloc (.cells #[.slice Au x.notes.length cu, .int .i64 x.safe] 25)).alloc (.cells #[.slice none 0 0, .int .i64 0] 25)) #[.slice none 0 0, .int .i64 x.safe] 25; rwa [allocSize, allocSize] at h), Sh.Own.nil _ _, fun _ h => h.elim, ((Held.new w #[.slice Au x.notes.length cu, .int .i64 x.safe] 25).after _).after _, (by have h := Held.new (w.alloc (.cells #[.slice Au x.notes.length cu, .int .i64 x.safe] 25)) #[.slice none 0 0, .int .i64 0] 25; rw [allocSize] at h; exact h.after _), belowThree w _ _ _⟩)
  have HSm := Lib.hid hsm
  clear h hu hsm
  go_enter Try.func78, Try.ntmps78
  go_wp2
  go_loopw [4] (fun i wr => ∃ k : Nat, k ≤ x.notes.length ∧ i = .int .i64 k ∧ LcW w Au cu x k wr) (fun i _ => x.notes.length - (intOf i).toNat)
  case atStart => exact ⟨0, Nat.zero_le _, rfl, HI.out⟩
  case round =>
    clear HI
    obtain ⟨k, hk, rfl, A, c, S, hH, hO, hS, hX, hR, hB⟩ := hrel
    have x0 := hX.of 0 _ rfl
    by_cases hlt : k < x.notes.length
    · obtain ⟨b, off, c', y, A1, c1, A2, c2, e1, hy, hBb, d0, d1', d2', d3, hrel⟩ := notes_at2 (HU.out _ hB) hlt
      injection e1 with e1a e1b e1c
      subst e1a
      have hys := HSm.out y (List.mem_of_getElem? hy)
      have htl : (x.notes.take k).length ≤ 1048576 := by rw [List.length_take]; omega
      have hbW := hB.size
      have HN : Hid (noteSh.rel wr.drew wr.drew.heap.size [.int .i64 y.kind, .int .i64 y.tx, .slice A1 y.locks.length c1, .slice A2 y.writes.length c2] y) := Lib.hid (noteSh.rmore (B' := wr.heap.size) (show noteSh.rel wr.drew w.heap.size _ y from hrel) hbW)
      have HLk := Lib.hid fun (Y : World) (hb : Below w.heap.size wr Y) => And.intro ((hb.cell (p := ⟨b, off + k * 4, none⟩) hBb).trans d0) (And.intro ((hb.cell (p := ⟨b, off + k * 4 + 1, none⟩) hBb).trans d1') (And.intro ((hb.cell (p := ⟨b, off + k * 4 + 2, none⟩) hBb).trans d2') ((hb.cell (p := ⟨b, off + k * 4 + 3, none⟩) hBb).trans d3)))
      have HH := Lib.hid hH
      have HO := Lib.hid hO
      have HS := Lib.hid hS
      have HX := Lib.hid hX
      have HR := Lib.hid hR
      have HB := Lib.hid hB
      have HY := Lib.hid hy
      have HSy := Lib.hid hys
      have hwz : w.heap.size + 1 + 1 < wr.heap.size := hH.1
      have k0 : wr.drew.cell? ⟨w.heap.size + 1 + 1, 0, none⟩ = some (.slice A k c) ∧ wr.drew.cell? ⟨w.heap.size, 0, none⟩ = some (.slice (some ⟨b, off, none⟩) x.notes.length cu) ∧ wr.drew.cell? ⟨b, off + k * 4, none⟩ = some (.int .i64 y.kind) ∧ wr.drew.cell? ⟨b, off + k * 4 + 1, none⟩ = some (.int .i64 y.tx) ∧ wr.drew.cell? ⟨b, off + k * 4 + 2, none⟩ = some (.slice A1 y.locks.length c1) ∧ wr.drew.cell? ⟨b, off + k * 4 + 3, none⟩ = some (.slice A2 y.writes.length c2) := ⟨hH.of 0 _ rfl, x0, d0, d1', d2', d3⟩
      clear e1b e1c hH hO hS hX hR hB hy hys hrel d0 d1' d2' d3
      go_wp2
      refine region_l (S := (fun w' => w'.cell? ⟨w.heap.size + 1 + 1, 0, none⟩ = some (.slice A k c) ∧ w'.cell? ⟨w.heap.size, 0, none⟩ = some (.slice (some ⟨b, off, none⟩) x.notes.length cu) ∧ w'.cell? ⟨b, off + k * 4, none⟩ = some (.int .i64 y.kind) ∧ w'.cell? ⟨b, off + k * 4 + 1, none⟩ = some (.int .i64 y.tx) ∧ w'.cell? ⟨b, off + k * 4 + 2, none⟩ = some (.slice A1 y.locks.length c1) ∧ w'.cell? ⟨b, off + k * 4 + 3, none⟩ = some (.slice A2 y.writes.length c2))) 11 (by kernel_rfl) ?hSr (fun hHeldr => ?str)
      case hSr => (first | (dsimp only; (first | with_reducible exact k3 | with_reducible exact k2 | with_reducible exact k1 | exact k0)) | (first | with_reducible exact k3 | with_reducible exact k2 | with_reducible exact k1 | exact k0))
      refine take_l 0 15 (v := ?vr_1) rfl rfl (by kernel_rfl) (by kernel_rfl) (by kernel_rfl) (by kernel_rfl) (fun _ _ _ h => h) (by rfl) ?yr_1 (by assumption) ?rr_1
      case yr_1 => (intro w hSw; (try dsimp only at hSw); go_simp; (try with_reducible rfl))
      simp only [Act.put, List.setIfInBounds_toArray, List.set_cons_zero, List.set_cons_succ]
      refine take_l 1 16 (v := ?vr_2) rfl rfl (by kernel_rfl) (by kernel_rfl) (by kernel_rfl) (by kernel_rfl) (fun _ _ _ h => h) (by rfl) ?yr_2 (by assumption) ?rr_2
      case yr_2 => (intro w hSw; (try dsimp only at hSw); go_simp; (try with_reducible rfl))
      simp only [Act.put, List.setIfInBounds_toArray, List.set_cons_zero, List.set_cons_succ]
      refine take_l 2 17 (v := ?vr_3) rfl rfl (by kernel_rfl) (by kernel_rfl) (by kernel_rfl) (by kernel_rfl) (fun _ _ _ h => h) (by rfl) ?yr_3 (by assumption) ?rr_3
      case yr_3 => (intro w hSw; (try dsimp only at hSw); go_simp; (try with_reducible rfl))
      simp only [Act.put, List.setIfInBounds_toArray, List.set_cons_zero, List.set_cons_succ]
      refine take_l 3 18 (v := ?vr_4) rfl rfl (by kernel_rfl) (by kernel_rfl) (by kernel_rfl) (by kernel_rfl) (fun _ _ _ h => h) (by rfl) ?yr_4 (by assumption) ?rr_4
      case yr_4 => (intro w hSw; (try dsimp only at hSw); go_simp; (try with_reducible rfl))
      simp only [Act.put, List.setIfInBounds_toArray, List.set_cons_zero, List.set_cons_succ]
      refine take_l 4 19 (v := ?vr_5) rfl rfl (by kernel_rfl) (by kernel_rfl) (by kernel_rfl) (by kernel_rfl) (fun _ _ _ h => h) (by rfl) ?yr_5 (by assumption) ?rr_5
      case yr_5 => (intro w hSw; (try dsimp only at hSw); go_simp; (try with_reducible rfl))
      simp only [Act.put, List.setIfInBounds_toArray, List.set_cons_zero, List.set_cons_succ]
      refine take_l 5 20 (v := ?vr_6) rfl rfl (by kernel_rfl) (by kernel_rfl) (by kernel_rfl) (by kernel_rfl) (fun _ _ _ h => h) (by rfl) ?yr_6 (by assumption) ?rr_6
      case yr_6 => (intro w hSw; (try dsimp only at hSw); go_simp; (try with_reducible rfl))
      simp only [Act.put, List.setIfInBounds_toArray, List.set_cons_zero, List.set_cons_succ]
      refine take_l 6 21 (v := ?vr_7) rfl rfl (by kernel_rfl) (by kernel_rfl) (by kernel_rfl) (by kernel_rfl) (fun _ _ _ h => h) (by rfl) ?yr_7 (by assumption) ?rr_7
      case yr_7 => (intro w hSw; (try dsimp only at hSw); go_simp; (try with_reducible rfl))
      simp only [Act.put, List.setIfInBounds_toArray, List.set_cons_zero, List.set_cons_succ]
      refine one_l 7 rfl (by kernel_rfl) (fun Kr_8 hKr_8 => ?cr_8)
      go_simp
      refine (l2Note_any wr.drew y _ HN.out HSy.out.1 HSy.out.2.1 HSy.out.2.2).mono ?_; rintro e w1 ⟨cs1, rfl, ho1, hb1⟩; obtain ⟨u1, v1, S1, S2, rfl, hu1, hv1, -, -, -⟩ := note_own.1 ho1; obtain ⟨E1, d1, hf1, -, -⟩ := hu1.row.form; obtain ⟨E2, d2, hf2, -, -⟩ := hv1.row.form; subst hf1 hf2; have HB1 := Lib.hid (show Below wr.heap.size wr w1 from (Below.refl _ wr).drew.trans hb1); have HH1 := Lib.hid (HH.out.below HB1.out HH.out.1); have HX1 := Lib.hid (HX.out.below HB1.out HX.out.1); have HR1 := Lib.hid (HR.out.below HB1.out HR.out.1); have HO1 := Lib.hid (HO.out.below HB1.out); have k1 := And.intro (HH1.out.of 0 _ rfl) (And.intro (HX1.out.of 0 _ rfl) (HLk.out _ (HB1.out.mono hbW))); have HH2 := Lib.hid (HH1.out.after (.cells #[.int .i64 y.kind, .int .i64 y.tx, .slice E1 y.locks.length d1, .slice E2 y.writes.length d2] 36)); have HX2 := Lib.hid (HX1.out.after (.cells #[.int .i64 y.kind, .int .i64 y.tx, .slice E1 y.locks.length d1, .slice E2 y.writes.length d2] 36)); have HR2 := Lib.hid (HR1.out.after (.cells #[.int .i64 y.kind, .int .i64 y.tx, .slice E1 y.locks.length d1, .slice E2 y.writes.length d2] 36)); have HO2 := Lib.hid (HO1.out.below (belowOne w1 (.cells #[.int .i64 y.kind, .int .i64 y.tx, .slice E1 y.locks.length d1, .slice E2 y.writes.length d2] 36))); have HB2 := Lib.hid (HB1.out.alloc HB1.out.size (.cells #[.int .i64 y.kind, .int .i64 y.tx, .slice E1 y.locks.length d1, .slice E2 y.writes.length d2] 36)); have k2 := And.intro (HH2.out.of 0 _ rfl) (And.intro (HX2.out.of 0 _ rfl) (HLk.out _ (HB2.out.mono hbW))); have HN2 := Lib.hid (noteSh.okeep ho1 (w' := w1.alloc (.cells #[.int .i64 y.kind, .int .i64 y.tx, .slice E1 y.locks.length d1, .slice E2 y.writes.length d2] 36)) (fun b _ hlt => (belowOne w1 _).block b hlt)); have hz1 := HB1.out.size; clear hb1 hu1 hv1 ho1
      go_wp2_with fail
      refine hKr_8.out _ _ ?kr_8 (fun hHoldr_8 => ?dr_8)
      case kr_8 => (intro _; (first | (dsimp only; (first | with_reducible exact k3 | with_reducible exact k2 | with_reducible exact k1 | exact k0)) | (first | with_reducible exact k3 | with_reducible exact k2 | with_reducible exact k1 | exact k0)))
      clear hKr_8 Kr_8
      have hHeldr_8 := hHoldr_8 (by decide)
      clear hHoldr_8
      refine one_l 8 rfl (by kernel_rfl) (fun Kr_9 hKr_9 => ?cr_9)
      go_simp
      skip
      go_wp2_with fail
      refine hKr_9.out _ _ ?kr_9 (fun hHoldr_9 => ?dr_9)
      case kr_9 => (intro _; (first | (dsimp only; (first | with_reducible exact k3 | with_reducible exact k2 | with_reducible exact k1 | exact k0)) | (first | with_reducible exact k3 | with_reducible exact k2 | with_reducible exact k1 | exact k0)))
      clear hKr_9 Kr_9
      have hHeldr_9 := hHoldr_9 (by decide)
      clear hHoldr_9
      refine one_l 9 rfl (by kernel_rfl) (fun Kr_10 hKr_10 => ?cr_10)
      rw [if_pos (by rfl)]
      refine app_one noteSh 23 36 _ 64 Try.underlying23 infoNoteA rfl (by decide) (by omega) (.tmp 16) (.tmp 23) rfl S _ _ (x.notes.take k) rfl HO2.out w1.heap.size rfl _ y HN2.out (Held.new w1 _ _) (fun b hb hb2 => by have := (HS.out b hb).2; have := hb2.1; have : wr.drew.heap.size = wr.heap.size := rfl; omega) htl ?_; intro v3 w3 ho3 hg3 _; obtain ⟨A3, c3, hf3, -, -⟩ := ho3.row.form; rw [List.length_append, List.length_take, Nat.min_eq_left hk, List.length_singleton] at hf3; subst hf3; have HH3 := Lib.hid (HH2.out.outs (Outs.of_grown (S := S) hg3 (HO2.out.blk)) (fun h => by have := (HS.out _ h).1; omega)); have HX3 := Lib.hid (HX2.out.outs (Outs.of_grown (S := S) hg3 (HO2.out.blk)) (fun h => by have := (HS.out _ h).1; omega)); have HR3 := Lib.hid (HR2.out.outs (Outs.of_grown (S := S) hg3 (HO2.out.blk)) (fun h => by have := (HS.out _ h).1; omega)); have HB3 := Lib.hid ((HB2.out.mono hbW).grown hg3 (by rw [allocSize]; omega) (fun q hq => by have := (HS.out _ (HO2.out.blk q hq)).1; omega)); have f3 := HH3.out.2.1 0; have k3 := And.intro (HH3.out.of 0 _ rfl) (And.intro (HX3.out.of 0 _ rfl) (HLk.out _ HB3.out)); have HO3 := Lib.hid ho3.cap; have HG3 := Lib.hid hg3; clear ho3 hg3
      refine hKr_10.out _ _ ?kr_10 (fun hHoldr_10 => ?dr_10)
      case kr_10 => (intro _; (first | (dsimp only; (first | with_reducible exact k3 | with_reducible exact k2 | with_reducible exact k1 | exact k0)) | (first | with_reducible exact k3 | with_reducible exact k2 | with_reducible exact k1 | exact k0)))
      clear hKr_10 Kr_10
      have hHeldr_10 := hHoldr_10 (by decide)
      clear hHoldr_10
      refine take_l 10 25 (v := ?vr_11) rfl rfl (by kernel_rfl) (by kernel_rfl) (by kernel_rfl) (by kernel_rfl) (fun _ _ _ h => h) (by rfl) ?yr_11 (by assumption) ?rr_11
      case yr_11 => (intro w hSw; (try dsimp only at hSw); go_simp; (try with_reducible rfl))
      simp only [Act.put, List.setIfInBounds_toArray]
      refine one_l 11 rfl (by kernel_rfl) (fun Kr_12 hKr_12 => ?cr_12)
      go_simp
      skip
      go_wp2_with fail
      refine hKr_12.out _ _ ?kr_12 (fun hHoldr_12 => ?dr_12)
      case kr_12 => exact fun h => absurd rfl h
      clear hKr_12 Kr_12
      clear hHoldr_12
      refine done_l (by kernel_rfl) ?er _
      have hz3 := HG3.out.size
      rw [allocSize] at hz3
      rw [← take_snoc HY.out] at HO3
      have HN := Lib.hid (show LcW w (some ⟨b, off, none⟩) cu x (k + 1) (w3.setCell ⟨w.heap.size + 1 + 1, 0, none⟩ (.slice A3 (k + 1) c3)) from by
        have hset : ∀ q, (S q ∨ (wr.drew.heap.size ≤ q ∧ q < w1.heap.size) ∨ q = (w1.alloc (.cells #[.int .i64 y.kind, .int .i64 y.tx, .slice E1 y.locks.length d1, .slice E2 y.writes.length d2] 36)).heap.size) ∧ q < w3.heap.size → w.heap.size + 1 + 1 < q ∧ q < w3.heap.size := fun q hq => by
          have hdw : wr.drew.heap.size = wr.heap.size := rfl
          rcases hq.1 with h | h | h
          · have := HS.out q h; omega
          · omega
          · rw [allocSize] at h; omega
        refine ⟨A3, c3, _, HH3.out.set_ (i := 0) (.slice A3 (k + 1) c3), HO3.out.keep fun q hq _ => Below.heap_setCell _ _ _ _ (by have := (hset q hq).1; show q ≠ w.heap.size + 1 + 1; omega), fun q hq => ⟨(hset q hq).1, by have := (hset q hq).2; simp [World.setCell]; omega⟩, HX3.out.farS (by show w.heap.size ≠ w.heap.size + 1 + 1; omega) _, HR3.out.farS (by show w.heap.size + 1 ≠ w.heap.size + 1 + 1; omega) _, HB.out.trans (HB3.out.setCell (by show w.heap.size ≤ w.heap.size + 1 + 1; omega) _)⟩)
      clear HH HO HS HX HR HB HY HH1 HX1 HR1 HO1 HH2 HX2 HR2 HO2 HB2 HN2 HH3 HX3 HR3 HB3 HO3 HG3 k0 k1 k2 k3
      go_wp2
      go_roundw
      case rel => exact ⟨k + 1, by omega, by go_num, HN.out⟩
      case measure => simp [intOf]; omega
    · obtain rfl : k = x.notes.length := by omega
      rw [List.take_length] at hO
      have g0 := hH.of 0 _ rfl
      have g1 := hH.of 1 _ rfl
      have r0 := hR.of 0 _ rfl
      have r1 := hR.of 1 _ rfl
      have rf := hR.2.1
      have HR := Lib.hid hR
      have HO := Lib.hid hO
      have HS := Lib.hid hS
      have HB := Lib.hid hB
      clear hH hO hS hX hR hB
      go_wp2
      have HQ := HR.out.put2 (.slice A x.notes.length c) (.int .i64 x.safe)
      have q0 := HQ.of 0 _ rfl
      have q1 := HQ.of 1 _ rfl
      refine bodyPost_ret (v := .agg #[.slice A x.notes.length c, .int .i64 x.safe]) (by simp only [results, Try.results78, go_sem]; simp [go_sem, q0, q1]) rfl ⟨_, rfl, disk_own.2 ⟨_, rfl, (own_put2 HO.out (fun b hb => by have := (HS.out b hb).1; omega) _ _).mono fun b hb => ⟨by have := (HS.out b hb).1; omega, by have := (HS.out b hb).2; rw [put2_size]; exact this⟩⟩, belowPut2 HB.out (w.heap.size + 1) (by omega) _ _⟩

end Go.Proofs.Ytkamlibfcakblaa

/- The model's DiskAdd and DiskFall. -/
namespace Go.Proofs.Ytkamlibfcakblaa
open Go.RowKit

set_option maxRecDepth 100000 in
set_option maxHeartbeats 2000000 in
theorem specDiskAdd_any (w : World) (cs ds : List Value) (x : Disk) (n : Note) (safe : Bool) (h : diskSh.rel w w.heap.size cs x) (hn : noteSh.rel w w.heap.size ds n) :
    Calls Try.prog 29 #[.agg cs.toArray, .agg ds.toArray, .bool safe] w (AddMade x n safe w) := by
  have HV := Lib.hid fun W (hb : Below w.heap.size w W) => diskSh.rmore (diskSh.rbelow h hb) hb.size
  have HN := Lib.hid fun W (hb : Below w.heap.size w W) => noteSh.rmore (noteSh.rbelow hn hb) hb.size
  have HN0 := Lib.hid fun W (hb : Below w.heap.size w W) => noteSh.rbelow hn hb
  obtain ⟨u, rfl, hu⟩ := disk_rel.1 h
  obtain ⟨Au, cu, rfl, -, -⟩ := hu.form
  obtain ⟨a, b, rfl, ha, hb⟩ := note_rel.1 hn
  obtain ⟨Bu, bu, rfl, -, -⟩ := ha.form
  obtain ⟨Bv, bv, rfl, -, -⟩ := hb.form
  have HU := Lib.hid fun W (hb : Below w.heap.size w W) => (hu.below hb).more hb.size
  have HB := Lib.hid (belowThree w (.cells #[.slice Au x.notes.length cu, .int .i64 x.safe] 25) (.cells #[.int .i64 n.kind, .int .i64 n.tx, .slice Bu n.locks.length bu, .slice Bv n.writes.length bv] 36) (.cells #[.slice none 0 0, .int .i64 0] 25))
  have HX := Lib.hid (((Held.new w #[.slice Au x.notes.length cu, .int .i64 x.safe] 25).after (.cells #[.int .i64 n.kind, .int .i64 n.tx, .slice Bu n.locks.length bu, .slice Bv n.writes.length bv] 36)).after (.cells #[.slice none 0 0, .int .i64 0] 25))
  have HY := Lib.hid (show Held (((w.alloc (.cells #[.slice Au x.notes.length cu, .int .i64 x.safe] 25)).alloc (.cells #[.int .i64 n.kind, .int .i64 n.tx, .slice Bu n.locks.length bu, .slice Bv n.writes.length bv] 36)).alloc (.cells #[.slice none 0 0, .int .i64 0] 25)) (w.heap.size + 1) [.int .i64 n.kind, .int .i64 n.tx, .slice Bu n.locks.length bu, .slice Bv n.writes.length bv] from (by have h := Held.new (w.alloc (.cells #[.slice Au x.notes.length cu, .int .i64 x.safe] 25)) #[.int .i64 n.kind, .int .i64 n.tx, .slice Bu n.locks.length bu, .slice Bv n.writes.length bv] 36; rw [allocSize] at h; exact h.after _))
  have HR := Lib.hid (show Held (((w.alloc (.cells #[.slice Au x.notes.length cu, .int .i64 x.safe] 25)).alloc (.cells #[.int .i64 n.kind, .int .i64 n.tx, .slice Bu n.locks.length bu, .slice Bv n.writes.length bv] 36)).alloc (.cells #[.slice none 0 0, .int .i64 0] 25)) (w.heap.size + 1 + 1) [.slice none 0 0, .int .i64 0] from by have h := Held.new ((w.alloc (.cells #[.slice Au x.notes.length cu, .int .i64 x.safe] 25)).alloc (.cells #[.int .i64 n.kind, .int .i64 n.tx, .slice Bu n.locks.length bu, .slice Bv n.writes.length bv] 36)) #[.slice none 0 0, .int .i64 0] 25; rwa [allocSize, allocSize] at h)
  clear h hn hu ha hb
  go_enter Try.func29, Try.ntmps29
  go_wp2_with fail
  refine (specDiskOk_any _ _ x (HV.out _ HB.out)).mono ?_
  rintro e w1 ⟨rfl, hb⟩
  replace HB := Lib.hid (belowNext HB.out hb)
  replace HX := Lib.hid (HX.out.below hb HX.out.1)
  replace HY := Lib.hid (HY.out.below hb HY.out.1)
  replace HR := Lib.hid (HR.out.below hb HR.out.1)
  clear hb
  cases hd : diskB x with
  | false =>
    obtain ⟨e1, e2⟩ := addD_bad (b := safe) (.inl hd : diskB x = false ∨ noteB n = false)
    have HE := Lib.hid (And.intro e1 e2)
    clear hd e1 e2
    have r0 := HR.out.of 0 _ rfl
    have r1 := HR.out.of 1 _ rfl
    have rf := HR.out.2.1
    go_wp2
    have HQ := HR.out.put2 (.slice none 0 0) (.int .i64 0)
    have q0 := HQ.of 0 _ rfl
    have q1 := HQ.of 1 _ rfl
    refine bodyPost_ret (v := .tuple #[.agg #[.slice none 0 0, .int .i64 0], .bool false]) (by simp only [results, Try.results29, go_sem]; simp [go_sem, q0, q1]) rfl ⟨_, by rw [HE.out.2], by rw [HE.out.1]; exact disk_own.2 ⟨_, rfl, Sh.Own.nil _ _⟩, belowPut2 HB.out (w.heap.size + 1 + 1) (by omega) _ _⟩
  | true =>
    have y0 := HY.out.of 0 _ rfl
    have y1 := HY.out.of 1 _ rfl
    have y2 := HY.out.of 2 _ rfl
    have y3 := HY.out.of 3 _ rfl
    go_wp2_with fail
    clear y0 y1 y2 y3
    refine (specNoteOk_any _ _ n (HN.out _ HB.out)).mono ?_
    rintro e w2 ⟨rfl, hb⟩
    replace HB := Lib.hid (belowNext HB.out hb)
    replace HX := Lib.hid (HX.out.below hb HX.out.1)
    replace HY := Lib.hid (HY.out.below hb HY.out.1)
    replace HR := Lib.hid (HR.out.below hb HR.out.1)
    clear hb
    cases hnb : noteB n with
    | false =>
      obtain ⟨e1, e2⟩ := addD_bad (b := safe) (.inr hnb : diskB x = false ∨ noteB n = false)
      have HE := Lib.hid (And.intro e1 e2)
      clear hd hnb e1 e2
      have r0 := HR.out.of 0 _ rfl
      have r1 := HR.out.of 1 _ rfl
      have rf := HR.out.2.1
      go_wp2
      have HQ := HR.out.put2 (.slice none 0 0) (.int .i64 0)
      have q0 := HQ.of 0 _ rfl
      have q1 := HQ.of 1 _ rfl
      refine bodyPost_ret (v := .tuple #[.agg #[.slice none 0 0, .int .i64 0], .bool false]) (by simp only [results, Try.results29, go_sem]; simp [go_sem, q0, q1]) rfl ⟨_, by rw [HE.out.2], by rw [HE.out.1]; exact disk_own.2 ⟨_, rfl, Sh.Own.nil _ _⟩, belowPut2 HB.out (w.heap.size + 1 + 1) (by omega) _ _⟩
    | true =>
      obtain ⟨hl, hall⟩ := diskB_small hd
      have HSm := Lib.hid fun m hm => smallN (hall m hm)
      have HSn := Lib.hid (smallN hnb)
      have HD := Lib.hid hd
      have HNb := Lib.hid hnb
      clear hd hnb hall
      have x0 := HX.out.of 0 _ rfl
      have x1 := HX.out.of 1 _ rfl
      go_wp2_with fail
      clear x0 x1
      refine (l2Copy_any _ _ x (HV.out _ HB.out) (by omega) HSm.out).mono ?_
      rintro e w3 ⟨cs3, rfl, ho3, hb⟩
      obtain ⟨u3, rfl, hu3⟩ := disk_own.1 ho3
      obtain ⟨A3, c3, hf3, -, -⟩ := hu3.row.form
      subst hf3
      have hw2 : w.heap.size + 1 + 1 < w2.heap.size := HR.out.1
      have hz3 := hb.size
      have HO := Lib.hid (hu3.below (belowOne w3 (.cells #[.slice A3 x.notes.length c3, .int .i64 x.safe] 25)))
      have HC := Lib.hid (Held.new w3 #[.slice A3 x.notes.length c3, .int .i64 x.safe] 25)
      replace HB := Lib.hid ((belowNext HB.out hb).alloc (belowNext HB.out hb).size (.cells #[.slice A3 x.notes.length c3, .int .i64 x.safe] 25))
      replace HY := Lib.hid ((HY.out.below hb HY.out.1).after (.cells #[.slice A3 x.notes.length c3, .int .i64 x.safe] 25))
      replace HR := Lib.hid ((HR.out.below hb HR.out.1).after (.cells #[.slice A3 x.notes.length c3, .int .i64 x.safe] 25))
      clear hb ho3 hu3 HX
      by_cases hfull : x.notes.length = 120
      · obtain ⟨e1, e2⟩ := addD_full (b := safe) HD.out HNb.out hfull
        have HE := Lib.hid (And.intro e1 e2)
        have hi : ((x.notes.length : Int) == 120) = true := by simp [hfull]
        clear e1 e2 hfull
        have c0 := HC.out.of 0 _ rfl
        have c1 := HC.out.of 1 _ rfl
        have r0 := HR.out.of 0 _ rfl
        have r1 := HR.out.of 1 _ rfl
        have rf := HR.out.2.1
        go_wp2
        have HQ := HR.out.put2 (.slice A3 x.notes.length c3) (.int .i64 x.safe)
        have q0 := HQ.of 0 _ rfl
        have q1 := HQ.of 1 _ rfl
        refine bodyPost_ret (v := .tuple #[.agg #[.slice A3 x.notes.length c3, .int .i64 x.safe], .bool false]) (by simp only [results, Try.results29, go_sem]; simp [go_sem, q0, q1]) rfl ⟨_, by rw [HE.out.2], ?_, belowPut2 HB.out (w.heap.size + 1 + 1) (by omega) _ _⟩
        rw [HE.out.1]
        exact disk_own.2 ⟨_, rfl, (own_put2 HO.out (fun b hb => by have := hb.1; omega) _ _).mono fun b hb => ⟨by have := hb.1; omega, by rw [put2_size, allocSize]; have := hb.2; omega⟩⟩
      · have hlt : x.notes.length < 120 := by omega
        obtain ⟨e1, e2⟩ := addD_yes (b := safe) HD.out HNb.out hlt
        have HE := Lib.hid (And.intro e1 e2)
        have hi : ((x.notes.length : Int) == 120) = false := by simp; omega
        clear e1 e2 hfull
        have c0 := HC.out.of 0 _ rfl
        go_upto_region 6 with fail
        clear c0
        have hW4 : (w3.alloc (.cells #[.slice A3 x.notes.length c3, .int .i64 x.safe] 25)).heap.size = w3.heap.size + 1 := by simp
        generalize (w3.alloc (.cells #[.slice A3 x.notes.length c3, .int .i64 x.safe] 25)) = w4 at *
        have HW4 := Lib.hid hW4
        clear hW4
        have htl : x.notes.length ≤ 1048576 := by omega
        have hny : Held w4 (w.heap.size + 1) [.int .i64 n.kind, .int .i64 n.tx, .slice Bu n.locks.length bu, .slice Bv n.writes.length bv] := HY.out
        have k0 : w4.drew.cell? ⟨w3.heap.size, 0, none⟩ = some (.slice A3 x.notes.length c3) ∧ w4.drew.cell? ⟨w.heap.size + 1, 0, none⟩ = some (.int .i64 n.kind) ∧ w4.drew.cell? ⟨w.heap.size + 1, 1, none⟩ = some (.int .i64 n.tx) ∧ w4.drew.cell? ⟨w.heap.size + 1, 2, none⟩ = some (.slice Bu n.locks.length bu) ∧ w4.drew.cell? ⟨w.heap.size + 1, 3, none⟩ = some (.slice Bv n.writes.length bv) := ⟨HC.out.of 0 _ rfl, hny.of 0 _ rfl, hny.of 1 _ rfl, hny.of 2 _ rfl, hny.of 3 _ rfl⟩
        clear hny
        refine region_l (S := (fun w' => w'.cell? ⟨w3.heap.size, 0, none⟩ = some (.slice A3 x.notes.length c3) ∧ w'.cell? ⟨w.heap.size + 1, 0, none⟩ = some (.int .i64 n.kind) ∧ w'.cell? ⟨w.heap.size + 1, 1, none⟩ = some (.int .i64 n.tx) ∧ w'.cell? ⟨w.heap.size + 1, 2, none⟩ = some (.slice Bu n.locks.length bu) ∧ w'.cell? ⟨w.heap.size + 1, 3, none⟩ = some (.slice Bv n.writes.length bv))) 7 (by kernel_rfl) ?hSr (fun hHeldr => ?str)
        case hSr => (first | (dsimp only; (first | with_reducible exact k3 | with_reducible exact k2 | with_reducible exact k1 | exact k0)) | (first | with_reducible exact k3 | with_reducible exact k2 | with_reducible exact k1 | exact k0))
        refine take_l 0 25 (v := ?vr_1) rfl rfl (by kernel_rfl) (by kernel_rfl) (by kernel_rfl) (by kernel_rfl) (fun _ _ _ h => h) (by rfl) ?yr_1 (by assumption) ?rr_1
        case yr_1 => (intro w hSw; (try dsimp only at hSw); go_simp; (try with_reducible rfl))
        simp only [Act.put, List.setIfInBounds_toArray, List.set_cons_zero, List.set_cons_succ]
        refine take_l 1 26 (v := ?vr_2) rfl rfl (by kernel_rfl) (by kernel_rfl) (by kernel_rfl) (by kernel_rfl) (fun _ _ _ h => h) (by rfl) ?yr_2 (by assumption) ?rr_2
        case yr_2 => (intro w hSw; (try dsimp only at hSw); go_simp; (try with_reducible rfl))
        simp only [Act.put, List.setIfInBounds_toArray, List.set_cons_zero, List.set_cons_succ]
        refine take_l 2 27 (v := ?vr_3) rfl rfl (by kernel_rfl) (by kernel_rfl) (by kernel_rfl) (by kernel_rfl) (fun _ _ _ h => h) (by rfl) ?yr_3 (by assumption) ?rr_3
        case yr_3 => (intro w hSw; (try dsimp only at hSw); go_simp; (try with_reducible rfl))
        simp only [Act.put, List.setIfInBounds_toArray, List.set_cons_zero, List.set_cons_succ]
        refine one_l 3 rfl (by kernel_rfl) (fun Kr_4 hKr_4 => ?cr_4)
        go_simp
        refine (l2Note_any w4.drew n _ (HN.out _ HB.out.drew) HSn.out.1 HSn.out.2.1 HSn.out.2.2).mono ?_; rintro e w5 ⟨cs5, rfl, ho5, hb5⟩; obtain ⟨u5, v5, S1, S2, rfl, hu5, hv5, -, -, -⟩ := note_own.1 ho5; obtain ⟨E1, d1, hf1, -, -⟩ := hu5.row.form; obtain ⟨E2, d2, hf2, -, -⟩ := hv5.row.form; subst hf1 hf2; have HB5 := Lib.hid (show Below w4.heap.size w4 w5 from (Below.refl _ w4).drew.trans hb5); have HC5 := Lib.hid (HC.out.below HB5.out HC.out.1); have HY5 := Lib.hid (HY.out.below HB5.out HY.out.1); have HR5 := Lib.hid (HR.out.below HB5.out HR.out.1); have HO5 := Lib.hid (HO.out.below HB5.out); have k1 := And.intro (HC5.out.of 0 _ rfl) (And.intro (HY5.out.of 0 _ rfl) (And.intro (HY5.out.of 1 _ rfl) (And.intro (HY5.out.of 2 _ rfl) (HY5.out.of 3 _ rfl)))); have HC6 := Lib.hid (HC5.out.after (.cells #[.int .i64 n.kind, .int .i64 n.tx, .slice E1 n.locks.length d1, .slice E2 n.writes.length d2] 36)); have HY6 := Lib.hid (HY5.out.after (.cells #[.int .i64 n.kind, .int .i64 n.tx, .slice E1 n.locks.length d1, .slice E2 n.writes.length d2] 36)); have HR6 := Lib.hid (HR5.out.after (.cells #[.int .i64 n.kind, .int .i64 n.tx, .slice E1 n.locks.length d1, .slice E2 n.writes.length d2] 36)); have HO6 := Lib.hid (HO5.out.below (belowOne w5 (.cells #[.int .i64 n.kind, .int .i64 n.tx, .slice E1 n.locks.length d1, .slice E2 n.writes.length d2] 36))); have HB6 := Lib.hid ((HB.out.trans (HB5.out.mono HB.out.size)).alloc (HB.out.trans (HB5.out.mono HB.out.size)).size (.cells #[.int .i64 n.kind, .int .i64 n.tx, .slice E1 n.locks.length d1, .slice E2 n.writes.length d2] 36)); have k2 := And.intro (HC6.out.of 0 _ rfl) (And.intro (HY6.out.of 0 _ rfl) (And.intro (HY6.out.of 1 _ rfl) (And.intro (HY6.out.of 2 _ rfl) (HY6.out.of 3 _ rfl)))); have HN6 := Lib.hid (noteSh.okeep ho5 (w' := w5.alloc (.cells #[.int .i64 n.kind, .int .i64 n.tx, .slice E1 n.locks.length d1, .slice E2 n.writes.length d2] 36)) (fun b _ hlt => (belowOne w5 _).block b hlt)); have hz5 := HB5.out.size; clear hb5 hu5 hv5 ho5
        go_wp2_with fail
        refine hKr_4.out _ _ ?kr_4 (fun hHoldr_4 => ?dr_4)
        case kr_4 => (intro _; (first | (dsimp only; (first | with_reducible exact k3 | with_reducible exact k2 | with_reducible exact k1 | exact k0)) | (first | with_reducible exact k3 | with_reducible exact k2 | with_reducible exact k1 | exact k0)))
        clear hKr_4 Kr_4
        have hHeldr_4 := hHoldr_4 (by decide)
        clear hHoldr_4
        refine one_l 4 rfl (by kernel_rfl) (fun Kr_5 hKr_5 => ?cr_5)
        go_simp
        skip
        go_wp2_with fail
        refine hKr_5.out _ _ ?kr_5 (fun hHoldr_5 => ?dr_5)
        case kr_5 => (intro _; (first | (dsimp only; (first | with_reducible exact k3 | with_reducible exact k2 | with_reducible exact k1 | exact k0)) | (first | with_reducible exact k3 | with_reducible exact k2 | with_reducible exact k1 | exact k0)))
        clear hKr_5 Kr_5
        have hHeldr_5 := hHoldr_5 (by decide)
        clear hHoldr_5
        refine one_l 5 rfl (by kernel_rfl) (fun Kr_6 hKr_6 => ?cr_6)
        rw [if_pos (by rfl)]
        refine app_one noteSh 23 36 _ 64 Try.underlying23 infoNoteA rfl (by decide) (by omega) (.tmp 26) (.tmp 29) rfl (fun b => w2.heap.size ≤ b ∧ b < w3.heap.size) _ _ x.notes rfl HO6.out w5.heap.size rfl _ n HN6.out (Held.new w5 _ _) (fun b hb hb2 => by have := HW4.out; have := hb.2; have := hb2.1; have : w4.drew.heap.size = w4.heap.size := rfl; omega) htl ?_; intro v7 w7 ho7 hg7 _; obtain ⟨A7, c7, hf7, -, -⟩ := ho7.row.form; rw [List.length_append, List.length_singleton] at hf7; subst hf7; have HC7 := Lib.hid (HC6.out.outs (Outs.of_grown (S := fun b => w2.heap.size ≤ b ∧ b < w3.heap.size) hg7 (HO6.out.blk)) (fun h => by have := h.2; omega)); have HY7 := Lib.hid (HY6.out.outs (Outs.of_grown (S := fun b => w2.heap.size ≤ b ∧ b < w3.heap.size) hg7 (HO6.out.blk)) (fun h => by have := h.1; omega)); have HR7 := Lib.hid (HR6.out.outs (Outs.of_grown (S := fun b => w2.heap.size ≤ b ∧ b < w3.heap.size) hg7 (HO6.out.blk)) (fun h => by have := h.1; omega)); have HB7 := Lib.hid (HB6.out.grown hg7 (by rw [allocSize]; have := HB.out.size; omega) (fun q hq => by have := (HO6.out.blk q hq).1; omega)); have f7 := HC7.out.2.1 0; have k3 := And.intro (HC7.out.of 0 _ rfl) (And.intro (HY7.out.of 0 _ rfl) (And.intro (HY7.out.of 1 _ rfl) (And.intro (HY7.out.of 2 _ rfl) (HY7.out.of 3 _ rfl)))); have HO7 := Lib.hid ho7.cap; have HG7 := Lib.hid hg7; clear ho7 hg7
        refine hKr_6.out _ _ ?kr_6 (fun hHoldr_6 => ?dr_6)
        case kr_6 => (intro _; (first | (dsimp only; (first | with_reducible exact k3 | with_reducible exact k2 | with_reducible exact k1 | exact k0)) | (first | with_reducible exact k3 | with_reducible exact k2 | with_reducible exact k1 | exact k0)))
        clear hKr_6 Kr_6
        have hHeldr_6 := hHoldr_6 (by decide)
        clear hHoldr_6
        refine take_l 6 31 (v := ?vr_7) rfl rfl (by kernel_rfl) (by kernel_rfl) (by kernel_rfl) (by kernel_rfl) (fun _ _ _ h => h) (by rfl) ?yr_7 (by assumption) ?rr_7
        case yr_7 => (intro w hSw; (try dsimp only at hSw); go_simp; (try with_reducible rfl))
        simp only [Act.put, List.setIfInBounds_toArray]
        refine one_l 7 rfl (by kernel_rfl) (fun Kr_8 hKr_8 => ?cr_8)
        go_simp
        skip
        go_wp2_with fail
        refine hKr_8.out _ _ ?kr_8 (fun hHoldr_8 => ?dr_8)
        case kr_8 => exact fun h => absurd rfl h
        clear hKr_8 Kr_8
        clear hHoldr_8
        refine done_l (by kernel_rfl) ?er _
        have hz7 := HG7.out.size
        rw [allocSize] at hz7
        have hw4 := HW4.out
        have hw4d : w4.drew.heap.size = w4.heap.size := rfl
        have HC8 := Lib.hid (HC7.out.set_ (i := 0) (.slice A7 (x.notes.length + 1) c7))
        have HR8 := Lib.hid (HR7.out.farS (p := ⟨w3.heap.size, 0, none⟩) (by show w.heap.size + 1 + 1 ≠ w3.heap.size; omega) (.slice A7 (x.notes.length + 1) c7))
        have HB8 := Lib.hid (HB7.out.setCell (p := ⟨w3.heap.size, 0, none⟩) (by show w.heap.size ≤ w3.heap.size; omega) (.slice A7 (x.notes.length + 1) c7))
        have HSt := Lib.hid (show ∀ b, ((w2.heap.size ≤ b ∧ b < w3.heap.size) ∨ (w4.drew.heap.size ≤ b ∧ b < w5.heap.size) ∨ b = (w5.alloc (.cells #[.int .i64 n.kind, .int .i64 n.tx, .slice E1 n.locks.length d1, .slice E2 n.writes.length d2] 36)).heap.size) ∧ b < w7.heap.size → w2.heap.size ≤ b ∧ b < w7.heap.size ∧ b ≠ w3.heap.size from fun b hb => by
          rcases hb.1 with h | h | h
          · omega
          · omega
          · rw [allocSize] at h; omega)
        have HO8 := Lib.hid (HO7.out.keep (w' := w7.setCell ⟨w3.heap.size, 0, none⟩ (.slice A7 (x.notes.length + 1) c7)) fun b hb _ => Below.heap_setCell _ _ _ _ (HSt.out b hb).2.2)
        have hs8 : (w7.setCell ⟨w3.heap.size, 0, none⟩ (.slice A7 (x.notes.length + 1) c7)).heap.size = w7.heap.size := by simp [World.setCell]
        generalize (w7.setCell ⟨w3.heap.size, 0, none⟩ (.slice A7 (x.notes.length + 1) c7)) = w8 at *
        have HS8 := Lib.hid hs8
        clear hs8 hw4 hw4d k0 k1 k2 k3 f7 HC HC5 HC6 HC7 HY HY5 HY6 HY7 HR HR5 HR6 HR7 HB HB5 HB6 HB7 HO HO5 HO6 HO7 HN6 HG7
        have c0 := HC8.out.of 0 _ rfl
        have c1 := HC8.out.of 1 _ rfl
        have cf := HC8.out.2.1
        have r0 := HR8.out.of 0 _ rfl
        have r1 := HR8.out.of 1 _ rfl
        have rf := HR8.out.2.1
        have hne : ¬ w.heap.size + 1 + 1 = w3.heap.size := by omega
        have hc8 : ((x.notes.length + 1 : Nat) : Int) = (x.notes.length : Int) + 1 := by omega
        cases safe with
        | true =>
          have HC9 := Lib.hid (HC8.out.set_ (i := 1) (.int .i64 ((x.notes.length : Int) + 1)))
          have HR9 := Lib.hid (HR8.out.farS (p := ⟨w3.heap.size, 1, none⟩) (by show w.heap.size + 1 + 1 ≠ w3.heap.size; exact hne) (.int .i64 ((x.notes.length : Int) + 1)))
          have HB9 := Lib.hid (HB8.out.setCell (p := ⟨w3.heap.size, 1, none⟩) (by show w.heap.size ≤ w3.heap.size; omega) (.int .i64 ((x.notes.length : Int) + 1)))
          have HO9 := Lib.hid (HO8.out.keep (w' := w8.setCell ⟨w3.heap.size, 1, none⟩ (.int .i64 ((x.notes.length : Int) + 1))) fun b hb _ => Below.heap_setCell _ _ _ _ (HSt.out b hb).2.2)
          have d0 := HC9.out.of 0 _ rfl
          have d1 := HC9.out.of 1 _ rfl
          have s0 := HR9.out.of 0 _ rfl
          have s1 := HR9.out.of 1 _ rfl
          have sf := HR9.out.2.1
          go_wp2
          have HQ := HR9.out.put2 (.slice A7 (x.notes.length + 1) c7) (.int .i64 ((x.notes.length : Int) + 1))
          have q0 := HQ.of 0 _ rfl
          have q1 := HQ.of 1 _ rfl
          refine bodyPost_ret (v := .tuple #[.agg #[.slice A7 (x.notes.length + 1) c7, .int .i64 ((x.notes.length : Int) + 1)], .bool true]) (by simp only [results, Try.results29, go_sem]; simp [go_sem, q0, q1]) rfl ⟨_, by rw [HE.out.2], ?_, belowPut2 HB9.out (w.heap.size + 1 + 1) (by omega) _ _⟩
          rw [HE.out.1]
          refine disk_own.2 ⟨_, rfl, (own_put2 HO9.out (fun b hb => by have := (HSt.out b hb).1; omega) _ _).mono fun b hb => ⟨by have := (HSt.out b hb).1; omega, ?_⟩⟩
          rw [put2_size]
          have h1 := (HSt.out b hb).2.1
          have h2 := HS8.out
          simp [World.setCell]; omega
        | false =>
          go_wp2
          have HQ := HR8.out.put2 (.slice A7 (x.notes.length + 1) c7) (.int .i64 x.safe)
          have q0 := HQ.of 0 _ rfl
          have q1 := HQ.of 1 _ rfl
          refine bodyPost_ret (v := .tuple #[.agg #[.slice A7 (x.notes.length + 1) c7, .int .i64 x.safe], .bool true]) (by simp only [results, Try.results29, go_sem]; simp [go_sem, q0, q1]) rfl ⟨_, by rw [HE.out.2], ?_, belowPut2 HB8.out (w.heap.size + 1 + 1) (by omega) _ _⟩
          rw [HE.out.1]
          refine disk_own.2 ⟨_, rfl, (own_put2 HO8.out (fun b hb => by have := (HSt.out b hb).1; omega) _ _).mono fun b hb => ⟨by have := (HSt.out b hb).1; omega, ?_⟩⟩
          rw [put2_size, HS8.out]
          exact (HSt.out b hb).2.1


end Go.Proofs.Ytkamlibfcakblaa
