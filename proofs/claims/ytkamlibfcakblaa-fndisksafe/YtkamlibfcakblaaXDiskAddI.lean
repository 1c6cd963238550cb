/- The program's copy of a place's notes, its DiskAdd and its DiskFall. -/
import Derived.Test.YtkamlibfcakblaaXDiskList
import Derived.Test.YtkamlibfcakblaaXStoMap
namespace Go.Proofs.Ytkamlibfcakblaa
open Go.RowKit

theorem smallN {n : Note} (h : noteB n = true) : SmallN n := by
  obtain ⟨h1, h2, h3, -⟩ := noteB_small h
  exact ⟨by omega, by omega, fun y hy => by have := (h3 y hy).1; omega⟩
/-- Two cells of a block written. -/
abbrev put2 (w : World) (b : Nat) (b0 b1 : Value) : World := (w.setCell ⟨b, 0, none⟩ b0).setCell ⟨b, 1, none⟩ b1
theorem Held.put2 {w : World} {b : Nat} {a0 a1 : Value} (h : Held w b [a0, a1]) (b0 b1 : Value) : Held (Go.Proofs.Ytkamlibfcakblaa.put2 w b b0 b1) b [b0, b1] := (h.set_ (i := 0) b0).set_ (i := 1) b1
theorem belowPut2 {B : Nat} {w a : World} (h : Below B w a) (b : Nat) (hb : B ≤ b) (b0 b1 : Value) : Below B w (put2 a b b0 b1) := (h.setCell (p := ⟨b, 0, none⟩) hb b0).setCell (p := ⟨b, 1, none⟩) hb b1
theorem put2_far (w : World) (g : Nat) (b0 b1 : Value) {b : Nat} (h : b ≠ g) : (put2 w g b0 b1).heap[b]? = w.heap[b]? := by
  unfold put2
  rw [Below.heap_setCell _ _ _ _ h, Below.heap_setCell _ _ _ _ h]
theorem put2_size (w : World) (g : Nat) (b0 b1 : Value) : (put2 w g b0 b1).heap.size = w.heap.size := by simp [World.setCell]
/-- What is owned in blocks from some block on stays where a block ahead of them is written. -/
theorem own_put2 {w : World} {S : Nat → Prop} {u : Value} {xs : List Note} {g : Nat} (h : noteSh.Own 36 w S u xs) (hg : ∀ b, S b → b ≠ g) (b0 b1 : Value) : noteSh.Own 36 (put2 w g b0 b1) S u xs := h.keep fun b hb _ => put2_far _ _ _ _ (hg b hb)

set_option maxRecDepth 100000 in
set_option maxHeartbeats 1000000 in
theorem copyDisk_any (w : World) (cs : List Value) (x : Disk) (h : diskSh.rel w w.heap.size cs x) (hl : x.notes.length ≤ 1000000) (hsm : ∀ n ∈ x.notes, SmallN n) :
    Calls Try.prog 68 #[.agg cs.toArray] w (DiskMade x w) := by
  obtain ⟨u, rfl, hu⟩ := disk_rel.1 h
  obtain ⟨Au, cu, rfl, -, -⟩ := hu.form
  have HB := Lib.hid (belowTwo w (.cells #[.slice Au x.notes.length cu, .int .i64 x.safe] 25) (.cells #[.slice none 0 0, .int .i64 0] 25))
  have HX := Lib.hid ((Held.new w #[.slice Au x.notes.length cu, .int .i64 x.safe] 25).after (.cells #[.slice none 0 0, .int .i64 0] 25))
  have HR := Lib.hid (show Held ((w.alloc (.cells #[.slice Au x.notes.length cu, .int .i64 x.safe] 25)).alloc (.cells #[.slice none 0 0, .int .i64 0] 25)) (w.heap.size + 1) [.slice none 0 0, .int .i64 0] from by have h := Held.new (w.alloc (.cells #[.slice Au x.notes.length cu, .int .i64 x.safe] 25)) #[.slice none 0 0, .int .i64 0] 25; rwa [allocSize] at h)
  have HU := Lib.hid fun W (hb : Below w.heap.size w W) => (hu.below hb).more hb.size
  have HSm := Lib.hid hsm
  clear h hu hsm
  go_enter Try.func68, Try.ntmps68
  go_upto_region 1 with fail
  have hW2 : ((w.alloc (.cells #[.slice Au x.notes.length cu, .int .i64 x.safe] 25)).alloc (.cells #[.slice none 0 0, .int .i64 0] 25)).heap.size = w.heap.size + 1 + 1 := by simp
  generalize ((w.alloc (.cells #[.slice Au x.notes.length cu, .int .i64 x.safe] 25)).alloc (.cells #[.slice none 0 0, .int .i64 0] 25)) = W at *
  have HW2 := Lib.hid hW2
  clear hW2
  have k0 : W.drew.cell? ⟨w.heap.size, 0, none⟩ = some (.slice Au x.notes.length cu) ∧ W.drew.cell? ⟨w.heap.size, 1, none⟩ = some (.int .i64 x.safe) := ⟨HX.out.of 0 _ rfl, HX.out.of 1 _ rfl⟩
  refine region_l (S := (fun w' => w'.cell? ⟨w.heap.size, 0, none⟩ = some (.slice Au x.notes.length cu) ∧ w'.cell? ⟨w.heap.size, 1, none⟩ = some (.int .i64 x.safe))) 6 (by kernel_rfl) ?hSr (fun hHeldr => ?str)
  case hSr => (first | (dsimp only; (first | with_reducible exact k2 | with_reducible exact k1 | exact k0)) | (first | with_reducible exact k2 | with_reducible exact k1 | exact k0))
  refine take_l 0 3 (v := ?vr_1) rfl rfl (by kernel_rfl) (by kernel_rfl) (by kernel_rfl) (by kernel_rfl) (fun _ _ _ h => h) (by rfl) ?yr_1 (by assumption) ?rr_1
  case yr_1 => (intro w hSw; (try dsimp only at hSw); go_simp; (try with_reducible rfl))
  simp only [Act.put, List.setIfInBounds_toArray, List.set_cons_zero, List.set_cons_succ]
  refine take_l 1 4 (v := ?vr_2) rfl rfl (by kernel_rfl) (by kernel_rfl) (by kernel_rfl) (by kernel_rfl) (fun _ _ _ h => h) (by rfl) ?yr_2 (by assumption) ?rr_2
  case yr_2 => (intro w hSw; (try dsimp only at hSw); go_simp; (try with_reducible rfl))
  simp only [Act.put, List.setIfInBounds_toArray, List.set_cons_zero, List.set_cons_succ]
  refine take_l 3 6 (v := ?vr_3) rfl rfl (by kernel_rfl) (by kernel_rfl) (by kernel_rfl) (by kernel_rfl) (fun _ _ _ h => h) (by rfl) ?yr_3 (by assumption) ?rr_3
  case yr_3 => (intro w hSw; (try dsimp only at hSw); go_simp; (try with_reducible rfl))
  simp only [Act.put, List.setIfInBounds_toArray, List.set_cons_zero, List.set_cons_succ]
  refine take_l 4 7 (v := ?vr_4) rfl rfl (by kernel_rfl) (by kernel_rfl) (by kernel_rfl) (by kernel_rfl) (fun _ _ _ h => h) (by rfl) ?yr_4 (by assumption) ?rr_4
  case yr_4 => (intro w hSw; (try dsimp only at hSw); go_simp; (try with_reducible rfl))
  simp only [Act.put, List.setIfInBounds_toArray, List.set_cons_zero, List.set_cons_succ]
  refine one_l 2 rfl (by kernel_rfl) (fun Kr_5 hKr_5 => ?cr_5)
  go_simp
  refine (listOf_any W.drew _ x.notes (HU.out _ HB.out.drew)).mono ?_; rintro e w1 ⟨L, rfl, hR1, hb1⟩; have HB1 := Lib.hid (HB.out.drew.trans (hb1.mono HB.out.size)); have HX1 := Lib.hid (HX.out.onward hb1 rfl); have HR1 := Lib.hid (HR.out.onward hb1 rfl); have HRg := Lib.hid hR1; have k1 := And.intro (HX1.out.of 0 _ rfl) (HX1.out.of 1 _ rfl); clear hb1 hR1
  go_wp2_with fail
  refine hKr_5.out _ _ ?kr_5 (fun hHoldr_5 => ?dr_5)
  case kr_5 => (intro _; (first | (dsimp only; (first | with_reducible exact k2 | with_reducible exact k1 | exact k0)) | (first | with_reducible exact k2 | with_reducible exact k1 | exact k0)))
  clear hKr_5 Kr_5
  have hHeldr_5 := hHoldr_5 (by decide)
  clear hHoldr_5
  refine one_l 5 rfl (by kernel_rfl) (fun Kr_6 hKr_6 => ?cr_6)
  go_simp
  refine (disk_any w1 _ L x.notes x.safe HRg.out hl HSm.out).mono ?_; rintro e w2 ⟨cs2, rfl, ho2, hb2⟩; obtain ⟨u2, rfl, hu2⟩ := disk_own.1 ho2; obtain ⟨A2, c2, hf2, -, -⟩ := hu2.row.form; subst hf2; have HB2 := Lib.hid (belowNext HB1.out hb2); have HX2 := Lib.hid (HX1.out.below hb2 HX1.out.1); have HR2 := Lib.hid (HR1.out.below hb2 HR1.out.1); have k2 := And.intro (HX2.out.of 0 _ rfl) (HX2.out.of 1 _ rfl); have HO2 := Lib.hid hu2; have hw1 : w.heap.size + 1 < w1.heap.size := HR1.out.1; have r0 := HR2.out.of 0 _ rfl; have r1 := HR2.out.of 1 _ rfl; have rf := HR2.out.2.1; clear hb2 hu2 ho2
  go_wp2_with fail
  refine hKr_6.out _ _ ?kr_6 (fun hHoldr_6 => ?dr_6)
  case kr_6 => (intro _; (first | (dsimp only; (first | with_reducible exact k2 | with_reducible exact k1 | exact k0)) | (first | with_reducible exact k2 | with_reducible exact k1 | exact k0)))
  clear hKr_6 Kr_6
  have hHeldr_6 := hHoldr_6 (by decide)
  clear hHoldr_6
  refine one_l 6 rfl (by kernel_rfl) (fun Kr_7 hKr_7 => ?cr_7)
  go_simp
  skip
  go_wp2_with fail
  refine hKr_7.out _ _ ?kr_7 (fun hHoldr_7 => ?dr_7)
  case kr_7 => exact fun h => absurd rfl h
  clear hKr_7 Kr_7
  clear hHoldr_7
  refine done_l (by kernel_rfl) ?er _
  clear k0 k1 k2 r0 r1 rf
  go_wp2
  have HQ := HR2.out.put2 (.slice A2 x.notes.length c2) (.int .i64 x.safe)
  have q0 := HQ.of 0 _ rfl
  have q1 := HQ.of 1 _ rfl
  refine bodyPost_ret (v := .agg #[.slice A2 x.notes.length c2, .int .i64 x.safe]) (by simp only [results, Try.results68, go_sem]; simp [go_sem, q0, q1]) rfl ⟨_, rfl, disk_own.2 ⟨_, rfl, (own_put2 HO2.out (fun b hb => by have := hb.1; omega) _ _).mono fun b hb => ⟨by have := hb.1; omega, by rw [put2_size]; exact hb.2⟩⟩, belowPut2 HB2.out (w.heap.size + 1) (by omega) _ _⟩

/-- What DiskAdd answers: notes of its own, and whether one was added. -/
def AddMade (x : Disk) (n : Note) (safe : Bool) (w : World) (e : Ending) (w' : World) : Prop :=
  ∃ cs, e = .returned (.tuple #[.agg cs.toArray, .bool (addOk x n)]) ∧ diskSh.own w' (fun b => w.heap.size ≤ b ∧ b < w'.heap.size) cs (addD x n safe) ∧ Below w.heap.size w w'

set_option maxRecDepth 100000 in
set_option maxHeartbeats 2000000 in
theorem implDiskAdd_any (w : World) (cs ds : List Value) (x : Disk) (n : Note) (safe : Bool) (h : diskSh.rel w w.heap.size cs x) (hn : noteSh.rel w w.heap.size ds n) :
    Calls Try.prog 17 #[.agg cs.toArray, .agg ds.toArray, .bool safe] w (AddMade x n safe w) := by
  have HV := Lib.hid fun W (hb : Below w.heap.size w W) => diskSh.rmore (diskSh.rbelow h hb) hb.size
  have HN := Lib.hid fun W (hb : Below w.heap.size w W) => noteSh.rmore (noteSh.rbelow hn hb) hb.size
  have HN0 := Lib.hid fun W (hb : Below w.heap.size w W) => noteSh.rbelow hn hb
  obtain ⟨u, rfl, hu⟩ := disk_rel.1 h
  obtain ⟨Au, cu, rfl, -, -⟩ := hu.form
  obtain ⟨a, b, rfl, ha, hb⟩ := note_rel.1 hn
  obtain ⟨Bu, bu, rfl, -, -⟩ := ha.form
  obtain ⟨Bv, bv, rfl, -, -⟩ := hb.form
  have HU := Lib.hid fun W (hb : Below w.heap.size w W) => (hu.below hb).more hb.size
  have HB := Lib.hid (belowThree w (.cells #[.slice Au x.notes.length cu, .int .i64 x.safe] 25) (.cells #[.int .i64 n.kind, .int .i64 n.tx, .slice Bu n.locks.length bu, .slice Bv n.writes.length bv] 36) (.cells #[.slice none 0 0, .int .i64 0] 25))
  have HX := Lib.hid (((Held.new w #[.slice Au x.notes.length cu, .int .i64 x.safe] 25).after (.cells #[.int .i64 n.kind, .int .i64 n.tx, .slice Bu n.locks.length bu, .slice Bv n.writes.length bv] 36)).after (.cells #[.slice none 0 0, .int .i64 0] 25))
  have HY := Lib.hid (show Held (((w.alloc (.cells #[.slice Au x.notes.length cu, .int .i64 x.safe] 25)).alloc (.cells #[.int .i64 n.kind, .int .i64 n.tx, .slice Bu n.locks.length bu, .slice Bv n.writes.length bv] 36)).alloc (.cells #[.slice none 0 0, .int .i64 0] 25)) (w.heap.size + 1) [.int .i64 n.kind, .int .i64 n.tx, .slice Bu n.locks.length bu, .slice Bv n.writes.length bv] from (by have h := Held.new (w.alloc (.cells #[.slice Au x.notes.length cu, .int .i64 x.safe] 25)) #[.int .i64 n.kind, .int .i64 n.tx, .slice Bu n.locks.length bu, .slice Bv n.writes.length bv] 36; rw [allocSize] at h; exact h.after _))
  have HR := Lib.hid (show Held (((w.alloc (.cells #[.slice Au x.notes.length cu, .int .i64 x.safe] 25)).alloc (.cells #[.int .i64 n.kind, .int .i64 n.tx, .slice Bu n.locks.length bu, .slice Bv n.writes.length bv] 36)).alloc (.cells #[.slice none 0 0, .int .i64 0] 25)) (w.heap.size + 1 + 1) [.slice none 0 0, .int .i64 0] from by have h := Held.new ((w.alloc (.cells #[.slice Au x.notes.length cu, .int .i64 x.safe] 25)).alloc (.cells #[.int .i64 n.kind, .int .i64 n.tx, .slice Bu n.locks.length bu, .slice Bv n.writes.length bv] 36)) #[.slice none 0 0, .int .i64 0] 25; rwa [allocSize, allocSize] at h)
  clear h hn hu ha hb
  go_enter Try.func17, Try.ntmps17
  go_wp2_with fail
  refine (implDiskOk_any _ _ x (HV.out _ HB.out)).mono ?_
  rintro e w1 ⟨rfl, hb⟩
  replace HB := Lib.hid (belowNext HB.out hb)
  replace HX := Lib.hid (HX.out.below hb HX.out.1)
  replace HY := Lib.hid (HY.out.below hb HY.out.1)
  replace HR := Lib.hid (HR.out.below hb HR.out.1)
  clear hb
  cases hd : diskB x with
  | false =>
    obtain ⟨e1, e2⟩ := addD_bad (b := safe) (.inl hd : diskB x = false ∨ noteB n = false)
    have HE := Lib.hid (And.intro e1 e2)
    clear hd e1 e2
    have r0 := HR.out.of 0 _ rfl
    have r1 := HR.out.of 1 _ rfl
    have rf := HR.out.2.1
    go_wp2
    have HQ := HR.out.put2 (.slice none 0 0) (.int .i64 0)
    have q0 := HQ.of 0 _ rfl
    have q1 := HQ.of 1 _ rfl
    refine bodyPost_ret (v := .tuple #[.agg #[.slice none 0 0, .int .i64 0], .bool false]) (by simp only [results, Try.results17, go_sem]; simp [go_sem, q0, q1]) rfl ⟨_, by rw [HE.out.2], by rw [HE.out.1]; exact disk_own.2 ⟨_, rfl, Sh.Own.nil _ _⟩, belowPut2 HB.out (w.heap.size + 1 + 1) (by omega) _ _⟩
  | true =>
    have y0 := HY.out.of 0 _ rfl
    have y1 := HY.out.of 1 _ rfl
    have y2 := HY.out.of 2 _ rfl
    have y3 := HY.out.of 3 _ rfl
    go_wp2_with fail
    clear y0 y1 y2 y3
    refine (implNoteOk_any _ _ n (HN.out _ HB.out)).mono ?_
    rintro e w2 ⟨rfl, hb⟩
    replace HB := Lib.hid (belowNext HB.out hb)
    replace HX := Lib.hid (HX.out.below hb HX.out.1)
    replace HY := Lib.hid (HY.out.below hb HY.out.1)
    replace HR := Lib.hid (HR.out.below hb HR.out.1)
    clear hb
    cases hnb : noteB n with
    | false =>
      obtain ⟨e1, e2⟩ := addD_bad (b := safe) (.inr hnb : diskB x = false ∨ noteB n = false)
      have HE := Lib.hid (And.intro e1 e2)
      clear hd hnb e1 e2
      have r0 := HR.out.of 0 _ rfl
      have r1 := HR.out.of 1 _ rfl
      have rf := HR.out.2.1
      go_wp2
      have HQ := HR.out.put2 (.slice none 0 0) (.int .i64 0)
      have q0 := HQ.of 0 _ rfl
      have q1 := HQ.of 1 _ rfl
      refine bodyPost_ret (v := .tuple #[.agg #[.slice none 0 0, .int .i64 0], .bool false]) (by simp only [results, Try.results17, go_sem]; simp [go_sem, q0, q1]) rfl ⟨_, by rw [HE.out.2], by rw [HE.out.1]; exact disk_own.2 ⟨_, rfl, Sh.Own.nil _ _⟩, belowPut2 HB.out (w.heap.size + 1 + 1) (by omega) _ _⟩
    | true =>
      obtain ⟨hl, hall⟩ := diskB_small hd
      have HSm := Lib.hid fun m hm => smallN (hall m hm)
      have HSn := Lib.hid (smallN hnb)
      have HD := Lib.hid hd
      have HNb := Lib.hid hnb
      clear hd hnb hall
      have x0 := HX.out.of 0 _ rfl
      by_cases hfull : x.notes.length = 120
      · obtain ⟨e1, e2⟩ := addD_full (b := safe) HD.out HNb.out hfull
        have HE := Lib.hid (And.intro e1 e2)
        have hi : ((x.notes.length : Int) == 120) = true := by simp [hfull]
        clear e1 e2 hfull
        have x1 := HX.out.of 1 _ rfl
        go_wp2_with fail
        clear x0 x1
        refine (copyDisk_any _ _ x (HV.out _ HB.out) (by omega) HSm.out).mono ?_
        rintro e w3 ⟨cs3, rfl, ho3, hb⟩
        obtain ⟨u3, rfl, hu3⟩ := disk_own.1 ho3
        obtain ⟨A3, c3, hf3, -, -⟩ := hu3.row.form
        subst hf3
        have hw2 : w.heap.size + 1 + 1 < w2.heap.size := HR.out.1
        have HO := Lib.hid hu3
        replace HB := Lib.hid (belowNext HB.out hb)
        replace HR := Lib.hid (HR.out.below hb HR.out.1)
        clear hb ho3 hu3 HX HY
        have r0 := HR.out.of 0 _ rfl
        have r1 := HR.out.of 1 _ rfl
        have rf := HR.out.2.1
        go_wp2
        have HQ := HR.out.put2 (.slice A3 x.notes.length c3) (.int .i64 x.safe)
        have q0 := HQ.of 0 _ rfl
        have q1 := HQ.of 1 _ rfl
        refine bodyPost_ret (v := .tuple #[.agg #[.slice A3 x.notes.length c3, .int .i64 x.safe], .bool false]) (by simp only [results, Try.results17, go_sem]; simp [go_sem, q0, q1]) rfl ⟨_, by rw [HE.out.2], ?_, belowPut2 HB.out (w.heap.size + 1 + 1) (by omega) _ _⟩
        rw [HE.out.1]
        exact disk_own.2 ⟨_, rfl, (own_put2 HO.out (fun b hb => by have := hb.1; omega) _ _).mono fun b hb => ⟨by have := hb.1; omega, by rw [put2_size]; exact hb.2⟩⟩
      · have hlt : x.notes.length < 120 := by omega
        obtain ⟨e1, e2⟩ := addD_yes (b := safe) HD.out HNb.out hlt
        have HE := Lib.hid (And.intro e1 e2)
        have hi : ((x.notes.length : Int) == 120) = false := by simp; omega
        clear e1 e2 hfull
        go_wp2_with fail
        clear x0
        refine (listOf_any _ _ x.notes (HU.out _ HB.out)).mono ?_
        rintro e w3 ⟨L, rfl, hR3, hb⟩
        have hw2 : w.heap.size + 1 + 1 < w2.heap.size := HR.out.1
        have HL := Lib.hid (hR3.onward (belowOne w3 (.cells #[ptr (at_ L 0)] 79)))
        have HLo := Lib.hid hR3.lo
        have HLt := Lib.hid hR3.lt
        have HLn := Lib.hid hR3.len
        have HM := Lib.hid (Held.new w3 #[ptr (at_ L 0)] 79)
        have hz3 := hb.size
        replace HB := Lib.hid ((belowNext HB.out hb).alloc (belowNext HB.out hb).size (.cells #[ptr (at_ L 0)] 79))
        replace HX := Lib.hid ((HX.out.below hb HX.out.1).after (.cells #[ptr (at_ L 0)] 79))
        replace HY := Lib.hid ((HY.out.below hb HY.out.1).after (.cells #[ptr (at_ L 0)] 79))
        replace HR := Lib.hid ((HR.out.below hb HR.out.1).after (.cells #[ptr (at_ L 0)] 79))
        clear hb hR3
        have y0 := HY.out.of 0 _ rfl
        have y1 := HY.out.of 1 _ rfl
        have y2 := HY.out.of 2 _ rfl
        have y3 := HY.out.of 3 _ rfl
        have HA := Lib.hid (add_any (w3.alloc (.cells #[ptr (at_ L 0)] 79)) w2.heap.size L x.notes [.int .i64 n.kind, .int .i64 n.tx, .slice Bu n.locks.length bu, .slice Bv n.writes.length bv] n HL.out (noteSh.rmore (HN0.out _ HB.out) (by omega)))
        unfold ptr at *
        go_wp2_with fail
        clear y0 y1 y2 y3
        refine HA.out.mono ?_
        rintro e w4 ⟨⟨v4, rfl⟩, b4, hb4, hR4, ho4⟩
        have hL0 : 0 < L.length := by have := HLn.out; omega
        have hlo : ∀ q, q < w2.heap.size → ¬ InRing L q := fun q hq ⟨i, hi, e⟩ => by have := HLo.out i hi; omega
        have hhi : ¬ InRing L w3.heap.size := fun ⟨i, hi, e⟩ => by have := HLt.out i hi; omega
        have HD4 := Lib.hid fun k (hR : Ring w4 w2.heap.size (L ++ [b4]) (x.notes ++ [n])) => disk_any w4 w2.heap.size (L ++ [b4]) (x.notes ++ [n]) k hR
        rw [at_left hL0] at HD4
        have HSm4 := Lib.hid (show ∀ m ∈ x.notes ++ [n], SmallN m from fun m hm => by
          rcases List.mem_append.1 hm with h1 | h1
          · exact HSm.out m h1
          · rw [List.mem_singleton.1 h1]; exact HSn.out)
        have HM4 := Lib.hid (HM.out.outs ho4 hhi)
        have HX4 := Lib.hid (HX.out.outs ho4 (hlo _ (by omega)))
        have HR4 := Lib.hid (HR.out.outs ho4 (hlo _ (by omega)))
        have HRg := Lib.hid hR4
        have hw4 := ho4.size
        rw [allocSize] at hw4
        have HB4 := Lib.hid (HB.out.trans (ho4.below (B := w.heap.size) (by rw [allocSize]; omega) (fun i ⟨j, hj, e⟩ => by have := HLo.out j hj; omega)))
        clear HM HX HR HB HA HL HLo HLt hb4 hR4 ho4 hlo hhi
        unfold ptr at HD4 HM4
        have m0 := HM4.out.of 0 _ rfl
        have x0 := HX4.out.of 0 _ rfl
        have x1 := HX4.out.of 1 _ rfl
        have hlp : (x.notes ++ [n]).length ≤ 1000000 := by simp; omega
        cases safe with
        | true =>
          go_wp2_with fail
          clear m0 x0 x1
          refine (HD4.out _ HRg.out hlp HSm4.out).mono ?_
          rintro e w5 ⟨cs5, rfl, ho5, hb⟩
          obtain ⟨u5, rfl, hu5⟩ := disk_own.1 ho5
          obtain ⟨A5, c5, hf5, -, -⟩ := hu5.row.form
          rw [List.length_append, List.length_singleton] at hf5
          subst hf5
          have HO := Lib.hid hu5
          replace HB4 := Lib.hid (belowNext HB4.out hb)
          replace HR4 := Lib.hid (HR4.out.below hb HR4.out.1)
          clear hb ho5 hu5
          have r0 := HR4.out.of 0 _ rfl
          have r1 := HR4.out.of 1 _ rfl
          have rf := HR4.out.2.1
          go_wp2
          have HQ := HR4.out.put2 (.slice A5 (x.notes.length + 1) c5) (.int .i64 ((x.notes.length : Int) + 1))
          have q0 := HQ.of 0 _ rfl
          have q1 := HQ.of 1 _ rfl
          refine bodyPost_ret (v := .tuple #[.agg #[.slice A5 (x.notes.length + 1) c5, .int .i64 ((x.notes.length : Int) + 1)], .bool true]) (by simp only [results, Try.results17, go_sem]; simp [go_sem, q0, q1]) rfl ⟨_, by rw [HE.out.2], ?_, belowPut2 HB4.out (w.heap.size + 1 + 1) (by omega) _ _⟩
          rw [HE.out.1]
          exact disk_own.2 ⟨_, rfl, (own_put2 HO.out (fun b hb => by have := hb.1; omega) _ _).mono fun b hb => ⟨by have := hb.1; omega, by rw [put2_size]; exact hb.2⟩⟩
        | false =>
          go_wp2_with fail
          clear m0 x0 x1
          refine (HD4.out _ HRg.out hlp HSm4.out).mono ?_
          rintro e w5 ⟨cs5, rfl, ho5, hb⟩
          obtain ⟨u5, rfl, hu5⟩ := disk_own.1 ho5
          obtain ⟨A5, c5, hf5, -, -⟩ := hu5.row.form
          rw [List.length_append, List.length_singleton] at hf5
          subst hf5
          have HO := Lib.hid hu5
          replace HB4 := Lib.hid (belowNext HB4.out hb)
          replace HR4 := Lib.hid (HR4.out.below hb HR4.out.1)
          clear hb ho5 hu5
          have r0 := HR4.out.of 0 _ rfl
          have r1 := HR4.out.of 1 _ rfl
          have rf := HR4.out.2.1
          go_wp2
          have HQ := HR4.out.put2 (.slice A5 (x.notes.length + 1) c5) (.int .i64 x.safe)
          have q0 := HQ.of 0 _ rfl
          have q1 := HQ.of 1 _ rfl
          refine bodyPost_ret (v := .tuple #[.agg #[.slice A5 (x.notes.length + 1) c5, .int .i64 x.safe], .bool true]) (by simp only [results, Try.results17, go_sem]; simp [go_sem, q0, q1]) rfl ⟨_, by rw [HE.out.2], ?_, belowPut2 HB4.out (w.heap.size + 1 + 1) (by omega) _ _⟩
          rw [HE.out.1]
          exact disk_own.2 ⟨_, rfl, (own_put2 HO.out (fun b hb => by have := hb.1; omega) _ _).mono fun b hb => ⟨by have := hb.1; omega, by rw [put2_size]; exact hb.2⟩⟩

end Go.Proofs.Ytkamlibfcakblaa
