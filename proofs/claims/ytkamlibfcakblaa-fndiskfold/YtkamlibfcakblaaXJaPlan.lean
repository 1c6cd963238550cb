/- Texts that follow each other, merged: JaPlan, OpenRel, JaOk, ExKit, JaNotes. -/
import Derived.Test.YtkamlibfcakblaaXDiskOf
import Derived.Test.YtkamlibfcakblaaXWrts
import Derived.Test.YtkamlibfcakblaaXOpenF
import Derived.Test.YtkamlibfcakblaaXIOpen
import Derived.Test.YtkamlibfcakblaaXSOpen
import Derived.Test.YtkamlibfcakblaaXExItems
import Derived.Test.YtkamlibfcakblaaXIntsOne
import Derived.Test.YtkamlibfcakblaaXShOwn
import Derived.Test.YtkamlibfcakblaaXShal

/- jaTexts, jaWrites and jaPlan of what is the same. -/
namespace Go.Proofs.Ytkamlibfcakblaa
open Go.RowKit

set_option maxRecDepth 100000 in
theorem jaTexts_same (w : World) (B : Nat) (v u : Value) (xs : List ByteArray) (hv : strSh.Row w B v xs) (hu : strSh.Row w B u xs) :
    Calls Try.prog 24 #[v, u] w fun e w' => e = .returned (.bool true) ∧ ∃ n, w' = w.drewN n := by
  obtain ⟨A, c, rfl, hc2, hc1⟩ := hv.form
  obtain ⟨A', c', rfl, hc2', hc1'⟩ := hu.form
  unfold maxLen at hc2 hc2'
  go_enter Try.func24, Try.ntmps24
  go_wp2
  go_loopw [5] (fun i wr => ∃ k n : Nat, k ≤ xs.length ∧ i = .int .i64 k ∧ wr = w.drewN n) (fun i _ => xs.length - (intOf i).toNat)
  case atStart => exact ⟨0, 0, Nat.zero_le _, rfl, rfl⟩
  case round =>
    obtain ⟨k, n, hk, rfl, rfl⟩ := hrel
    by_cases hlt : k < xs.length
    · obtain ⟨b, off, d, x, e1, hx, hB, hs, cu⟩ := strs_at hv hlt
      obtain ⟨b2, off2, d2, x2, e2, hx2, hB2, hs2, cu2⟩ := strs_at hu hlt
      rw [hx] at hx2
      injection hx2 with hx2
      subst hx2
      injection e1 with e1a e1b e1c
      injection e2 with e2a e2b e2c
      subst e1a e2a
      have f3 : (0 : Int) ≤ (k : Int) := by omega
      have f4 : (k : Int) < (xs.length : Int) := by omega
      clear e1b e1c e2b e2c hv hu hx hs hs2
      go_wp2
      go_quiet (fail)
      go_wp2
      go_roundw
      case rel => exact ⟨k + 1, _, by omega, by go_num, rfl⟩
      case measure => simp [intOf]; omega
    · clear hv hu
      go_wp2
      go_ret
      exact ⟨rfl, _, rfl⟩

set_option maxRecDepth 100000 in
set_option maxHeartbeats 4000000 in
theorem jaWrites_same (w : World) (v u : Value) (ws : List Wr) (hv : wrSh.Row w w.heap.size v ws) (hu : wrSh.Row w w.heap.size u ws) :
    Calls Try.prog 118 #[v, u] w fun e w' => e = .returned (.bool true) ∧ Below w.heap.size w w' := by
  obtain ⟨A, c, rfl, hc2, hc1⟩ := hv.form
  obtain ⟨A', c', rfl, hc2', hc1'⟩ := hu.form
  unfold maxLen at hc2 hc2'
  go_enter Try.func118, Try.ntmps118
  go_wp2
  go_loopw [5] (fun i wr => ∃ k : Nat, k ≤ ws.length ∧ i = .int .i64 k ∧ Below w.heap.size w wr) (fun i _ => ws.length - (intOf i).toNat)
  case atStart => exact ⟨0, Nat.zero_le _, rfl, Below.refl _ _⟩
  case round =>
    obtain ⟨k, hk, rfl, hb⟩ := hrel
    by_cases hlt : k < ws.length
    · obtain ⟨b, off, d, x, cs, e1, hx, hB, hr, hc⟩ := (hv.below hb).at_ hlt
      obtain ⟨b2, off2, d2, x2, cs2, e2, hx2, hB2, hr2, hcc⟩ := (hu.below hb).at_ hlt
      rw [hx] at hx2
      injection hx2 with hx2
      subst hx2
      obtain ⟨p, rfl, hs, hp⟩ := wr_rel.1 hr
      obtain ⟨p2, rfl, hs2, hp2⟩ := wr_rel.1 hr2
      obtain ⟨Ap, cp, rfl, -, -⟩ := hp.form
      obtain ⟨Ap2, cp2, rfl, -, -⟩ := hp2.form
      have c0 : wr.drew.cell? ⟨b, off + k * 3, none⟩ = some (.string x.key) := hc 0 _ rfl
      have c1 : wr.drew.cell? ⟨b, off + k * 3 + 1, none⟩ = some (.bool x.del) := hc 1 _ rfl
      have c2 : wr.drew.cell? ⟨b, off + k * 3 + 2, none⟩ = some (.slice Ap x.val.length cp) := hc 2 _ rfl
      have g0 : wr.drew.cell? ⟨b2, off2 + k * 3, none⟩ = some (.string x.key) := hcc 0 _ rfl
      have g1 : wr.drew.cell? ⟨b2, off2 + k * 3 + 1, none⟩ = some (.bool x.del) := hcc 1 _ rfl
      have g2 : wr.drew.cell? ⟨b2, off2 + k * 3 + 2, none⟩ = some (.slice Ap2 x.val.length cp2) := hcc 2 _ rfl
      injection e1 with e1a e1b e1c
      injection e2 with e2a e2b e2c
      subst e1a e2a
      have HP := Lib.hid (show Ints wr.drew wr.drew.heap.size _ x.val from ints_row.1 (hp.more hb.size))
      have HP2 := Lib.hid (show Ints wr.drew wr.drew.heap.size _ x.val from ints_row.1 (hp2.more hb.size))
      have HB := Lib.hid hb
      have k0 := And.intro c0 (And.intro c1 (And.intro c2 (And.intro g0 (And.intro g1 g2))))
      have f3 : (0 : Int) ≤ (k : Int) := by omega
      have f4 : (k : Int) < (ws.length : Int) := by omega
      clear e1b e1c e2b e2c hv hu hx hp hp2 hb hc hcc hr hr2 c0 c1 c2 g0 g1 g2
      go_wp2
      refine wp_region_held_drew (S := (fun w' => w'.cell? ⟨b, off + k * 3, none⟩ = some (.string x.key) ∧ w'.cell? ⟨b, off + k * 3 + 1, none⟩ = some (.bool x.del) ∧ w'.cell? ⟨b, off + k * 3 + 2, none⟩ = some (.slice Ap x.val.length cp) ∧ w'.cell? ⟨b2, off2 + k * 3, none⟩ = some (.string x.key) ∧ w'.cell? ⟨b2, off2 + k * 3 + 1, none⟩ = some (.bool x.del) ∧ w'.cell? ⟨b2, off2 + k * 3 + 2, none⟩ = some (.slice Ap2 x.val.length cp2))) (by kernel_rfl) ?hSr (fun hHeldr => ?str)
      case hSr => (first | (dsimp only; (exact k0)) | (exact k0))
      refine take_first 0 17 (v := ?vr_1) rfl rfl (by kernel_rfl) (by kernel_rfl) (by kernel_rfl) (fun _ _ _ h => h) (by rfl) ?yr_1 (by assumption) ?rr_1
      case yr_1 => (intro w hSw; (try dsimp only at hSw); go_simp; (try with_reducible rfl))
      simp only [Act.put, List.setIfInBounds_toArray, List.set_cons_zero, List.set_cons_succ]
      refine take_first 1 18 (v := ?vr_2) rfl rfl (by kernel_rfl) (by kernel_rfl) (by kernel_rfl) (fun _ _ _ h => h) (by rfl) ?yr_2 (by assumption) ?rr_2
      case yr_2 => (intro w hSw; (try dsimp only at hSw); go_simp; (try with_reducible rfl))
      simp only [Act.put, List.setIfInBounds_toArray, List.set_cons_zero, List.set_cons_succ]
      refine take_first 2 19 (v := ?vr_3) rfl rfl (by kernel_rfl) (by kernel_rfl) (by kernel_rfl) (fun _ _ _ h => h) (by rfl) ?yr_3 (by assumption) ?rr_3
      case yr_3 => (intro w hSw; (try dsimp only at hSw); go_simp; (try with_reducible rfl))
      simp only [Act.put, List.setIfInBounds_toArray, List.set_cons_zero, List.set_cons_succ]
      refine take_first 3 20 (v := ?vr_4) rfl rfl (by kernel_rfl) (by kernel_rfl) (by kernel_rfl) (fun _ _ _ h => h) (by rfl) ?yr_4 (by assumption) ?rr_4
      case yr_4 => (intro w hSw; (try dsimp only at hSw); go_simp; (try with_reducible rfl))
      simp only [Act.put, List.setIfInBounds_toArray, List.set_cons_zero, List.set_cons_succ]
      refine take_first 4 21 (v := ?vr_5) rfl rfl (by kernel_rfl) (by kernel_rfl) (by kernel_rfl) (fun _ _ _ h => h) (by rfl) ?yr_5 (by assumption) ?rr_5
      case yr_5 => (intro w hSw; (try dsimp only at hSw); go_simp; (try with_reducible rfl))
      simp only [Act.put, List.setIfInBounds_toArray, List.set_cons_zero, List.set_cons_succ]
      refine take_first 5 22 (v := ?vr_6) rfl rfl (by kernel_rfl) (by kernel_rfl) (by kernel_rfl) (fun _ _ _ h => h) (by rfl) ?yr_6 (by assumption) ?rr_6
      case yr_6 => (intro w hSw; (try dsimp only at hSw); go_simp; (try with_reducible rfl))
      simp only [Act.put, List.setIfInBounds_toArray, List.set_cons_zero, List.set_cons_succ]
      refine take_first 6 23 (v := ?vr_7) rfl rfl (by kernel_rfl) (by kernel_rfl) (by kernel_rfl) (fun _ _ _ h => h) (by rfl) ?yr_7 (by assumption) ?rr_7
      case yr_7 => (intro w hSw; (try dsimp only at hSw); go_simp; (try with_reducible rfl))
      simp only [Act.put, List.setIfInBounds_toArray, List.set_cons_zero, List.set_cons_succ]
      refine take_first 7 24 (v := ?vr_8) rfl rfl (by kernel_rfl) (by kernel_rfl) (by kernel_rfl) (fun _ _ _ h => h) (by rfl) ?yr_8 (by assumption) ?rr_8
      case yr_8 => (intro w hSw; (try dsimp only at hSw); go_simp; (try with_reducible rfl))
      simp only [Act.put, List.setIfInBounds_toArray, List.set_cons_zero, List.set_cons_succ]
      refine take_first 8 25 (v := ?vr_9) rfl rfl (by kernel_rfl) (by kernel_rfl) (by kernel_rfl) (fun _ _ _ h => h) (by rfl) ?yr_9 (by assumption) ?rr_9
      case yr_9 => (intro w hSw; (try dsimp only at hSw); go_simp; (try with_reducible rfl))
      simp only [Act.put, List.setIfInBounds_toArray, List.set_cons_zero, List.set_cons_succ]
      refine take_first 9 26 (v := ?vr_10) rfl rfl (by kernel_rfl) (by kernel_rfl) (by kernel_rfl) (fun _ _ _ h => h) (by rfl) ?yr_10 (by assumption) ?rr_10
      case yr_10 => (intro w hSw; (try dsimp only at hSw); go_simp; (try with_reducible rfl))
      simp only [Act.put, List.setIfInBounds_toArray, List.set_cons_zero, List.set_cons_succ]
      refine take_first 10 27 (v := ?vr_11) rfl rfl (by kernel_rfl) (by kernel_rfl) (by kernel_rfl) (fun _ _ _ h => h) (by rfl) ?yr_11 (by assumption) ?rr_11
      case yr_11 => (intro w hSw; (try dsimp only at hSw); go_simp; (try with_reducible rfl))
      simp only [Act.put, List.setIfInBounds_toArray, List.set_cons_zero, List.set_cons_succ]
      refine take_first 11 28 (v := ?vr_12) rfl rfl (by kernel_rfl) (by kernel_rfl) (by kernel_rfl) (fun _ _ _ h => h) (by rfl) ?yr_12 (by assumption) ?rr_12
      case yr_12 => (intro w hSw; (try dsimp only at hSw); go_simp; (try with_reducible rfl))
      simp only [Act.put, List.setIfInBounds_toArray, List.set_cons_zero, List.set_cons_succ]
      refine take_first 12 29 (v := ?vr_13) rfl rfl (by kernel_rfl) (by kernel_rfl) (by kernel_rfl) (fun _ _ _ h => h) (by rfl) ?yr_13 (by assumption) ?rr_13
      case yr_13 => (intro w hSw; (try dsimp only at hSw); go_simp; (try with_reducible rfl))
      simp only [Act.put, List.setIfInBounds_toArray, List.set_cons_zero, List.set_cons_succ]
      refine take_first 13 30 (v := ?vr_14) rfl rfl (by kernel_rfl) (by kernel_rfl) (by kernel_rfl) (fun _ _ _ h => h) (by rfl) ?yr_14 (by assumption) ?rr_14
      case yr_14 => (intro w hSw; (try dsimp only at hSw); go_simp; (try with_reducible rfl))
      simp only [Act.put, List.setIfInBounds_toArray, List.set_cons_zero, List.set_cons_succ]
      refine take_first 14 31 (v := ?vr_15) rfl rfl (by kernel_rfl) (by kernel_rfl) (by kernel_rfl) (fun _ _ _ h => h) (by rfl) ?yr_15 (by assumption) ?rr_15
      case yr_15 => (intro w hSw; (try dsimp only at hSw); go_simp; (try with_reducible rfl))
      simp only [Act.put, List.setIfInBounds_toArray, List.set_cons_zero, List.set_cons_succ]
      refine take_first 15 32 (v := ?vr_16) rfl rfl (by kernel_rfl) (by kernel_rfl) (by kernel_rfl) (fun _ _ _ h => h) (by rfl) ?yr_16 (by assumption) ?rr_16
      case yr_16 => (intro w hSw; (try dsimp only at hSw); go_simp; (try with_reducible rfl))
      simp only [Act.put, List.setIfInBounds_toArray, List.set_cons_zero, List.set_cons_succ]
      refine take_first 16 33 (v := ?vr_17) rfl rfl (by kernel_rfl) (by kernel_rfl) (by kernel_rfl) (fun _ _ _ h => h) (by rfl) ?yr_17 (by assumption) ?rr_17
      case yr_17 => (intro w hSw; (try dsimp only at hSw); go_simp; (try with_reducible rfl))
      simp only [Act.put, List.setIfInBounds_toArray, List.set_cons_zero, List.set_cons_succ]
      refine take_first 17 34 (v := ?vr_18) rfl rfl (by kernel_rfl) (by kernel_rfl) (by kernel_rfl) (fun _ _ _ h => h) (by rfl) ?yr_18 (by assumption) ?rr_18
      case yr_18 => (intro w hSw; (try dsimp only at hSw); go_simp; (try with_reducible rfl))
      simp only [Act.put, List.setIfInBounds_toArray, List.set_cons_zero, List.set_cons_succ]
      refine take_first 18 35 (v := ?vr_19) rfl rfl (by kernel_rfl) (by kernel_rfl) (by kernel_rfl) (fun _ _ _ h => h) (by rfl) ?yr_19 (by assumption) ?rr_19
      case yr_19 => (intro w hSw; (try dsimp only at hSw); go_simp; (try with_reducible rfl))
      simp only [Act.put, List.setIfInBounds_toArray, List.set_cons_zero, List.set_cons_succ]
      refine take_first 19 36 (v := ?vr_20) rfl rfl (by kernel_rfl) (by kernel_rfl) (by kernel_rfl) (fun _ _ _ h => h) (by rfl) ?yr_20 (by assumption) ?rr_20
      case yr_20 => (intro w hSw; (try dsimp only at hSw); go_simp; (try with_reducible rfl))
      simp only [Act.put, List.setIfInBounds_toArray, List.set_cons_zero, List.set_cons_succ]
      refine take_first 20 37 (v := ?vr_21) rfl rfl (by kernel_rfl) (by kernel_rfl) (by kernel_rfl) (fun _ _ _ h => h) (by rfl) ?yr_21 (by assumption) ?rr_21
      case yr_21 => (intro w hSw; (try dsimp only at hSw); go_simp; (try with_reducible rfl))
      simp only [Act.put, List.setIfInBounds_toArray, List.set_cons_zero, List.set_cons_succ]
      refine take_first 21 38 (v := ?vr_22) rfl rfl (by kernel_rfl) (by kernel_rfl) (by kernel_rfl) (fun _ _ _ h => h) (by rfl) ?yr_22 (by assumption) ?rr_22
      case yr_22 => (intro w hSw; (try dsimp only at hSw); go_simp; (try with_reducible rfl))
      simp only [Act.put, List.setIfInBounds_toArray, List.set_cons_zero, List.set_cons_succ]
      refine take_first 22 39 (v := ?vr_23) rfl rfl (by kernel_rfl) (by kernel_rfl) (by kernel_rfl) (fun _ _ _ h => h) (by rfl) ?yr_23 (by assumption) ?rr_23
      case yr_23 => (intro w hSw; (try dsimp only at hSw); go_simp; (try with_reducible rfl))
      simp only [Act.put, List.setIfInBounds_toArray, List.set_cons_zero, List.set_cons_succ]
      refine take_first 23 40 (v := ?vr_24) rfl rfl (by kernel_rfl) (by kernel_rfl) (by kernel_rfl) (fun _ _ _ h => h) (by rfl) ?yr_24 (by assumption) ?rr_24
      case yr_24 => (intro w hSw; (try dsimp only at hSw); go_simp; (try with_reducible rfl))
      simp only [Act.put, List.setIfInBounds_toArray, List.set_cons_zero, List.set_cons_succ]
      refine take_first 24 41 (v := ?vr_25) rfl rfl (by kernel_rfl) (by kernel_rfl) (by kernel_rfl) (fun _ _ _ h => h) (by rfl) ?yr_25 (by assumption) ?rr_25
      case yr_25 => (intro w hSw; (try dsimp only at hSw); go_simp; (try with_reducible rfl))
      simp only [Act.put, List.setIfInBounds_toArray, List.set_cons_zero, List.set_cons_succ]
      refine take_first 25 42 (v := ?vr_26) rfl rfl (by kernel_rfl) (by kernel_rfl) (by kernel_rfl) (fun _ _ _ h => h) (by rfl) ?yr_26 (by assumption) ?rr_26
      case yr_26 => (intro w hSw; (try dsimp only at hSw); go_simp; (try with_reducible rfl))
      simp only [Act.put, List.setIfInBounds_toArray, List.set_cons_zero, List.set_cons_succ]
      refine take_first 26 43 (v := ?vr_27) rfl rfl (by kernel_rfl) (by kernel_rfl) (by kernel_rfl) (fun _ _ _ h => h) (by rfl) ?yr_27 (by assumption) ?rr_27
      case yr_27 => (intro w hSw; (try dsimp only at hSw); go_simp; (try with_reducible rfl))
      simp only [Act.put, List.setIfInBounds_toArray, List.set_cons_zero, List.set_cons_succ]
      refine take_first 27 44 (v := ?vr_28) rfl rfl (by kernel_rfl) (by kernel_rfl) (by kernel_rfl) (fun _ _ _ h => h) (by rfl) ?yr_28 (by assumption) ?rr_28
      case yr_28 => (intro w hSw; (try dsimp only at hSw); go_simp; (try with_reducible rfl))
      simp only [Act.put, List.setIfInBounds_toArray, List.set_cons_zero, List.set_cons_succ]
      refine take_first 28 45 (v := ?vr_29) rfl rfl (by kernel_rfl) (by kernel_rfl) (by kernel_rfl) (fun _ _ _ h => h) (by rfl) ?yr_29 (by assumption) ?rr_29
      case yr_29 => (intro w hSw; (try dsimp only at hSw); go_simp; (try with_reducible rfl))
      simp only [Act.put, List.setIfInBounds_toArray, List.set_cons_zero, List.set_cons_succ]
      refine take_first 29 46 (v := ?vr_30) rfl rfl (by kernel_rfl) (by kernel_rfl) (by kernel_rfl) (fun _ _ _ h => h) (by rfl) ?yr_30 (by assumption) ?rr_30
      case yr_30 => (intro w hSw; (try dsimp only at hSw); go_simp; (try with_reducible rfl))
      simp only [Act.put, List.setIfInBounds_toArray, List.set_cons_zero, List.set_cons_succ]
      refine take_first 30 47 (v := ?vr_31) rfl rfl (by kernel_rfl) (by kernel_rfl) (by kernel_rfl) (fun _ _ _ h => h) (by rfl) ?yr_31 (by assumption) ?rr_31
      case yr_31 => (intro w hSw; (try dsimp only at hSw); go_simp; (try with_reducible rfl))
      simp only [Act.put, List.setIfInBounds_toArray, List.set_cons_zero, List.set_cons_succ]
      refine take_first 31 48 (v := ?vr_32) rfl rfl (by kernel_rfl) (by kernel_rfl) (by kernel_rfl) (fun _ _ _ h => h) (by rfl) ?yr_32 (by assumption) ?rr_32
      case yr_32 => (intro w hSw; (try dsimp only at hSw); go_simp; (try with_reducible rfl))
      simp only [Act.put, List.setIfInBounds_toArray, List.set_cons_zero, List.set_cons_succ]
      refine take_first 32 49 (v := ?vr_33) rfl rfl (by kernel_rfl) (by kernel_rfl) (by kernel_rfl) (fun _ _ _ h => h) (by rfl) ?yr_33 (by assumption) ?rr_33
      case yr_33 => (intro w hSw; (try dsimp only at hSw); go_simp; (try with_reducible rfl))
      simp only [Act.put, List.setIfInBounds_toArray, List.set_cons_zero, List.set_cons_succ]
      refine take_first 33 50 (v := ?vr_34) rfl rfl (by kernel_rfl) (by kernel_rfl) (by kernel_rfl) (fun _ _ _ h => h) (by rfl) ?yr_34 (by assumption) ?rr_34
      case yr_34 => (intro w hSw; (try dsimp only at hSw); go_simp; (try with_reducible rfl))
      simp only [Act.put, List.setIfInBounds_toArray, List.set_cons_zero, List.set_cons_succ]
      refine take_first 34 51 (v := ?vr_35) rfl rfl (by kernel_rfl) (by kernel_rfl) (by kernel_rfl) (fun _ _ _ h => h) (by rfl) ?yr_35 (by assumption) ?rr_35
      case yr_35 => (intro w hSw; (try dsimp only at hSw); go_simp; (try with_reducible rfl))
      simp only [Act.put, List.setIfInBounds_toArray, List.set_cons_zero, List.set_cons_succ]
      refine wpAnyH_ready (rs := [35]) (by kernel_rfl) (by simp) ?_
      refine AllReadyH.cons (o := _) rfl (fun Kr_36 hKr_36 => ?cr_36) ?mr_36
      case mr_36 => exact AllReadyH.nil
      go_simp
      refine (jaInts_any _ _ _ _ x.val x.val HP.out HP2.out).mono ?_; rintro e w1 ⟨rfl, n, rfl⟩; rw [show decide (x.val = x.val) = true from decide_eq_true rfl]
      go_wp2_with fail
      refine hKr_36.out _ _ ?kr_36 (fun hHeldr_36 => ?dr_36)
      case kr_36 => (first | (dsimp only; (exact k0)) | (exact k0))
      clear hKr_36 Kr_36
      refine take_first 36 53 (v := ?vr_37) rfl rfl (by kernel_rfl) (by kernel_rfl) (by kernel_rfl) (fun _ _ _ h => h) (by rfl) ?yr_37 (by assumption) ?rr_37
      case yr_37 => (intro w hSw; (try dsimp only at hSw); go_simp; (try with_reducible rfl))
      simp only [Act.put, List.setIfInBounds_toArray, List.set_cons_zero, List.set_cons_succ]
      refine take_first 37 54 (v := ?vr_38) rfl rfl (by kernel_rfl) (by kernel_rfl) (by kernel_rfl) (fun _ _ _ h => h) (by rfl) ?yr_38 (by assumption) ?rr_38
      case yr_38 => (intro w hSw; (try dsimp only at hSw); go_simp; (try with_reducible rfl))
      simp only [Act.put, List.setIfInBounds_toArray, List.set_cons_zero, List.set_cons_succ]
      refine wpAnyH_done (by kernel_rfl) ?er _
      clear k0
      go_wp2
      go_roundw
      case rel => exact ⟨k + 1, by omega, by go_num, belowDraws HB.out (1 + n)⟩
      case measure => simp [intOf]; omega
    · clear hv hu
      go_wp2
      go_ret
      exact ⟨rfl, hb⟩

/-- A plan that is read. -/
def PlanRd (w : World) (B : Nat) (cs : List Value) (pl : Plan) : Prop := planSh.rel w B cs pl
end Go.Proofs.Ytkamlibfcakblaa

/- What DiskOpen and DiskLocks answer, as rows that are only read; what their law counts. -/
namespace Go.Proofs.Ytkamlibfcakblaa
open Go.RowKit

/-- A row, as an answer. -/
def RowGot {α : Type} (A : Sh α) (xs : List α) (w : World) (e : Ending) (w' : World) : Prop :=
  ∃ Ad c, e = .returned (.slice Ad xs.length c) ∧ A.Row w' w'.heap.size (.slice Ad xs.length c) xs ∧ Below w.heap.size w w'
theorem rowGot {α : Type} {A : Sh α} {t : TypeId} {xs ys : List α} (h : ys = xs) {w : World} {e : Ending} {w' : World} (hc : CopiedSl A t ys w e w') : RowGot A xs w e w' := by
  subst h
  obtain ⟨v, h1, h2, h3⟩ := hc
  obtain ⟨Ad, c, rfl, -, -⟩ := h2.row.form
  exact ⟨Ad, c, h1, h2.row, h3⟩
theorem implOpen_got (w : World) (cs : List Value) (x : Disk) (h : diskSh.rel w w.heap.size cs x) {O : List Int} (hO : openD x = O) : Calls Try.prog 20 #[.agg cs.toArray] w (RowGot Sh.int O w) := (implDiskOpen_any w cs x h).mono fun _ _ hc => rowGot hO hc
theorem specOpen_got (w : World) (cs : List Value) (x : Disk) (h : diskSh.rel w w.heap.size cs x) {O : List Int} (hO : openD x = O) : Calls Try.prog 23 #[.agg cs.toArray] w (RowGot Sh.int O w) := (specDiskOpen_any w cs x h).mono fun _ _ hc => rowGot hO hc
theorem implLocks_got (w : World) (cs : List Value) (x : Disk) (h : diskSh.rel w w.heap.size cs x) {O : List ByteArray} (hO : locksD x = O) : Calls Try.prog 21 #[.agg cs.toArray] w (RowGot strSh O w) := (implDiskLocks_any w cs x h).mono fun _ _ hc => rowGot hO hc
theorem specLocks_got (w : World) (cs : List Value) (x : Disk) (h : diskSh.rel w w.heap.size cs x) {O : List ByteArray} (hO : locksD x = O) : Calls Try.prog 25 #[.agg cs.toArray] w (RowGot strSh O w) := (specDiskLocks_any w cs x h).mono fun _ _ hc => rowGot hO hc
theorem jaInts_got (w : World) (v u : Value) (O : List Int) (h1 : Sh.int.Row w w.heap.size v O) (h2 : Sh.int.Row w w.heap.size u O) : Calls Try.prog 22 #[v, u] w (Alike w) :=
  (jaInts_any w _ v u O O (ints_row.1 h1) (ints_row.1 h2)).mono fun _ _ ⟨q1, n, q2⟩ => ⟨by rw [q1]; simp, q2 ▸ belowDraws (Below.refl _ _) n⟩
theorem jaTexts_got (w : World) (v u : Value) (O : List ByteArray) (h1 : strSh.Row w w.heap.size v O) (h2 : strSh.Row w w.heap.size u O) : Calls Try.prog 24 #[v, u] w (Alike w) :=
  (jaTexts_same w _ v u O h1 h2).mono fun _ _ ⟨q1, n, q2⟩ => ⟨q1, q2 ▸ belowDraws (Below.refl _ _) n⟩

/-- A note that holds a name. -/
def heldN (O : List Int) (key : ByteArray) (y : Note) : Bool := decide (y.kind = 1) && (memB O y.tx && hasT y.locks key)
def heldTo (O : List Int) (key : ByteArray) (ns : List Note) (j : Nat) : Bool := (ns.take j).any (heldN O key)
theorem heldTo_zero (O : List Int) (key : ByteArray) (ns : List Note) : heldTo O key ns 0 = false := by simp [heldTo]
theorem heldTo_step {O : List Int} {key : ByteArray} {ns : List Note} {j : Nat} {y : Note} (h : ns[j]? = some y) : heldTo O key ns (j + 1) = (heldTo O key ns j || heldN O key y) := by
  unfold heldTo; rw [take_snoc h, List.any_append]; simp
theorem held_yes {O : List Int} {key : ByteArray} {ns : List Note} {j : Nat} {y : Note} (h : ns[j]? = some y) (hh : heldTo O key ns j = true) : heldTo O key ns (j + 1) = true := by rw [heldTo_step h, hh]; rfl
theorem held_no {O : List Int} {key : ByteArray} {ns : List Note} {j : Nat} {y : Note} (h : ns[j]? = some y) (hh : heldTo O key ns j = false) (hy : y.kind ≠ 1 ∨ memB O y.tx = false) : heldTo O key ns (j + 1) = false := by
  rw [heldTo_step h, hh]
  rcases hy with h | h <;> simp [heldN, h]
theorem held_has {O : List Int} {key : ByteArray} {ns : List Note} {j : Nat} {y : Note} (h : ns[j]? = some y) (hh : heldTo O key ns j = false) (h1 : y.kind = 1) (h2 : memB O y.tx = true) : heldTo O key ns (j + 1) = hasT y.locks key := by
  rw [heldTo_step h, hh]; simp [heldN, h1, h2]
theorem held_all {x : Disk} (h : diskB x = true) {k : Nat} {key : ByteArray} (hk : (locksD x)[k]? = some key) : heldTo (openD x) key x.notes x.notes.length = true := by
  unfold heldTo
  rw [List.take_length, List.any_eq_true]
  obtain ⟨y, hy, h1, h2, h3⟩ := (mem_locksD h).1 (List.mem_of_getElem? hk)
  exact ⟨y, hy, by unfold heldN; rw [memB_iff.2 h2, hasT_yes h3]; simp [h1]⟩
theorem once_T {x : Disk} {k : Nat} {key : ByteArray} (hk : (locksD x)[k]? = some key) : hasT ((locksD x).take k) key = false := once_before (nodup_locksD x) hk

end Go.Proofs.Ytkamlibfcakblaa

/- What every law of draws ends with. -/
namespace Go.Proofs.Ytkamlibfcakblaa
open Go.RowKit

set_option maxRecDepth 100000 in
theorem jaOk_any (w : World) : Calls Try.prog 16 #[] w fun e w' => e = .returned (.bool true) ∧ Below w.heap.size w w' := by
  have HI := Lib.hid (Ints.one w 1)
  have HK : Hid (wrtB ⟨#[97, 49]⟩ false [1] = true) := by show wrtB ⟨#[97, 49]⟩ false [1] = true; decide
  go_enter Try.func16, Try.ntmps16
  go_wp2_with fail
  refine (implWrtOk_any _ _ _ _ [1] (by show 2 ≤ _; unfold maxLen; omega) HI.out).mono ?_
  rintro e w1 ⟨rfl, hb1⟩
  rw [HK.out]
  have HB := Lib.hid (belowNext (belowOne _ _) hb1)
  clear hb1
  go_wp2
  go_ret
  exact ⟨rfl, HB.out⟩

end Go.Proofs.Ytkamlibfcakblaa

/- How what is owned, or read, is carried through a call, and through the marks on other blocks. Nothing of the program. -/
namespace Go.Proofs.Ytkamlibfcakblaa
open Go.RowKit

section
variable {α : Type} {A : Sh α} {w w' : World} {S T : Nat → Prop} {B n : Nat} {cs : List Value} {x : α} {e : TypeId} {v : Value} {xs : List α}
theorem own_call (h : A.own w S cs x) (hb : Below w.heap.size w w') : A.own w' S cs x := A.okeep h fun b _ hlt => hb.block b hlt
theorem own_mark (h : A.own w S cs x) (ht : Outs T w w') (hd : ∀ b, S b → T b → False) : A.own w' S cs x := A.okeep h fun b hb hlt => ht.block b hlt fun h => hd b hb h
theorem rel_call (h : A.rel w B cs x) (hb : Below w.heap.size w w') (hB : B ≤ w.heap.size) : A.rel w' B cs x := A.rbelow h (hb.mono hB)
theorem rel_mark (h : A.rel w B cs x) (ht : Outs T w w') (hB : B ≤ w.heap.size) (hd : ∀ b, T b → B ≤ b) : A.rel w' B cs x :=
  A.rkeep h fun b o hb => World.cell?_of_block (a := ⟨b, o, none⟩) (ht.block b (by omega) fun h => by have := hd b h; omega)
theorem own_sl_call (h : A.Own e w S v xs) (hb : Below w.heap.size w w') : A.Own e w' S v xs := h.keep fun b _ hlt => hb.block b hlt
theorem own_sl_mark (h : A.Own e w S v xs) (ht : Outs T w w') (hd : ∀ b, S b → T b → False) : A.Own e w' S v xs := h.keep fun b hb hlt => ht.block b hlt fun h => hd b hb h
theorem row_call (h : A.Row w B v xs) (hb : Below w.heap.size w w') (hB : B ≤ w.heap.size) : A.Row w' B v xs := h.below (hb.mono hB)
theorem row_mark (h : A.Row w B v xs) (ht : Outs T w w') (hB : B ≤ w.heap.size) (hd : ∀ b, T b → B ≤ b) : A.Row w' B v xs :=
  h.keep fun b o hb => World.cell?_of_block (a := ⟨b, o, none⟩) (ht.block b (by omega) fun h => by have := hd b h; omega)
theorem below_mark (h : Below n w w') {w2 : World} (ht : Outs T w' w2) (hn : n ≤ w'.heap.size) (hd : ∀ b, T b → n ≤ b) : Below n w w2 := h.trans (ht.below hn hd)
end

end Go.Proofs.Ytkamlibfcakblaa

/- jaNote, jaNotes and jaDisk of what is the same. -/
namespace Go.Proofs.Ytkamlibfcakblaa
open Go.RowKit

theorem cell_below {w w' : World} {b o : Nat} {u : Value} (hb : Below w.heap.size w w') (h : w.cell? ⟨b, o, none⟩ = some u) : w'.cell? ⟨b, o, none⟩ = some u := by
  have hlt : b < w.heap.size := by
    rcases Nat.lt_or_ge b w.heap.size with h' | h'
    · exact h'
    · simp [World.cell?, Array.getElem?_eq_none h'] at h
  exact (World.cell?_of_block (a := ⟨b, o, none⟩) (hb.block b hlt)).trans h

set_option maxRecDepth 100000 in
set_option maxHeartbeats 4000000 in
theorem jaNote_same (w : World) (cs ds : List Value) (x : Note) (h1 : noteSh.rel w w.heap.size cs x) (h2 : noteSh.rel w w.heap.size ds x) :
    Calls Try.prog 80 #[.agg (List.toArray cs), .agg (List.toArray ds)] w fun e w' => e = .returned (.bool true) ∧ Below w.heap.size w w' := by
  obtain ⟨u1, u2, rfl, hu1, hu2⟩ := note_rel.1 h1
  obtain ⟨v1, v2, rfl, hv1, hv2⟩ := note_rel.1 h2
  have HB := Lib.hid (belowTwo w (.cells #[.int .i64 x.kind, .int .i64 x.tx, u1, u2] 36) (.cells #[.int .i64 x.kind, .int .i64 x.tx, v1, v2] 36))
  have HX := Lib.hid ((Held.new w #[.int .i64 x.kind, .int .i64 x.tx, u1, u2] 36).after (.cells #[.int .i64 x.kind, .int .i64 x.tx, v1, v2] 36))
  have HY := Lib.hid (show Held ((w.alloc (.cells #[.int .i64 x.kind, .int .i64 x.tx, u1, u2] 36)).alloc (.cells #[.int .i64 x.kind, .int .i64 x.tx, v1, v2] 36)) (w.heap.size + 1) [.int .i64 x.kind, .int .i64 x.tx, v1, v2] from by have h := Held.new (w.alloc (.cells #[.int .i64 x.kind, .int .i64 x.tx, u1, u2] 36)) #[.int .i64 x.kind, .int .i64 x.tx, v1, v2] 36; rwa [show (w.alloc (.cells #[.int .i64 x.kind, .int .i64 x.tx, u1, u2] 36)).heap.size = w.heap.size + 1 by simp] at h)
  have H1 := Lib.hid ((hu1.below HB.out).more HB.out.size)
  have H2 := Lib.hid ((hu2.below HB.out).more HB.out.size)
  have K1 := Lib.hid ((hv1.below HB.out).more HB.out.size)
  have K2 := Lib.hid ((hv2.below HB.out).more HB.out.size)
  obtain ⟨A1, c1, rfl, -, -⟩ := hu1.form
  obtain ⟨A2, c2, rfl, -, -⟩ := hu2.form
  obtain ⟨B1, d1, rfl, -, -⟩ := hv1.form
  obtain ⟨B2, d2, rfl, -, -⟩ := hv2.form
  have ek : (x.kind == x.kind) = true := by simp
  have et : (x.tx == x.tx) = true := by simp
  clear hu1 hu2 hv1 hv2 h1 h2
  go_enter Try.func80, Try.ntmps80
  have x0 := HX.out.of 0 _ rfl
  have x1 := HX.out.of 1 _ rfl
  have x2 := HX.out.of 2 _ rfl
  have y0 := HY.out.of 0 _ rfl
  have y1 := HY.out.of 1 _ rfl
  have y2 := HY.out.of 2 _ rfl
  go_wp2_with fail
  clear x0 x1 x2 y0 y1 y2
  refine (jaTexts_same _ _ _ _ x.locks H1.out K1.out).mono ?_
  rintro e w1 ⟨rfl, n, hw1⟩
  have hb : Below ((w.alloc (.cells #[.int .i64 x.kind, .int .i64 x.tx, .slice A1 x.locks.length c1, .slice A2 x.writes.length c2] 36)).alloc (.cells #[.int .i64 x.kind, .int .i64 x.tx, .slice B1 x.locks.length d1, .slice B2 x.writes.length d2] 36)).heap.size ((w.alloc (.cells #[.int .i64 x.kind, .int .i64 x.tx, .slice A1 x.locks.length c1, .slice A2 x.writes.length c2] 36)).alloc (.cells #[.int .i64 x.kind, .int .i64 x.tx, .slice B1 x.locks.length d1, .slice B2 x.writes.length d2] 36)) w1 := by rw [hw1]; exact belowDraws (Below.refl _ _) n
  clear hw1
  replace HX := Lib.hid (HX.out.below hb HX.out.1)
  replace HY := Lib.hid (HY.out.below hb HY.out.1)
  replace HB := Lib.hid (belowNext HB.out hb)
  have H3 := Lib.hid ((H2.out.below hb).more hb.size)
  have K3 := Lib.hid ((K2.out.below hb).more hb.size)
  clear H1 H2 K1 K2 hb
  have x2 := HX.out.of 3 _ rfl
  have y2 := HY.out.of 3 _ rfl
  go_wp2_with fail
  clear x2 y2
  refine (jaWrites_same _ _ _ x.writes H3.out K3.out).mono ?_
  rintro e w2 ⟨rfl, hb⟩
  replace HB := Lib.hid (belowNext HB.out hb)
  clear hb
  go_wp2
  go_ret
  exact ⟨rfl, HB.out⟩

set_option maxRecDepth 100000 in
set_option maxHeartbeats 4000000 in
theorem jaNotes_same (w : World) (v u : Value) (ns : List Note) (hv : noteSh.Row w w.heap.size v ns) (hu : noteSh.Row w w.heap.size u ns) :
    Calls Try.prog 32 #[v, u] w fun e w' => e = .returned (.bool true) ∧ Below w.heap.size w w' := by
  obtain ⟨A, c, rfl, hc2, hc1⟩ := hv.form
  obtain ⟨A', c', rfl, hc2', hc1'⟩ := hu.form
  unfold maxLen at hc2 hc2'
  go_enter Try.func32, Try.ntmps32
  go_wp2
  go_loopw [5] (fun i wr => ∃ k : Nat, k ≤ ns.length ∧ i = .int .i64 k ∧ Below w.heap.size w wr) (fun i _ => ns.length - (intOf i).toNat)
  case atStart => exact ⟨0, Nat.zero_le _, rfl, Below.refl _ _⟩
  case round =>
    obtain ⟨k, hk, rfl, hb⟩ := hrel
    by_cases hlt : k < ns.length
    · obtain ⟨b, off, d, x, cs, e1, hx, hB, hr, hc⟩ := (hv.below hb).at_ hlt
      obtain ⟨b2, off2, d2, x2, cs2, e2, hx2, hB2, hr2, hcc⟩ := (hu.below hb).at_ hlt
      rw [hx] at hx2
      injection hx2 with hx2
      subst hx2
      have HP := Lib.hid (show noteSh.rel wr.drew wr.drew.heap.size cs x from noteSh.rmore hr hb.size)
      have HP2 := Lib.hid (show noteSh.rel wr.drew wr.drew.heap.size cs2 x from noteSh.rmore hr2 hb.size)
      obtain ⟨p1, p2, rfl, hp1, hp2⟩ := note_rel.1 hr
      obtain ⟨q1, q2, rfl, hq1, hq2⟩ := note_rel.1 hr2
      obtain ⟨P1, m1, rfl, -, -⟩ := hp1.form
      obtain ⟨P2, m2, rfl, -, -⟩ := hp2.form
      obtain ⟨Q1, n1, rfl, -, -⟩ := hq1.form
      obtain ⟨Q2, n2, rfl, -, -⟩ := hq2.form
      have c0 : wr.drew.cell? ⟨b, off + k * 4, none⟩ = some (.int .i64 x.kind) := hc 0 _ rfl
      have c1 : wr.drew.cell? ⟨b, off + k * 4 + 1, none⟩ = some (.int .i64 x.tx) := hc 1 _ rfl
      have c2 : wr.drew.cell? ⟨b, off + k * 4 + 2, none⟩ = some (.slice P1 x.locks.length m1) := hc 2 _ rfl
      have c3 : wr.drew.cell? ⟨b, off + k * 4 + 3, none⟩ = some (.slice P2 x.writes.length m2) := hc 3 _ rfl
      have g0 : wr.drew.cell? ⟨b2, off2 + k * 4, none⟩ = some (.int .i64 x.kind) := hcc 0 _ rfl
      have g1 : wr.drew.cell? ⟨b2, off2 + k * 4 + 1, none⟩ = some (.int .i64 x.tx) := hcc 1 _ rfl
      have g2 : wr.drew.cell? ⟨b2, off2 + k * 4 + 2, none⟩ = some (.slice Q1 x.locks.length n1) := hcc 2 _ rfl
      have g3 : wr.drew.cell? ⟨b2, off2 + k * 4 + 3, none⟩ = some (.slice Q2 x.writes.length n2) := hcc 3 _ rfl
      injection e1 with e1a e1b e1c
      injection e2 with e2a e2b e2c
      subst e1a e2a
      have HB := Lib.hid hb
      have k0 := And.intro c0 (And.intro c1 (And.intro c2 (And.intro c3 (And.intro g0 (And.intro g1 (And.intro g2 g3))))))
      have f3 : (0 : Int) ≤ (k : Int) := by omega
      have f4 : (k : Int) < (ns.length : Int) := by omega
      clear e1b e1c e2b e2c hv hu hx hb hc hcc hr hr2 c0 c1 c2 c3 g0 g1 g2 g3 hp1 hp2 hq1 hq2
      go_wp2
      refine wp_region_held_drew (S := (fun w' => w'.cell? ⟨b, off + k * 4, none⟩ = some (.int .i64 x.kind) ∧ w'.cell? ⟨b, off + k * 4 + 1, none⟩ = some (.int .i64 x.tx) ∧ w'.cell? ⟨b, off + k * 4 + 2, none⟩ = some (.slice P1 x.locks.length m1) ∧ w'.cell? ⟨b, off + k * 4 + 3, none⟩ = some (.slice P2 x.writes.length m2) ∧ w'.cell? ⟨b2, off2 + k * 4, none⟩ = some (.int .i64 x.kind) ∧ w'.cell? ⟨b2, off2 + k * 4 + 1, none⟩ = some (.int .i64 x.tx) ∧ w'.cell? ⟨b2, off2 + k * 4 + 2, none⟩ = some (.slice Q1 x.locks.length n1) ∧ w'.cell? ⟨b2, off2 + k * 4 + 3, none⟩ = some (.slice Q2 x.writes.length n2))) (by kernel_rfl) ?hSr (fun hHeldr => ?str)
      case hSr => (first | (dsimp only; (first | with_reducible exact k1 | exact k0)) | (first | with_reducible exact k1 | exact k0))
      refine take_first 0 17 (v := ?vr_1) rfl rfl (by kernel_rfl) (by kernel_rfl) (by kernel_rfl) (fun _ _ _ h => h) (by rfl) ?yr_1 (by assumption) ?rr_1
      case yr_1 => (intro w hSw; (try dsimp only at hSw); go_simp; (try with_reducible rfl))
      simp only [Act.put, List.setIfInBounds_toArray, List.set_cons_zero, List.set_cons_succ]
      refine take_first 1 18 (v := ?vr_2) rfl rfl (by kernel_rfl) (by kernel_rfl) (by kernel_rfl) (fun _ _ _ h => h) (by rfl) ?yr_2 (by assumption) ?rr_2
      case yr_2 => (intro w hSw; (try dsimp only at hSw); go_simp; (try with_reducible rfl))
      simp only [Act.put, List.setIfInBounds_toArray, List.set_cons_zero, List.set_cons_succ]
      refine take_first 2 19 (v := ?vr_3) rfl rfl (by kernel_rfl) (by kernel_rfl) (by kernel_rfl) (fun _ _ _ h => h) (by rfl) ?yr_3 (by assumption) ?rr_3
      case yr_3 => (intro w hSw; (try dsimp only at hSw); go_simp; (try with_reducible rfl))
      simp only [Act.put, List.setIfInBounds_toArray, List.set_cons_zero, List.set_cons_succ]
      refine take_first 3 20 (v := ?vr_4) rfl rfl (by kernel_rfl) (by kernel_rfl) (by kernel_rfl) (fun _ _ _ h => h) (by rfl) ?yr_4 (by assumption) ?rr_4
      case yr_4 => (intro w hSw; (try dsimp only at hSw); go_simp; (try with_reducible rfl))
      simp only [Act.put, List.setIfInBounds_toArray, List.set_cons_zero, List.set_cons_succ]
      refine take_first 4 21 (v := ?vr_5) rfl rfl (by kernel_rfl) (by kernel_rfl) (by kernel_rfl) (fun _ _ _ h => h) (by rfl) ?yr_5 (by assumption) ?rr_5
      case yr_5 => (intro w hSw; (try dsimp only at hSw); go_simp; (try with_reducible rfl))
      simp only [Act.put, List.setIfInBounds_toArray, List.set_cons_zero, List.set_cons_succ]
      refine take_first 5 22 (v := ?vr_6) rfl rfl (by kernel_rfl) (by kernel_rfl) (by kernel_rfl) (fun _ _ _ h => h) (by rfl) ?yr_6 (by assumption) ?rr_6
      case yr_6 => (intro w hSw; (try dsimp only at hSw); go_simp; (try with_reducible rfl))
      simp only [Act.put, List.setIfInBounds_toArray, List.set_cons_zero, List.set_cons_succ]
      refine take_first 6 23 (v := ?vr_7) rfl rfl (by kernel_rfl) (by kernel_rfl) (by kernel_rfl) (fun _ _ _ h => h) (by rfl) ?yr_7 (by assumption) ?rr_7
      case yr_7 => (intro w hSw; (try dsimp only at hSw); go_simp; (try with_reducible rfl))
      simp only [Act.put, List.setIfInBounds_toArray, List.set_cons_zero, List.set_cons_succ]
      refine take_first 7 24 (v := ?vr_8) rfl rfl (by kernel_rfl) (by kernel_rfl) (by kernel_rfl) (fun _ _ _ h => h) (by rfl) ?yr_8 (by assumption) ?rr_8
      case yr_8 => (intro w hSw; (try dsimp only at hSw); go_simp; (try with_reducible rfl))
      simp only [Act.put, List.setIfInBounds_toArray, List.set_cons_zero, List.set_cons_succ]
      refine wpAnyH_ready (rs := [8]) (by kernel_rfl) (by simp) ?_
      refine AllReadyH.cons (o := _) rfl (fun Kr_9 hKr_9 => ?cr_9) ?mr_9
      case mr_9 => exact AllReadyH.nil
      go_simp
      refine (jaNote_same _ _ _ x HP.out HP2.out).mono ?_; rintro e w1 ⟨rfl, hb1⟩; have k1 := And.intro (cell_below hb1 k0.1) (And.intro (cell_below hb1 k0.2.1) (And.intro (cell_below hb1 k0.2.2.1) (And.intro (cell_below hb1 k0.2.2.2.1) (And.intro (cell_below hb1 k0.2.2.2.2.1) (And.intro (cell_below hb1 k0.2.2.2.2.2.1) (And.intro (cell_below hb1 k0.2.2.2.2.2.2.1) (cell_below hb1 k0.2.2.2.2.2.2.2))))))); have HB1 := Lib.hid (HB.out.drew.trans (hb1.mono HB.out.size)); clear hb1
      go_wp2_with fail
      refine hKr_9.out _ _ ?kr_9 (fun hHeldr_9 => ?dr_9)
      case kr_9 => (first | (dsimp only; (first | with_reducible exact k1 | exact k0)) | (first | with_reducible exact k1 | exact k0))
      clear hKr_9 Kr_9
      refine take_first 9 26 (v := ?vr_10) rfl rfl (by kernel_rfl) (by kernel_rfl) (by kernel_rfl) (fun _ _ _ h => h) (by rfl) ?yr_10 (by assumption) ?rr_10
      case yr_10 => (intro w hSw; (try dsimp only at hSw); go_simp; (try with_reducible rfl))
      simp only [Act.put, List.setIfInBounds_toArray, List.set_cons_zero, List.set_cons_succ]
      refine wpAnyH_done (by kernel_rfl) ?er _
      clear k0 k1
      go_wp2
      go_roundw
      case rel => exact ⟨k + 1, by omega, by go_num, HB1.out⟩
      case measure => simp [intOf]; omega
    · clear hv hu
      go_wp2
      go_ret
      exact ⟨rfl, hb⟩

set_option maxRecDepth 100000 in
set_option maxHeartbeats 4000000 in
theorem jaDisk_same (w : World) (cs ds : List Value) (x : Disk) (h1 : diskSh.rel w w.heap.size cs x) (h2 : diskSh.rel w w.heap.size ds x) :
    Calls Try.prog 30 #[.agg (List.toArray cs), .agg (List.toArray ds)] w fun e w' => e = .returned (.bool true) ∧ Below w.heap.size w w' := by
  obtain ⟨u, rfl, hu⟩ := disk_rel.1 h1
  obtain ⟨v, rfl, hv⟩ := disk_rel.1 h2
  have HB := Lib.hid (belowTwo w (.cells #[u, .int .i64 x.safe] 25) (.cells #[v, .int .i64 x.safe] 25))
  have HX := Lib.hid ((Held.new w #[u, .int .i64 x.safe] 25).after (.cells #[v, .int .i64 x.safe] 25))
  have HY := Lib.hid (show Held ((w.alloc (.cells #[u, .int .i64 x.safe] 25)).alloc (.cells #[v, .int .i64 x.safe] 25)) (w.heap.size + 1) [v, .int .i64 x.safe] from by have h := Held.new (w.alloc (.cells #[u, .int .i64 x.safe] 25)) #[v, .int .i64 x.safe] 25; rwa [show (w.alloc (.cells #[u, .int .i64 x.safe] 25)).heap.size = w.heap.size + 1 by simp] at h)
  have H1 := Lib.hid ((hu.below HB.out).more HB.out.size)
  have K1 := Lib.hid ((hv.below HB.out).more HB.out.size)
  obtain ⟨A1, c1, rfl, -, -⟩ := hu.form
  obtain ⟨B1, d1, rfl, -, -⟩ := hv.form
  have es : (x.safe == x.safe) = true := by simp
  clear hu hv h1 h2
  go_enter Try.func30, Try.ntmps30
  have x0 := HX.out.of 0 _ rfl
  have x1 := HX.out.of 1 _ rfl
  have y0 := HY.out.of 0 _ rfl
  have y1 := HY.out.of 1 _ rfl
  go_wp2_with fail
  clear x0 x1 y0 y1
  refine (jaNotes_same _ _ _ x.notes H1.out K1.out).mono ?_
  rintro e w1 ⟨rfl, hb⟩
  replace HB := Lib.hid (belowNext HB.out hb)
  clear hb
  go_wp2
  go_ret
  exact ⟨rfl, HB.out⟩

end Go.Proofs.Ytkamlibfcakblaa
