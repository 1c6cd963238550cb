/- Texts that follow each other, merged: LPlanSec, LPlanOut. -/
import Derived.Test.YteccebjnopladaaXLPlanLet
import Derived.Test.YteccebjnopladaaXShal

/- The walk of FnPlanSec. By letgen.py. -/
namespace Go.Proofs.Yteccebjnopladaa
open Go.RowKit

/-- What is planned of who trades a code. -/
theorem trade_plan {b : List Item} {cd sec fam : Int} (hp : plcB 2 b = true) (h0 : 0 ≤ cd) (h9 : cd ≤ 9) (s0 : 0 ≤ sec) (s9 : sec ≤ 99) (f0 : 0 ≤ fam) (f9 : fam ≤ 9) : (plcP b 2 0 ⟨3, 0, 0, cd, sec, fam, 0⟩).ok = (lookOk b (keyN 99 cd) && (!lookOk b (keyN 102 fam) && (nth (lookV b (keyN 99 cd)) 1 == secS sec))) := by
  have ho : opB ⟨3, 0, 0, cd, sec, fam, 0⟩ = true := by
    have h1 : inB cd 0 9 = true := inB_yes h0 h9
    have h2 : inB sec 0 99 = true := inB_yes s0 s9
    have h3 : inB fam 0 9 = true := inB_yes f0 f9
    simp [opB, opK, h1, h2, h3]; decide
  have ht : inB 0 0 29 = true := by decide
  have e : plcP b 2 0 ⟨3, 0, 0, cd, sec, fam, 0⟩ = mayP3 b ⟨3, 0, 0, cd, sec, fam, 0⟩ := by
    unfold plcP
    rw [ho, hp, ht]
    simp [planP]
  rw [e]
  unfold mayP3 tradeB noP
  split
  · rename_i h; exact h.symm
  · rename_i h; simpa using h

set_option maxRecDepth 100000 in
set_option maxHeartbeats 20000000 in
theorem lawPlanSec_any (w : World) (v : Value) (n : Nat) (hv : Code8 w v n) :
    Calls Try.prog 8 #[v] w fun e w' => e = .returned (.bool true) ∧ Below w.heap.size w w' := by
  have HV := Lib.hid hv
  obtain ⟨A, c, f, rfl, h1, h2, -, -⟩ := hv
  unfold maxLen at h2
  by_cases hn : 1048576 < n
  · have hn' : (1048576 : Int) < (n : Int) := by omega
    go_enter Try.func8, Try.ntmps8
    go_wp2
    go_ret
    exact ⟨rfl, Below.refl _ _⟩
  have hn' : (n : Int) ≤ 1048576 := by omega
  clear hn
  go_enter Try.func8, Try.ntmps8
  go_wp2_with fail
  refine (drawGloDo_any _ _ n HV.out).mono ?_
  rintro e w1 ⟨u, xs, tx, o, rfl, hxl, hxi, t0, t1, hrow, hb1⟩
  obtain ⟨Al, cl, hlf, -, -⟩ := hrow.form
  rw [hxl] at hlf
  subst hlf
  have HB := Lib.hid (belowNext hb1 (belowOne w1 (.cells #[.int .i64 o.kind, .int .i64 o.who, .int .i64 o.inn, .int .i64 o.code, .int .i64 o.sec, .int .i64 o.fam, .int .i64 o.gen] 36)))
  have HR := Lib.hid ((hrow.below (belowOne w1 (.cells #[.int .i64 o.kind, .int .i64 o.who, .int .i64 o.inn, .int .i64 o.code, .int .i64 o.sec, .int .i64 o.fam, .int .i64 o.gen] 36))).more (belowOne w1 (.cells #[.int .i64 o.kind, .int .i64 o.who, .int .i64 o.inn, .int .i64 o.code, .int .i64 o.sec, .int .i64 o.fam, .int .i64 o.gen] 36)).size)
  have HXI := Lib.hid hxi
  clear hrow hb1 HV hxi
  unfold opV
  go_wp2_with fail
  refine (specGloOk_any _ _ _ HR.out).mono ?_
  rintro e w2 ⟨rfl, hb⟩
  replace HB := Lib.hid (belowNext HB.out hb)
  replace HR := Lib.hid ((HR.out.below hb).more hb.size)
  clear hb
  cases hg : gloB xs with
  | false =>
    have HG := Lib.hid hg
    clear hg
    go_wp2_with fail
    refine (implGloOk_any _ _ _ HR.out).mono ?_
    rintro e w3 ⟨rfl, hb⟩
    replace HB := Lib.hid (belowNext HB.out hb)
    replace HR := Lib.hid ((HR.out.below hb).more hb.size)
    clear hb
    rw [HG.out]
    go_wp2_with fail
    refine (specGloOk_any _ _ _ HR.out).mono ?_
    rintro e w4 ⟨rfl, hb⟩
    replace HB := Lib.hid (belowNext HB.out hb)
    clear hb
    rw [HG.out]
    go_wp2_with fail
    refine (jaOk_any _).mono ?_
    rintro e w5 ⟨rfl, hb⟩
    replace HB := Lib.hid (belowNext HB.out hb)
    clear hb
    go_wp2
    go_ret
    exact ⟨rfl, HB.out⟩
  | true =>
    obtain ⟨a, b, c, rfl⟩ := glo_abc hg
    have HG := Lib.hid hg
    clear hg hxl
    have HBd := Lib.hid (belowOne w2 (.cells #[.string ⟨#[48]⟩, .string ⟨#[49]⟩, .string ⟨#[50]⟩, .string ⟨#[51]⟩, .string ⟨#[52]⟩, .string ⟨#[53]⟩, .string ⟨#[54]⟩, .string ⟨#[55]⟩, .string ⟨#[56]⟩, .string ⟨#[57]⟩] 9))
    have HDg := Lib.hid (Held.new w2 #[.string ⟨#[48]⟩, .string ⟨#[49]⟩, .string ⟨#[50]⟩, .string ⟨#[51]⟩, .string ⟨#[52]⟩, .string ⟨#[53]⟩, .string ⟨#[54]⟩, .string ⟨#[55]⟩, .string ⟨#[56]⟩, .string ⟨#[57]⟩] 9)
    obtain ⟨bl, ol, dl, x1, p1, e1, hx1, hB1, r1, hi1⟩ := stos_at HR.out (k := 1) (by simp)
    have hx1' : (⟨b⟩ : Sto) = x1 := Option.some.inj hx1
    subst hx1'
    injection e1 with e1a e1b e1c
    subst e1a
    obtain ⟨Ai, ci, hfi, -, -⟩ := hi1.form
    subst hfi
    have hi1' : Items w2 w2.heap.size (.slice Ai b.length ci) b := items_row.1 hi1
    have HFc := Lib.hid (fun (X : World) (hX : Below (w2.alloc (.cells #[.string ⟨#[48]⟩, .string ⟨#[49]⟩, .string ⟨#[50]⟩, .string ⟨#[51]⟩, .string ⟨#[52]⟩, .string ⟨#[53]⟩, .string ⟨#[54]⟩, .string ⟨#[55]⟩, .string ⟨#[56]⟩, .string ⟨#[57]⟩] 9)).heap.size (w2.alloc (.cells #[.string ⟨#[48]⟩, .string ⟨#[49]⟩, .string ⟨#[50]⟩, .string ⟨#[51]⟩, .string ⟨#[52]⟩, .string ⟨#[53]⟩, .string ⟨#[54]⟩, .string ⟨#[55]⟩, .string ⟨#[56]⟩, .string ⟨#[57]⟩] 9)) X) => show (X.cell? ⟨bl, ol + 1, none⟩ = some (.slice Ai b.length ci) ∧ Held X w2.heap.size _) ∧ Items X X.heap.size (.slice Ai b.length ci) b ∧ Below w.heap.size w X from
      ⟨⟨((belowNext HBd.out hX).cell (p := ⟨bl, ol + 1, none⟩) hB1).trans r1, HDg.out.below hX HDg.out.1⟩, (hi1'.below (belowNext HBd.out hX)).more (belowNext HBd.out hX).size, belowNext HB.out (belowNext HBd.out hX)⟩)
    clear hx1 e1b e1c hi1 hi1' r1 HR HXI HB
    have HSB := Lib.hid (gloB_parts HG.out).2.1
    have HB0 := Lib.hid (show Below (w2.alloc (.cells #[.string ⟨#[48]⟩, .string ⟨#[49]⟩, .string ⟨#[50]⟩, .string ⟨#[51]⟩, .string ⟨#[52]⟩, .string ⟨#[53]⟩, .string ⟨#[54]⟩, .string ⟨#[55]⟩, .string ⟨#[56]⟩, .string ⟨#[57]⟩] 9)).heap.size (w2.alloc (.cells #[.string ⟨#[48]⟩, .string ⟨#[49]⟩, .string ⟨#[50]⟩, .string ⟨#[51]⟩, .string ⟨#[52]⟩, .string ⟨#[53]⟩, .string ⟨#[54]⟩, .string ⟨#[55]⟩, .string ⟨#[56]⟩, .string ⟨#[57]⟩] 9)) (w2.alloc (.cells #[.string ⟨#[48]⟩, .string ⟨#[49]⟩, .string ⟨#[50]⟩, .string ⟨#[51]⟩, .string ⟨#[52]⟩, .string ⟨#[53]⟩, .string ⟨#[54]⟩, .string ⟨#[55]⟩, .string ⟨#[56]⟩, .string ⟨#[57]⟩] 9)) from Below.refl _ _)
    have hbl : bl < (w2.alloc (.cells #[.string ⟨#[48]⟩, .string ⟨#[49]⟩, .string ⟨#[50]⟩, .string ⟨#[51]⟩, .string ⟨#[52]⟩, .string ⟨#[53]⟩, .string ⟨#[54]⟩, .string ⟨#[55]⟩, .string ⟨#[56]⟩, .string ⟨#[57]⟩] 9)).heap.size := Nat.lt_of_lt_of_le hB1 HBd.out.size
    have hdl : w2.heap.size < (w2.alloc (.cells #[.string ⟨#[48]⟩, .string ⟨#[49]⟩, .string ⟨#[50]⟩, .string ⟨#[51]⟩, .string ⟨#[52]⟩, .string ⟨#[53]⟩, .string ⟨#[54]⟩, .string ⟨#[55]⟩, .string ⟨#[56]⟩, .string ⟨#[57]⟩] 9)).heap.size := HDg.out.1
    clear hB1 HBd HDg HG
    go_wp2
    generalize (w2.alloc (.cells #[.string ⟨#[48]⟩, .string ⟨#[49]⟩, .string ⟨#[50]⟩, .string ⟨#[51]⟩, .string ⟨#[52]⟩, .string ⟨#[53]⟩, .string ⟨#[54]⟩, .string ⟨#[55]⟩, .string ⟨#[56]⟩, .string ⟨#[57]⟩] 9)) = w3 at *
    go_loopw [7] (fun i wr => ∃ k : Nat, k ≤ 10 ∧ i = .int .i64 k ∧ Below w3.heap.size w3 wr) (fun i _ => 10 - (intOf i).toNat)
    case atStart => exact ⟨0, by omega, rfl, HB0.out⟩
    case round =>
      clear HB0
      obtain ⟨k, hk, rfl, hb⟩ := hrel
      have HBr := Lib.hid hb
      clear hb
      by_cases hlt : k < 10
      · have k9 : (k : Int) ≤ 9 := by omega
        have k10 : (k : Int) < 10 := by omega
        have k00 : (0 : Int) ≤ (k : Int) := by omega
        obtain ⟨⟨r1, hd⟩, -, -⟩ := HFc.out _ HBr.out
        have r2 := hd.of k _ (digs_is hlt)
        have k0 := And.intro r1 r2
        have hds : (digS (k : Int)).size = 1 := digS_size _
        have HKE := Lib.hid (show (⟨#[99]⟩ : ByteArray) ++ digS (k : Int) = keyN 99 (k : Int) from (keyN_digit 99 (by omega)).symm)
        have HBs := Lib.hid (show Below w3.heap.size w3 wr.drew from HBr.out.drew)
        clear hd r1 r2
        go_wp2
        refine wp_region_held_drew (S := (fun w' => w'.cell? ⟨bl, ol + 1, none⟩ = some (.slice Ai b.length ci) ∧ w'.cell? ⟨w2.heap.size, k, none⟩ = some (.string (digS (k : Int))))) (by kernel_rfl) ?hSp (fun hHeldp => ?stp)
        case hSp => (first | (dsimp only; (first | with_reducible exact k2 | with_reducible exact k0 | exact k0)) | (first | with_reducible exact k2 | with_reducible exact k0 | exact k0))
        refine take_first 0 41 (v := ?vp_1) rfl rfl (by kernel_rfl) (by kernel_rfl) (by kernel_rfl) (fun _ _ _ h => h) (by rfl) ?yp_1 (by assumption) ?rp_1
        case yp_1 => (intro w hSw; (try dsimp only at hSw); go_simp; (try with_reducible rfl))
        simp only [Act.put, List.setIfInBounds_toArray, List.set_cons_zero, List.set_cons_succ]
        refine take_first 1 42 (v := ?vp_2) rfl rfl (by kernel_rfl) (by kernel_rfl) (by kernel_rfl) (fun _ _ _ h => h) (by rfl) ?yp_2 (by assumption) ?rp_2
        case yp_2 => (intro w hSw; (try dsimp only at hSw); go_simp; (try with_reducible rfl))
        simp only [Act.put, List.setIfInBounds_toArray, List.set_cons_zero, List.set_cons_succ]
        refine take_first 2 43 (v := ?vp_3) rfl rfl (by kernel_rfl) (by kernel_rfl) (by kernel_rfl) (fun _ _ _ h => h) (by rfl) ?yp_3 (by assumption) ?rp_3
        case yp_3 => (intro w hSw; (try dsimp only at hSw); go_simp; (try with_reducible rfl))
        simp only [Act.put, List.setIfInBounds_toArray, List.set_cons_zero, List.set_cons_succ]
        refine take_first 3 44 (v := ?vp_4) rfl rfl (by kernel_rfl) (by kernel_rfl) (by kernel_rfl) (fun _ _ _ h => h) (by rfl) ?yp_4 (by assumption) ?rp_4
        case yp_4 => (intro w hSw; (try dsimp only at hSw); go_simp; (try with_reducible rfl))
        simp only [Act.put, List.setIfInBounds_toArray, List.set_cons_zero, List.set_cons_succ]
        refine take_first 4 45 (v := ?vp_5) rfl rfl (by kernel_rfl) (by kernel_rfl) (by kernel_rfl) (fun _ _ _ h => h) (by rfl) ?yp_5 (by assumption) ?rp_5
        case yp_5 => (intro w hSw; (try dsimp only at hSw); go_simp; (try with_reducible rfl))
        simp only [Act.put, List.setIfInBounds_toArray, List.set_cons_zero, List.set_cons_succ]
        refine take_first 5 46 (v := ?vp_6) rfl rfl (by kernel_rfl) (by kernel_rfl) (by kernel_rfl) (fun _ _ _ h => h) (by rfl) ?yp_6 (by assumption) ?rp_6
        case yp_6 => (intro w hSw; (try dsimp only at hSw); go_simp; (try with_reducible rfl))
        simp only [Act.put, List.setIfInBounds_toArray, List.set_cons_zero, List.set_cons_succ]
        refine take_first 6 47 (v := ?vp_7) rfl rfl (by kernel_rfl) (by kernel_rfl) (by kernel_rfl) (fun _ _ _ h => h) (by rfl) ?yp_7 (by assumption) ?rp_7
        case yp_7 => (intro w hSw; (try dsimp only at hSw); go_simp; (try with_reducible rfl))
        simp only [Act.put, List.setIfInBounds_toArray, List.set_cons_zero, List.set_cons_succ]
        refine wpAnyH_ready (rs := [7]) (by kernel_rfl) (by simp) ?_
        refine AllReadyH.cons (o := _) rfl (fun Kp_8 hKp_8 => ?cp_8) ?mp_8
        case mp_8 => exact AllReadyH.nil
        go_simp
        skip
        go_wp2_with fail
        refine hKp_8.out _ _ ?kp_8 (fun hHeldp_8 => ?dp_8)
        case kp_8 => (first | (dsimp only; (first | with_reducible exact k2 | with_reducible exact k0 | exact k0)) | (first | with_reducible exact k2 | with_reducible exact k0 | exact k0))
        clear hKp_8 Kp_8
        refine wpAnyH_ready (rs := [8]) (by kernel_rfl) (by simp) ?_
        refine AllReadyH.cons (o := _) rfl (fun Kp_9 hKp_9 => ?cp_9) ?mp_9
        case mp_9 => exact AllReadyH.nil
        go_simp
        (with_reducible refine (implStoGet_any _ _ b _ (HFc.out _ HBs.out).2.1).mono ?_); rintro e w7 ⟨u7, rfl, ho7, hb7⟩; rw [HKE.out, getOk_yes (plc_parts HSB.out).1]; rw [HKE.out, getV_yes (plc_parts HSB.out).1] at ho7; have HB7 := Lib.hid (HBs.out.trans (hb7.mono HBs.out.size)); have HO7 := Lib.hid ho7; have k2 : w7.cell? ⟨bl, ol + 1, none⟩ = some (.slice Ai b.length ci) ∧ w7.cell? ⟨w2.heap.size, k, none⟩ = some (.string (digS (k : Int))) := And.intro (HFc.out _ HB7.out).1.1 ((HFc.out _ HB7.out).1.2.of k _ (digs_is hlt)); clear ho7 hb7
        go_wp2_with fail
        refine hKp_9.out _ _ ?kp_9 (fun hHeldp_9 => ?dp_9)
        case kp_9 => (first | (dsimp only; (first | with_reducible exact k2 | with_reducible exact k0 | exact k0)) | (first | with_reducible exact k2 | with_reducible exact k0 | exact k0))
        clear hKp_9 Kp_9
        refine take_first 9 40 (v := ?vp_10) rfl rfl (by kernel_rfl) (by kernel_rfl) (by kernel_rfl) (fun _ _ _ h => h) (by rfl) ?yp_10 (by assumption) ?rp_10
        case yp_10 => (intro w hSw; (try dsimp only at hSw); go_simp; (try with_reducible rfl))
        simp only [Act.put, List.setIfInBounds_toArray, List.set_cons_zero, List.set_cons_succ]
        refine take_first 10 50 (v := ?vp_11) rfl rfl (by kernel_rfl) (by kernel_rfl) (by kernel_rfl) (fun _ _ _ h => h) (by rfl) ?yp_11 (by assumption) ?rp_11
        case yp_11 => (intro w hSw; (try dsimp only at hSw); go_simp; (try with_reducible rfl))
        simp only [Act.put, List.setIfInBounds_toArray, List.set_cons_zero, List.set_cons_succ]
        refine take_first 11 51 (v := ?vp_12) rfl rfl (by kernel_rfl) (by kernel_rfl) (by kernel_rfl) (fun _ _ _ h => h) (by rfl) ?yp_12 (by assumption) ?rp_12
        case yp_12 => (intro w hSw; (try dsimp only at hSw); go_simp; (try with_reducible rfl))
        simp only [Act.put, List.setIfInBounds_toArray, List.set_cons_zero, List.set_cons_succ]
        refine take_first 12 8 (v := ?vp_13) rfl rfl (by kernel_rfl) (by kernel_rfl) (by kernel_rfl) (fun _ _ _ h => h) (by rfl) ?yp_13 (by assumption) ?rp_13
        case yp_13 => (intro w hSw; (try dsimp only at hSw); go_simp; (try with_reducible rfl))
        simp only [Act.put, List.setIfInBounds_toArray, List.set_cons_zero, List.set_cons_succ]
        refine take_first 13 9 (v := ?vp_14) rfl rfl (by kernel_rfl) (by kernel_rfl) (by kernel_rfl) (fun _ _ _ h => h) (by rfl) ?yp_14 (by assumption) ?rp_14
        case yp_14 => (intro w hSw; (try dsimp only at hSw); go_simp; (try with_reducible rfl))
        simp only [Act.put, List.setIfInBounds_toArray, List.set_cons_zero, List.set_cons_succ]
        refine wpAnyH_done (by kernel_rfl) ?ep _
        clear k0 k2 hds HBs
        obtain ⟨A7, c7, hf7, l7, d7, row7⟩ := HO7.out.ints
        subst hf7
        have HR7 := Lib.hid row7
        have HZ7 := Lib.hid (show w3.heap.size ≤ w7.heap.size from HB7.out.size)
        have HCL := Lib.hid (show lookOk b (keyN 99 (k : Int)) = true → (lookV b (keyN 99 (k : Int))).length = 2 from fun h => (code_found (plc_parts HSB.out).1 (plc_parts HSB.out).2 h).1)
        clear row7 HO7
        cases hkp : lookOk b (keyN 99 (k : Int)) with
        | false =>
          have HKP := Lib.hid hkp
          clear hkp HCL
          have hn7 : (0 : Int) ≤ (n : Int) := by omega
          go_wp2
          go_loopw [10] (fun i wr => ∃ s : Nat, s ≤ 106 ∧ i = .int .i64 s ∧ Below w7.heap.size w7 wr) (fun i _ => 107 - (intOf i).toNat)
          case atStart => exact ⟨n % 7, by omega, by go_num, Below.refl _ _⟩
          case round =>
            obtain ⟨s, hs, rfl, hb⟩ := hrel
            have HBj := Lib.hid hb
            clear hb
            have HB8 := Lib.hid (show Below w3.heap.size w3 wr from HB7.out.trans (HBj.out.mono HZ7.out))
            by_cases hst : s ≤ 99
            · have s99 : (s : Int) ≤ 99 := by omega
              have s00 : (0 : Int) ≤ (s : Int) := by omega
              obtain ⟨m, hm⟩ : ∃ m : Nat, ((k : Int) + (n : Int)) % 10 = (m : Int) := ⟨(k + n) % 10, by omega⟩
              have m10 : m < 10 := by omega
              have m10i : (m : Int) < 10 := by omega
              have m00 : (0 : Int) ≤ (m : Int) := by omega
              obtain ⟨⟨r1, hd⟩, -, -⟩ := HFc.out _ HB8.out
              have r2 := hd.of m _ (digs_is m10)
              have q0 := And.intro r1 r2
              have hds : (digS (m : Int)).size = 1 := digS_size _
              have HKF := Lib.hid (show (⟨#[102]⟩ : ByteArray) ++ digS (m : Int) = keyN 102 (m : Int) from (keyN_digit 102 (by omega)).symm)
              have HBs := Lib.hid (show Below w7.heap.size w7 wr.drew from HBj.out.drew)
              have HBs3 := Lib.hid (show Below w3.heap.size w3 wr.drew from HB8.out.drew)
              clear hd r1 r2
              go_wp2
              refine wp_region_held_drew (S := (fun w' => w'.cell? ⟨bl, ol + 1, none⟩ = some (.slice Ai b.length ci) ∧ w'.cell? ⟨w2.heap.size, m, none⟩ = some (.string (digS (m : Int))))) (by kernel_rfl) ?hSf0 (fun hHeldf0 => ?stf0)
              case hSf0 => (first | (dsimp only; (first | with_reducible exact q2 | with_reducible exact q0 | exact q0)) | (first | with_reducible exact q2 | with_reducible exact q0 | exact q0))
              refine take_first 0 65 (v := ?vf0_1) rfl rfl (by kernel_rfl) (by kernel_rfl) (by kernel_rfl) (fun _ _ _ h => h) (by rfl) ?yf0_1 (by assumption) ?rf0_1
              case yf0_1 => (intro w hSw; (try dsimp only at hSw); go_simp; (try with_reducible rfl))
              simp only [Act.put, List.setIfInBounds_toArray, List.set_cons_zero, List.set_cons_succ]
              refine take_first 1 66 (v := ?vf0_2) rfl rfl (by kernel_rfl) (by kernel_rfl) (by kernel_rfl) (fun _ _ _ h => h) (by rfl) ?yf0_2 (by assumption) ?rf0_2
              case yf0_2 => (intro w hSw; (try dsimp only at hSw); go_simp; (try with_reducible rfl))
              simp only [Act.put, List.setIfInBounds_toArray, List.set_cons_zero, List.set_cons_succ]
              refine take_first 2 67 (v := ?vf0_3) rfl rfl (by kernel_rfl) (by kernel_rfl) (by kernel_rfl) (fun _ _ _ h => h) (by rfl) ?yf0_3 (by assumption) ?rf0_3
              case yf0_3 => (intro w hSw; (try dsimp only at hSw); go_simp; (try with_reducible rfl))
              simp only [Act.put, List.setIfInBounds_toArray, List.set_cons_zero, List.set_cons_succ]
              refine take_first 3 68 (v := ?vf0_4) rfl rfl (by kernel_rfl) (by kernel_rfl) (by kernel_rfl) (fun _ _ _ h => h) (by rfl) ?yf0_4 (by assumption) ?rf0_4
              case yf0_4 => (intro w hSw; (try dsimp only at hSw); go_simp; (try with_reducible rfl))
              simp only [Act.put, List.setIfInBounds_toArray, List.set_cons_zero, List.set_cons_succ]
              refine take_first 4 69 (v := ?vf0_5) rfl rfl (by kernel_rfl) (by kernel_rfl) (by kernel_rfl) (fun _ _ _ h => h) (by rfl) ?yf0_5 (by assumption) ?rf0_5
              case yf0_5 => (intro w hSw; (try dsimp only at hSw); go_simp; (try with_reducible rfl))
              simp only [Act.put, List.setIfInBounds_toArray, List.set_cons_zero, List.set_cons_succ]
              refine take_first 5 70 (v := ?vf0_6) rfl rfl (by kernel_rfl) (by kernel_rfl) (by kernel_rfl) (fun _ _ _ h => h) (by rfl) ?yf0_6 (by assumption) ?rf0_6
              case yf0_6 => (intro w hSw; (try dsimp only at hSw); go_simp; (try with_reducible rfl))
              simp only [Act.put, List.setIfInBounds_toArray, List.set_cons_zero, List.set_cons_succ]
              refine take_first 6 71 (v := ?vf0_7) rfl rfl (by kernel_rfl) (by kernel_rfl) (by kernel_rfl) (fun _ _ _ h => h) (by rfl) ?yf0_7 (by assumption) ?rf0_7
              case yf0_7 => (intro w hSw; (try dsimp only at hSw); go_simp; (try with_reducible rfl))
              simp only [Act.put, List.setIfInBounds_toArray, List.set_cons_zero, List.set_cons_succ]
              refine wpAnyH_ready (rs := [7]) (by kernel_rfl) (by simp) ?_
              refine AllReadyH.cons (o := _) rfl (fun Kf0_8 hKf0_8 => ?cf0_8) ?mf0_8
              case mf0_8 => exact AllReadyH.nil
              go_simp
              skip
              go_wp2_with fail
              refine hKf0_8.out _ _ ?kf0_8 (fun hHeldf0_8 => ?df0_8)
              case kf0_8 => (first | (dsimp only; (first | with_reducible exact q2 | with_reducible exact q0 | exact q0)) | (first | with_reducible exact q2 | with_reducible exact q0 | exact q0))
              clear hKf0_8 Kf0_8
              refine wpAnyH_ready (rs := [8]) (by kernel_rfl) (by simp) ?_
              refine AllReadyH.cons (o := _) rfl (fun Kf0_9 hKf0_9 => ?cf0_9) ?mf0_9
              case mf0_9 => exact AllReadyH.nil
              go_simp
              (with_reducible refine (implStoGet_any _ _ b _ (HFc.out _ HBs3.out).2.1).mono ?_); rintro e w8 ⟨u8, rfl, ho8, hb8⟩; rw [HKF.out, getOk_yes (plc_parts HSB.out).1]; rw [HKF.out, getV_yes (plc_parts HSB.out).1] at ho8; have HBw := Lib.hid (HBs.out.trans (hb8.mono HBs.out.size)); have HBw3 := Lib.hid (HBs3.out.trans (hb8.mono HBs3.out.size)); have HO8 := Lib.hid ho8; have q2 : w8.cell? ⟨bl, ol + 1, none⟩ = some (.slice Ai b.length ci) ∧ w8.cell? ⟨w2.heap.size, m, none⟩ = some (.string (digS (m : Int))) := And.intro (HFc.out _ HBw3.out).1.1 ((HFc.out _ HBw3.out).1.2.of m _ (digs_is m10)); clear ho8 hb8
              go_wp2_with fail
              refine hKf0_9.out _ _ ?kf0_9 (fun hHeldf0_9 => ?df0_9)
              case kf0_9 => (first | (dsimp only; (first | with_reducible exact q2 | with_reducible exact q0 | exact q0)) | (first | with_reducible exact q2 | with_reducible exact q0 | exact q0))
              clear hKf0_9 Kf0_9
              refine take_first 9 64 (v := ?vf0_10) rfl rfl (by kernel_rfl) (by kernel_rfl) (by kernel_rfl) (fun _ _ _ h => h) (by rfl) ?yf0_10 (by assumption) ?rf0_10
              case yf0_10 => (intro w hSw; (try dsimp only at hSw); go_simp; (try with_reducible rfl))
              simp only [Act.put, List.setIfInBounds_toArray, List.set_cons_zero, List.set_cons_succ]
              refine take_first 10 74 (v := ?vf0_11) rfl rfl (by kernel_rfl) (by kernel_rfl) (by kernel_rfl) (fun _ _ _ h => h) (by rfl) ?yf0_11 (by assumption) ?rf0_11
              case yf0_11 => (intro w hSw; (try dsimp only at hSw); go_simp; (try with_reducible rfl))
              simp only [Act.put, List.setIfInBounds_toArray, List.set_cons_zero, List.set_cons_succ]
              refine take_first 11 75 (v := ?vf0_12) rfl rfl (by kernel_rfl) (by kernel_rfl) (by kernel_rfl) (fun _ _ _ h => h) (by rfl) ?yf0_12 (by assumption) ?rf0_12
              case yf0_12 => (intro w hSw; (try dsimp only at hSw); go_simp; (try with_reducible rfl))
              simp only [Act.put, List.setIfInBounds_toArray, List.set_cons_zero, List.set_cons_succ]
              refine take_first 12 12 (v := ?vf0_13) rfl rfl (by kernel_rfl) (by kernel_rfl) (by kernel_rfl) (fun _ _ _ h => h) (by rfl) ?yf0_13 (by assumption) ?rf0_13
              case yf0_13 => (intro w hSw; (try dsimp only at hSw); go_simp; (try with_reducible rfl))
              simp only [Act.put, List.setIfInBounds_toArray, List.set_cons_zero, List.set_cons_succ]
              refine take_first 13 13 (v := ?vf0_14) rfl rfl (by kernel_rfl) (by kernel_rfl) (by kernel_rfl) (fun _ _ _ h => h) (by rfl) ?yf0_14 (by assumption) ?rf0_14
              case yf0_14 => (intro w hSw; (try dsimp only at hSw); go_simp; (try with_reducible rfl))
              simp only [Act.put, List.setIfInBounds_toArray, List.set_cons_zero, List.set_cons_succ]
              refine wpAnyH_done (by kernel_rfl) ?ef0 _
              clear q0 q2 hds HBs HBs3
              obtain ⟨A8, c8, hf8, -, -, -⟩ := HO8.out.ints
              subst hf8
              clear HO8
              have r1 := (HFc.out _ HBw3.out).1.1
              have hpl := trade_plan (cd := (k : Int)) (sec := (s : Int)) (fam := (m : Int)) HSB.out k00 k9 s00 s99 m00 (by omega)
              rw [HKP.out] at hpl
              have HPl := Lib.hid hpl
              clear hpl
              go_wp2_with fail
              clear r1
              refine (implPlcPlan_any _ 2 _ b (HFc.out _ HBw3.out).2.1 0 ⟨3, 0, 0, (k : Int), (s : Int), (m : Int), 0⟩).mono ?_
              rintro e w9 ⟨ua, ub, rfl, ho9, hb9⟩
              obtain ⟨Aa, ca, Ab, cb, rfl, rfl⟩ := planForm ho9
              rw [HPl.out]
              generalize hla : (plcP b 2 0 ⟨3, 0, 0, (k : Int), (s : Int), (m : Int), 0⟩).locks.length = la
              generalize hlb : (plcP b 2 0 ⟨3, 0, 0, (k : Int), (s : Int), (m : Int), 0⟩).writes.length = lb
              have HB9 := Lib.hid (show Below w7.heap.size w7 w9 from HBw.out.trans (hb9.mono HBw.out.size))
              clear hb9 ho9 HPl hla hlb
              simp only [Bool.false_and]
              have HX := Lib.hid (Held.new w9 #[.bool false, .slice Aa la ca, .slice Ab lb cb] 46)
              have HBx := Lib.hid (HB9.out.alloc HB9.out.size (.cells #[.bool false, .slice Aa la ca, .slice Ab lb cb] 46))
              have x0 := HX.out.of 0 _ rfl
              have j0 := x0
              clear x0
              go_wp2
              refine wp_region_held_drew (S := (fun w' => w'.cell? ⟨w9.heap.size, 0, none⟩ = some (.bool false))) (by kernel_rfl) ?hSg0 (fun hHeldg0 => ?stg0)
              case hSg0 => (first | (dsimp only; (first | with_reducible exact j0 | exact j0)) | (first | with_reducible exact j0 | exact j0))
              refine take_first 0 84 (v := ?vg0_1) rfl rfl (by kernel_rfl) (by kernel_rfl) (by kernel_rfl) (fun _ _ _ h => h) (by rfl) ?yg0_1 (by assumption) ?rg0_1
              case yg0_1 => (intro w hSw; (try dsimp only at hSw); go_simp; (try with_reducible rfl))
              simp only [Act.put, List.setIfInBounds_toArray, List.set_cons_zero, List.set_cons_succ]
              refine take_first 1 85 (v := ?vg0_2) rfl rfl (by kernel_rfl) (by kernel_rfl) (by kernel_rfl) (fun _ _ _ h => h) (by rfl) ?yg0_2 (by assumption) ?rg0_2
              case yg0_2 => (intro w hSw; (try dsimp only at hSw); go_simp; (try with_reducible rfl))
              simp only [Act.put, List.setIfInBounds_toArray, List.set_cons_zero, List.set_cons_succ]
              refine take_first 2 86 (v := ?vg0_3) rfl rfl (by kernel_rfl) (by kernel_rfl) (by kernel_rfl) (fun _ _ _ h => h) (by rfl) ?yg0_3 (by assumption) ?rg0_3
              case yg0_3 => (intro w hSw; (try dsimp only at hSw); go_simp; (try with_reducible rfl))
              simp only [Act.put, List.setIfInBounds_toArray, List.set_cons_zero, List.set_cons_succ]
              refine take_first 3 87 (v := ?vg0_4) rfl rfl (by kernel_rfl) (by kernel_rfl) (by kernel_rfl) (fun _ _ _ h => h) (by rfl) ?yg0_4 (by assumption) ?rg0_4
              case yg0_4 => (intro w hSw; (try dsimp only at hSw); go_simp; (try with_reducible rfl))
              simp only [Act.put, List.setIfInBounds_toArray, List.set_cons_zero, List.set_cons_succ]
              refine pass_over 4 88 rfl rfl (by kernel_rfl) (by kernel_rfl) (by kernel_rfl) (fun _ _ _ h => h) (by rfl) (by assumption) ?rg0_5
              simp only [Act.put, List.setIfInBounds_toArray, List.set_cons_zero, List.set_cons_succ]
              refine pass_over 5 89 rfl rfl (by kernel_rfl) (by kernel_rfl) (by kernel_rfl) (fun _ _ _ h => h) (by rfl) (by assumption) ?rg0_6
              simp only [Act.put, List.setIfInBounds_toArray, List.set_cons_zero, List.set_cons_succ]
              refine take_first 6 90 (v := ?vg0_7) rfl rfl (by kernel_rfl) (by kernel_rfl) (by kernel_rfl) (fun _ _ _ h => h) (by rfl) ?yg0_7 (by assumption) ?rg0_7
              case yg0_7 => (intro w hSw; (try dsimp only at hSw); go_simp; (try with_reducible rfl))
              simp only [Act.put, List.setIfInBounds_toArray, List.set_cons_zero, List.set_cons_succ]
              refine take_first 7 91 (v := ?vg0_8) rfl rfl (by kernel_rfl) (by kernel_rfl) (by kernel_rfl) (fun _ _ _ h => h) (by rfl) ?yg0_8 (by assumption) ?rg0_8
              case yg0_8 => (intro w hSw; (try dsimp only at hSw); go_simp; (try with_reducible rfl))
              simp only [Act.put, List.setIfInBounds_toArray, List.set_cons_zero, List.set_cons_succ]
              refine pass_over 8 92 rfl rfl (by kernel_rfl) (by kernel_rfl) (by kernel_rfl) (fun _ _ _ h => h) (by rfl) (by assumption) ?rg0_9
              simp only [Act.put, List.setIfInBounds_toArray, List.set_cons_zero, List.set_cons_succ]
              refine pass_over 9 93 rfl rfl (by kernel_rfl) (by kernel_rfl) (by kernel_rfl) (fun _ _ _ h => h) (by rfl) (by assumption) ?rg0_10
              simp only [Act.put, List.setIfInBounds_toArray, List.set_cons_zero, List.set_cons_succ]
              refine pass_over 10 94 rfl rfl (by kernel_rfl) (by kernel_rfl) (by kernel_rfl) (fun _ _ _ h => h) (by rfl) (by assumption) ?rg0_11
              simp only [Act.put, List.setIfInBounds_toArray, List.set_cons_zero, List.set_cons_succ]
              refine take_first 11 95 (v := ?vg0_12) rfl rfl (by kernel_rfl) (by kernel_rfl) (by kernel_rfl) (fun _ _ _ h => h) (by rfl) ?yg0_12 (by assumption) ?rg0_12
              case yg0_12 => (intro w hSw; (try dsimp only at hSw); go_simp; (try with_reducible rfl))
              simp only [Act.put, List.setIfInBounds_toArray, List.set_cons_zero, List.set_cons_succ]
              refine take_first 12 96 (v := ?vg0_13) rfl rfl (by kernel_rfl) (by kernel_rfl) (by kernel_rfl) (fun _ _ _ h => h) (by rfl) ?yg0_13 (by assumption) ?rg0_13
              case yg0_13 => (intro w hSw; (try dsimp only at hSw); go_simp; (try with_reducible rfl))
              simp only [Act.put, List.setIfInBounds_toArray, List.set_cons_zero, List.set_cons_succ]
              refine pass_over 13 97 rfl rfl (by kernel_rfl) (by kernel_rfl) (by kernel_rfl) (fun _ _ _ h => h) (by rfl) (by assumption) ?rg0_14
              simp only [Act.put, List.setIfInBounds_toArray, List.set_cons_zero, List.set_cons_succ]
              refine pass_over 14 98 rfl rfl (by kernel_rfl) (by kernel_rfl) (by kernel_rfl) (fun _ _ _ h => h) (by rfl) (by assumption) ?rg0_15
              simp only [Act.put, List.setIfInBounds_toArray, List.set_cons_zero, List.set_cons_succ]
              refine pass_over 15 99 rfl rfl (by kernel_rfl) (by kernel_rfl) (by kernel_rfl) (fun _ _ _ h => h) (by rfl) (by assumption) ?rg0_16
              simp only [Act.put, List.setIfInBounds_toArray, List.set_cons_zero, List.set_cons_succ]
              refine pass_over 16 100 rfl rfl (by kernel_rfl) (by kernel_rfl) (by kernel_rfl) (fun _ _ _ h => h) (by rfl) (by assumption) ?rg0_17
              simp only [Act.put, List.setIfInBounds_toArray, List.set_cons_zero, List.set_cons_succ]
              refine pass_over 17 101 rfl rfl (by kernel_rfl) (by kernel_rfl) (by kernel_rfl) (fun _ _ _ h => h) (by rfl) (by assumption) ?rg0_18
              simp only [Act.put, List.setIfInBounds_toArray, List.set_cons_zero, List.set_cons_succ]
              refine pass_over 18 102 rfl rfl (by kernel_rfl) (by kernel_rfl) (by kernel_rfl) (fun _ _ _ h => h) (by rfl) (by assumption) ?rg0_19
              simp only [Act.put, List.setIfInBounds_toArray, List.set_cons_zero, List.set_cons_succ]
              refine take_first 19 103 (v := ?vg0_20) rfl rfl (by kernel_rfl) (by kernel_rfl) (by kernel_rfl) (fun _ _ _ h => h) (by rfl) ?yg0_20 (by assumption) ?rg0_20
              case yg0_20 => (intro w hSw; (try dsimp only at hSw); go_simp; (try with_reducible rfl))
              simp only [Act.put, List.setIfInBounds_toArray, List.set_cons_zero, List.set_cons_succ]
              refine take_first 20 104 (v := ?vg0_21) rfl rfl (by kernel_rfl) (by kernel_rfl) (by kernel_rfl) (fun _ _ _ h => h) (by rfl) ?yg0_21 (by assumption) ?rg0_21
              case yg0_21 => (intro w hSw; (try dsimp only at hSw); go_simp; (try with_reducible rfl))
              simp only [Act.put, List.setIfInBounds_toArray, List.set_cons_zero, List.set_cons_succ]
              refine wpAnyH_done (by kernel_rfl) ?eg0 _
              clear j0
              go_wp2
              go_roundw
              case rel => exact ⟨s + 7, by omega, by go_num, HBx.out.drew⟩
              case measure => simp [intOf]; omega
            · have s99 : ¬ (s : Int) ≤ 99 := by omega
              go_wp2
              go_roundw
              case rel => exact ⟨k + 1, by omega, by go_num, HB8.out⟩
              case measure => simp [intOf]; omega
        | true =>
          have hlen := HCL.out hkp
          have HKP := Lib.hid hkp
          clear hkp HCL
          obtain ⟨b7, of7, hA7, hB7, hc7⟩ := HR7.out (by omega)
          subst hA7
          have hv0 : w7.cell? ⟨b7, of7 + 1, none⟩ = some (.int .i64 (nth (lookV b (keyN 99 (k : Int))) 1)) := hc7 1 (by omega)
          rw [hlen]
          obtain ⟨v1, hv00⟩ : ∃ v1, nth (lookV b (keyN 99 (k : Int))) 1 = v1 := ⟨_, rfl⟩
          rw [hv00] at hv0
          have HV00 := Lib.hid hv00
          have HV0 := Lib.hid (fun (X : World) (hX : Below w7.heap.size w7 X) => show X.cell? ⟨b7, of7 + 1, none⟩ = some (.int .i64 v1) from (hX.cell (p := ⟨b7, of7 + 1, none⟩) hB7).trans hv0)
          have h12 : (1 : Int) < 2 := by decide
          clear hc7 hv0 hv00 hlen HR7
          have hn7 : (0 : Int) ≤ (n : Int) := by omega
          go_wp2
          go_loopw [10] (fun i wr => ∃ s : Nat, s ≤ 106 ∧ i = .int .i64 s ∧ Below w7.heap.size w7 wr) (fun i _ => 107 - (intOf i).toNat)
          case atStart => exact ⟨n % 7, by omega, by go_num, Below.refl _ _⟩
          case round =>
            obtain ⟨s, hs, rfl, hb⟩ := hrel
            have HBj := Lib.hid hb
            clear hb
            have HB8 := Lib.hid (show Below w3.heap.size w3 wr from HB7.out.trans (HBj.out.mono HZ7.out))
            by_cases hst : s ≤ 99
            · have s99 : (s : Int) ≤ 99 := by omega
              have s00 : (0 : Int) ≤ (s : Int) := by omega
              obtain ⟨m, hm⟩ : ∃ m : Nat, ((k : Int) + (n : Int)) % 10 = (m : Int) := ⟨(k + n) % 10, by omega⟩
              have m10 : m < 10 := by omega
              have m10i : (m : Int) < 10 := by omega
              have m00 : (0 : Int) ≤ (m : Int) := by omega
              obtain ⟨⟨r1, hd⟩, -, -⟩ := HFc.out _ HB8.out
              have r2 := hd.of m _ (digs_is m10)
              have q0 := And.intro r1 r2
              have hds : (digS (m : Int)).size = 1 := digS_size _
              have HKF := Lib.hid (show (⟨#[102]⟩ : ByteArray) ++ digS (m : Int) = keyN 102 (m : Int) from (keyN_digit 102 (by omega)).symm)
              have HBs := Lib.hid (show Below w7.heap.size w7 wr.drew from HBj.out.drew)
              have HBs3 := Lib.hid (show Below w3.heap.size w3 wr.drew from HB8.out.drew)
              clear hd r1 r2
              go_wp2
              refine wp_region_held_drew (S := (fun w' => w'.cell? ⟨bl, ol + 1, none⟩ = some (.slice Ai b.length ci) ∧ w'.cell? ⟨w2.heap.size, m, none⟩ = some (.string (digS (m : Int))))) (by kernel_rfl) ?hSf1 (fun hHeldf1 => ?stf1)
              case hSf1 => (first | (dsimp only; (first | with_reducible exact q2 | with_reducible exact q0 | exact q0)) | (first | with_reducible exact q2 | with_reducible exact q0 | exact q0))
              refine take_first 0 65 (v := ?vf1_1) rfl rfl (by kernel_rfl) (by kernel_rfl) (by kernel_rfl) (fun _ _ _ h => h) (by rfl) ?yf1_1 (by assumption) ?rf1_1
              case yf1_1 => (intro w hSw; (try dsimp only at hSw); go_simp; (try with_reducible rfl))
              simp only [Act.put, List.setIfInBounds_toArray, List.set_cons_zero, List.set_cons_succ]
              refine take_first 1 66 (v := ?vf1_2) rfl rfl (by kernel_rfl) (by kernel_rfl) (by kernel_rfl) (fun _ _ _ h => h) (by rfl) ?yf1_2 (by assumption) ?rf1_2
              case yf1_2 => (intro w hSw; (try dsimp only at hSw); go_simp; (try with_reducible rfl))
              simp only [Act.put, List.setIfInBounds_toArray, List.set_cons_zero, List.set_cons_succ]
              refine take_first 2 67 (v := ?vf1_3) rfl rfl (by kernel_rfl) (by kernel_rfl) (by kernel_rfl) (fun _ _ _ h => h) (by rfl) ?yf1_3 (by assumption) ?rf1_3
              case yf1_3 => (intro w hSw; (try dsimp only at hSw); go_simp; (try with_reducible rfl))
              simp only [Act.put, List.setIfInBounds_toArray, List.set_cons_zero, List.set_cons_succ]
              refine take_first 3 68 (v := ?vf1_4) rfl rfl (by kernel_rfl) (by kernel_rfl) (by kernel_rfl) (fun _ _ _ h => h) (by rfl) ?yf1_4 (by assumption) ?rf1_4
              case yf1_4 => (intro w hSw; (try dsimp only at hSw); go_simp; (try with_reducible rfl))
              simp only [Act.put, List.setIfInBounds_toArray, List.set_cons_zero, List.set_cons_succ]
              refine take_first 4 69 (v := ?vf1_5) rfl rfl (by kernel_rfl) (by kernel_rfl) (by kernel_rfl) (fun _ _ _ h => h) (by rfl) ?yf1_5 (by assumption) ?rf1_5
              case yf1_5 => (intro w hSw; (try dsimp only at hSw); go_simp; (try with_reducible rfl))
              simp only [Act.put, List.setIfInBounds_toArray, List.set_cons_zero, List.set_cons_succ]
              refine take_first 5 70 (v := ?vf1_6) rfl rfl (by kernel_rfl) (by kernel_rfl) (by kernel_rfl) (fun _ _ _ h => h) (by rfl) ?yf1_6 (by assumption) ?rf1_6
              case yf1_6 => (intro w hSw; (try dsimp only at hSw); go_simp; (try with_reducible rfl))
              simp only [Act.put, List.setIfInBounds_toArray, List.set_cons_zero, List.set_cons_succ]
              refine take_first 6 71 (v := ?vf1_7) rfl rfl (by kernel_rfl) (by kernel_rfl) (by kernel_rfl) (fun _ _ _ h => h) (by rfl) ?yf1_7 (by assumption) ?rf1_7
              case yf1_7 => (intro w hSw; (try dsimp only at hSw); go_simp; (try with_reducible rfl))
              simp only [Act.put, List.setIfInBounds_toArray, List.set_cons_zero, List.set_cons_succ]
              refine wpAnyH_ready (rs := [7]) (by kernel_rfl) (by simp) ?_
              refine AllReadyH.cons (o := _) rfl (fun Kf1_8 hKf1_8 => ?cf1_8) ?mf1_8
              case mf1_8 => exact AllReadyH.nil
              go_simp
              skip
              go_wp2_with fail
              refine hKf1_8.out _ _ ?kf1_8 (fun hHeldf1_8 => ?df1_8)
              case kf1_8 => (first | (dsimp only; (first | with_reducible exact q2 | with_reducible exact q0 | exact q0)) | (first | with_reducible exact q2 | with_reducible exact q0 | exact q0))
              clear hKf1_8 Kf1_8
              refine wpAnyH_ready (rs := [8]) (by kernel_rfl) (by simp) ?_
              refine AllReadyH.cons (o := _) rfl (fun Kf1_9 hKf1_9 => ?cf1_9) ?mf1_9
              case mf1_9 => exact AllReadyH.nil
              go_simp
              (with_reducible refine (implStoGet_any _ _ b _ (HFc.out _ HBs3.out).2.1).mono ?_); rintro e w8 ⟨u8, rfl, ho8, hb8⟩; rw [HKF.out, getOk_yes (plc_parts HSB.out).1]; rw [HKF.out, getV_yes (plc_parts HSB.out).1] at ho8; have HBw := Lib.hid (HBs.out.trans (hb8.mono HBs.out.size)); have HBw3 := Lib.hid (HBs3.out.trans (hb8.mono HBs3.out.size)); have HO8 := Lib.hid ho8; have q2 : w8.cell? ⟨bl, ol + 1, none⟩ = some (.slice Ai b.length ci) ∧ w8.cell? ⟨w2.heap.size, m, none⟩ = some (.string (digS (m : Int))) := And.intro (HFc.out _ HBw3.out).1.1 ((HFc.out _ HBw3.out).1.2.of m _ (digs_is m10)); clear ho8 hb8
              go_wp2_with fail
              refine hKf1_9.out _ _ ?kf1_9 (fun hHeldf1_9 => ?df1_9)
              case kf1_9 => (first | (dsimp only; (first | with_reducible exact q2 | with_reducible exact q0 | exact q0)) | (first | with_reducible exact q2 | with_reducible exact q0 | exact q0))
              clear hKf1_9 Kf1_9
              refine take_first 9 64 (v := ?vf1_10) rfl rfl (by kernel_rfl) (by kernel_rfl) (by kernel_rfl) (fun _ _ _ h => h) (by rfl) ?yf1_10 (by assumption) ?rf1_10
              case yf1_10 => (intro w hSw; (try dsimp only at hSw); go_simp; (try with_reducible rfl))
              simp only [Act.put, List.setIfInBounds_toArray, List.set_cons_zero, List.set_cons_succ]
              refine take_first 10 74 (v := ?vf1_11) rfl rfl (by kernel_rfl) (by kernel_rfl) (by kernel_rfl) (fun _ _ _ h => h) (by rfl) ?yf1_11 (by assumption) ?rf1_11
              case yf1_11 => (intro w hSw; (try dsimp only at hSw); go_simp; (try with_reducible rfl))
              simp only [Act.put, List.setIfInBounds_toArray, List.set_cons_zero, List.set_cons_succ]
              refine take_first 11 75 (v := ?vf1_12) rfl rfl (by kernel_rfl) (by kernel_rfl) (by kernel_rfl) (fun _ _ _ h => h) (by rfl) ?yf1_12 (by assumption) ?rf1_12
              case yf1_12 => (intro w hSw; (try dsimp only at hSw); go_simp; (try with_reducible rfl))
              simp only [Act.put, List.setIfInBounds_toArray, List.set_cons_zero, List.set_cons_succ]
              refine take_first 12 12 (v := ?vf1_13) rfl rfl (by kernel_rfl) (by kernel_rfl) (by kernel_rfl) (fun _ _ _ h => h) (by rfl) ?yf1_13 (by assumption) ?rf1_13
              case yf1_13 => (intro w hSw; (try dsimp only at hSw); go_simp; (try with_reducible rfl))
              simp only [Act.put, List.setIfInBounds_toArray, List.set_cons_zero, List.set_cons_succ]
              refine take_first 13 13 (v := ?vf1_14) rfl rfl (by kernel_rfl) (by kernel_rfl) (by kernel_rfl) (fun _ _ _ h => h) (by rfl) ?yf1_14 (by assumption) ?rf1_14
              case yf1_14 => (intro w hSw; (try dsimp only at hSw); go_simp; (try with_reducible rfl))
              simp only [Act.put, List.setIfInBounds_toArray, List.set_cons_zero, List.set_cons_succ]
              refine wpAnyH_done (by kernel_rfl) ?ef1 _
              clear q0 q2 hds HBs HBs3
              obtain ⟨A8, c8, hf8, -, -, -⟩ := HO8.out.ints
              subst hf8
              clear HO8
              have r1 := (HFc.out _ HBw3.out).1.1
              have hpl := trade_plan (cd := (k : Int)) (sec := (s : Int)) (fam := (m : Int)) HSB.out k00 k9 s00 s99 m00 (by omega)
              rw [HKP.out] at hpl
              have HPl := Lib.hid hpl
              clear hpl
              go_wp2_with fail
              clear r1
              refine (implPlcPlan_any _ 2 _ b (HFc.out _ HBw3.out).2.1 0 ⟨3, 0, 0, (k : Int), (s : Int), (m : Int), 0⟩).mono ?_
              rintro e w9 ⟨ua, ub, rfl, ho9, hb9⟩
              obtain ⟨Aa, ca, Ab, cb, rfl, rfl⟩ := planForm ho9
              rw [HPl.out]
              generalize hla : (plcP b 2 0 ⟨3, 0, 0, (k : Int), (s : Int), (m : Int), 0⟩).locks.length = la
              generalize hlb : (plcP b 2 0 ⟨3, 0, 0, (k : Int), (s : Int), (m : Int), 0⟩).writes.length = lb
              have HB9 := Lib.hid (show Below w7.heap.size w7 w9 from HBw.out.trans (hb9.mono HBw.out.size))
              clear hb9 ho9 HPl hla hlb
              rw [HV00.out, Bool.true_and]
              cases htk : lookOk b (keyN 102 (m : Int)) with
              | true =>
                simp only [Bool.not_true, Bool.false_and]
                clear htk
                have HX := Lib.hid (Held.new w9 #[.bool false, .slice Aa la ca, .slice Ab lb cb] 46)
                have HBx := Lib.hid (HB9.out.alloc HB9.out.size (.cells #[.bool false, .slice Aa la ca, .slice Ab lb cb] 46))
                have x0 := HX.out.of 0 _ rfl
                have j0 := x0
                clear x0
                go_wp2
                refine wp_region_held_drew (S := (fun w' => w'.cell? ⟨w9.heap.size, 0, none⟩ = some (.bool false))) (by kernel_rfl) ?hSg1 (fun hHeldg1 => ?stg1)
                case hSg1 => (first | (dsimp only; (first | with_reducible exact j0 | exact j0)) | (first | with_reducible exact j0 | exact j0))
                refine take_first 0 84 (v := ?vg1_1) rfl rfl (by kernel_rfl) (by kernel_rfl) (by kernel_rfl) (fun _ _ _ h => h) (by rfl) ?yg1_1 (by assumption) ?rg1_1
                case yg1_1 => (intro w hSw; (try dsimp only at hSw); go_simp; (try with_reducible rfl))
                simp only [Act.put, List.setIfInBounds_toArray, List.set_cons_zero, List.set_cons_succ]
                refine take_first 1 85 (v := ?vg1_2) rfl rfl (by kernel_rfl) (by kernel_rfl) (by kernel_rfl) (fun _ _ _ h => h) (by rfl) ?yg1_2 (by assumption) ?rg1_2
                case yg1_2 => (intro w hSw; (try dsimp only at hSw); go_simp; (try with_reducible rfl))
                simp only [Act.put, List.setIfInBounds_toArray, List.set_cons_zero, List.set_cons_succ]
                refine take_first 2 86 (v := ?vg1_3) rfl rfl (by kernel_rfl) (by kernel_rfl) (by kernel_rfl) (fun _ _ _ h => h) (by rfl) ?yg1_3 (by assumption) ?rg1_3
                case yg1_3 => (intro w hSw; (try dsimp only at hSw); go_simp; (try with_reducible rfl))
                simp only [Act.put, List.setIfInBounds_toArray, List.set_cons_zero, List.set_cons_succ]
                refine take_first 3 87 (v := ?vg1_4) rfl rfl (by kernel_rfl) (by kernel_rfl) (by kernel_rfl) (fun _ _ _ h => h) (by rfl) ?yg1_4 (by assumption) ?rg1_4
                case yg1_4 => (intro w hSw; (try dsimp only at hSw); go_simp; (try with_reducible rfl))
                simp only [Act.put, List.setIfInBounds_toArray, List.set_cons_zero, List.set_cons_succ]
                refine take_first 4 88 (v := ?vg1_5) rfl rfl (by kernel_rfl) (by kernel_rfl) (by kernel_rfl) (fun _ _ _ h => h) (by rfl) ?yg1_5 (by assumption) ?rg1_5
                case yg1_5 => (intro w hSw; (try dsimp only at hSw); go_simp; (try with_reducible rfl))
                simp only [Act.put, List.setIfInBounds_toArray, List.set_cons_zero, List.set_cons_succ]
                refine take_first 5 89 (v := ?vg1_6) rfl rfl (by kernel_rfl) (by kernel_rfl) (by kernel_rfl) (fun _ _ _ h => h) (by rfl) ?yg1_6 (by assumption) ?rg1_6
                case yg1_6 => (intro w hSw; (try dsimp only at hSw); go_simp; (try with_reducible rfl))
                simp only [Act.put, List.setIfInBounds_toArray, List.set_cons_zero, List.set_cons_succ]
                refine take_first 6 90 (v := ?vg1_7) rfl rfl (by kernel_rfl) (by kernel_rfl) (by kernel_rfl) (fun _ _ _ h => h) (by rfl) ?yg1_7 (by assumption) ?rg1_7
                case yg1_7 => (intro w hSw; (try dsimp only at hSw); go_simp; (try with_reducible rfl))
                simp only [Act.put, List.setIfInBounds_toArray, List.set_cons_zero, List.set_cons_succ]
                refine take_first 7 91 (v := ?vg1_8) rfl rfl (by kernel_rfl) (by kernel_rfl) (by kernel_rfl) (fun _ _ _ h => h) (by rfl) ?yg1_8 (by assumption) ?rg1_8
                case yg1_8 => (intro w hSw; (try dsimp only at hSw); go_simp; (try with_reducible rfl))
                simp only [Act.put, List.setIfInBounds_toArray, List.set_cons_zero, List.set_cons_succ]
                refine pass_over 8 92 rfl rfl (by kernel_rfl) (by kernel_rfl) (by kernel_rfl) (fun _ _ _ h => h) (by rfl) (by assumption) ?rg1_9
                simp only [Act.put, List.setIfInBounds_toArray, List.set_cons_zero, List.set_cons_succ]
                refine pass_over 9 93 rfl rfl (by kernel_rfl) (by kernel_rfl) (by kernel_rfl) (fun _ _ _ h => h) (by rfl) (by assumption) ?rg1_10
                simp only [Act.put, List.setIfInBounds_toArray, List.set_cons_zero, List.set_cons_succ]
                refine pass_over 10 94 rfl rfl (by kernel_rfl) (by kernel_rfl) (by kernel_rfl) (fun _ _ _ h => h) (by rfl) (by assumption) ?rg1_11
                simp only [Act.put, List.setIfInBounds_toArray, List.set_cons_zero, List.set_cons_succ]
                refine take_first 11 95 (v := ?vg1_12) rfl rfl (by kernel_rfl) (by kernel_rfl) (by kernel_rfl) (fun _ _ _ h => h) (by rfl) ?yg1_12 (by assumption) ?rg1_12
                case yg1_12 => (intro w hSw; (try dsimp only at hSw); go_simp; (try with_reducible rfl))
                simp only [Act.put, List.setIfInBounds_toArray, List.set_cons_zero, List.set_cons_succ]
                refine take_first 12 96 (v := ?vg1_13) rfl rfl (by kernel_rfl) (by kernel_rfl) (by kernel_rfl) (fun _ _ _ h => h) (by rfl) ?yg1_13 (by assumption) ?rg1_13
                case yg1_13 => (intro w hSw; (try dsimp only at hSw); go_simp; (try with_reducible rfl))
                simp only [Act.put, List.setIfInBounds_toArray, List.set_cons_zero, List.set_cons_succ]
                refine pass_over 13 97 rfl rfl (by kernel_rfl) (by kernel_rfl) (by kernel_rfl) (fun _ _ _ h => h) (by rfl) (by assumption) ?rg1_14
                simp only [Act.put, List.setIfInBounds_toArray, List.set_cons_zero, List.set_cons_succ]
                refine pass_over 14 98 rfl rfl (by kernel_rfl) (by kernel_rfl) (by kernel_rfl) (fun _ _ _ h => h) (by rfl) (by assumption) ?rg1_15
                simp only [Act.put, List.setIfInBounds_toArray, List.set_cons_zero, List.set_cons_succ]
                refine pass_over 15 99 rfl rfl (by kernel_rfl) (by kernel_rfl) (by kernel_rfl) (fun _ _ _ h => h) (by rfl) (by assumption) ?rg1_16
                simp only [Act.put, List.setIfInBounds_toArray, List.set_cons_zero, List.set_cons_succ]
                refine pass_over 16 100 rfl rfl (by kernel_rfl) (by kernel_rfl) (by kernel_rfl) (fun _ _ _ h => h) (by rfl) (by assumption) ?rg1_17
                simp only [Act.put, List.setIfInBounds_toArray, List.set_cons_zero, List.set_cons_succ]
                refine pass_over 17 101 rfl rfl (by kernel_rfl) (by kernel_rfl) (by kernel_rfl) (fun _ _ _ h => h) (by rfl) (by assumption) ?rg1_18
                simp only [Act.put, List.setIfInBounds_toArray, List.set_cons_zero, List.set_cons_succ]
                refine pass_over 18 102 rfl rfl (by kernel_rfl) (by kernel_rfl) (by kernel_rfl) (fun _ _ _ h => h) (by rfl) (by assumption) ?rg1_19
                simp only [Act.put, List.setIfInBounds_toArray, List.set_cons_zero, List.set_cons_succ]
                refine take_first 19 103 (v := ?vg1_20) rfl rfl (by kernel_rfl) (by kernel_rfl) (by kernel_rfl) (fun _ _ _ h => h) (by rfl) ?yg1_20 (by assumption) ?rg1_20
                case yg1_20 => (intro w hSw; (try dsimp only at hSw); go_simp; (try with_reducible rfl))
                simp only [Act.put, List.setIfInBounds_toArray, List.set_cons_zero, List.set_cons_succ]
                refine take_first 20 104 (v := ?vg1_21) rfl rfl (by kernel_rfl) (by kernel_rfl) (by kernel_rfl) (fun _ _ _ h => h) (by rfl) ?yg1_21 (by assumption) ?rg1_21
                case yg1_21 => (intro w hSw; (try dsimp only at hSw); go_simp; (try with_reducible rfl))
                simp only [Act.put, List.setIfInBounds_toArray, List.set_cons_zero, List.set_cons_succ]
                refine wpAnyH_done (by kernel_rfl) ?eg1 _
                clear j0
                go_wp2
                go_roundw
                case rel => exact ⟨s + 7, by omega, by go_num, HBx.out.drew⟩
                case measure => simp [intOf]; omega
              | false =>
                simp only [Bool.not_false, Bool.true_and]
                clear htk
                have HX := Lib.hid (Held.new w9 #[.bool (v1 == secS (s : Int)), .slice Aa la ca, .slice Ab lb cb] 46)
                have HBx := Lib.hid (HB9.out.alloc HB9.out.size (.cells #[.bool (v1 == secS (s : Int)), .slice Aa la ca, .slice Ab lb cb] 46))
                have x0 := HX.out.of 0 _ rfl
                have j0 := And.intro x0 (HV0.out _ HBx.out)
                clear x0
                go_wp2
                refine wp_region_held_drew (S := (fun w' => w'.cell? ⟨w9.heap.size, 0, none⟩ = some (.bool (v1 == secS (s : Int))) ∧ w'.cell? ⟨b7, of7 + 1, none⟩ = some (.int .i64 v1))) (by kernel_rfl) ?hSg2 (fun hHeldg2 => ?stg2)
                case hSg2 => (first | (dsimp only; (first | with_reducible exact j0 | exact j0)) | (first | with_reducible exact j0 | exact j0))
                refine take_first 0 84 (v := ?vg2_1) rfl rfl (by kernel_rfl) (by kernel_rfl) (by kernel_rfl) (fun _ _ _ h => h) (by rfl) ?yg2_1 (by assumption) ?rg2_1
                case yg2_1 => (intro w hSw; (try dsimp only at hSw); go_simp; (try with_reducible rfl))
                simp only [Act.put, List.setIfInBounds_toArray, List.set_cons_zero, List.set_cons_succ]
                refine take_first 1 85 (v := ?vg2_2) rfl rfl (by kernel_rfl) (by kernel_rfl) (by kernel_rfl) (fun _ _ _ h => h) (by rfl) ?yg2_2 (by assumption) ?rg2_2
                case yg2_2 => (intro w hSw; (try dsimp only at hSw); go_simp; (try with_reducible rfl))
                simp only [Act.put, List.setIfInBounds_toArray, List.set_cons_zero, List.set_cons_succ]
                refine take_first 2 86 (v := ?vg2_3) rfl rfl (by kernel_rfl) (by kernel_rfl) (by kernel_rfl) (fun _ _ _ h => h) (by rfl) ?yg2_3 (by assumption) ?rg2_3
                case yg2_3 => (intro w hSw; (try dsimp only at hSw); go_simp; (try with_reducible rfl))
                simp only [Act.put, List.setIfInBounds_toArray, List.set_cons_zero, List.set_cons_succ]
                refine take_first 3 87 (v := ?vg2_4) rfl rfl (by kernel_rfl) (by kernel_rfl) (by kernel_rfl) (fun _ _ _ h => h) (by rfl) ?yg2_4 (by assumption) ?rg2_4
                case yg2_4 => (intro w hSw; (try dsimp only at hSw); go_simp; (try with_reducible rfl))
                simp only [Act.put, List.setIfInBounds_toArray, List.set_cons_zero, List.set_cons_succ]
                refine take_first 4 88 (v := ?vg2_5) rfl rfl (by kernel_rfl) (by kernel_rfl) (by kernel_rfl) (fun _ _ _ h => h) (by rfl) ?yg2_5 (by assumption) ?rg2_5
                case yg2_5 => (intro w hSw; (try dsimp only at hSw); go_simp; (try with_reducible rfl))
                simp only [Act.put, List.setIfInBounds_toArray, List.set_cons_zero, List.set_cons_succ]
                refine take_first 5 89 (v := ?vg2_6) rfl rfl (by kernel_rfl) (by kernel_rfl) (by kernel_rfl) (fun _ _ _ h => h) (by rfl) ?yg2_6 (by assumption) ?rg2_6
                case yg2_6 => (intro w hSw; (try dsimp only at hSw); go_simp; (try with_reducible rfl))
                simp only [Act.put, List.setIfInBounds_toArray, List.set_cons_zero, List.set_cons_succ]
                refine take_first 6 90 (v := ?vg2_7) rfl rfl (by kernel_rfl) (by kernel_rfl) (by kernel_rfl) (fun _ _ _ h => h) (by rfl) ?yg2_7 (by assumption) ?rg2_7
                case yg2_7 => (intro w hSw; (try dsimp only at hSw); go_simp; (try with_reducible rfl))
                simp only [Act.put, List.setIfInBounds_toArray, List.set_cons_zero, List.set_cons_succ]
                refine take_first 7 91 (v := ?vg2_8) rfl rfl (by kernel_rfl) (by kernel_rfl) (by kernel_rfl) (fun _ _ _ h => h) (by rfl) ?yg2_8 (by assumption) ?rg2_8
                case yg2_8 => (intro w hSw; (try dsimp only at hSw); go_simp; (try with_reducible rfl))
                simp only [Act.put, List.setIfInBounds_toArray, List.set_cons_zero, List.set_cons_succ]
                refine take_first 8 92 (v := ?vg2_9) rfl rfl (by kernel_rfl) (by kernel_rfl) (by kernel_rfl) (fun _ _ _ h => h) (by rfl) ?yg2_9 (by assumption) ?rg2_9
                case yg2_9 => (intro w hSw; (try dsimp only at hSw); go_simp; (try with_reducible rfl))
                simp only [Act.put, List.setIfInBounds_toArray, List.set_cons_zero, List.set_cons_succ]
                refine take_first 9 93 (v := ?vg2_10) rfl rfl (by kernel_rfl) (by kernel_rfl) (by kernel_rfl) (fun _ _ _ h => h) (by rfl) ?yg2_10 (by assumption) ?rg2_10
                case yg2_10 => (intro w hSw; (try dsimp only at hSw); go_simp; (try with_reducible rfl))
                simp only [Act.put, List.setIfInBounds_toArray, List.set_cons_zero, List.set_cons_succ]
                refine take_first 10 94 (v := ?vg2_11) rfl rfl (by kernel_rfl) (by kernel_rfl) (by kernel_rfl) (fun _ _ _ h => h) (by rfl) ?yg2_11 (by assumption) ?rg2_11
                case yg2_11 => (intro w hSw; (try dsimp only at hSw); go_simp; (try with_reducible rfl))
                simp only [Act.put, List.setIfInBounds_toArray, List.set_cons_zero, List.set_cons_succ]
                refine take_first 11 95 (v := ?vg2_12) rfl rfl (by kernel_rfl) (by kernel_rfl) (by kernel_rfl) (fun _ _ _ h => h) (by rfl) ?yg2_12 (by assumption) ?rg2_12
                case yg2_12 => (intro w hSw; (try dsimp only at hSw); go_simp; (try with_reducible rfl))
                simp only [Act.put, List.setIfInBounds_toArray, List.set_cons_zero, List.set_cons_succ]
                refine take_first 12 96 (v := ?vg2_13) rfl rfl (by kernel_rfl) (by kernel_rfl) (by kernel_rfl) (fun _ _ _ h => h) (by rfl) ?yg2_13 (by assumption) ?rg2_13
                case yg2_13 => (intro w hSw; (try dsimp only at hSw); go_simp; (try with_reducible rfl))
                simp only [Act.put, List.setIfInBounds_toArray, List.set_cons_zero, List.set_cons_succ]
                refine take_first 13 97 (v := ?vg2_14) rfl rfl (by kernel_rfl) (by kernel_rfl) (by kernel_rfl) (fun _ _ _ h => h) (by rfl) ?yg2_14 (by assumption) ?rg2_14
                case yg2_14 => (intro w hSw; (try dsimp only at hSw); go_simp; (try with_reducible rfl))
                simp only [Act.put, List.setIfInBounds_toArray, List.set_cons_zero, List.set_cons_succ]
                refine take_first 14 98 (v := ?vg2_15) rfl rfl (by kernel_rfl) (by kernel_rfl) (by kernel_rfl) (fun _ _ _ h => h) (by rfl) ?yg2_15 (by assumption) ?rg2_15
                case yg2_15 => (intro w hSw; (try dsimp only at hSw); go_simp; (try with_reducible rfl))
                simp only [Act.put, List.setIfInBounds_toArray, List.set_cons_zero, List.set_cons_succ]
                refine take_first 15 99 (v := ?vg2_16) rfl rfl (by kernel_rfl) (by kernel_rfl) (by kernel_rfl) (fun _ _ _ h => h) (by rfl) ?yg2_16 (by assumption) ?rg2_16
                case yg2_16 => (intro w hSw; (try dsimp only at hSw); go_simp; (try with_reducible rfl))
                simp only [Act.put, List.setIfInBounds_toArray, List.set_cons_zero, List.set_cons_succ]
                refine take_first 16 100 (v := ?vg2_17) rfl rfl (by kernel_rfl) (by kernel_rfl) (by kernel_rfl) (fun _ _ _ h => h) (by rfl) ?yg2_17 (by assumption) ?rg2_17
                case yg2_17 => (intro w hSw; (try dsimp only at hSw); go_simp; (try with_reducible rfl))
                simp only [Act.put, List.setIfInBounds_toArray, List.set_cons_zero, List.set_cons_succ]
                refine wpAnyH_ready (rs := [17]) (by kernel_rfl) (by simp) ?_
                refine AllReadyH.cons (o := _) rfl (fun Kg2_18 hKg2_18 => ?cg2_18) ?mg2_18
                case mg2_18 => exact AllReadyH.nil
                go_simp
                refine (implSecSum_any _ _).mono ?_; rintro e wz ⟨rfl, rfl⟩
                go_wp2_with fail
                refine hKg2_18.out _ _ ?kg2_18 (fun hHeldg2_18 => ?dg2_18)
                case kg2_18 => (first | (dsimp only; (first | with_reducible exact j0 | exact j0)) | (first | with_reducible exact j0 | exact j0))
                clear hKg2_18 Kg2_18
                refine take_first 18 102 (v := ?vg2_19) rfl rfl (by kernel_rfl) (by kernel_rfl) (by kernel_rfl) (fun _ _ _ h => h) (by rfl) ?yg2_19 (by assumption) ?rg2_19
                case yg2_19 => (intro w hSw; (try dsimp only at hSw); go_simp; (try with_reducible rfl))
                simp only [Act.put, List.setIfInBounds_toArray, List.set_cons_zero, List.set_cons_succ]
                refine take_first 19 103 (v := ?vg2_20) rfl rfl (by kernel_rfl) (by kernel_rfl) (by kernel_rfl) (fun _ _ _ h => h) (by rfl) ?yg2_20 (by assumption) ?rg2_20
                case yg2_20 => (intro w hSw; (try dsimp only at hSw); go_simp; (try with_reducible rfl))
                simp only [Act.put, List.setIfInBounds_toArray, List.set_cons_zero, List.set_cons_succ]
                refine take_first 20 104 (v := ?vg2_21) rfl rfl (by kernel_rfl) (by kernel_rfl) (by kernel_rfl) (fun _ _ _ h => h) (by rfl) ?yg2_21 (by assumption) ?rg2_21
                case yg2_21 => (intro w hSw; (try dsimp only at hSw); go_simp; (try with_reducible rfl))
                simp only [Act.put, List.setIfInBounds_toArray, List.set_cons_zero, List.set_cons_succ]
                refine wpAnyH_done (by kernel_rfl) ?eg2 _
                clear j0
                go_wp2
                go_roundw
                case rel => exact ⟨s + 7, by omega, by go_num, HBx.out.drew⟩
                case measure => simp [intOf]; omega
            · have s99 : ¬ (s : Int) ≤ 99 := by omega
              go_wp2
              go_roundw
              case rel => exact ⟨k + 1, by omega, by go_num, HB8.out⟩
              case measure => simp [intOf]; omega
      · have k9 : ¬ (k : Int) ≤ 9 := by omega
        go_wp2_with fail
        refine (jaOk_any _).mono ?_
        rintro e w5 ⟨rfl, hb⟩
        have HBe := Lib.hid (belowNext (HFc.out _ HBr.out).2.2 hb)
        clear hb
        go_wp2
        go_ret
        exact ⟨rfl, HBe.out⟩

end Go.Proofs.Yteccebjnopladaa

/- The walk of FnPlanOut. By letgen.py. -/
namespace Go.Proofs.Yteccebjnopladaa
open Go.RowKit

theorem out_plan {b : List Item} {who : Int} (hp : plcB 2 b = true) (h0 : 0 ≤ who) (h9 : who ≤ 9) : plcP b 2 0 ⟨5, who, 0, 0, 0, 0, 0⟩ = mayP5 b ⟨5, who, 0, 0, 0, 0, 0⟩ := by
  have ho : opB ⟨5, who, 0, 0, 0, 0, 0⟩ = true := by
    have h1 : inB who 0 9 = true := inB_yes h0 h9
    have h2 : inB 0 0 9 = true := by decide
    simp [opB, opK, h1, h2]; decide
  have ht : inB 0 0 29 = true := by decide
  unfold plcP
  rw [ho, hp, ht]
  simp [planP]
theorem fams_next {b : List Item} {who : Int} {k : Nat} {it : Item} (h : b[k]? = some it) (hf : famB who it = true) : (b.filter (famB who))[((b.take k).filter (famB who)).length]? = some it := by
  have hk : k < b.length := (List.getElem?_eq_some_iff.1 h).1
  have e : b.filter (famB who) = (b.take k).filter (famB who) ++ (it :: (b.drop (k + 1)).filter (famB who)) := by
    conv => lhs; rw [its_split hk, List.filter_append, List.filter_cons]
    rw [(List.getElem?_eq_some_iff.1 h).2, if_pos hf]
  rw [e, List.getElem?_append_right (Nat.le_refl _), Nat.sub_self]
  rfl
theorem fams_step {b : List Item} {who : Int} {k : Nat} {it : Item} (h : b[k]? = some it) : ((b.take (k + 1)).filter (famB who)).length = ((b.take k).filter (famB who)).length + (if famB who it = true then 1 else 0) := by
  rw [List.take_add_one, List.filter_append, List.length_append, h]
  cases hf : famB who it <;> simp [List.filter, hf]
theorem fams_most (b : List Item) (who : Int) (k : Nat) : ((b.take k).filter (famB who)).length ≤ b.length := Nat.le_trans (List.length_filter_le _ _) (List.length_take_le' _ _)

set_option maxRecDepth 100000 in
set_option maxHeartbeats 20000000 in
theorem lawPlanOut_any (w : World) (v : Value) (n : Nat) (hv : Code8 w v n) :
    Calls Try.prog 6 #[v] w fun e w' => e = .returned (.bool true) ∧ Below w.heap.size w w' := by
  have HV := Lib.hid hv
  obtain ⟨A, c, f, rfl, h1, h2, -, -⟩ := hv
  unfold maxLen at h2
  by_cases hn : 1048576 < n
  · have hn' : (1048576 : Int) < (n : Int) := by omega
    go_enter Try.func6, Try.ntmps6
    go_wp2
    go_ret
    exact ⟨rfl, Below.refl _ _⟩
  have hn' : (n : Int) ≤ 1048576 := by omega
  clear hn
  go_enter Try.func6, Try.ntmps6
  go_wp2_with fail
  refine (drawGloDo_any _ _ n HV.out).mono ?_
  rintro e w1 ⟨u, xs, tx, o, rfl, hxl, hxi, t0, t1, hrow, hb1⟩
  obtain ⟨Al, cl, hlf, -, -⟩ := hrow.form
  rw [hxl] at hlf
  subst hlf
  have HB := Lib.hid (belowNext hb1 (belowOne w1 (.cells #[.int .i64 o.kind, .int .i64 o.who, .int .i64 o.inn, .int .i64 o.code, .int .i64 o.sec, .int .i64 o.fam, .int .i64 o.gen] 36)))
  have HR := Lib.hid ((hrow.below (belowOne w1 (.cells #[.int .i64 o.kind, .int .i64 o.who, .int .i64 o.inn, .int .i64 o.code, .int .i64 o.sec, .int .i64 o.fam, .int .i64 o.gen] 36))).more (belowOne w1 (.cells #[.int .i64 o.kind, .int .i64 o.who, .int .i64 o.inn, .int .i64 o.code, .int .i64 o.sec, .int .i64 o.fam, .int .i64 o.gen] 36)).size)
  have HXI := Lib.hid hxi
  clear hrow hb1 HV hxi
  unfold opV
  go_wp2_with fail
  refine (specGloOk_any _ _ _ HR.out).mono ?_
  rintro e w2 ⟨rfl, hb⟩
  replace HB := Lib.hid (belowNext HB.out hb)
  replace HR := Lib.hid ((HR.out.below hb).more hb.size)
  clear hb
  cases hg : gloB xs with
  | false =>
    have HG := Lib.hid hg
    clear hg
    go_wp2_with fail
    refine (implGloOk_any _ _ _ HR.out).mono ?_
    rintro e w3 ⟨rfl, hb⟩
    replace HB := Lib.hid (belowNext HB.out hb)
    replace HR := Lib.hid ((HR.out.below hb).more hb.size)
    clear hb
    rw [HG.out]
    go_wp2_with fail
    refine (specGloOk_any _ _ _ HR.out).mono ?_
    rintro e w4 ⟨rfl, hb⟩
    replace HB := Lib.hid (belowNext HB.out hb)
    clear hb
    rw [HG.out]
    go_wp2_with fail
    refine (jaOk_any _).mono ?_
    rintro e w5 ⟨rfl, hb⟩
    replace HB := Lib.hid (belowNext HB.out hb)
    clear hb
    go_wp2
    go_ret
    exact ⟨rfl, HB.out⟩
  | true =>
    obtain ⟨a, b, c, rfl⟩ := glo_abc hg
    have HG := Lib.hid hg
    clear hg hxl
    obtain ⟨bl, ol, dl, x1, p1, e1, hx1, hB1, r1, hi1⟩ := stos_at HR.out (k := 1) (by simp)
    have hx1' : (⟨b⟩ : Sto) = x1 := Option.some.inj hx1
    subst hx1'
    injection e1 with e1a e1b e1c
    subst e1a
    obtain ⟨Ai, ci, hfi, -, -⟩ := hi1.form
    subst hfi
    have hi1' : Items w2 w2.heap.size (.slice Ai b.length ci) b := items_row.1 hi1
    have HSx := Lib.hid (Held.new w2 #[.slice Ai b.length ci] 25)
    have HSB := Lib.hid (gloB_parts HG.out).2.1
    have HBs := Lib.hid (belowOne w2 (.cells #[.slice Ai b.length ci] 25))
    have HFc := Lib.hid (fun (X : World) (hX : Below (w2.alloc (.cells #[.slice Ai b.length ci] 25)).heap.size (w2.alloc (.cells #[.slice Ai b.length ci] 25)) X) => show Held X w2.heap.size [.slice Ai b.length ci] ∧ Items X X.heap.size (.slice Ai b.length ci) b ∧ Below w.heap.size w X from
      ⟨HSx.out.below hX HSx.out.1, (hi1'.below (belowNext HBs.out hX)).more (belowNext HBs.out hX).size, belowNext HB.out (belowNext HBs.out hX)⟩)
    have HB0 := Lib.hid (show Below (w2.alloc (.cells #[.slice Ai b.length ci] 25)).heap.size (w2.alloc (.cells #[.slice Ai b.length ci] 25)) (w2.alloc (.cells #[.slice Ai b.length ci] 25)) from Below.refl _ _)
    have hbl40 := (stoB_three (plc_parts HSB.out).1).1
    clear hx1 e1b e1c hi1 hi1' HR HXI HB HBs HSx HG
    go_wp2
    clear r1 hB1
    generalize (w2.alloc (.cells #[.slice Ai b.length ci] 25)) = w3 at *
    go_loopw [7] (fun i wr => ∃ k : Nat, k ≤ 10 ∧ i = .int .i64 k ∧ Below w3.heap.size w3 wr) (fun i _ => 10 - (intOf i).toNat)
    case atStart => exact ⟨0, by omega, rfl, HB0.out⟩
    case round =>
      clear HB0
      obtain ⟨k, hk, rfl, hb⟩ := hrel
      have HBr := Lib.hid hb
      clear hb
      by_cases hlt : k < 10
      · have k9 : (k : Int) ≤ 9 := by omega
        have k00 : (0 : Int) ≤ (k : Int) := by omega
        have HPl := Lib.hid (out_plan (who := (k : Int)) HSB.out k00 k9)
        have s0 := (HFc.out _ HBr.out).1.of 0 _ rfl
        go_wp2_with fail
        clear s0
        refine (implPlcPlan_any _ 2 _ b (HFc.out _ HBr.out).2.1 0 ⟨5, (k : Int), 0, 0, 0, 0, 0⟩).mono ?_
        rintro e w9 ⟨ua, ub, rfl, ho9, hb9⟩
        rw [HPl.out] at ho9 ⊢
        obtain ⟨ua', ub', S1, S2, hcs, hl9, hw9, -, -, -⟩ := plan_own.1 ho9
        obtain ⟨rfl, rfl⟩ : ua = ua' ∧ ub = ub' := by simpa using hcs
        obtain ⟨Aa, ca, hfa, -, -⟩ := hl9.row.form
        obtain ⟨Ab, cb, hfb, hcb, -⟩ := hw9.row.form
        obtain ⟨fs, hfs⟩ : ∃ fs, b.filter (famB (k : Int)) = fs := ⟨_, rfl⟩
        have HFS := Lib.hid hfs
        have hws : (mayP5 b ⟨5, (k : Int), 0, 0, 0, 0, 0⟩).writes = fs.map fun it => (⟨it.key, false, [nth it.val 0, nth it.val 1, 0]⟩ : Wr) := by rw [← hfs]; rfl
        have hls : (mayP5 b ⟨5, (k : Int), 0, 0, 0, 0, 0⟩).locks.length = fs.length + 1 := by rw [← hfs]; simp [mayP5]
        have hfl : fs.length ≤ b.length := by rw [← hfs]; exact List.length_filter_le _ _
        have hlw : (mayP5 b ⟨5, (k : Int), 0, 0, 0, 0, 0⟩).writes.length = fs.length := by rw [hws, List.length_map]
        rw [hls] at hfa
        rw [hlw] at hfb
        have hok : (mayP5 b ⟨5, (k : Int), 0, 0, 0, 0, 0⟩).ok = true := rfl
        rw [hok]
        subst hfa hfb
        have HW9 := Lib.hid (show wrSh.Row w9 w9.heap.size (.slice Ab fs.length cb) (fs.map fun it => (⟨it.key, false, [nth it.val 0, nth it.val 1, 0]⟩ : Wr)) from by rw [← hws]; exact hw9.row)
        have HB9 := Lib.hid (show Below w3.heap.size w3 w9 from HBr.out.trans (hb9.mono HBr.out.size))
        unfold maxLen at hcb
        clear hfs hws hls hlw hok ho9 hcs hl9 hw9 hb9 HPl
        have HBx := Lib.hid (belowOne w9 (.cells #[.bool true, .slice Aa (fs.length + 1) ca, .slice Ab fs.length cb] 46))
        have HX := Lib.hid (Held.new w9 #[.bool true, .slice Aa (fs.length + 1) ca, .slice Ab fs.length cb] 46)
        have HFp := Lib.hid (fun (X : World) (hX : Below (w9.alloc (.cells #[.bool true, .slice Aa (fs.length + 1) ca, .slice Ab fs.length cb] 46)).heap.size (w9.alloc (.cells #[.bool true, .slice Aa (fs.length + 1) ca, .slice Ab fs.length cb] 46)) X) => show Held X w9.heap.size [.bool true, .slice Aa (fs.length + 1) ca, .slice Ab fs.length cb] ∧ Held X w2.heap.size [.slice Ai b.length ci] ∧ Items X X.heap.size (.slice Ai b.length ci) b ∧ wrSh.Row X X.heap.size (.slice Ab fs.length cb) (fs.map fun it => (⟨it.key, false, [nth it.val 0, nth it.val 1, 0]⟩ : Wr)) ∧ Below w3.heap.size w3 X from
          have h1 : Below w9.heap.size w9 X := belowNext HBx.out hX
          have h2 : Below w3.heap.size w3 X := belowNext HB9.out h1
          ⟨HX.out.below hX HX.out.1, (HFc.out _ h2).1, (HFc.out _ h2).2.1, (HW9.out.below h1).more h1.size, h2⟩)
        have HBp := Lib.hid (show Below (w9.alloc (.cells #[.bool true, .slice Aa (fs.length + 1) ca, .slice Ab fs.length cb] 46)).heap.size (w9.alloc (.cells #[.bool true, .slice Aa (fs.length + 1) ca, .slice Ab fs.length cb] 46)) (w9.alloc (.cells #[.bool true, .slice Aa (fs.length + 1) ca, .slice Ab fs.length cb] 46)) from Below.refl _ _)
        clear HBx HX HW9
        go_wp2
        generalize hwp : (w9.alloc (.cells #[.bool true, .slice Aa (fs.length + 1) ca, .slice Ab fs.length cb] 46)) = wp at *
        clear hwp
        go_loopw [9, 10] (fun a i wr => ∃ q : Nat, q ≤ b.length ∧ i = .int .i64 q ∧ a = .int .i64 (((b.take q).filter (famB (k : Int))).length : Nat) ∧ Below wp.heap.size wp wr) (fun _ i _ => b.length - (intOf i).toNat)
        case atStart => exact ⟨0, Nat.zero_le _, rfl, rfl, HBp.out⟩
        case round =>
          clear HBp
          obtain ⟨q, hq, rfl, rfl, hb⟩ := hrel
          have HBq := Lib.hid hb
          clear hb
          have hnm := fams_most b (k : Int) q
          obtain ⟨hbox, hsx, hits, hwrs, -⟩ := HFp.out _ HBq.out
          have s0 := hsx.of 0 _ rfl
          by_cases hqt : q < b.length
          · have hqi : (q : Int) < (b.length : Int) := by omega
            have hq0 : (0 : Int) ≤ (q : Int) := by omega
            obtain ⟨bi, oi, di, it, u, e1, hit, hBi, hsz, ck, cu, hu⟩ := hits.at_ (k := q) hqt
            injection e1 with e1a e1b e1c
            subst e1a
            have HIt := Lib.hid hit
            obtain ⟨k2, k3, n1, n3, hnn⟩ := itemB_parts ((stoB_three (plc_parts HSB.out).1).2.1 it (List.mem_of_getElem? hit))
            have hform : itP 2 it.key it.val = true := formB_at HSB.out (List.mem_of_getElem? hit)
            rw [itP2, decide_eq_true_iff] at hform
            obtain ⟨A', c2, rfl, d1, d2, hrow⟩ := hu
            obtain ⟨b2, o2, rfl, hb2, hcell⟩ := hrow (by omega)
            have v0 : wr.cell? ⟨b2, o2, none⟩ = some (.int .i64 (nth it.val 0)) := hcell 0 (by omega)
            have h0 : 0 < it.key.size := by omega
            have HFb := Lib.hid (famB_eq (o := ⟨5, (k : Int), 0, 0, 0, 0, 0⟩) h0)
            obtain ⟨ch, hch⟩ : ∃ ch : Int, ((it.key[0]'h0).toNat : Int) = ch := ⟨_, rfl⟩
            have hc0 := (chr0_at h0).trans hch
            rw [hc0] at hform HFb
            have HFo := Lib.hid hform
            have HSt := Lib.hid (fams_step (who := (k : Int)) hit)
            have HC := Lib.hid hcell
            unfold maxLen at d2
            have hkz : it.key.size = 2 := hform.1
            have HBI := Lib.hid (belowOne wr (.cells #[.string it.key, .slice (some ⟨b2, o2, none⟩) it.val.length c2] 50))
            clear hit hcell hrow hform hc0 hnn e1b e1c hits
            have hnone : famB (k : Int) it = false → ((b.take (q + 1)).filter (famB (k : Int))).length = ((b.take q).filter (famB (k : Int))).length := fun h => by rw [HSt.out, h]; rfl
            have HNo := Lib.hid hnone
            clear hnone
            by_cases h102 : ch = 102
            · subst h102
              have hl3 : it.val.length = 3 := by have := HFo.out; omega
              have v1 : wr.cell? ⟨b2, o2 + 1, none⟩ = some (.int .i64 (nth it.val 1)) := HC.out 1 (by omega)
              have v2 : wr.cell? ⟨b2, o2 + 2, none⟩ = some (.int .i64 (nth it.val 2)) := HC.out 2 (by omega)
              have l0 : 0 < it.val.length := by omega
              have l1 : 1 < it.val.length := by omega
              have l2 : 2 < it.val.length := by omega
              have l4 : (2 : Int) < (it.val.length : Int) := by omega
              have l5 : (1 : Int) < (it.val.length : Int) := by omega
              have HL3 := Lib.hid hl3
              clear hl3
              rcases e0 : (nth it.val 0 == (k : Int))
              · have g0 : (nth it.val 0 != (k : Int)) = true := by simp only [bne, e0]; rfl
                have HE := Lib.hid (HNo.out (by have h := HFb.out; rw [h, e0]; simp))
                clear v1 v2 hwrs hbox
                go_wp2
                go_roundw
                case rel => exact ⟨q + 1, by omega, by go_num, by rw [HE.out], HBq.out.trans (HBI.out.mono HBq.out.size)⟩
                case measure => simp [intOf]; omega
              have g0 : (nth it.val 0 != (k : Int)) = false := by simp only [bne, e0]; rfl
              rcases e2 : (nth it.val 2 == 1)
              · have g2 : (nth it.val 2 != 1) = true := by simp only [bne, e2]; rfl
                have HE := Lib.hid (HNo.out (by have h := HFb.out; rw [h, e0, e2]; simp))
                clear v1 hwrs hbox
                go_wp2
                go_roundw
                case rel => exact ⟨q + 1, by omega, by go_num, by rw [HE.out], HBq.out.trans (HBI.out.mono HBq.out.size)⟩
                case measure => simp [intOf]; omega
              · have g2 : (nth it.val 2 != 1) = false := by simp only [bne, e2]; rfl
                have hfb : famB (k : Int) it = true := by have h := HFb.out; rw [h, e0, e2]; simp
                have HE := Lib.hid (show ((b.take (q + 1)).filter (famB (k : Int))).length = ((b.take q).filter (famB (k : Int))).length + 1 by rw [HSt.out, hfb]; rfl)
                have hnx := fams_next HIt.out hfb
                rw [HFS.out] at hnx
                have HVw := Lib.hid (show nth it.val 0 = (k : Int) by simpa using e0)
                clear HSt HNo hfb
                generalize hN : ((b.take q).filter (famB (k : Int))).length = N at *
                have hNl : N < fs.length := (List.getElem?_eq_some_iff.1 hnx).1
                obtain ⟨bw, ow, dw, xw, cw, e3, hxw, hBw, hrw, hcw⟩ := hwrs.at_ (k := N) (by rw [List.length_map]; exact hNl)
                rw [List.getElem?_map, hnx] at hxw
                have hxw' := Option.some.inj hxw
                subst hxw'
                rw [List.length_map] at e3
                injection e3 with e3a e3b e3c
                subst e3a
                obtain ⟨pw, rfl, hsw, hpw⟩ := wr_rel.1 hrw
                obtain ⟨Aw, cpw, hpf, hcpw, -⟩ := hpw.form
                have hpf' : pw = .slice Aw 3 cpw := hpf
                subst hpf'
                have hIw := ints_row.1 hpw
                have y0 : wr.cell? ⟨bw, ow + N * 3, none⟩ = some (.string it.key) := hcw 0 _ rfl
                have y2 : wr.cell? ⟨bw, ow + N * 3 + 2, none⟩ = some (.slice Aw 3 cpw) := hcw 2 _ rfl
                have x2 := hbox.of 2 _ rfl
                have HKc := Lib.hid (And.intro x2 (And.intro v1 (And.intro y0 y2)))
                have HLt := Lib.hid (And.intro (show w9.heap.size < wr.heap.size from hbox.1) (And.intro hb2 hBw))
                have HIw := Lib.hid hIw
                have hNi : (N : Int) < (fs.length : Int) := by omega
                have hNi2 : ¬ (fs.length : Int) ≤ (N : Int) := by omega
                have hNn : ¬ fs.length ≤ N := by omega
                have hN0 : (0 : Int) ≤ (N : Int) := by omega
                clear hxw e3b e3c hrw hcw hpf hpw hIw y0 y2 x2 hwrs hnx hbox
                go_wp2
                have HXi := Lib.hid (Held.new wr #[.string it.key, .slice (some ⟨b2, o2, none⟩) it.val.length c2] 50)
                have HAll := Lib.hid (fun (X : World) (hX : Below (wr.alloc (.cells #[.string it.key, .slice (some ⟨b2, o2, none⟩) it.val.length c2] 50)).heap.size (wr.alloc (.cells #[.string it.key, .slice (some ⟨b2, o2, none⟩) it.val.length c2] 50)) X) => show X.cell? ⟨w9.heap.size, 2, none⟩ = some (.slice (some ⟨bw, ow, none⟩) fs.length cb) ∧ X.cell? ⟨b2, o2 + 1, none⟩ = some (.int .i64 (nth it.val 1)) ∧ X.cell? ⟨bw, ow + N * 3, none⟩ = some (.string it.key) ∧ X.cell? ⟨bw, ow + N * 3 + 2, none⟩ = some (.slice Aw 3 cpw) ∧ X.cell? ⟨wr.heap.size, 0, none⟩ = some (.string it.key) ∧ X.cell? ⟨wr.heap.size, 1, none⟩ = some (.slice (some ⟨b2, o2, none⟩) it.val.length c2) from
                  have h1 : Below wr.heap.size wr X := belowNext HBI.out hX
                  ⟨(h1.cell (p := ⟨w9.heap.size, 2, none⟩) HLt.out.1).trans HKc.out.1, (h1.cell (p := ⟨b2, o2 + 1, none⟩) HLt.out.2.1).trans HKc.out.2.1, (h1.cell (p := ⟨bw, ow + N * 3, none⟩) HLt.out.2.2).trans HKc.out.2.2.1, (h1.cell (p := ⟨bw, ow + N * 3 + 2, none⟩) HLt.out.2.2).trans HKc.out.2.2.2, (HXi.out.below hX HXi.out.1).of 0 _ rfl, (HXi.out.below hX HXi.out.1).of 1 _ rfl⟩)
                have HW1 := Lib.hid (show Below (wr.alloc (.cells #[.string it.key, .slice (some ⟨b2, o2, none⟩) it.val.length c2] 50)).heap.size (wr.alloc (.cells #[.string it.key, .slice (some ⟨b2, o2, none⟩) it.val.length c2] 50)) (wr.alloc (.cells #[.string it.key, .slice (some ⟨b2, o2, none⟩) it.val.length c2] 50)).drew from (Below.refl _ _).drew)
                have HW2 := Lib.hid (show Below (wr.alloc (.cells #[.string it.key, .slice (some ⟨b2, o2, none⟩) it.val.length c2] 50)).heap.size (wr.alloc (.cells #[.string it.key, .slice (some ⟨b2, o2, none⟩) it.val.length c2] 50)) ((wr.alloc (.cells #[.string it.key, .slice (some ⟨b2, o2, none⟩) it.val.length c2] 50)).alloc (.cells #[.int .i64 k, .int .i64 (nth it.val 1), .int .i64 0] 3)).drew from (belowOne _ _).drew)
                have hzi : (wr.alloc (.cells #[.string it.key, .slice (some ⟨b2, o2, none⟩) it.val.length c2] 50)).heap.size = wr.heap.size + 1 := by simp
                have HLit := Lib.hid (show Ints ((wr.alloc (.cells #[.string it.key, .slice (some ⟨b2, o2, none⟩) it.val.length c2] 50)).alloc (.cells #[.int .i64 k, .int .i64 (nth it.val 1), .int .i64 0] 3)).drew ((wr.alloc (.cells #[.string it.key, .slice (some ⟨b2, o2, none⟩) it.val.length c2] 50)).alloc (.cells #[.int .i64 k, .int .i64 (nth it.val 1), .int .i64 0] 3)).drew.heap.size (.slice (some ⟨wr.heap.size + 1, 0, none⟩) 3 3) [(k : Int), nth it.val 1, 0] from by have h := ints_row.1 (ints_lit (wr.alloc (.cells #[.string it.key, .slice (some ⟨b2, o2, none⟩) it.val.length c2] 50)) [(k : Int), nth it.val 1, 0] #[.int .i64 k, .int .i64 (nth it.val 1), .int .i64 0] rfl (by show 3 ≤ maxLen; decide)).row; rw [hzi] at h; exact h.keep fun _ _ _ => rfl)
                have HIx := Lib.hid (show Ints ((wr.alloc (.cells #[.string it.key, .slice (some ⟨b2, o2, none⟩) it.val.length c2] 50)).alloc (.cells #[.int .i64 k, .int .i64 (nth it.val 1), .int .i64 0] 3)).drew ((wr.alloc (.cells #[.string it.key, .slice (some ⟨b2, o2, none⟩) it.val.length c2] 50)).alloc (.cells #[.int .i64 k, .int .i64 (nth it.val 1), .int .i64 0] 3)).drew.heap.size (.slice Aw 3 cpw) [(k : Int), nth it.val 1, 0] from by have h := HIw.out; rw [HVw.out] at h; exact (h.below (belowNext HBI.out HW2.out)).more (belowNext HBI.out HW2.out).size)
                have HW0 := Lib.hid (show Below wp.heap.size wp ((wr.alloc (.cells #[.string it.key, .slice (some ⟨b2, o2, none⟩) it.val.length c2] 50)).alloc (.cells #[.int .i64 k, .int .i64 (nth it.val 1), .int .i64 0] 3)) from (HBq.out.trans (HBI.out.mono HBq.out.size)).alloc (HBq.out.trans (HBI.out.mono HBq.out.size)).size _)
                have j0 := HAll.out _ HW1.out
                have j1 := HAll.out _ HW2.out
                clear v0 v1 v2 ck cu hzi s0
                refine wp_region_held_drew (S := (fun w' => w'.cell? ⟨w9.heap.size, 2, none⟩ = some (.slice (some ⟨bw, ow, none⟩) fs.length cb) ∧ w'.cell? ⟨b2, o2 + 1, none⟩ = some (.int .i64 (nth it.val 1)) ∧ w'.cell? ⟨bw, ow + N * 3, none⟩ = some (.string it.key) ∧ w'.cell? ⟨bw, ow + N * 3 + 2, none⟩ = some (.slice Aw 3 cpw) ∧ w'.cell? ⟨wr.heap.size, 0, none⟩ = some (.string it.key) ∧ w'.cell? ⟨wr.heap.size, 1, none⟩ = some (.slice (some ⟨b2, o2, none⟩) it.val.length c2))) (by kernel_rfl) ?hSz (fun hHeldz => ?stz)
                case hSz => (first | (dsimp only; (first | with_reducible exact j2 | with_reducible exact j1 | with_reducible exact j0 | exact j0 | exact j1 | exact j2)) | (first | with_reducible exact j2 | with_reducible exact j1 | with_reducible exact j0 | exact j0 | exact j1 | exact j2))
                refine take_first 0 74 (v := ?vz_1) rfl rfl (by kernel_rfl) (by kernel_rfl) (by kernel_rfl) (fun _ _ _ h => h) (by rfl) ?yz_1 (by assumption) ?rz_1
                case yz_1 => (intro w hSw; (try dsimp only at hSw); go_simp; (try with_reducible rfl))
                simp only [Act.put, List.setIfInBounds_toArray, List.set_cons_zero, List.set_cons_succ]
                refine take_first 1 75 (v := ?vz_2) rfl rfl (by kernel_rfl) (by kernel_rfl) (by kernel_rfl) (fun _ _ _ h => h) (by rfl) ?yz_2 (by assumption) ?rz_2
                case yz_2 => (intro w hSw; (try dsimp only at hSw); go_simp; (try with_reducible rfl))
                simp only [Act.put, List.setIfInBounds_toArray, List.set_cons_zero, List.set_cons_succ]
                refine take_first 2 76 (v := ?vz_3) rfl rfl (by kernel_rfl) (by kernel_rfl) (by kernel_rfl) (fun _ _ _ h => h) (by rfl) ?yz_3 (by assumption) ?rz_3
                case yz_3 => (intro w hSw; (try dsimp only at hSw); go_simp; (try with_reducible rfl))
                simp only [Act.put, List.setIfInBounds_toArray, List.set_cons_zero, List.set_cons_succ]
                refine take_first 3 77 (v := ?vz_4) rfl rfl (by kernel_rfl) (by kernel_rfl) (by kernel_rfl) (fun _ _ _ h => h) (by rfl) ?yz_4 (by assumption) ?rz_4
                case yz_4 => (intro w hSw; (try dsimp only at hSw); go_simp; (try with_reducible rfl))
                simp only [Act.put, List.setIfInBounds_toArray, List.set_cons_zero, List.set_cons_succ]
                refine take_first 4 78 (v := ?vz_5) rfl rfl (by kernel_rfl) (by kernel_rfl) (by kernel_rfl) (fun _ _ _ h => h) (by rfl) ?yz_5 (by assumption) ?rz_5
                case yz_5 => (intro w hSw; (try dsimp only at hSw); go_simp; (try with_reducible rfl))
                simp only [Act.put, List.setIfInBounds_toArray, List.set_cons_zero, List.set_cons_succ]
                refine take_first 5 79 (v := ?vz_6) rfl rfl (by kernel_rfl) (by kernel_rfl) (by kernel_rfl) (fun _ _ _ h => h) (by rfl) ?yz_6 (by assumption) ?rz_6
                case yz_6 => (intro w hSw; (try dsimp only at hSw); go_simp; (try with_reducible rfl))
                simp only [Act.put, List.setIfInBounds_toArray, List.set_cons_zero, List.set_cons_succ]
                refine take_first 6 80 (v := ?vz_7) rfl rfl (by kernel_rfl) (by kernel_rfl) (by kernel_rfl) (fun _ _ _ h => h) (by rfl) ?yz_7 (by assumption) ?rz_7
                case yz_7 => (intro w hSw; (try dsimp only at hSw); go_simp; (try with_reducible rfl))
                simp only [Act.put, List.setIfInBounds_toArray, List.set_cons_zero, List.set_cons_succ]
                refine take_first 7 81 (v := ?vz_8) rfl rfl (by kernel_rfl) (by kernel_rfl) (by kernel_rfl) (fun _ _ _ h => h) (by rfl) ?yz_8 (by assumption) ?rz_8
                case yz_8 => (intro w hSw; (try dsimp only at hSw); go_simp; (try with_reducible rfl))
                simp only [Act.put, List.setIfInBounds_toArray, List.set_cons_zero, List.set_cons_succ]
                refine take_first 8 82 (v := ?vz_9) rfl rfl (by kernel_rfl) (by kernel_rfl) (by kernel_rfl) (fun _ _ _ h => h) (by rfl) ?yz_9 (by assumption) ?rz_9
                case yz_9 => (intro w hSw; (try dsimp only at hSw); go_simp; (try with_reducible rfl))
                simp only [Act.put, List.setIfInBounds_toArray, List.set_cons_zero, List.set_cons_succ]
                refine take_first 9 83 (v := ?vz_10) rfl rfl (by kernel_rfl) (by kernel_rfl) (by kernel_rfl) (fun _ _ _ h => h) (by rfl) ?yz_10 (by assumption) ?rz_10
                case yz_10 => (intro w hSw; (try dsimp only at hSw); go_simp; (try with_reducible rfl))
                simp only [Act.put, List.setIfInBounds_toArray, List.set_cons_zero, List.set_cons_succ]
                refine take_first 10 84 (v := ?vz_11) rfl rfl (by kernel_rfl) (by kernel_rfl) (by kernel_rfl) (fun _ _ _ h => h) (by rfl) ?yz_11 (by assumption) ?rz_11
                case yz_11 => (intro w hSw; (try dsimp only at hSw); go_simp; (try with_reducible rfl))
                simp only [Act.put, List.setIfInBounds_toArray, List.set_cons_zero, List.set_cons_succ]
                refine take_first 11 85 (v := ?vz_12) rfl rfl (by kernel_rfl) (by kernel_rfl) (by kernel_rfl) (fun _ _ _ h => h) (by rfl) ?yz_12 (by assumption) ?rz_12
                case yz_12 => (intro w hSw; (try dsimp only at hSw); go_simp; (try with_reducible rfl))
                simp only [Act.put, List.setIfInBounds_toArray, List.set_cons_zero, List.set_cons_succ]
                refine take_first 12 86 (v := ?vz_13) rfl rfl (by kernel_rfl) (by kernel_rfl) (by kernel_rfl) (fun _ _ _ h => h) (by rfl) ?yz_13 (by assumption) ?rz_13
                case yz_13 => (intro w hSw; (try dsimp only at hSw); go_simp; (try with_reducible rfl))
                simp only [Act.put, List.setIfInBounds_toArray, List.set_cons_zero, List.set_cons_succ]
                refine take_first 13 87 (v := ?vz_14) rfl rfl (by kernel_rfl) (by kernel_rfl) (by kernel_rfl) (fun _ _ _ h => h) (by rfl) ?yz_14 (by assumption) ?rz_14
                case yz_14 => (intro w hSw; (try dsimp only at hSw); go_simp; (try with_reducible rfl))
                simp only [Act.put, List.setIfInBounds_toArray, List.set_cons_zero, List.set_cons_succ]
                refine take_first 14 88 (v := ?vz_15) rfl rfl (by kernel_rfl) (by kernel_rfl) (by kernel_rfl) (fun _ _ _ h => h) (by rfl) ?yz_15 (by assumption) ?rz_15
                case yz_15 => (intro w hSw; (try dsimp only at hSw); go_simp; (try with_reducible rfl))
                simp only [Act.put, List.setIfInBounds_toArray, List.set_cons_zero, List.set_cons_succ]
                refine take_first 15 89 (v := ?vz_16) rfl rfl (by kernel_rfl) (by kernel_rfl) (by kernel_rfl) (fun _ _ _ h => h) (by rfl) ?yz_16 (by assumption) ?rz_16
                case yz_16 => (intro w hSw; (try dsimp only at hSw); go_simp; (try with_reducible rfl))
                simp only [Act.put, List.setIfInBounds_toArray, List.set_cons_zero, List.set_cons_succ]
                refine take_first 16 90 (v := ?vz_17) rfl rfl (by kernel_rfl) (by kernel_rfl) (by kernel_rfl) (fun _ _ _ h => h) (by rfl) ?yz_17 (by assumption) ?rz_17
                case yz_17 => (intro w hSw; (try dsimp only at hSw); go_simp; (try with_reducible rfl))
                simp only [Act.put, List.setIfInBounds_toArray, List.set_cons_zero, List.set_cons_succ]
                refine take_first 17 91 (v := ?vz_18) rfl rfl (by kernel_rfl) (by kernel_rfl) (by kernel_rfl) (fun _ _ _ h => h) (by rfl) ?yz_18 (by assumption) ?rz_18
                case yz_18 => (intro w hSw; (try dsimp only at hSw); go_simp; (try with_reducible rfl))
                simp only [Act.put, List.setIfInBounds_toArray, List.set_cons_zero, List.set_cons_succ]
                refine take_first 18 92 (v := ?vz_19) rfl rfl (by kernel_rfl) (by kernel_rfl) (by kernel_rfl) (fun _ _ _ h => h) (by rfl) ?yz_19 (by assumption) ?rz_19
                case yz_19 => (intro w hSw; (try dsimp only at hSw); go_simp; (try with_reducible rfl))
                simp only [Act.put, List.setIfInBounds_toArray, List.set_cons_zero, List.set_cons_succ]
                refine take_first 19 93 (v := ?vz_20) rfl rfl (by kernel_rfl) (by kernel_rfl) (by kernel_rfl) (fun _ _ _ h => h) (by rfl) ?yz_20 (by assumption) ?rz_20
                case yz_20 => (intro w hSw; (try dsimp only at hSw); go_simp; (try with_reducible rfl))
                simp only [Act.put, List.setIfInBounds_toArray, List.set_cons_zero, List.set_cons_succ]
                refine take_first 20 94 (v := ?vz_21) rfl rfl (by kernel_rfl) (by kernel_rfl) (by kernel_rfl) (fun _ _ _ h => h) (by rfl) ?yz_21 (by assumption) ?rz_21
                case yz_21 => (intro w hSw; (try dsimp only at hSw); go_simp; (try with_reducible rfl))
                simp only [Act.put, List.setIfInBounds_toArray, List.set_cons_zero, List.set_cons_succ]
                refine take_first 21 95 (v := ?vz_22) rfl rfl (by kernel_rfl) (by kernel_rfl) (by kernel_rfl) (fun _ _ _ h => h) (by rfl) ?yz_22 (by assumption) ?rz_22
                case yz_22 => (intro w hSw; (try dsimp only at hSw); go_simp; (try with_reducible rfl))
                simp only [Act.put, List.setIfInBounds_toArray, List.set_cons_zero, List.set_cons_succ]
                refine take_first 22 96 (v := ?vz_23) rfl rfl (by kernel_rfl) (by kernel_rfl) (by kernel_rfl) (fun _ _ _ h => h) (by rfl) ?yz_23 (by assumption) ?rz_23
                case yz_23 => (intro w hSw; (try dsimp only at hSw); go_simp; (try with_reducible rfl))
                simp only [Act.put, List.setIfInBounds_toArray, List.set_cons_zero, List.set_cons_succ]
                refine take_first 23 97 (v := ?vz_24) rfl rfl (by kernel_rfl) (by kernel_rfl) (by kernel_rfl) (fun _ _ _ h => h) (by rfl) ?yz_24 (by assumption) ?rz_24
                case yz_24 => (intro w hSw; (try dsimp only at hSw); go_simp; (try with_reducible rfl))
                simp only [Act.put, List.setIfInBounds_toArray, List.set_cons_zero, List.set_cons_succ]
                refine take_first 24 98 (v := ?vz_25) rfl rfl (by kernel_rfl) (by kernel_rfl) (by kernel_rfl) (fun _ _ _ h => h) (by rfl) ?yz_25 (by assumption) ?rz_25
                case yz_25 => (intro w hSw; (try dsimp only at hSw); go_simp; (try with_reducible rfl))
                simp only [Act.put, List.setIfInBounds_toArray, List.set_cons_zero, List.set_cons_succ]
                refine take_first 25 99 (v := ?vz_26) rfl rfl (by kernel_rfl) (by kernel_rfl) (by kernel_rfl) (fun _ _ _ h => h) (by rfl) ?yz_26 (by assumption) ?rz_26
                case yz_26 => (intro w hSw; (try dsimp only at hSw); go_simp; (try with_reducible rfl))
                simp only [Act.put, List.setIfInBounds_toArray, List.set_cons_zero, List.set_cons_succ]
                refine take_first 26 100 (v := ?vz_27) rfl rfl (by kernel_rfl) (by kernel_rfl) (by kernel_rfl) (fun _ _ _ h => h) (by rfl) ?yz_27 (by assumption) ?rz_27
                case yz_27 => (intro w hSw; (try dsimp only at hSw); go_simp; (try with_reducible rfl))
                simp only [Act.put, List.setIfInBounds_toArray, List.set_cons_zero, List.set_cons_succ]
                refine take_first 27 101 (v := ?vz_28) rfl rfl (by kernel_rfl) (by kernel_rfl) (by kernel_rfl) (fun _ _ _ h => h) (by rfl) ?yz_28 (by assumption) ?rz_28
                case yz_28 => (intro w hSw; (try dsimp only at hSw); go_simp; (try with_reducible rfl))
                simp only [Act.put, List.setIfInBounds_toArray, List.set_cons_zero, List.set_cons_succ]
                refine wpAnyH_ready (rs := [28]) (by kernel_rfl) (by simp) ?_
                refine AllReadyH.cons (o := _) rfl (fun Kz_29 hKz_29 => ?cz_29) ?mz_29
                case mz_29 => exact AllReadyH.nil
                go_simp
                skip
                go_wp2_with fail
                refine hKz_29.out _ _ ?kz_29 (fun hHeldz_29 => ?dz_29)
                case kz_29 => (first | (dsimp only; (first | with_reducible exact j2 | with_reducible exact j1 | with_reducible exact j0 | exact j0 | exact j1 | exact j2)) | (first | with_reducible exact j2 | with_reducible exact j1 | with_reducible exact j0 | exact j0 | exact j1 | exact j2))
                clear hKz_29 Kz_29
                refine wpAnyH_ready (rs := [29]) (by kernel_rfl) (by simp) ?_
                refine AllReadyH.cons (o := _) rfl (fun Kz_30 hKz_30 => ?cz_30) ?mz_30
                case mz_30 => exact AllReadyH.nil
                go_simp
                (with_reducible refine (jaInts_any _ _ _ _ _ _ HIx.out HLit.out).mono ?_); rintro e wz ⟨rfl, nq, rfl⟩; rw [show decide ([(k : Int), nth it.val 1, 0] = [(k : Int), nth it.val 1, 0]) = true from decide_eq_true rfl]; have j2 := HAll.out _ (belowDraws HW2.out nq); have HW4 := Lib.hid (belowDraws HW0.out (1 + nq))
                go_wp2_with fail
                refine hKz_30.out _ _ ?kz_30 (fun hHeldz_30 => ?dz_30)
                case kz_30 => (first | (dsimp only; (first | with_reducible exact j2 | with_reducible exact j1 | with_reducible exact j0 | exact j0 | exact j1 | exact j2)) | (first | with_reducible exact j2 | with_reducible exact j1 | with_reducible exact j0 | exact j0 | exact j1 | exact j2))
                clear hKz_30 Kz_30
                refine take_first 30 104 (v := ?vz_31) rfl rfl (by kernel_rfl) (by kernel_rfl) (by kernel_rfl) (fun _ _ _ h => h) (by rfl) ?yz_31 (by assumption) ?rz_31
                case yz_31 => (intro w hSw; (try dsimp only at hSw); go_simp; (try with_reducible rfl))
                simp only [Act.put, List.setIfInBounds_toArray, List.set_cons_zero, List.set_cons_succ]
                refine take_first 31 105 (v := ?vz_32) rfl rfl (by kernel_rfl) (by kernel_rfl) (by kernel_rfl) (fun _ _ _ h => h) (by rfl) ?yz_32 (by assumption) ?rz_32
                case yz_32 => (intro w hSw; (try dsimp only at hSw); go_simp; (try with_reducible rfl))
                simp only [Act.put, List.setIfInBounds_toArray, List.set_cons_zero, List.set_cons_succ]
                refine wpAnyH_done (by kernel_rfl) ?ez _
                clear j0 j1 j2
                go_wp2
                go_roundw
                case rel => exact ⟨q + 1, by omega, by go_num, by rw [HE.out]; go_num, HW4.out⟩
                case measure => simp [intOf]; omega
            · have g1 : (ch != 102) = true := by simpa using h102
              have HE := Lib.hid (HNo.out (by have h := HFb.out; rw [h]; simp [h102]))
              clear h102 hwrs hbox
              go_wp2
              go_roundw
              case rel => exact ⟨q + 1, by omega, by go_num, by rw [HE.out], HBq.out.trans (HBI.out.mono HBq.out.size)⟩
              case measure => simp [intOf]; omega
          · have hqi : ¬ (q : Int) < (b.length : Int) := by omega
            have hqe : q = b.length := by omega
            have hall : ((b.take q).filter (famB (k : Int))).length = fs.length := by rw [hqe, List.take_length, HFS.out]
            have x0 := hbox.of 0 _ rfl
            have x1 := hbox.of 1 _ rfl
            have x2 := hbox.of 2 _ rfl
            have HBe := Lib.hid (HFp.out _ HBq.out).2.2.2.2
            rw [hall]
            have t1 : ((fs.length : Int) != (fs.length : Int)) = false := by simp
            have t2 : ((((fs.length + 1 : Nat) : Int)) != ((fs.length : Int) + 1)) = false := by simp
            clear hall hits hwrs
            go_wp2
            go_roundw
            case rel => exact ⟨k + 1, by omega, by go_num, HBe.out⟩
            case measure => simp [intOf]; omega
      · have k9 : ¬ (k : Int) ≤ 9 := by omega
        go_wp2_with fail
        refine (jaOk_any _).mono ?_
        rintro e w5 ⟨rfl, hb⟩
        have HBe := Lib.hid (belowNext (HFc.out _ HBr.out).2.2 hb)
        clear hb
        go_wp2
        go_ret
        exact ⟨rfl, HBe.out⟩

end Go.Proofs.Yteccebjnopladaa
