/- The walk of FnPlanLet. By letgen.py. -/
import Derived.Test.YteccebjnopladaaXDrawGloDo
import Derived.Test.YteccebjnopladaaXOutMay2
import Derived.Test.YteccebjnopladaaXPlanLaw
namespace Go.Proofs.Yteccebjnopladaa
open Go.RowKit

theorem glo_abc {xs : List Sto} (h : gloB xs = true) : ∃ a b c : List Item, xs = [⟨a⟩, ⟨b⟩, ⟨c⟩] := by
  match xs, gloB_three h with
  | [⟨a⟩, ⟨b⟩, ⟨c⟩], _ => exact ⟨a, b, c, rfl⟩
theorem digs_is {i : Nat} (h : i < 10) : ([.string ⟨#[48]⟩, .string ⟨#[49]⟩, .string ⟨#[50]⟩, .string ⟨#[51]⟩, .string ⟨#[52]⟩, .string ⟨#[53]⟩, .string ⟨#[54]⟩, .string ⟨#[55]⟩, .string ⟨#[56]⟩, .string ⟨#[57]⟩] : List Value)[i]? = some (.string (digS (i : Int))) := by
  have : i = 0 ∨ i = 1 ∨ i = 2 ∨ i = 3 ∨ i = 4 ∨ i = 5 ∨ i = 6 ∨ i = 7 ∨ i = 8 ∨ i = 9 := by omega
  rcases this with rfl | rfl | rfl | rfl | rfl | rfl | rfl | rfl | rfl | rfl <;> rfl
/-- What is planned of who lets something be done, where it is in. -/
theorem let_plan {a : List Item} {who inn : Int} (hp : plcB 1 a = true) (h0 : 0 ≤ who) (h9 : who ≤ 9) (i0 : 0 ≤ inn) (i9 : inn ≤ 9) : plcP a 1 0 ⟨2, who, inn, 0, 0, 0, 0⟩ = ⟨lookOk a (keyN 115 inn) && (nth (lookV a (keyN 115 inn)) 0 == who), [keyN 115 inn], []⟩ := by
  have ho : opB ⟨2, who, inn, 0, 0, 0, 0⟩ = true := by
    have h1 : inB who 0 9 = true := inB_yes h0 h9
    have h2 : inB inn 0 9 = true := inB_yes i0 i9
    simp [opB, opK, h1, h2]; decide
  have ht : inB 0 0 29 = true := by decide
  unfold plcP
  rw [ho, hp, ht]
  rfl
theorem in_len {a : List Item} {n : Int} (hp : plcB 1 a = true) (h : lookOk a (keyN 115 n) = true) : (lookV a (keyN 115 n)).length = 1 := by
  have h1 := look_form (plc_parts hp).2 h
  rw [itP1, decide_eq_true_iff] at h1
  exact h1.2.2.2

set_option maxRecDepth 100000 in
set_option maxHeartbeats 20000000 in
theorem lawPlanLet_any (w : World) (v : Value) (n : Nat) (hv : Code8 w v n) :
    Calls Try.prog 5 #[v] w fun e w' => e = .returned (.bool true) ∧ Below w.heap.size w w' := by
  have HV := Lib.hid hv
  obtain ⟨A, c, f, rfl, h1, h2, -, -⟩ := hv
  unfold maxLen at h2
  by_cases hn : 1048576 < n
  · have hn' : (1048576 : Int) < (n : Int) := by omega
    go_enter Try.func5, Try.ntmps5
    go_wp2
    go_ret
    exact ⟨rfl, Below.refl _ _⟩
  have hn' : (n : Int) ≤ 1048576 := by omega
  clear hn
  go_enter Try.func5, Try.ntmps5
  go_wp2_with fail
  refine (drawGloDo_any _ _ n HV.out).mono ?_
  rintro e w1 ⟨u, xs, tx, o, rfl, hxl, hxi, t0, t1, hrow, hb1⟩
  obtain ⟨Al, cl, hlf, -, -⟩ := hrow.form
  rw [hxl] at hlf
  subst hlf
  have HB := Lib.hid (belowNext hb1 (belowOne w1 (.cells #[.int .i64 o.kind, .int .i64 o.who, .int .i64 o.inn, .int .i64 o.code, .int .i64 o.sec, .int .i64 o.fam, .int .i64 o.gen] 36)))
  have HR := Lib.hid ((hrow.below (belowOne w1 (.cells #[.int .i64 o.kind, .int .i64 o.who, .int .i64 o.inn, .int .i64 o.code, .int .i64 o.sec, .int .i64 o.fam, .int .i64 o.gen] 36))).more (belowOne w1 (.cells #[.int .i64 o.kind, .int .i64 o.who, .int .i64 o.inn, .int .i64 o.code, .int .i64 o.sec, .int .i64 o.fam, .int .i64 o.gen] 36)).size)
  have HXI := Lib.hid hxi
  clear hrow hb1 HV hxi
  unfold opV
  go_wp2_with fail
  refine (specGloOk_any _ _ _ HR.out).mono ?_
  rintro e w2 ⟨rfl, hb⟩
  replace HB := Lib.hid (belowNext HB.out hb)
  replace HR := Lib.hid ((HR.out.below hb).more hb.size)
  clear hb
  cases hg : gloB xs with
  | false =>
    have HG := Lib.hid hg
    clear hg
    go_wp2_with fail
    refine (implGloOk_any _ _ _ HR.out).mono ?_
    rintro e w3 ⟨rfl, hb⟩
    replace HB := Lib.hid (belowNext HB.out hb)
    replace HR := Lib.hid ((HR.out.below hb).more hb.size)
    clear hb
    rw [HG.out]
    go_wp2_with fail
    refine (specGloOk_any _ _ _ HR.out).mono ?_
    rintro e w4 ⟨rfl, hb⟩
    replace HB := Lib.hid (belowNext HB.out hb)
    clear hb
    rw [HG.out]
    go_wp2_with fail
    refine (jaOk_any _).mono ?_
    rintro e w5 ⟨rfl, hb⟩
    replace HB := Lib.hid (belowNext HB.out hb)
    clear hb
    go_wp2
    go_ret
    exact ⟨rfl, HB.out⟩
  | true =>
    obtain ⟨a, b, c, rfl⟩ := glo_abc hg
    have HG := Lib.hid hg
    clear hg hxl
    have HBd := Lib.hid (belowOne w2 (.cells #[.string ⟨#[48]⟩, .string ⟨#[49]⟩, .string ⟨#[50]⟩, .string ⟨#[51]⟩, .string ⟨#[52]⟩, .string ⟨#[53]⟩, .string ⟨#[54]⟩, .string ⟨#[55]⟩, .string ⟨#[56]⟩, .string ⟨#[57]⟩] 9))
    have HDg := Lib.hid (Held.new w2 #[.string ⟨#[48]⟩, .string ⟨#[49]⟩, .string ⟨#[50]⟩, .string ⟨#[51]⟩, .string ⟨#[52]⟩, .string ⟨#[53]⟩, .string ⟨#[54]⟩, .string ⟨#[55]⟩, .string ⟨#[56]⟩, .string ⟨#[57]⟩] 9)
    obtain ⟨bl, ol, dl, x1, p1, e1, hx1, hB1, r1, hi1⟩ := stos_at HR.out (k := 0) (by simp)
    have hx1' : (⟨a⟩ : Sto) = x1 := Option.some.inj hx1
    subst hx1'
    injection e1 with e1a e1b e1c
    subst e1a
    obtain ⟨Ai, ci, hfi, -, -⟩ := hi1.form
    subst hfi
    have hi1' : Items w2 w2.heap.size (.slice Ai a.length ci) a := items_row.1 hi1
    have HFc := Lib.hid (fun (X : World) (hX : Below (w2.alloc (.cells #[.string ⟨#[48]⟩, .string ⟨#[49]⟩, .string ⟨#[50]⟩, .string ⟨#[51]⟩, .string ⟨#[52]⟩, .string ⟨#[53]⟩, .string ⟨#[54]⟩, .string ⟨#[55]⟩, .string ⟨#[56]⟩, .string ⟨#[57]⟩] 9)).heap.size (w2.alloc (.cells #[.string ⟨#[48]⟩, .string ⟨#[49]⟩, .string ⟨#[50]⟩, .string ⟨#[51]⟩, .string ⟨#[52]⟩, .string ⟨#[53]⟩, .string ⟨#[54]⟩, .string ⟨#[55]⟩, .string ⟨#[56]⟩, .string ⟨#[57]⟩] 9)) X) => show (X.cell? ⟨bl, ol, none⟩ = some (.slice Ai a.length ci) ∧ Held X w2.heap.size _) ∧ Items X X.heap.size (.slice Ai a.length ci) a ∧ Below w.heap.size w X from
      ⟨⟨((belowNext HBd.out hX).cell (p := ⟨bl, ol, none⟩) hB1).trans r1, HDg.out.below hX HDg.out.1⟩, (hi1'.below (belowNext HBd.out hX)).more (belowNext HBd.out hX).size, belowNext HB.out (belowNext HBd.out hX)⟩)
    clear hx1 e1b e1c hi1 hi1' r1 HR HXI HB
    have HSB := Lib.hid (gloB_parts HG.out).1
    have HB0 := Lib.hid (show Below (w2.alloc (.cells #[.string ⟨#[48]⟩, .string ⟨#[49]⟩, .string ⟨#[50]⟩, .string ⟨#[51]⟩, .string ⟨#[52]⟩, .string ⟨#[53]⟩, .string ⟨#[54]⟩, .string ⟨#[55]⟩, .string ⟨#[56]⟩, .string ⟨#[57]⟩] 9)).heap.size (w2.alloc (.cells #[.string ⟨#[48]⟩, .string ⟨#[49]⟩, .string ⟨#[50]⟩, .string ⟨#[51]⟩, .string ⟨#[52]⟩, .string ⟨#[53]⟩, .string ⟨#[54]⟩, .string ⟨#[55]⟩, .string ⟨#[56]⟩, .string ⟨#[57]⟩] 9)) (w2.alloc (.cells #[.string ⟨#[48]⟩, .string ⟨#[49]⟩, .string ⟨#[50]⟩, .string ⟨#[51]⟩, .string ⟨#[52]⟩, .string ⟨#[53]⟩, .string ⟨#[54]⟩, .string ⟨#[55]⟩, .string ⟨#[56]⟩, .string ⟨#[57]⟩] 9)) from Below.refl _ _)
    have hbl : bl < (w2.alloc (.cells #[.string ⟨#[48]⟩, .string ⟨#[49]⟩, .string ⟨#[50]⟩, .string ⟨#[51]⟩, .string ⟨#[52]⟩, .string ⟨#[53]⟩, .string ⟨#[54]⟩, .string ⟨#[55]⟩, .string ⟨#[56]⟩, .string ⟨#[57]⟩] 9)).heap.size := Nat.lt_of_lt_of_le hB1 HBd.out.size
    have hdl : w2.heap.size < (w2.alloc (.cells #[.string ⟨#[48]⟩, .string ⟨#[49]⟩, .string ⟨#[50]⟩, .string ⟨#[51]⟩, .string ⟨#[52]⟩, .string ⟨#[53]⟩, .string ⟨#[54]⟩, .string ⟨#[55]⟩, .string ⟨#[56]⟩, .string ⟨#[57]⟩] 9)).heap.size := HDg.out.1
    clear hB1 HBd HDg HG
    go_wp2
    generalize (w2.alloc (.cells #[.string ⟨#[48]⟩, .string ⟨#[49]⟩, .string ⟨#[50]⟩, .string ⟨#[51]⟩, .string ⟨#[52]⟩, .string ⟨#[53]⟩, .string ⟨#[54]⟩, .string ⟨#[55]⟩, .string ⟨#[56]⟩, .string ⟨#[57]⟩] 9)) = w3 at *
    go_loopw [7] (fun i wr => ∃ k : Nat, k ≤ 10 ∧ i = .int .i64 k ∧ Below w3.heap.size w3 wr) (fun i _ => 10 - (intOf i).toNat)
    case atStart => exact ⟨0, by omega, rfl, HB0.out⟩
    case round =>
      clear HB0
      obtain ⟨k, hk, rfl, hb⟩ := hrel
      have HBr := Lib.hid hb
      clear hb
      by_cases hlt : k < 10
      · have k9 : (k : Int) ≤ 9 := by omega
        have k10 : (k : Int) < 10 := by omega
        have k00 : (0 : Int) ≤ (k : Int) := by omega
        obtain ⟨⟨r1, hd⟩, -, -⟩ := HFc.out _ HBr.out
        have r2 := hd.of k _ (digs_is hlt)
        have k0 := And.intro r1 r2
        have hds : (digS (k : Int)).size = 1 := digS_size _
        have HKE := Lib.hid (show (⟨#[115]⟩ : ByteArray) ++ digS (k : Int) = keyN 115 (k : Int) from (keyN_digit 115 (by omega)).symm)
        have HBs := Lib.hid (show Below w3.heap.size w3 wr.drew from HBr.out.drew)
        clear hd r1 r2
        go_wp2
        refine wp_region_held_drew (S := (fun w' => w'.cell? ⟨bl, ol, none⟩ = some (.slice Ai a.length ci) ∧ w'.cell? ⟨w2.heap.size, k, none⟩ = some (.string (digS (k : Int))))) (by kernel_rfl) ?hSp (fun hHeldp => ?stp)
        case hSp => (first | (dsimp only; (first | with_reducible exact k2 | with_reducible exact k0 | exact k0)) | (first | with_reducible exact k2 | with_reducible exact k0 | exact k0))
        refine take_first 0 38 (v := ?vp_1) rfl rfl (by kernel_rfl) (by kernel_rfl) (by kernel_rfl) (fun _ _ _ h => h) (by rfl) ?yp_1 (by assumption) ?rp_1
        case yp_1 => (intro w hSw; (try dsimp only at hSw); go_simp; (try with_reducible rfl))
        simp only [Act.put, List.setIfInBounds_toArray, List.set_cons_zero, List.set_cons_succ]
        refine take_first 1 39 (v := ?vp_2) rfl rfl (by kernel_rfl) (by kernel_rfl) (by kernel_rfl) (fun _ _ _ h => h) (by rfl) ?yp_2 (by assumption) ?rp_2
        case yp_2 => (intro w hSw; (try dsimp only at hSw); go_simp; (try with_reducible rfl))
        simp only [Act.put, List.setIfInBounds_toArray, List.set_cons_zero, List.set_cons_succ]
        refine take_first 2 40 (v := ?vp_3) rfl rfl (by kernel_rfl) (by kernel_rfl) (by kernel_rfl) (fun _ _ _ h => h) (by rfl) ?yp_3 (by assumption) ?rp_3
        case yp_3 => (intro w hSw; (try dsimp only at hSw); go_simp; (try with_reducible rfl))
        simp only [Act.put, List.setIfInBounds_toArray, List.set_cons_zero, List.set_cons_succ]
        refine take_first 3 41 (v := ?vp_4) rfl rfl (by kernel_rfl) (by kernel_rfl) (by kernel_rfl) (fun _ _ _ h => h) (by rfl) ?yp_4 (by assumption) ?rp_4
        case yp_4 => (intro w hSw; (try dsimp only at hSw); go_simp; (try with_reducible rfl))
        simp only [Act.put, List.setIfInBounds_toArray, List.set_cons_zero, List.set_cons_succ]
        refine take_first 4 42 (v := ?vp_5) rfl rfl (by kernel_rfl) (by kernel_rfl) (by kernel_rfl) (fun _ _ _ h => h) (by rfl) ?yp_5 (by assumption) ?rp_5
        case yp_5 => (intro w hSw; (try dsimp only at hSw); go_simp; (try with_reducible rfl))
        simp only [Act.put, List.setIfInBounds_toArray, List.set_cons_zero, List.set_cons_succ]
        refine take_first 5 43 (v := ?vp_6) rfl rfl (by kernel_rfl) (by kernel_rfl) (by kernel_rfl) (fun _ _ _ h => h) (by rfl) ?yp_6 (by assumption) ?rp_6
        case yp_6 => (intro w hSw; (try dsimp only at hSw); go_simp; (try with_reducible rfl))
        simp only [Act.put, List.setIfInBounds_toArray, List.set_cons_zero, List.set_cons_succ]
        refine take_first 6 44 (v := ?vp_7) rfl rfl (by kernel_rfl) (by kernel_rfl) (by kernel_rfl) (fun _ _ _ h => h) (by rfl) ?yp_7 (by assumption) ?rp_7
        case yp_7 => (intro w hSw; (try dsimp only at hSw); go_simp; (try with_reducible rfl))
        simp only [Act.put, List.setIfInBounds_toArray, List.set_cons_zero, List.set_cons_succ]
        refine wpAnyH_ready (rs := [7]) (by kernel_rfl) (by simp) ?_
        refine AllReadyH.cons (o := _) rfl (fun Kp_8 hKp_8 => ?cp_8) ?mp_8
        case mp_8 => exact AllReadyH.nil
        go_simp
        skip
        go_wp2_with fail
        refine hKp_8.out _ _ ?kp_8 (fun hHeldp_8 => ?dp_8)
        case kp_8 => (first | (dsimp only; (first | with_reducible exact k2 | with_reducible exact k0 | exact k0)) | (first | with_reducible exact k2 | with_reducible exact k0 | exact k0))
        clear hKp_8 Kp_8
        refine wpAnyH_ready (rs := [8]) (by kernel_rfl) (by simp) ?_
        refine AllReadyH.cons (o := _) rfl (fun Kp_9 hKp_9 => ?cp_9) ?mp_9
        case mp_9 => exact AllReadyH.nil
        go_simp
        (with_reducible refine (implStoGet_any _ _ a _ (HFc.out _ HBs.out).2.1).mono ?_); rintro e w7 ⟨u7, rfl, ho7, hb7⟩; rw [HKE.out, getOk_yes (plc_parts HSB.out).1]; rw [HKE.out, getV_yes (plc_parts HSB.out).1] at ho7; have HB7 := Lib.hid (HBs.out.trans (hb7.mono HBs.out.size)); have HO7 := Lib.hid ho7; have k2 : w7.cell? ⟨bl, ol, none⟩ = some (.slice Ai a.length ci) ∧ w7.cell? ⟨w2.heap.size, k, none⟩ = some (.string (digS (k : Int))) := And.intro (HFc.out _ HB7.out).1.1 ((HFc.out _ HB7.out).1.2.of k _ (digs_is hlt)); clear ho7 hb7
        go_wp2_with fail
        refine hKp_9.out _ _ ?kp_9 (fun hHeldp_9 => ?dp_9)
        case kp_9 => (first | (dsimp only; (first | with_reducible exact k2 | with_reducible exact k0 | exact k0)) | (first | with_reducible exact k2 | with_reducible exact k0 | exact k0))
        clear hKp_9 Kp_9
        refine take_first 9 37 (v := ?vp_10) rfl rfl (by kernel_rfl) (by kernel_rfl) (by kernel_rfl) (fun _ _ _ h => h) (by rfl) ?yp_10 (by assumption) ?rp_10
        case yp_10 => (intro w hSw; (try dsimp only at hSw); go_simp; (try with_reducible rfl))
        simp only [Act.put, List.setIfInBounds_toArray, List.set_cons_zero, List.set_cons_succ]
        refine take_first 10 47 (v := ?vp_11) rfl rfl (by kernel_rfl) (by kernel_rfl) (by kernel_rfl) (fun _ _ _ h => h) (by rfl) ?yp_11 (by assumption) ?rp_11
        case yp_11 => (intro w hSw; (try dsimp only at hSw); go_simp; (try with_reducible rfl))
        simp only [Act.put, List.setIfInBounds_toArray, List.set_cons_zero, List.set_cons_succ]
        refine take_first 11 48 (v := ?vp_12) rfl rfl (by kernel_rfl) (by kernel_rfl) (by kernel_rfl) (fun _ _ _ h => h) (by rfl) ?yp_12 (by assumption) ?rp_12
        case yp_12 => (intro w hSw; (try dsimp only at hSw); go_simp; (try with_reducible rfl))
        simp only [Act.put, List.setIfInBounds_toArray, List.set_cons_zero, List.set_cons_succ]
        refine take_first 12 8 (v := ?vp_13) rfl rfl (by kernel_rfl) (by kernel_rfl) (by kernel_rfl) (fun _ _ _ h => h) (by rfl) ?yp_13 (by assumption) ?rp_13
        case yp_13 => (intro w hSw; (try dsimp only at hSw); go_simp; (try with_reducible rfl))
        simp only [Act.put, List.setIfInBounds_toArray, List.set_cons_zero, List.set_cons_succ]
        refine take_first 13 9 (v := ?vp_14) rfl rfl (by kernel_rfl) (by kernel_rfl) (by kernel_rfl) (fun _ _ _ h => h) (by rfl) ?yp_14 (by assumption) ?rp_14
        case yp_14 => (intro w hSw; (try dsimp only at hSw); go_simp; (try with_reducible rfl))
        simp only [Act.put, List.setIfInBounds_toArray, List.set_cons_zero, List.set_cons_succ]
        refine wpAnyH_done (by kernel_rfl) ?ep _
        clear k0 k2 hds HBs
        obtain ⟨A7, c7, hf7, l7, d7, row7⟩ := HO7.out.ints
        subst hf7
        have HR7 := Lib.hid row7
        have HZ7 := Lib.hid (show w3.heap.size ≤ w7.heap.size from HB7.out.size)
        clear row7 HO7
        have HKP0 := Lib.hid (show lookOk a (keyN 115 (k : Int)) = true → (lookV a (keyN 115 (k : Int))).length = 1 from in_len HSB.out)
        cases hkp : lookOk a (keyN 115 (k : Int)) with
        | false =>
          have HKP := Lib.hid hkp
          clear hkp HKP0
          go_wp2
          go_loopw [10] (fun i wr => ∃ j : Nat, j ≤ 4 ∧ i = .int .i64 j ∧ Below w7.heap.size w7 wr) (fun i _ => 4 - (intOf i).toNat)
          case atStart => exact ⟨0, by omega, rfl, Below.refl _ _⟩
          case round =>
            obtain ⟨j, hj, rfl, hb⟩ := hrel
            have HBj := Lib.hid hb
            clear hb
            by_cases hjt : j < 4
            · have j4 : (j : Int) < 4 := by omega
              have hpl := let_plan (who := (j : Int)) (inn := (k : Int)) HSB.out (by omega) (by omega) k00 k9
              rw [HKP.out, Bool.false_and] at hpl
              have HPl := Lib.hid hpl
              clear hpl
              have HB8 := Lib.hid (show Below w3.heap.size w3 wr from HB7.out.trans (HBj.out.mono HZ7.out))
              obtain ⟨⟨r1, -⟩, -, -⟩ := HFc.out _ HB8.out
              go_wp2_with fail
              clear r1
              refine (implPlcPlan_any _ 1 _ a (HFc.out _ HB8.out).2.1 0 ⟨2, (j : Int), (k : Int), 0, 0, 0, 0⟩).mono ?_
              rintro e w9 ⟨ua, ub, rfl, ho9, hb9⟩
              rw [HPl.out] at ho9 ⊢
              obtain ⟨ua', ub', S1, S2, hcs, hl9, hw9, -, -, -⟩ := plan_own.1 ho9
              obtain ⟨rfl, rfl⟩ : ua = ua' ∧ ub = ub' := by simpa using hcs
              have HL9 := Lib.hid hl9.row
              obtain ⟨Aa, ca, hfa, -, -⟩ := hl9.row.form
              obtain ⟨Ab, cb, hfb, -, -⟩ := hw9.row.form
              have hfa' : ua = .slice Aa 1 ca := hfa
              have hfb' : ub = .slice Ab 0 cb := hfb
              subst hfa' hfb'
              clear hfa hfb ho9 hcs hl9 hw9
              have HBx := Lib.hid (belowOne w9 (.cells #[.bool false, .slice Aa 1 ca, .slice Ab 0 cb] 46))
              have HX := Lib.hid (Held.new w9 #[.bool false, .slice Aa 1 ca, .slice Ab 0 cb] 46)
              have HBj9 := Lib.hid (show Below w7.heap.size w7 w9 from HBj.out.trans (hb9.mono HBj.out.size))
              have HBj10 := Lib.hid (HBj9.out.alloc HBj9.out.size (.cells #[.bool false, .slice Aa 1 ca, .slice Ab 0 cb] 46))
              clear hb9 HPl HB8
              have HLx := Lib.hid ((HL9.out.below HBx.out).more HBx.out.size)
              clear HL9
              have HKx := Lib.hid (fun (X : World) (hX : Below w7.heap.size w7 X) => show X.cell? ⟨w2.heap.size, k, none⟩ = some (.string (digS (k : Int))) from (HFc.out _ (HB7.out.trans (hX.mono HZ7.out))).1.2.of k _ (digs_is hlt))
              have x0 := HX.out.of 0 _ rfl
              have x1 := HX.out.of 1 _ rfl
              have x2 := HX.out.of 2 _ rfl
              have hss : ((⟨#[115]⟩ : ByteArray) ++ digS (k : Int)).size ≤ maxLen := by rw [append_size, digS_size]; decide
              have HSS := Lib.hid hss
              have hds : (digS (k : Int)).size = 1 := digS_size _
              have hzx : w9.heap.size < (w9.alloc (.cells #[.bool false, .slice Aa 1 ca, .slice Ab 0 cb] 46)).heap.size := HX.out.1
              clear hss
              go_wp2
              have HAll := Lib.hid (fun (X : World) (hX : Below (w9.alloc (.cells #[.bool false, .slice Aa 1 ca, .slice Ab 0 cb] 46)).heap.size (w9.alloc (.cells #[.bool false, .slice Aa 1 ca, .slice Ab 0 cb] 46)) X) => show X.cell? ⟨w9.heap.size, 0, none⟩ = some (.bool false) ∧ X.cell? ⟨w9.heap.size, 1, none⟩ = some (.slice Aa 1 ca) ∧ X.cell? ⟨w9.heap.size, 2, none⟩ = some (.slice Ab 0 cb) ∧ X.cell? ⟨w2.heap.size, k, none⟩ = some (.string (digS (k : Int))) from ⟨(HX.out.below hX HX.out.1).of 0 _ rfl, (HX.out.below hX HX.out.1).of 1 _ rfl, (HX.out.below hX HX.out.1).of 2 _ rfl, HKx.out _ (HBj10.out.trans (hX.mono HBj10.out.size))⟩)
              have HW1 := Lib.hid (show Below (w9.alloc (.cells #[.bool false, .slice Aa 1 ca, .slice Ab 0 cb] 46)).heap.size (w9.alloc (.cells #[.bool false, .slice Aa 1 ca, .slice Ab 0 cb] 46)) (w9.alloc (.cells #[.bool false, .slice Aa 1 ca, .slice Ab 0 cb] 46)).drew from (Below.refl _ _).drew)
              have HW2 := Lib.hid (show Below (w9.alloc (.cells #[.bool false, .slice Aa 1 ca, .slice Ab 0 cb] 46)).heap.size (w9.alloc (.cells #[.bool false, .slice Aa 1 ca, .slice Ab 0 cb] 46)) ((w9.alloc (.cells #[.bool false, .slice Aa 1 ca, .slice Ab 0 cb] 46)).alloc (.cells #[.string (⟨#[115]⟩ ++ digS (k : Int))] 9)).drew from (belowOne _ _).drew)
              have hzw : (w9.alloc (.cells #[.bool false, .slice Aa 1 ca, .slice Ab 0 cb] 46)).heap.size = w9.heap.size + 1 := by simp
              have HLit := Lib.hid (show strSh.Row ((w9.alloc (.cells #[.bool false, .slice Aa 1 ca, .slice Ab 0 cb] 46)).alloc (.cells #[.string (⟨#[115]⟩ ++ digS (k : Int))] 9)).drew ((w9.alloc (.cells #[.bool false, .slice Aa 1 ca, .slice Ab 0 cb] 46)).alloc (.cells #[.string (⟨#[115]⟩ ++ digS (k : Int))] 9)).drew.heap.size (.slice (some ⟨w9.heap.size + 1, 0, none⟩) 1 1) [⟨#[115]⟩ ++ digS (k : Int)] from by have h := (strs_lit (w9.alloc (.cells #[.bool false, .slice Aa 1 ca, .slice Ab 0 cb] 46)) [⟨#[115]⟩ ++ digS (k : Int)] #[.string (⟨#[115]⟩ ++ digS (k : Int))] rfl (fun x hx => by simp at hx; rw [hx]; exact HSS.out) (by show 1 ≤ maxLen; decide)).row; rw [hzw] at h; exact h.keep fun _ _ _ => rfl)
              clear hzw
              have HLy := Lib.hid ((HLx.out.below HW2.out).more HW2.out.size)
              rw [← HKE.out] at HLy
              have HW3 := Lib.hid (HBj10.out.trans (HW2.out.mono HBj10.out.size))
              have HW0 := Lib.hid (HBj10.out.alloc HBj10.out.size (.cells #[.string (⟨#[115]⟩ ++ digS (k : Int))] 9))
              have k0 := HAll.out _ HW1.out
              have k1 := HAll.out _ HW2.out
              refine wp_region_held_drew (S := (fun w' => w'.cell? ⟨w9.heap.size, 0, none⟩ = some (.bool false) ∧ w'.cell? ⟨w9.heap.size, 1, none⟩ = some (.slice Aa 1 ca) ∧ w'.cell? ⟨w9.heap.size, 2, none⟩ = some (.slice Ab 0 cb) ∧ w'.cell? ⟨w2.heap.size, k, none⟩ = some (.string (digS (k : Int))))) (by kernel_rfl) ?hSz (fun hHeldz => ?stz)
              case hSz => (first | (dsimp only; (first | with_reducible exact k2 | with_reducible exact k1 | with_reducible exact k0 | exact k0 | exact k1 | exact k2)) | (first | with_reducible exact k2 | with_reducible exact k1 | with_reducible exact k0 | exact k0 | exact k1 | exact k2))
              refine take_first 0 60 (v := ?vz_1) rfl rfl (by kernel_rfl) (by kernel_rfl) (by kernel_rfl) (fun _ _ _ h => h) (by rfl) ?yz_1 (by assumption) ?rz_1
              case yz_1 => (intro w hSw; (try dsimp only at hSw); go_simp; (try with_reducible rfl))
              simp only [Act.put, List.setIfInBounds_toArray, List.set_cons_zero, List.set_cons_succ]
              refine take_first 1 61 (v := ?vz_2) rfl rfl (by kernel_rfl) (by kernel_rfl) (by kernel_rfl) (fun _ _ _ h => h) (by rfl) ?yz_2 (by assumption) ?rz_2
              case yz_2 => (intro w hSw; (try dsimp only at hSw); go_simp; (try with_reducible rfl))
              simp only [Act.put, List.setIfInBounds_toArray, List.set_cons_zero, List.set_cons_succ]
              refine take_first 2 62 (v := ?vz_3) rfl rfl (by kernel_rfl) (by kernel_rfl) (by kernel_rfl) (fun _ _ _ h => h) (by rfl) ?yz_3 (by assumption) ?rz_3
              case yz_3 => (intro w hSw; (try dsimp only at hSw); go_simp; (try with_reducible rfl))
              simp only [Act.put, List.setIfInBounds_toArray, List.set_cons_zero, List.set_cons_succ]
              refine take_first 3 63 (v := ?vz_4) rfl rfl (by kernel_rfl) (by kernel_rfl) (by kernel_rfl) (fun _ _ _ h => h) (by rfl) ?yz_4 (by assumption) ?rz_4
              case yz_4 => (intro w hSw; (try dsimp only at hSw); go_simp; (try with_reducible rfl))
              simp only [Act.put, List.setIfInBounds_toArray, List.set_cons_zero, List.set_cons_succ]
              refine pass_over 4 64 rfl rfl (by kernel_rfl) (by kernel_rfl) (by kernel_rfl) (fun _ _ _ h => h) (by rfl) (by assumption) ?rz_5
              simp only [Act.put, List.setIfInBounds_toArray, List.set_cons_zero, List.set_cons_succ]
              refine pass_over 5 65 rfl rfl (by kernel_rfl) (by kernel_rfl) (by kernel_rfl) (fun _ _ _ h => h) (by rfl) (by assumption) ?rz_6
              simp only [Act.put, List.setIfInBounds_toArray, List.set_cons_zero, List.set_cons_succ]
              refine pass_over 6 66 rfl rfl (by kernel_rfl) (by kernel_rfl) (by kernel_rfl) (fun _ _ _ h => h) (by rfl) (by assumption) ?rz_7
              simp only [Act.put, List.setIfInBounds_toArray, List.set_cons_zero, List.set_cons_succ]
              refine pass_over 7 67 rfl rfl (by kernel_rfl) (by kernel_rfl) (by kernel_rfl) (fun _ _ _ h => h) (by rfl) (by assumption) ?rz_8
              simp only [Act.put, List.setIfInBounds_toArray, List.set_cons_zero, List.set_cons_succ]
              refine pass_over 8 68 rfl rfl (by kernel_rfl) (by kernel_rfl) (by kernel_rfl) (fun _ _ _ h => h) (by rfl) (by assumption) ?rz_9
              simp only [Act.put, List.setIfInBounds_toArray, List.set_cons_zero, List.set_cons_succ]
              refine take_first 9 69 (v := ?vz_10) rfl rfl (by kernel_rfl) (by kernel_rfl) (by kernel_rfl) (fun _ _ _ h => h) (by rfl) ?yz_10 (by assumption) ?rz_10
              case yz_10 => (intro w hSw; (try dsimp only at hSw); go_simp; (try with_reducible rfl))
              simp only [Act.put, List.setIfInBounds_toArray, List.set_cons_zero, List.set_cons_succ]
              refine take_first 10 70 (v := ?vz_11) rfl rfl (by kernel_rfl) (by kernel_rfl) (by kernel_rfl) (fun _ _ _ h => h) (by rfl) ?yz_11 (by assumption) ?rz_11
              case yz_11 => (intro w hSw; (try dsimp only at hSw); go_simp; (try with_reducible rfl))
              simp only [Act.put, List.setIfInBounds_toArray, List.set_cons_zero, List.set_cons_succ]
              refine take_first 11 71 (v := ?vz_12) rfl rfl (by kernel_rfl) (by kernel_rfl) (by kernel_rfl) (fun _ _ _ h => h) (by rfl) ?yz_12 (by assumption) ?rz_12
              case yz_12 => (intro w hSw; (try dsimp only at hSw); go_simp; (try with_reducible rfl))
              simp only [Act.put, List.setIfInBounds_toArray, List.set_cons_zero, List.set_cons_succ]
              refine take_first 12 72 (v := ?vz_13) rfl rfl (by kernel_rfl) (by kernel_rfl) (by kernel_rfl) (fun _ _ _ h => h) (by rfl) ?yz_13 (by assumption) ?rz_13
              case yz_13 => (intro w hSw; (try dsimp only at hSw); go_simp; (try with_reducible rfl))
              simp only [Act.put, List.setIfInBounds_toArray, List.set_cons_zero, List.set_cons_succ]
              refine take_first 13 73 (v := ?vz_14) rfl rfl (by kernel_rfl) (by kernel_rfl) (by kernel_rfl) (fun _ _ _ h => h) (by rfl) ?yz_14 (by assumption) ?rz_14
              case yz_14 => (intro w hSw; (try dsimp only at hSw); go_simp; (try with_reducible rfl))
              simp only [Act.put, List.setIfInBounds_toArray, List.set_cons_zero, List.set_cons_succ]
              refine take_first 14 74 (v := ?vz_15) rfl rfl (by kernel_rfl) (by kernel_rfl) (by kernel_rfl) (fun _ _ _ h => h) (by rfl) ?yz_15 (by assumption) ?rz_15
              case yz_15 => (intro w hSw; (try dsimp only at hSw); go_simp; (try with_reducible rfl))
              simp only [Act.put, List.setIfInBounds_toArray, List.set_cons_zero, List.set_cons_succ]
              refine take_first 15 75 (v := ?vz_16) rfl rfl (by kernel_rfl) (by kernel_rfl) (by kernel_rfl) (fun _ _ _ h => h) (by rfl) ?yz_16 (by assumption) ?rz_16
              case yz_16 => (intro w hSw; (try dsimp only at hSw); go_simp; (try with_reducible rfl))
              simp only [Act.put, List.setIfInBounds_toArray, List.set_cons_zero, List.set_cons_succ]
              refine take_first 16 76 (v := ?vz_17) rfl rfl (by kernel_rfl) (by kernel_rfl) (by kernel_rfl) (fun _ _ _ h => h) (by rfl) ?yz_17 (by assumption) ?rz_17
              case yz_17 => (intro w hSw; (try dsimp only at hSw); go_simp; (try with_reducible rfl))
              simp only [Act.put, List.setIfInBounds_toArray, List.set_cons_zero, List.set_cons_succ]
              refine take_first 17 77 (v := ?vz_18) rfl rfl (by kernel_rfl) (by kernel_rfl) (by kernel_rfl) (fun _ _ _ h => h) (by rfl) ?yz_18 (by assumption) ?rz_18
              case yz_18 => (intro w hSw; (try dsimp only at hSw); go_simp; (try with_reducible rfl))
              simp only [Act.put, List.setIfInBounds_toArray, List.set_cons_zero, List.set_cons_succ]
              refine take_first 18 78 (v := ?vz_19) rfl rfl (by kernel_rfl) (by kernel_rfl) (by kernel_rfl) (fun _ _ _ h => h) (by rfl) ?yz_19 (by assumption) ?rz_19
              case yz_19 => (intro w hSw; (try dsimp only at hSw); go_simp; (try with_reducible rfl))
              simp only [Act.put, List.setIfInBounds_toArray, List.set_cons_zero, List.set_cons_succ]
              refine take_first 19 79 (v := ?vz_20) rfl rfl (by kernel_rfl) (by kernel_rfl) (by kernel_rfl) (fun _ _ _ h => h) (by rfl) ?yz_20 (by assumption) ?rz_20
              case yz_20 => (intro w hSw; (try dsimp only at hSw); go_simp; (try with_reducible rfl))
              simp only [Act.put, List.setIfInBounds_toArray, List.set_cons_zero, List.set_cons_succ]
              refine take_first 20 80 (v := ?vz_21) rfl rfl (by kernel_rfl) (by kernel_rfl) (by kernel_rfl) (fun _ _ _ h => h) (by rfl) ?yz_21 (by assumption) ?rz_21
              case yz_21 => (intro w hSw; (try dsimp only at hSw); go_simp; (try with_reducible rfl))
              simp only [Act.put, List.setIfInBounds_toArray, List.set_cons_zero, List.set_cons_succ]
              refine take_first 21 81 (v := ?vz_22) rfl rfl (by kernel_rfl) (by kernel_rfl) (by kernel_rfl) (fun _ _ _ h => h) (by rfl) ?yz_22 (by assumption) ?rz_22
              case yz_22 => (intro w hSw; (try dsimp only at hSw); go_simp; (try with_reducible rfl))
              simp only [Act.put, List.setIfInBounds_toArray, List.set_cons_zero, List.set_cons_succ]
              refine take_first 22 82 (v := ?vz_23) rfl rfl (by kernel_rfl) (by kernel_rfl) (by kernel_rfl) (fun _ _ _ h => h) (by rfl) ?yz_23 (by assumption) ?rz_23
              case yz_23 => (intro w hSw; (try dsimp only at hSw); go_simp; (try with_reducible rfl))
              simp only [Act.put, List.setIfInBounds_toArray, List.set_cons_zero, List.set_cons_succ]
              refine take_first 23 83 (v := ?vz_24) rfl rfl (by kernel_rfl) (by kernel_rfl) (by kernel_rfl) (fun _ _ _ h => h) (by rfl) ?yz_24 (by assumption) ?rz_24
              case yz_24 => (intro w hSw; (try dsimp only at hSw); go_simp; (try with_reducible rfl))
              simp only [Act.put, List.setIfInBounds_toArray, List.set_cons_zero, List.set_cons_succ]
              refine wpAnyH_ready (rs := [24]) (by kernel_rfl) (by simp) ?_
              refine AllReadyH.cons (o := _) rfl (fun Kz_25 hKz_25 => ?cz_25) ?mz_25
              case mz_25 => exact AllReadyH.nil
              go_simp
              skip
              go_wp2_with fail
              refine hKz_25.out _ _ ?kz_25 (fun hHeldz_25 => ?dz_25)
              case kz_25 => (first | (dsimp only; (first | with_reducible exact k2 | with_reducible exact k1 | with_reducible exact k0 | exact k0 | exact k1 | exact k2)) | (first | with_reducible exact k2 | with_reducible exact k1 | with_reducible exact k0 | exact k0 | exact k1 | exact k2))
              clear hKz_25 Kz_25
              refine wpAnyH_ready (rs := [25]) (by kernel_rfl) (by simp) ?_
              refine AllReadyH.cons (o := _) rfl (fun Kz_26 hKz_26 => ?cz_26) ?mz_26
              case mz_26 => exact AllReadyH.nil
              go_simp
              skip
              go_wp2_with fail
              refine hKz_26.out _ _ ?kz_26 (fun hHeldz_26 => ?dz_26)
              case kz_26 => (first | (dsimp only; (first | with_reducible exact k2 | with_reducible exact k1 | with_reducible exact k0 | exact k0 | exact k1 | exact k2)) | (first | with_reducible exact k2 | with_reducible exact k1 | with_reducible exact k0 | exact k0 | exact k1 | exact k2))
              clear hKz_26 Kz_26
              refine wpAnyH_ready (rs := [26]) (by kernel_rfl) (by simp) ?_
              refine AllReadyH.cons (o := _) rfl (fun Kz_27 hKz_27 => ?cz_27) ?mz_27
              case mz_27 => exact AllReadyH.nil
              go_simp
              (with_reducible refine (jaTexts_same _ _ _ _ _ HLy.out HLit.out).mono ?_); rintro e wz ⟨rfl, nq, rfl⟩; have k2 := HAll.out _ (belowDraws HW2.out nq); have HW4 := Lib.hid (belowDraws HW0.out (1 + nq))
              go_wp2_with fail
              refine hKz_27.out _ _ ?kz_27 (fun hHeldz_27 => ?dz_27)
              case kz_27 => (first | (dsimp only; (first | with_reducible exact k2 | with_reducible exact k1 | with_reducible exact k0 | exact k0 | exact k1 | exact k2)) | (first | with_reducible exact k2 | with_reducible exact k1 | with_reducible exact k0 | exact k0 | exact k1 | exact k2))
              clear hKz_27 Kz_27
              refine take_first 27 87 (v := ?vz_28) rfl rfl (by kernel_rfl) (by kernel_rfl) (by kernel_rfl) (fun _ _ _ h => h) (by rfl) ?yz_28 (by assumption) ?rz_28
              case yz_28 => (intro w hSw; (try dsimp only at hSw); go_simp; (try with_reducible rfl))
              simp only [Act.put, List.setIfInBounds_toArray, List.set_cons_zero, List.set_cons_succ]
              refine take_first 28 88 (v := ?vz_29) rfl rfl (by kernel_rfl) (by kernel_rfl) (by kernel_rfl) (fun _ _ _ h => h) (by rfl) ?yz_29 (by assumption) ?rz_29
              case yz_29 => (intro w hSw; (try dsimp only at hSw); go_simp; (try with_reducible rfl))
              simp only [Act.put, List.setIfInBounds_toArray, List.set_cons_zero, List.set_cons_succ]
              refine wpAnyH_done (by kernel_rfl) ?ez _
              clear k0 k1 k2
              go_wp2
              go_roundw
              case rel => exact ⟨j + 1, by omega, by go_num, HW4.out⟩
              case measure => simp [intOf]; omega
            · have j4 : ¬ (j : Int) < 4 := by omega
              have hj4 : j = 4 := by omega
              have HB8 := Lib.hid (show Below w3.heap.size w3 wr from HB7.out.trans (HBj.out.mono HZ7.out))
              go_wp2
              go_roundw
              case rel => exact ⟨k + 1, by omega, by go_num, HB8.out⟩
              case measure => simp [intOf]; omega
        | true =>
          have hlen := HKP0.out hkp
          have HKP := Lib.hid hkp
          clear hkp HKP0
          obtain ⟨b7, of7, hA7, hB7, hc7⟩ := HR7.out (by omega)
          subst hA7
          have hv0 : w7.cell? ⟨b7, of7, none⟩ = some (.int .i64 (nth (lookV a (keyN 115 (k : Int))) 0)) := hc7 0 (by omega)
          rw [hlen]
          obtain ⟨v0, hv00⟩ : ∃ v0, nth (lookV a (keyN 115 (k : Int))) 0 = v0 := ⟨_, rfl⟩
          rw [hv00] at hv0
          have HV00 := Lib.hid hv00
          have HV0 := Lib.hid (fun (X : World) (hX : Below w7.heap.size w7 X) => show X.cell? ⟨b7, of7, none⟩ = some (.int .i64 v0) from (hX.cell (p := ⟨b7, of7, none⟩) hB7).trans hv0)
          have h01 : (0 : Int) < 1 := by decide
          clear hc7 hv0 hv00 hlen HR7
          go_wp2
          go_loopw [10] (fun i wr => ∃ j : Nat, j ≤ 4 ∧ i = .int .i64 j ∧ Below w7.heap.size w7 wr) (fun i _ => 4 - (intOf i).toNat)
          case atStart => exact ⟨0, by omega, rfl, Below.refl _ _⟩
          case round =>
            obtain ⟨j, hj, rfl, hb⟩ := hrel
            have HBj := Lib.hid hb
            clear hb
            by_cases hjt : j < 4
            · have j4 : (j : Int) < 4 := by omega
              have hpl := let_plan (who := (j : Int)) (inn := (k : Int)) HSB.out (by omega) (by omega) k00 k9
              rw [HKP.out, HV00.out, Bool.true_and] at hpl
              have HPl := Lib.hid hpl
              clear hpl
              have HB8 := Lib.hid (show Below w3.heap.size w3 wr from HB7.out.trans (HBj.out.mono HZ7.out))
              obtain ⟨⟨r1, -⟩, -, -⟩ := HFc.out _ HB8.out
              go_wp2_with fail
              clear r1
              refine (implPlcPlan_any _ 1 _ a (HFc.out _ HB8.out).2.1 0 ⟨2, (j : Int), (k : Int), 0, 0, 0, 0⟩).mono ?_
              rintro e w9 ⟨ua, ub, rfl, ho9, hb9⟩
              rw [HPl.out] at ho9 ⊢
              obtain ⟨ua', ub', S1, S2, hcs, hl9, hw9, -, -, -⟩ := plan_own.1 ho9
              obtain ⟨rfl, rfl⟩ : ua = ua' ∧ ub = ub' := by simpa using hcs
              have HL9 := Lib.hid hl9.row
              obtain ⟨Aa, ca, hfa, -, -⟩ := hl9.row.form
              obtain ⟨Ab, cb, hfb, -, -⟩ := hw9.row.form
              have hfa' : ua = .slice Aa 1 ca := hfa
              have hfb' : ub = .slice Ab 0 cb := hfb
              subst hfa' hfb'
              clear hfa hfb ho9 hcs hl9 hw9
              have HBx := Lib.hid (belowOne w9 (.cells #[.bool (v0 == (j : Int)), .slice Aa 1 ca, .slice Ab 0 cb] 46))
              have HX := Lib.hid (Held.new w9 #[.bool (v0 == (j : Int)), .slice Aa 1 ca, .slice Ab 0 cb] 46)
              have HBj9 := Lib.hid (show Below w7.heap.size w7 w9 from HBj.out.trans (hb9.mono HBj.out.size))
              have HBj10 := Lib.hid (HBj9.out.alloc HBj9.out.size (.cells #[.bool (v0 == (j : Int)), .slice Aa 1 ca, .slice Ab 0 cb] 46))
              clear hb9 HPl HB8
              have HLx := Lib.hid ((HL9.out.below HBx.out).more HBx.out.size)
              clear HL9
              have HKx := Lib.hid (fun (X : World) (hX : Below w7.heap.size w7 X) => show X.cell? ⟨w2.heap.size, k, none⟩ = some (.string (digS (k : Int))) from (HFc.out _ (HB7.out.trans (hX.mono HZ7.out))).1.2.of k _ (digs_is hlt))
              have x0 := HX.out.of 0 _ rfl
              have x1 := HX.out.of 1 _ rfl
              have x2 := HX.out.of 2 _ rfl
              have hss : ((⟨#[115]⟩ : ByteArray) ++ digS (k : Int)).size ≤ maxLen := by rw [append_size, digS_size]; decide
              have HSS := Lib.hid hss
              have hds : (digS (k : Int)).size = 1 := digS_size _
              have hzx : w9.heap.size < (w9.alloc (.cells #[.bool (v0 == (j : Int)), .slice Aa 1 ca, .slice Ab 0 cb] 46)).heap.size := HX.out.1
              clear hss
              go_wp2
              have HAll := Lib.hid (fun (X : World) (hX : Below (w9.alloc (.cells #[.bool (v0 == (j : Int)), .slice Aa 1 ca, .slice Ab 0 cb] 46)).heap.size (w9.alloc (.cells #[.bool (v0 == (j : Int)), .slice Aa 1 ca, .slice Ab 0 cb] 46)) X) => show X.cell? ⟨w9.heap.size, 0, none⟩ = some (.bool (v0 == (j : Int))) ∧ X.cell? ⟨w9.heap.size, 1, none⟩ = some (.slice Aa 1 ca) ∧ X.cell? ⟨w9.heap.size, 2, none⟩ = some (.slice Ab 0 cb) ∧ X.cell? ⟨w2.heap.size, k, none⟩ = some (.string (digS (k : Int))) ∧ X.cell? ⟨b7, of7, none⟩ = some (.int .i64 v0) from ⟨(HX.out.below hX HX.out.1).of 0 _ rfl, (HX.out.below hX HX.out.1).of 1 _ rfl, (HX.out.below hX HX.out.1).of 2 _ rfl, HKx.out _ (HBj10.out.trans (hX.mono HBj10.out.size)), HV0.out _ (HBj10.out.trans (hX.mono HBj10.out.size))⟩)
              have HW1 := Lib.hid (show Below (w9.alloc (.cells #[.bool (v0 == (j : Int)), .slice Aa 1 ca, .slice Ab 0 cb] 46)).heap.size (w9.alloc (.cells #[.bool (v0 == (j : Int)), .slice Aa 1 ca, .slice Ab 0 cb] 46)) (w9.alloc (.cells #[.bool (v0 == (j : Int)), .slice Aa 1 ca, .slice Ab 0 cb] 46)).drew from (Below.refl _ _).drew)
              have HW2 := Lib.hid (show Below (w9.alloc (.cells #[.bool (v0 == (j : Int)), .slice Aa 1 ca, .slice Ab 0 cb] 46)).heap.size (w9.alloc (.cells #[.bool (v0 == (j : Int)), .slice Aa 1 ca, .slice Ab 0 cb] 46)) ((w9.alloc (.cells #[.bool (v0 == (j : Int)), .slice Aa 1 ca, .slice Ab 0 cb] 46)).alloc (.cells #[.string (⟨#[115]⟩ ++ digS (k : Int))] 9)).drew from (belowOne _ _).drew)
              have hzw : (w9.alloc (.cells #[.bool (v0 == (j : Int)), .slice Aa 1 ca, .slice Ab 0 cb] 46)).heap.size = w9.heap.size + 1 := by simp
              have HLit := Lib.hid (show strSh.Row ((w9.alloc (.cells #[.bool (v0 == (j : Int)), .slice Aa 1 ca, .slice Ab 0 cb] 46)).alloc (.cells #[.string (⟨#[115]⟩ ++ digS (k : Int))] 9)).drew ((w9.alloc (.cells #[.bool (v0 == (j : Int)), .slice Aa 1 ca, .slice Ab 0 cb] 46)).alloc (.cells #[.string (⟨#[115]⟩ ++ digS (k : Int))] 9)).drew.heap.size (.slice (some ⟨w9.heap.size + 1, 0, none⟩) 1 1) [⟨#[115]⟩ ++ digS (k : Int)] from by have h := (strs_lit (w9.alloc (.cells #[.bool (v0 == (j : Int)), .slice Aa 1 ca, .slice Ab 0 cb] 46)) [⟨#[115]⟩ ++ digS (k : Int)] #[.string (⟨#[115]⟩ ++ digS (k : Int))] rfl (fun x hx => by simp at hx; rw [hx]; exact HSS.out) (by show 1 ≤ maxLen; decide)).row; rw [hzw] at h; exact h.keep fun _ _ _ => rfl)
              clear hzw
              have HLy := Lib.hid ((HLx.out.below HW2.out).more HW2.out.size)
              rw [← HKE.out] at HLy
              have HW3 := Lib.hid (HBj10.out.trans (HW2.out.mono HBj10.out.size))
              have HW0 := Lib.hid (HBj10.out.alloc HBj10.out.size (.cells #[.string (⟨#[115]⟩ ++ digS (k : Int))] 9))
              have k0 := HAll.out _ HW1.out
              have k1 := HAll.out _ HW2.out
              refine wp_region_held_drew (S := (fun w' => w'.cell? ⟨w9.heap.size, 0, none⟩ = some (.bool (v0 == (j : Int))) ∧ w'.cell? ⟨w9.heap.size, 1, none⟩ = some (.slice Aa 1 ca) ∧ w'.cell? ⟨w9.heap.size, 2, none⟩ = some (.slice Ab 0 cb) ∧ w'.cell? ⟨w2.heap.size, k, none⟩ = some (.string (digS (k : Int))) ∧ w'.cell? ⟨b7, of7, none⟩ = some (.int .i64 v0))) (by kernel_rfl) ?hSy (fun hHeldy => ?sty)
              case hSy => (first | (dsimp only; (first | with_reducible exact k2 | with_reducible exact k1 | with_reducible exact k0 | exact k0 | exact k1 | exact k2)) | (first | with_reducible exact k2 | with_reducible exact k1 | with_reducible exact k0 | exact k0 | exact k1 | exact k2))
              refine take_first 0 60 (v := ?vy_1) rfl rfl (by kernel_rfl) (by kernel_rfl) (by kernel_rfl) (fun _ _ _ h => h) (by rfl) ?yy_1 (by assumption) ?ry_1
              case yy_1 => (intro w hSw; (try dsimp only at hSw); go_simp; (try with_reducible rfl))
              simp only [Act.put, List.setIfInBounds_toArray, List.set_cons_zero, List.set_cons_succ]
              refine take_first 1 61 (v := ?vy_2) rfl rfl (by kernel_rfl) (by kernel_rfl) (by kernel_rfl) (fun _ _ _ h => h) (by rfl) ?yy_2 (by assumption) ?ry_2
              case yy_2 => (intro w hSw; (try dsimp only at hSw); go_simp; (try with_reducible rfl))
              simp only [Act.put, List.setIfInBounds_toArray, List.set_cons_zero, List.set_cons_succ]
              refine take_first 2 62 (v := ?vy_3) rfl rfl (by kernel_rfl) (by kernel_rfl) (by kernel_rfl) (fun _ _ _ h => h) (by rfl) ?yy_3 (by assumption) ?ry_3
              case yy_3 => (intro w hSw; (try dsimp only at hSw); go_simp; (try with_reducible rfl))
              simp only [Act.put, List.setIfInBounds_toArray, List.set_cons_zero, List.set_cons_succ]
              refine take_first 3 63 (v := ?vy_4) rfl rfl (by kernel_rfl) (by kernel_rfl) (by kernel_rfl) (fun _ _ _ h => h) (by rfl) ?yy_4 (by assumption) ?ry_4
              case yy_4 => (intro w hSw; (try dsimp only at hSw); go_simp; (try with_reducible rfl))
              simp only [Act.put, List.setIfInBounds_toArray, List.set_cons_zero, List.set_cons_succ]
              refine take_first 4 64 (v := ?vy_5) rfl rfl (by kernel_rfl) (by kernel_rfl) (by kernel_rfl) (fun _ _ _ h => h) (by rfl) ?yy_5 (by assumption) ?ry_5
              case yy_5 => (intro w hSw; (try dsimp only at hSw); go_simp; (try with_reducible rfl))
              simp only [Act.put, List.setIfInBounds_toArray, List.set_cons_zero, List.set_cons_succ]
              refine take_first 5 65 (v := ?vy_6) rfl rfl (by kernel_rfl) (by kernel_rfl) (by kernel_rfl) (fun _ _ _ h => h) (by rfl) ?yy_6 (by assumption) ?ry_6
              case yy_6 => (intro w hSw; (try dsimp only at hSw); go_simp; (try with_reducible rfl))
              simp only [Act.put, List.setIfInBounds_toArray, List.set_cons_zero, List.set_cons_succ]
              refine take_first 6 66 (v := ?vy_7) rfl rfl (by kernel_rfl) (by kernel_rfl) (by kernel_rfl) (fun _ _ _ h => h) (by rfl) ?yy_7 (by assumption) ?ry_7
              case yy_7 => (intro w hSw; (try dsimp only at hSw); go_simp; (try with_reducible rfl))
              simp only [Act.put, List.setIfInBounds_toArray, List.set_cons_zero, List.set_cons_succ]
              refine take_first 7 67 (v := ?vy_8) rfl rfl (by kernel_rfl) (by kernel_rfl) (by kernel_rfl) (fun _ _ _ h => h) (by rfl) ?yy_8 (by assumption) ?ry_8
              case yy_8 => (intro w hSw; (try dsimp only at hSw); go_simp; (try with_reducible rfl))
              simp only [Act.put, List.setIfInBounds_toArray, List.set_cons_zero, List.set_cons_succ]
              refine take_first 8 68 (v := ?vy_9) rfl rfl (by kernel_rfl) (by kernel_rfl) (by kernel_rfl) (fun _ _ _ h => h) (by rfl) ?yy_9 (by assumption) ?ry_9
              case yy_9 => (intro w hSw; (try dsimp only at hSw); go_simp; (try with_reducible rfl))
              simp only [Act.put, List.setIfInBounds_toArray, List.set_cons_zero, List.set_cons_succ]
              refine take_first 9 69 (v := ?vy_10) rfl rfl (by kernel_rfl) (by kernel_rfl) (by kernel_rfl) (fun _ _ _ h => h) (by rfl) ?yy_10 (by assumption) ?ry_10
              case yy_10 => (intro w hSw; (try dsimp only at hSw); go_simp; (try with_reducible rfl))
              simp only [Act.put, List.setIfInBounds_toArray, List.set_cons_zero, List.set_cons_succ]
              refine take_first 10 70 (v := ?vy_11) rfl rfl (by kernel_rfl) (by kernel_rfl) (by kernel_rfl) (fun _ _ _ h => h) (by rfl) ?yy_11 (by assumption) ?ry_11
              case yy_11 => (intro w hSw; (try dsimp only at hSw); go_simp; (try with_reducible rfl))
              simp only [Act.put, List.setIfInBounds_toArray, List.set_cons_zero, List.set_cons_succ]
              refine take_first 11 71 (v := ?vy_12) rfl rfl (by kernel_rfl) (by kernel_rfl) (by kernel_rfl) (fun _ _ _ h => h) (by rfl) ?yy_12 (by assumption) ?ry_12
              case yy_12 => (intro w hSw; (try dsimp only at hSw); go_simp; (try with_reducible rfl))
              simp only [Act.put, List.setIfInBounds_toArray, List.set_cons_zero, List.set_cons_succ]
              refine take_first 12 72 (v := ?vy_13) rfl rfl (by kernel_rfl) (by kernel_rfl) (by kernel_rfl) (fun _ _ _ h => h) (by rfl) ?yy_13 (by assumption) ?ry_13
              case yy_13 => (intro w hSw; (try dsimp only at hSw); go_simp; (try with_reducible rfl))
              simp only [Act.put, List.setIfInBounds_toArray, List.set_cons_zero, List.set_cons_succ]
              refine take_first 13 73 (v := ?vy_14) rfl rfl (by kernel_rfl) (by kernel_rfl) (by kernel_rfl) (fun _ _ _ h => h) (by rfl) ?yy_14 (by assumption) ?ry_14
              case yy_14 => (intro w hSw; (try dsimp only at hSw); go_simp; (try with_reducible rfl))
              simp only [Act.put, List.setIfInBounds_toArray, List.set_cons_zero, List.set_cons_succ]
              refine take_first 14 74 (v := ?vy_15) rfl rfl (by kernel_rfl) (by kernel_rfl) (by kernel_rfl) (fun _ _ _ h => h) (by rfl) ?yy_15 (by assumption) ?ry_15
              case yy_15 => (intro w hSw; (try dsimp only at hSw); go_simp; (try with_reducible rfl))
              simp only [Act.put, List.setIfInBounds_toArray, List.set_cons_zero, List.set_cons_succ]
              refine take_first 15 75 (v := ?vy_16) rfl rfl (by kernel_rfl) (by kernel_rfl) (by kernel_rfl) (fun _ _ _ h => h) (by rfl) ?yy_16 (by assumption) ?ry_16
              case yy_16 => (intro w hSw; (try dsimp only at hSw); go_simp; (try with_reducible rfl))
              simp only [Act.put, List.setIfInBounds_toArray, List.set_cons_zero, List.set_cons_succ]
              refine take_first 16 76 (v := ?vy_17) rfl rfl (by kernel_rfl) (by kernel_rfl) (by kernel_rfl) (fun _ _ _ h => h) (by rfl) ?yy_17 (by assumption) ?ry_17
              case yy_17 => (intro w hSw; (try dsimp only at hSw); go_simp; (try with_reducible rfl))
              simp only [Act.put, List.setIfInBounds_toArray, List.set_cons_zero, List.set_cons_succ]
              refine take_first 17 77 (v := ?vy_18) rfl rfl (by kernel_rfl) (by kernel_rfl) (by kernel_rfl) (fun _ _ _ h => h) (by rfl) ?yy_18 (by assumption) ?ry_18
              case yy_18 => (intro w hSw; (try dsimp only at hSw); go_simp; (try with_reducible rfl))
              simp only [Act.put, List.setIfInBounds_toArray, List.set_cons_zero, List.set_cons_succ]
              refine take_first 18 78 (v := ?vy_19) rfl rfl (by kernel_rfl) (by kernel_rfl) (by kernel_rfl) (fun _ _ _ h => h) (by rfl) ?yy_19 (by assumption) ?ry_19
              case yy_19 => (intro w hSw; (try dsimp only at hSw); go_simp; (try with_reducible rfl))
              simp only [Act.put, List.setIfInBounds_toArray, List.set_cons_zero, List.set_cons_succ]
              refine take_first 19 79 (v := ?vy_20) rfl rfl (by kernel_rfl) (by kernel_rfl) (by kernel_rfl) (fun _ _ _ h => h) (by rfl) ?yy_20 (by assumption) ?ry_20
              case yy_20 => (intro w hSw; (try dsimp only at hSw); go_simp; (try with_reducible rfl))
              simp only [Act.put, List.setIfInBounds_toArray, List.set_cons_zero, List.set_cons_succ]
              refine take_first 20 80 (v := ?vy_21) rfl rfl (by kernel_rfl) (by kernel_rfl) (by kernel_rfl) (fun _ _ _ h => h) (by rfl) ?yy_21 (by assumption) ?ry_21
              case yy_21 => (intro w hSw; (try dsimp only at hSw); go_simp; (try with_reducible rfl))
              simp only [Act.put, List.setIfInBounds_toArray, List.set_cons_zero, List.set_cons_succ]
              refine take_first 21 81 (v := ?vy_22) rfl rfl (by kernel_rfl) (by kernel_rfl) (by kernel_rfl) (fun _ _ _ h => h) (by rfl) ?yy_22 (by assumption) ?ry_22
              case yy_22 => (intro w hSw; (try dsimp only at hSw); go_simp; (try with_reducible rfl))
              simp only [Act.put, List.setIfInBounds_toArray, List.set_cons_zero, List.set_cons_succ]
              refine take_first 22 82 (v := ?vy_23) rfl rfl (by kernel_rfl) (by kernel_rfl) (by kernel_rfl) (fun _ _ _ h => h) (by rfl) ?yy_23 (by assumption) ?ry_23
              case yy_23 => (intro w hSw; (try dsimp only at hSw); go_simp; (try with_reducible rfl))
              simp only [Act.put, List.setIfInBounds_toArray, List.set_cons_zero, List.set_cons_succ]
              refine take_first 23 83 (v := ?vy_24) rfl rfl (by kernel_rfl) (by kernel_rfl) (by kernel_rfl) (fun _ _ _ h => h) (by rfl) ?yy_24 (by assumption) ?ry_24
              case yy_24 => (intro w hSw; (try dsimp only at hSw); go_simp; (try with_reducible rfl))
              simp only [Act.put, List.setIfInBounds_toArray, List.set_cons_zero, List.set_cons_succ]
              refine wpAnyH_ready (rs := [24]) (by kernel_rfl) (by simp) ?_
              refine AllReadyH.cons (o := _) rfl (fun Ky_25 hKy_25 => ?cy_25) ?my_25
              case my_25 => exact AllReadyH.nil
              go_simp
              skip
              go_wp2_with fail
              refine hKy_25.out _ _ ?ky_25 (fun hHeldy_25 => ?dy_25)
              case ky_25 => (first | (dsimp only; (first | with_reducible exact k2 | with_reducible exact k1 | with_reducible exact k0 | exact k0 | exact k1 | exact k2)) | (first | with_reducible exact k2 | with_reducible exact k1 | with_reducible exact k0 | exact k0 | exact k1 | exact k2))
              clear hKy_25 Ky_25
              refine wpAnyH_ready (rs := [25]) (by kernel_rfl) (by simp) ?_
              refine AllReadyH.cons (o := _) rfl (fun Ky_26 hKy_26 => ?cy_26) ?my_26
              case my_26 => exact AllReadyH.nil
              go_simp
              skip
              go_wp2_with fail
              refine hKy_26.out _ _ ?ky_26 (fun hHeldy_26 => ?dy_26)
              case ky_26 => (first | (dsimp only; (first | with_reducible exact k2 | with_reducible exact k1 | with_reducible exact k0 | exact k0 | exact k1 | exact k2)) | (first | with_reducible exact k2 | with_reducible exact k1 | with_reducible exact k0 | exact k0 | exact k1 | exact k2))
              clear hKy_26 Ky_26
              refine wpAnyH_ready (rs := [26]) (by kernel_rfl) (by simp) ?_
              refine AllReadyH.cons (o := _) rfl (fun Ky_27 hKy_27 => ?cy_27) ?my_27
              case my_27 => exact AllReadyH.nil
              go_simp
              (with_reducible refine (jaTexts_same _ _ _ _ _ HLy.out HLit.out).mono ?_); rintro e wz ⟨rfl, nq, rfl⟩; have k2 := HAll.out _ (belowDraws HW2.out nq); have HW4 := Lib.hid (belowDraws HW0.out (1 + nq))
              go_wp2_with fail
              refine hKy_27.out _ _ ?ky_27 (fun hHeldy_27 => ?dy_27)
              case ky_27 => (first | (dsimp only; (first | with_reducible exact k2 | with_reducible exact k1 | with_reducible exact k0 | exact k0 | exact k1 | exact k2)) | (first | with_reducible exact k2 | with_reducible exact k1 | with_reducible exact k0 | exact k0 | exact k1 | exact k2))
              clear hKy_27 Ky_27
              refine take_first 27 87 (v := ?vy_28) rfl rfl (by kernel_rfl) (by kernel_rfl) (by kernel_rfl) (fun _ _ _ h => h) (by rfl) ?yy_28 (by assumption) ?ry_28
              case yy_28 => (intro w hSw; (try dsimp only at hSw); go_simp; (try with_reducible rfl))
              simp only [Act.put, List.setIfInBounds_toArray, List.set_cons_zero, List.set_cons_succ]
              refine take_first 28 88 (v := ?vy_29) rfl rfl (by kernel_rfl) (by kernel_rfl) (by kernel_rfl) (fun _ _ _ h => h) (by rfl) ?yy_29 (by assumption) ?ry_29
              case yy_29 => (intro w hSw; (try dsimp only at hSw); go_simp; (try with_reducible rfl))
              simp only [Act.put, List.setIfInBounds_toArray, List.set_cons_zero, List.set_cons_succ]
              refine wpAnyH_done (by kernel_rfl) ?ey _
              clear k0 k1 k2
              go_wp2
              go_roundw
              case rel => exact ⟨j + 1, by omega, by go_num, HW4.out⟩
              case measure => simp [intOf]; omega
            · have j4 : ¬ (j : Int) < 4 := by omega
              have hj4 : j = 4 := by omega
              have HB8 := Lib.hid (show Below w3.heap.size w3 wr from HB7.out.trans (HBj.out.mono HZ7.out))
              go_wp2
              go_roundw
              case rel => exact ⟨k + 1, by omega, by go_num, HB8.out⟩
              case measure => simp [intOf]; omega
      · have k9 : ¬ (k : Int) ≤ 9 := by omega
        go_wp2_with fail
        refine (jaOk_any _).mono ?_
        rintro e w5 ⟨rfl, hb⟩
        have HBe := Lib.hid (belowNext (HFc.out _ HBr.out).2.2 hb)
        clear hb
        go_wp2
        go_ret
        exact ⟨rfl, HBe.out⟩

end Go.Proofs.Yteccebjnopladaa
