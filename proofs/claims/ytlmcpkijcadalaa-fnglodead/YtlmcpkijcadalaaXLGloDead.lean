/- The walk of FnGloDead. By deadgen.py. -/
import Derived.Test.YtlmcpkijcadalaaXPlayNoted
namespace Go.Proofs.Ytlmcpkijcadalaa
open Go.RowKit

/-- While what is done is gone through. -/
def DeadI (w2 : World) (os : List Op) (k : Nat) (x : Value) (W : World) : Prop :=
  ∃ a b c, PlayAt os k a b c ∧ stoSh.Row W W.heap.size x (playTo os k).1 ∧ Below w2.heap.size w2 W
theorem DeadI.no {w2 W W' : World} {os : List Op} {k : Nat} {x : Value} {o : Op} (h : DeadI w2 os k x W) (hx : os[k]? = some o) (hd : (gloDo (playTo os k).1 k o).2 = false) (hb : Below W.heap.size W W') : DeadI w2 os (k + 1) x W' := by
  obtain ⟨a, b, c, h1, h2, h3⟩ := h
  exact ⟨a, b, c, h1.no hx hd, by rw [playTo_no hx hd]; exact (h2.below hb).more hb.size, h3.trans (hb.mono h3.size)⟩
theorem step_plc {os : List Op} {k : Nat} {a b c : List Item} {o : Op} (h : PlayAt os k a b c) (ho : opB o = true) (hk : k ≤ 29) : plcB 2 (stepP b 2 k o) = true :=
  (gloB_parts (glo_step (k := k) (tx := (k : Int)) h.ok ho (inB_yes (by omega) (by omega)) h.la h.lb h.lc (by omega)).1).2.1
set_option maxRecDepth 100000 in
set_option maxHeartbeats 20000000 in
theorem lawGloDead_any (w : World) (v : Value) (n : Nat) (hv : Code8 w v n) :
    Calls Try.prog 12 #[v] w fun e w' => e = .returned (.bool true) ∧ Below w.heap.size w w' := by
  have HV := Lib.hid hv
  obtain ⟨A, c, f, rfl, h1, h2, -, -⟩ := hv
  unfold maxLen at h2
  by_cases hn : 1048576 < n
  · have hn' : (1048576 : Int) < (n : Int) := by omega
    go_enter Try.func12, Try.ntmps12
    go_wp2
    go_ret
    exact ⟨rfl, Below.refl _ _⟩
  have hn' : (n : Int) ≤ 1048576 := by omega
  clear hn
  go_enter Try.func12, Try.ntmps12
  go_wp2_with fail
  refine (drawGloPlay_any _ _ n HV.out).mono ?_
  rintro e w1 ⟨u, os, rfl, hol, hog, hrow, hb1⟩
  obtain ⟨Ao, co, hof, hoc, -⟩ := hrow.form
  subst hof
  unfold maxLen at hoc
  have HG := Lib.hid hog
  have HR1 := Lib.hid hrow
  have HB1 := Lib.hid hb1
  clear hrow hog hb1 HV
  go_wp2_with fail
  refine (implGloNew_any _).mono ?_
  rintro e w2 ⟨ux, rfl, hx, hb2⟩
  obtain ⟨Ax, cx, hfx, -, -⟩ := hx.row.form
  subst hfx
  have HR2 := Lib.hid ((HR1.out.below hb2).more hb2.size)
  have HB2 := Lib.hid (belowNext HB1.out hb2)
  have HI := Lib.hid (show DeadI w2 os 0 (.slice Ax newG.length cx) w2 from ⟨[], [], [], PlayAt.start, hx.row, Below.refl _ _⟩)
  clear hx hb2 HB1 HR1
  go_wp2
  go_loopw [4, 5] (fun a i wr => ∃ k : Nat, k ≤ os.length ∧ i = .int .i64 k ∧ DeadI w2 os k a wr) (fun _ i _ => os.length - (intOf i).toNat)
  case atStart => exact ⟨0, Nat.zero_le _, rfl, HI.out⟩
  case round =>
    clear HI
    obtain ⟨k, hk, rfl, hI⟩ := hrel
    have HI := Lib.hid hI
    obtain ⟨ia, ib, ic, hpl, hl, hb⟩ := hI
    obtain ⟨A1, c1, hf1, -, -⟩ := hl.form
    subst hf1
    by_cases hlt : k < os.length
    · obtain ⟨b, off, c', o, e1, ho, hB, q0, q1, q2, q3, q4, q5, q6⟩ := ops_at (HR2.out.below hb) hlt
      injection e1 with e1a e1b e1c
      subst e1a
      have hob := HG.out o (List.mem_of_getElem? ho)
      have hlo : k ≤ 29 := by omega
      have HO := Lib.hid ho
      have HP := Lib.hid hpl
      have HOB := Lib.hid hob
      have HL := Lib.hid hl
      have HBb0 := Lib.hid hb
      clear e1b e1c hpl ho hob hk hl hb
      go_wp2_with fail
      clear q0 q1 q2 q3 q4 q5 q6
      refine (implGloDo_any _ _ _ HL.out _ o).mono ?_
      rintro e w3 ⟨u3, rfl, hu3, hb3⟩
      obtain ⟨A3, c3, hf3, -, -⟩ := hu3.row.form
      subst hf3
      have HB3 := Lib.hid (belowNext HBb0.out hb3)
      have HL3 := Lib.hid ((HL.out.below hb3).more hb3.size)
      have HU3 := Lib.hid hu3.row
      have HBW := Lib.hid hb3
      clear hb3 HBb0 hu3
      cases hy : (gloDo (playTo os k).1 k o).2 with
      | false =>
        have HN := Lib.hid (HI.out.no HO.out hy HBW.out)
        clear hy
        go_wp2
        go_roundw
        case rel => exact ⟨k + 1, by omega, by go_num, HN.out⟩
        case measure => simp [intOf]; omega
      | true =>
        have HY := Lib.hid hy
        obtain ⟨hgd, hpn⟩ := HP.out.yes HO.out HOB.out hlo hy
        have HN := Lib.hid (show DeadI w2 os (k + 1) (.slice A3 (gloDo (playTo os k).1 k o).1.length c3) w3 from ⟨_, _, _, hpn, by rw [playTo_yes HO.out hy]; exact HU3.out, HB3.out⟩)
        have hl3 : (playTo os k).1.length = 3 := by rw [HP.out.is]; rfl
        have hu3 : (gloDo (playTo os k).1 k o).1.length = 3 := by rw [hgd]; rfl
        obtain ⟨b1, of1, d1, x1, p1, e1, hx1, hB1, r1, hi1⟩ := stos_at HL3.out (k := 1) (by rw [hl3]; omega)
        obtain ⟨b4, of4, d4, x4, p4, e4, hx4, hB4, r4, hi4⟩ := stos_at HU3.out (k := 1) (by rw [hu3]; omega)
        rw [HP.out.is] at hx1
        rw [hgd] at hx4
        have hx1' : (⟨ib⟩ : Sto) = x1 := Option.some.inj hx1
        have hx4' : (⟨stepP ib 2 k o⟩ : Sto) = x4 := Option.some.inj hx4
        subst hx1' hx4'
        injection e1 with e1a e1b e1c
        injection e4 with e4a e4b e4c
        subst e1a e4a
        have HIB := Lib.hid (items_row.1 hi1)
        have HIX := Lib.hid (items_row.1 hi4)
        obtain ⟨Ai, ci, hfi, -, -⟩ := HIB.out.form
        obtain ⟨Aj, cj, hfj, -, -⟩ := HIX.out.form
        subst hfi hfj
        have HR1 := Lib.hid r1
        have HR4 := Lib.hid r4
        rw [hl3]
        rw [hu3] at HN ⊢
        clear hl3 hu3 hgd hpn hy e1b e1c e4b e4c hx1 hx4 hi1 hi4 HI HL HL3 HU3 HBW r4
        have hib : ib.length ≤ 30 := by have := HP.out.lb; omega
        go_wp2
        go_loopw [9] (fun i wr => ∃ j : Nat, j ≤ ib.length ∧ i = .int .i64 j ∧ Below w3.heap.size w3 wr) (fun i _ => ib.length - (intOf i).toNat)
        case atStart => exact ⟨0, Nat.zero_le _, rfl, Below.refl _ _⟩
        case round =>
          obtain ⟨j, hj, rfl, hb⟩ := hrel
          have HB := Lib.hid hb
          have hzr : w3.heap.size ≤ wr.heap.size := hb.size
          clear hb
          by_cases hlj : j < ib.length
          · obtain ⟨bi, ofi, di, it, u, e1, hit, hBi, hsz, ck, cu, hu⟩ := (HIB.out.below HB.out).at_ (k := j) hlj
            injection e1 with e1a e1b e1c
            subst e1a
            have hmem := List.mem_of_getElem? hit
            have hpp := plc_parts (gloB_parts HP.out.ok).2.1
            obtain ⟨k2, k3, n1, n3, hnn⟩ := itemB_parts ((stoB_three hpp.1).2.1 it hmem)
            have h0 : 0 < it.key.size := by omega
            obtain ⟨ch, hch⟩ : ∃ ch : Int, ((it.key[0]'h0).toNat : Int) = ch := ⟨_, rfl⟩
            have hc0 := (chr0_at h0).trans hch
            obtain ⟨A', c'', rfl, d1, d2, hrow⟩ := hu
            obtain ⟨b', off', rfl, hb', hcell⟩ := hrow (by omega)
            unfold maxLen at d2
            by_cases h102 : ch = 102
            · subst h102
              have h9 := fam_item hpp.1 hpp.2 hmem hc0
              obtain ⟨hok, hgo⟩ := HP.out.goes HOB.out hlo HY.out hmem hc0
              have hgv := getV_yes (key := it.key) (plc_parts (step_plc HP.out HOB.out hlo)).1
              have hgk := (getOk_yes (key := it.key) (plc_parts (step_plc HP.out HOB.out hlo)).1).trans hok
              unfold FamGoes at hgo
              obtain ⟨g1, g2, g3, g4, g5⟩ := hgo
              have HGV := Lib.hid hgv
              have HGK := Lib.hid hgk
              have HG1 := Lib.hid (And.intro g1 g2)
              have v0 := hcell 0 (by omega)
              have v1 := hcell 1 (by omega)
              have v2 := hcell 2 (by omega)
              rw [Nat.add_zero] at v0
              have HC := Lib.hid (And.intro v0 (And.intro v1 v2))
              have HL9 := Lib.hid h9.1
              have k0 := And.intro ((HB.out.cell (p := ⟨b4, of4 + 1, none⟩) hB4).trans HR4.out) ck
              have HX := Lib.hid (show Items wr.drew wr.drew.heap.size (.slice Aj (stepP ib 2 k o).length cj) (stepP ib 2 k o) from (HIX.out.below HB.out).more hzr)
              have f3 : (0 : Int) ≤ (j : Int) := by omega
              have f4 : (j : Int) < (ib.length : Int) := by omega
              have l01 : 0 < it.val.length := by omega
              have l1 : 1 < it.val.length := by omega
              have l2 : 2 < it.val.length := by omega
              have y1 : 1 ≤ nth it.val 1 := h9.2.2.2.1
              have y2 : nth it.val 1 ≤ 99 := h9.2.2.2.2.1
              have HBK := Lib.hid (And.intro hBi hb')
              clear hcell hnn hrow hit hc0 hpp hmem hok hgv hgk g1 g2 h9 v0 v1 v2 e1b e1c hsz
              go_wp2
              refine wp_region_held_drew (S := (fun w' => w'.cell? ⟨b4, of4 + 1, none⟩ = some (.slice Aj (stepP ib 2 k o).length cj) ∧ w'.cell? ⟨bi, ofi + j * 2, none⟩ = some (.string it.key))) (by kernel_rfl) ?hSg (fun hHeldg => ?stg)
              case hSg => (first | (dsimp only; (first | with_reducible exact k1 | exact k0)) | (first | with_reducible exact k1 | exact k0))
              refine take_first 0 54 (v := ?vg_1) rfl rfl (by kernel_rfl) (by kernel_rfl) (by kernel_rfl) (fun _ _ _ h => h) (by rfl) ?yg_1 (by assumption) ?rg_1
              case yg_1 => (intro w hSw; (try dsimp only at hSw); go_simp; (try with_reducible rfl))
              simp only [Act.put, List.setIfInBounds_toArray, List.set_cons_zero, List.set_cons_succ]
              refine take_first 1 55 (v := ?vg_2) rfl rfl (by kernel_rfl) (by kernel_rfl) (by kernel_rfl) (fun _ _ _ h => h) (by rfl) ?yg_2 (by assumption) ?rg_2
              case yg_2 => (intro w hSw; (try dsimp only at hSw); go_simp; (try with_reducible rfl))
              simp only [Act.put, List.setIfInBounds_toArray, List.set_cons_zero, List.set_cons_succ]
              refine take_first 2 56 (v := ?vg_3) rfl rfl (by kernel_rfl) (by kernel_rfl) (by kernel_rfl) (fun _ _ _ h => h) (by rfl) ?yg_3 (by assumption) ?rg_3
              case yg_3 => (intro w hSw; (try dsimp only at hSw); go_simp; (try with_reducible rfl))
              simp only [Act.put, List.setIfInBounds_toArray, List.set_cons_zero, List.set_cons_succ]
              refine take_first 3 57 (v := ?vg_4) rfl rfl (by kernel_rfl) (by kernel_rfl) (by kernel_rfl) (fun _ _ _ h => h) (by rfl) ?yg_4 (by assumption) ?rg_4
              case yg_4 => (intro w hSw; (try dsimp only at hSw); go_simp; (try with_reducible rfl))
              simp only [Act.put, List.setIfInBounds_toArray, List.set_cons_zero, List.set_cons_succ]
              refine take_first 4 58 (v := ?vg_5) rfl rfl (by kernel_rfl) (by kernel_rfl) (by kernel_rfl) (fun _ _ _ h => h) (by rfl) ?yg_5 (by assumption) ?rg_5
              case yg_5 => (intro w hSw; (try dsimp only at hSw); go_simp; (try with_reducible rfl))
              simp only [Act.put, List.setIfInBounds_toArray, List.set_cons_zero, List.set_cons_succ]
              refine take_first 5 59 (v := ?vg_6) rfl rfl (by kernel_rfl) (by kernel_rfl) (by kernel_rfl) (fun _ _ _ h => h) (by rfl) ?yg_6 (by assumption) ?rg_6
              case yg_6 => (intro w hSw; (try dsimp only at hSw); go_simp; (try with_reducible rfl))
              simp only [Act.put, List.setIfInBounds_toArray, List.set_cons_zero, List.set_cons_succ]
              refine take_first 6 60 (v := ?vg_7) rfl rfl (by kernel_rfl) (by kernel_rfl) (by kernel_rfl) (fun _ _ _ h => h) (by rfl) ?yg_7 (by assumption) ?rg_7
              case yg_7 => (intro w hSw; (try dsimp only at hSw); go_simp; (try with_reducible rfl))
              simp only [Act.put, List.setIfInBounds_toArray, List.set_cons_zero, List.set_cons_succ]
              refine take_first 7 61 (v := ?vg_8) rfl rfl (by kernel_rfl) (by kernel_rfl) (by kernel_rfl) (fun _ _ _ h => h) (by rfl) ?yg_8 (by assumption) ?rg_8
              case yg_8 => (intro w hSw; (try dsimp only at hSw); go_simp; (try with_reducible rfl))
              simp only [Act.put, List.setIfInBounds_toArray, List.set_cons_zero, List.set_cons_succ]
              refine wpAnyH_ready (rs := [8]) (by kernel_rfl) (by simp) ?_
              refine AllReadyH.cons (o := _) rfl (fun Kg_9 hKg_9 => ?cg_9) ?mg_9
              case mg_9 => exact AllReadyH.nil
              go_simp
              refine (implStoGet_any _ _ (stepP ib 2 k o) it.key HX.out).mono ?_; rintro e w7 ⟨u7, rfl, ho7, hb7⟩; rw [HGK.out]; rw [HGV.out] at ho7; have hi7 := ho7.ints; obtain ⟨A7, c7, hf7, l7, d7, row7⟩ := hi7; rw [HG1.out.1] at hf7 row7 l7; subst hf7; have HB7 := Lib.hid (show Below w3.heap.size w3 w7 from HB.out.drew.trans (hb7.mono hzr)); have HR7 := Lib.hid row7; have HCK := Lib.hid (show w7.cell? ⟨bi, ofi + j * 2 + 1, none⟩ = some (.slice (some ⟨b', off', none⟩) it.val.length c'') from (hb7.cell (p := ⟨bi, ofi + j * 2 + 1, none⟩) (Nat.lt_of_lt_of_le HBK.out.1 hzr)).trans cu); have HC7 := Lib.hid (And.intro ((hb7.cell (p := ⟨b', off', none⟩) (Nat.lt_of_lt_of_le HBK.out.2 hzr)).trans HC.out.1) (And.intro ((hb7.cell (p := ⟨b', off' + 1, none⟩) (Nat.lt_of_lt_of_le HBK.out.2 hzr)).trans HC.out.2.1) ((hb7.cell (p := ⟨b', off' + 2, none⟩) (Nat.lt_of_lt_of_le HBK.out.2 hzr)).trans HC.out.2.2))); have k1 : w7.cell? ⟨b4, of4 + 1, none⟩ = some (.slice Aj (stepP ib 2 k o).length cj) ∧ w7.cell? ⟨bi, ofi + j * 2, none⟩ = some (.string it.key) := And.intro ((hb7.cell (p := ⟨b4, of4 + 1, none⟩) (Nat.lt_of_lt_of_le hB4 hzr)).trans k0.1) ((hb7.cell (p := ⟨bi, ofi + j * 2, none⟩) (Nat.lt_of_lt_of_le HBK.out.1 hzr)).trans k0.2); clear ho7 hb7 row7
              go_wp2_with fail
              refine hKg_9.out _ _ ?kg_9 (fun hHeldg_9 => ?dg_9)
              case kg_9 => (first | (dsimp only; (first | with_reducible exact k1 | exact k0)) | (first | with_reducible exact k1 | exact k0))
              clear hKg_9 Kg_9
              refine take_first 9 53 (v := ?vg_10) rfl rfl (by kernel_rfl) (by kernel_rfl) (by kernel_rfl) (fun _ _ _ h => h) (by rfl) ?yg_10 (by assumption) ?rg_10
              case yg_10 => (intro w hSw; (try dsimp only at hSw); go_simp; (try with_reducible rfl))
              simp only [Act.put, List.setIfInBounds_toArray, List.set_cons_zero, List.set_cons_succ]
              refine take_first 10 63 (v := ?vg_11) rfl rfl (by kernel_rfl) (by kernel_rfl) (by kernel_rfl) (fun _ _ _ h => h) (by rfl) ?yg_11 (by assumption) ?rg_11
              case yg_11 => (intro w hSw; (try dsimp only at hSw); go_simp; (try with_reducible rfl))
              simp only [Act.put, List.setIfInBounds_toArray, List.set_cons_zero, List.set_cons_succ]
              refine take_first 11 64 (v := ?vg_12) rfl rfl (by kernel_rfl) (by kernel_rfl) (by kernel_rfl) (fun _ _ _ h => h) (by rfl) ?yg_12 (by assumption) ?rg_12
              case yg_12 => (intro w hSw; (try dsimp only at hSw); go_simp; (try with_reducible rfl))
              simp only [Act.put, List.setIfInBounds_toArray, List.set_cons_zero, List.set_cons_succ]
              refine take_first 12 10 (v := ?vg_13) rfl rfl (by kernel_rfl) (by kernel_rfl) (by kernel_rfl) (fun _ _ _ h => h) (by rfl) ?yg_13 (by assumption) ?rg_13
              case yg_13 => (intro w hSw; (try dsimp only at hSw); go_simp; (try with_reducible rfl))
              simp only [Act.put, List.setIfInBounds_toArray, List.set_cons_zero, List.set_cons_succ]
              refine take_first 13 11 (v := ?vg_14) rfl rfl (by kernel_rfl) (by kernel_rfl) (by kernel_rfl) (fun _ _ _ h => h) (by rfl) ?yg_14 (by assumption) ?rg_14
              case yg_14 => (intro w hSw; (try dsimp only at hSw); go_simp; (try with_reducible rfl))
              simp only [Act.put, List.setIfInBounds_toArray, List.set_cons_zero, List.set_cons_succ]
              refine wpAnyH_done (by kernel_rfl) ?eg _
              clear k0 k1 ck cu HX
              obtain ⟨b7, of7, hA7, hB7, cell7⟩ := HR7.out (by omega)
              subst hA7
              have z0 := cell7 0 (by omega)
              have z1 := cell7 1 (by omega)
              have z2 := cell7 2 (by omega)
              dsimp only at z0 z1 z2
              rw [Nat.add_zero, HG1.out.2] at z0
              obtain ⟨v0, v1, v2⟩ := HC7.out
              have ck7 := HCK.out
              have HBn := Lib.hid HB7.out
              clear cell7 HR7 HC7 HCK HB7 HG1 HGV HGK HC
              generalize nth (lookV (stepP ib 2 k o) it.key) 1 = m1 at *
              generalize nth (lookV (stepP ib 2 k o) it.key) 2 = m2 at *
              generalize nth it.val 0 = x0 at *
              generalize nth it.val 1 = x1 at *
              generalize nth it.val 2 = x2 at *
              have a0 : (x0 != x0) = false := by simp
              have a1 : decide (m1 < x1) = false := by simp; omega
              have a2 : decide (x1 + 1 < m1) = false := by simp; omega
              have a3 : decide (x2 < m2) = false := by simp; omega
              have a4 : IntKind.i64.wrap (x1 + 1) = x1 + 1 := IntWalk.i64_in _ (by omega)
              have l3 : it.val.length = 3 := HL9.out
              rw [l3] at ck7
              clear HL9 l3 g3 g4 g5
              go_wp2
              go_quiet (fail)
              go_wp2
              go_roundw
              case rel => exact ⟨j + 1, by omega, by go_num, belowDraws HBn.out _⟩
              case measure => simp [intOf]; omega
            · have g1 : (ch != 102) = true := by simpa using h102
              clear hcell hnn hrow hit hc0 hpp hmem h102
              go_wp2
              go_roundw
              case rel => exact ⟨j + 1, by omega, by go_num, HB.out⟩
              case measure => simp [intOf]; omega
          · have HNn := Lib.hid (show DeadI w2 os (k + 1) (.slice (some ⟨b4, of4, none⟩) 3 c3) wr from by
              obtain ⟨a, b, c, h1, h2, h3⟩ := HN.out
              exact ⟨a, b, c, h1, (h2.below HB.out).more hzr, h3.trans (HB.out.mono h3.size)⟩)
            clear HB HN
            go_wp2
            go_roundw
            case rel => exact ⟨k + 1, by omega, by go_num, HNn.out⟩
            case measure => simp [intOf]; omega
    · have hkk : k = os.length := by omega
      subst hkk
      have HBe := Lib.hid (HB2.out.trans (hb.mono HB2.out.size))
      have HL := Lib.hid hl
      have HK := Lib.hid hpl.ok
      have HIS := Lib.hid hpl.is
      clear hb hlt hpl hk hl HI
      go_wp2_with fail
      refine (implGloOk_any _ _ _ HL.out).mono ?_
      rintro e w4 ⟨rfl, hb4⟩
      rw [HIS.out, HK.out]
      have HB4 := Lib.hid (belowNext HBe.out hb4)
      clear hb4
      go_wp2_with fail
      refine (jaOk_any _).mono ?_
      rintro e w5 ⟨rfl, hb5⟩
      have HB5 := Lib.hid (belowNext HB4.out hb5)
      clear hb5
      go_wp2
      go_ret
      exact ⟨rfl, HB5.out⟩

end Go.Proofs.Ytlmcpkijcadalaa
