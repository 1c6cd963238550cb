/- The walk of FnGloOut. By outgen.py. -/
import Derived.Test.YtlmcpkijcadalaaXPlayNoted
namespace Go.Proofs.Ytlmcpkijcadalaa
open Go.RowKit

/-- While what is done is gone through. -/
def GoneI (w2 : World) (os : List Op) (k : Nat) (x : Value) (W : World) : Prop :=
  ∃ a b c, PlayAt os k a b c ∧ stoSh.Row W W.heap.size x (playTo os k).1 ∧ Below w2.heap.size w2 W
theorem GoneI.no {w2 W W' : World} {os : List Op} {k : Nat} {x : Value} {o : Op} (h : GoneI w2 os k x W) (hx : os[k]? = some o) (hd : (gloDo (playTo os k).1 k o).2 = false) (hb : Below W.heap.size W W') : GoneI w2 os (k + 1) x W' := by
  obtain ⟨a, b, c, h1, h2, h3⟩ := h
  exact ⟨a, b, c, h1.no hx hd, by rw [playTo_no hx hd]; exact (h2.below hb).more hb.size, h3.trans (hb.mono h3.size)⟩
set_option maxRecDepth 100000 in
set_option maxHeartbeats 20000000 in
theorem lawGloOut_any (w : World) (v : Value) (n : Nat) (hv : Code8 w v n) :
    Calls Try.prog 10 #[v] w fun e w' => e = .returned (.bool true) ∧ Below w.heap.size w w' := by
  have HV := Lib.hid hv
  obtain ⟨A, c, f, rfl, h1, h2, -, -⟩ := hv
  unfold maxLen at h2
  by_cases hn : 1048576 < n
  · have hn' : (1048576 : Int) < (n : Int) := by omega
    go_enter Try.func10, Try.ntmps10
    go_wp2
    go_ret
    exact ⟨rfl, Below.refl _ _⟩
  have hn' : (n : Int) ≤ 1048576 := by omega
  clear hn
  go_enter Try.func10, Try.ntmps10
  go_wp2_with fail
  refine (drawGloPlay_any _ _ n HV.out).mono ?_
  rintro e w1 ⟨u, os, rfl, hol, hog, hrow, hb1⟩
  obtain ⟨Ao, co, hof, hoc, -⟩ := hrow.form
  subst hof
  unfold maxLen at hoc
  have HG := Lib.hid hog
  have HR1 := Lib.hid hrow
  have HB1 := Lib.hid hb1
  clear hrow hog hb1 HV
  go_wp2_with fail
  refine (implGloNew_any _).mono ?_
  rintro e w2 ⟨ux, rfl, hx, hb2⟩
  obtain ⟨Ax, cx, hfx, -, -⟩ := hx.row.form
  subst hfx
  have HR2 := Lib.hid ((HR1.out.below hb2).more hb2.size)
  have HB2 := Lib.hid (belowNext HB1.out hb2)
  have HI := Lib.hid (show GoneI w2 os 0 (.slice Ax newG.length cx) w2 from ⟨[], [], [], PlayAt.start, hx.row, Below.refl _ _⟩)
  clear hx hb2 HB1 HR1
  go_wp2
  go_loopw [4, 5] (fun a i wr => ∃ k : Nat, k ≤ os.length ∧ i = .int .i64 k ∧ GoneI w2 os k a wr) (fun _ i _ => os.length - (intOf i).toNat)
  case atStart => exact ⟨0, Nat.zero_le _, rfl, HI.out⟩
  case round =>
    clear HI
    obtain ⟨k, hk, rfl, hI⟩ := hrel
    have HI := Lib.hid hI
    obtain ⟨ia, ib, ic, hpl, hl, hb⟩ := hI
    obtain ⟨A1, c1, hf1, -, -⟩ := hl.form
    subst hf1
    by_cases hlt : k < os.length
    · obtain ⟨b, off, c', o, e1, ho, hB, q0, q1, q2, q3, q4, q5, q6⟩ := ops_at (HR2.out.below hb) hlt
      injection e1 with e1a e1b e1c
      subst e1a
      have hob := HG.out o (List.mem_of_getElem? ho)
      have hlo : k ≤ 29 := by omega
      have HO := Lib.hid ho
      have HP := Lib.hid hpl
      have HOB := Lib.hid hob
      have HL := Lib.hid hl
      have HBb0 := Lib.hid hb
      have HQ := Lib.hid (And.intro q0 q1)
      clear e1b e1c hpl ho hob hk hl hb
      go_wp2_with fail
      clear q0 q1 q2 q3 q4 q5 q6
      refine (implGloDo_any _ _ _ HL.out _ o).mono ?_
      rintro e w3 ⟨u3, rfl, hu3, hb3⟩
      obtain ⟨A3, c3, hf3, -, -⟩ := hu3.row.form
      subst hf3
      have hBw : b < wr.heap.size := Nat.lt_of_lt_of_le hB HBb0.out.size
      have q0 := (hb3.cell (p := ⟨b, off + k * 7, none⟩) hBw).trans HQ.out.1
      have q1 := (hb3.cell (p := ⟨b, off + k * 7 + 1, none⟩) hBw).trans HQ.out.2
      have hB3w : b < w3.heap.size := Nat.lt_of_lt_of_le hBw hb3.size
      have HB3 := Lib.hid (belowNext HBb0.out hb3)
      have HL3 := Lib.hid ((HL.out.below hb3).more hb3.size)
      have HU3 := Lib.hid hu3.row
      have HBW := Lib.hid hb3
      clear hb3 HBb0 hu3 HQ
      cases hy : (gloDo (playTo os k).1 k o).2 with
      | false =>
        have HN := Lib.hid (HI.out.no HO.out hy HBW.out)
        clear hy
        go_wp2
        go_roundw
        case rel => exact ⟨k + 1, by omega, by go_num, HN.out⟩
        case measure => simp [intOf]; omega
      | true =>
        have HY := Lib.hid hy
        obtain ⟨hgd, hpn⟩ := HP.out.yes HO.out HOB.out hlo hy
        have HN := Lib.hid (show GoneI w2 os (k + 1) (.slice A3 (gloDo (playTo os k).1 k o).1.length c3) w3 from ⟨_, _, _, hpn, by rw [playTo_yes HO.out hy]; exact HU3.out, HB3.out⟩)
        by_cases h5 : o.kind = 5
        · have h5' : (o.kind == 5) = true := by simp [h5]
          have hl3 : (playTo os k).1.length = 3 := by rw [HP.out.is]; rfl
          have hu3 : (gloDo (playTo os k).1 k o).1.length = 3 := by rw [hgd]; rfl
          obtain ⟨b1, of1, d1, x1, p1, e1, hx1, hB1, r1, hi1⟩ := stos_at HL3.out (k := 1) (by rw [hl3]; omega)
          obtain ⟨b4, of4, d4, x4, p4, e4, hx4, hB4, r4, hi4⟩ := stos_at HU3.out (k := 1) (by rw [hu3]; omega)
          obtain ⟨b0, of0, d0, x0, p0, e0, hx0, hB0, r0, hi0⟩ := stos_at HL3.out (k := 0) (by rw [hl3]; omega)
          obtain ⟨b6, of6, d6, x6, p6, e6, hx6, hB6, r6, hi6⟩ := stos_at HU3.out (k := 0) (by rw [hu3]; omega)
          rw [HP.out.is] at hx1 hx0
          rw [hgd, HP.out.out2 HOB.out hlo h5] at hx4 hx6
          have hx1' : (⟨ib⟩ : Sto) = x1 := Option.some.inj hx1
          have hx4' : (⟨ib.map (outIt o.who)⟩ : Sto) = x4 := Option.some.inj hx4
          have hx0' : (⟨ia⟩ : Sto) = x0 := Option.some.inj hx0
          have hx6' : (⟨stepP ia 1 k o⟩ : Sto) = x6 := Option.some.inj hx6
          subst hx1' hx4' hx0' hx6'
          injection e1 with e1a e1b e1c
          injection e4 with e4a e4b e4c
          subst e1a e4a
          injection e0 with e0a e0b e0c
          injection e6 with e6a e6b e6c
          injection e0a with e0a
          injection e0a with e0x e0y
          injection e6a with e6a
          injection e6a with e6x e6y
          subst e0x e0y e6x e6y
          have HIB := Lib.hid (items_row.1 hi1)
          have HIX := Lib.hid (items_row.1 hi4)
          obtain ⟨Ai, ci, hfi, -, -⟩ := HIB.out.form
          obtain ⟨Aj, cj, hfj, -, -⟩ := HIX.out.form
          obtain ⟨Ak, ck, hfk, -, -⟩ := hi0.form
          obtain ⟨Am, cm, hfm, -, -⟩ := hi6.form
          rw [List.length_map] at hfj
          subst hfi hfj hfk hfm
          rw [Nat.add_zero] at r0 r6
          have ho1 := HP.out.out1 HOB.out hlo h5 HY.out
          have hla : ia.length ≤ 30 := by have := HP.out.la; omega
          have hib : ib.length ≤ 30 := by have := HP.out.lb; omega
          have a5 : (((stepP ia 1 k o).length : Int) != (ia.length : Int) - 1) = false := by simp; omega
          have a6 : IntKind.i64.wrap ((ia.length : Int) - 1) = (ia.length : Int) - 1 := IntWalk.i64_in _ (by omega)
          have a7 : ((ib.length : Int) != (ib.length : Int)) = false := by simp
          rw [hl3]
          rw [hu3] at HN ⊢
          clear hl3 hu3 hgd hpn hy e1b e1c e4b e4c hx1 hx4 hi1 hi4 HI HL HL3 HU3 HBW e0b e0c e6b e6c hx0 hx6 hi0 hi6 ho1 h5
          go_wp2
          go_quiet (fail)
          clear a5 a6 a7 r0 r6 q0
          go_wp2
          have HQ1 := Lib.hid q1
          clear q1 r1 r4
          go_loopw [10] (fun i wr => ∃ j : Nat, j ≤ ib.length ∧ i = .int .i64 j ∧ Below w3.heap.size w3 wr) (fun i _ => ib.length - (intOf i).toNat)
          case atStart => exact ⟨0, Nat.zero_le _, rfl, belowDraws (Below.refl _ _) _⟩
          case round =>
            obtain ⟨j, hj, rfl, hb⟩ := hrel
            have HB := Lib.hid hb
            have hzr : w3.heap.size ≤ wr.heap.size := hb.size
            clear hb
            by_cases hlj : j < ib.length
            · obtain ⟨bi, ofi, di, it, u, e1, hit, hBi, hsz, ckk, cu, hu⟩ := (HIB.out.below HB.out).at_ (k := j) hlj
              obtain ⟨bx, ofx, dx, ix, ux, e2, hix, hBx, hsx, ckx, cux, hux⟩ := (HIX.out.below HB.out).at_ (k := j) (by rw [List.length_map]; exact hlj)
              injection e1 with e1a e1b e1c
              injection e2 with e2a e2b e2c
              subst e1a e2a
              rw [List.getElem?_map, hit] at hix
              have hix' : outIt o.who it = ix := Option.some.inj hix
              have hmem := List.mem_of_getElem? hit
              obtain ⟨t1, t2, t3, t4⟩ := HP.out.outAt (o := o) hmem
              have tk := outIt_key o.who it
              rw [hix'] at t1 t2 t3 t4 tk
              have hpp := plc_parts (gloB_parts HP.out.ok).2.1
              obtain ⟨k2, k3, n1, n3, hnn⟩ := itemB_parts ((stoB_three hpp.1).2.1 it hmem)
              have h0 : 0 < it.key.size := by omega
              obtain ⟨ch, hch⟩ : ∃ ch : Int, ((it.key[0]'h0).toNat : Int) = ch := ⟨_, rfl⟩
              have hc0 := (chr0_at h0).trans hch
              have HU := Lib.hid hu
              have HUX := Lib.hid hux
              obtain ⟨Au', cu', rfl, d1u, d2u, hrowu⟩ := hu
              obtain ⟨bu', ou', rfl, hbu', cellu⟩ := hrowu (by omega)
              obtain ⟨Ay', cy', rfl, d1y, d2y, hrowy⟩ := hux
              obtain ⟨by', oy', rfl, hby', celly⟩ := hrowy (by omega)
              unfold maxLen at d2u d2y
              have w0 := celly 0 (by omega)
              rw [Nat.add_zero] at w0
              dsimp only at w0
              rw [t2] at w0
              rw [t1] at cux
              rw [tk] at ckx
              rw [hc0] at t3 t4
              have qq := (HB.out.cell (p := ⟨b, off + k * 7 + 1, none⟩) hB3w).trans HQ1.out
              have f3 : (0 : Int) ≤ (j : Int) := by omega
              have f4 : (j : Int) < (ib.length : Int) := by omega
              have f5 : (0 : Int) ≤ (k : Int) := by omega
              have f6 : (k : Int) < (os.length : Int) := by omega
              have l01 : 0 < it.val.length := by omega
              have HKK := Lib.hid (fun (W : World) (hW : Below wr.heap.size wr W) => show W.cell? ⟨bx, ofx + j * 2, none⟩ = some (.string it.key) ∧ W.cell? ⟨bx, ofx + j * 2 + 1, none⟩ = some (.slice (some ⟨by', oy', none⟩) it.val.length cy') ∧ W.cell? ⟨bi, ofi + j * 2, none⟩ = some (.string it.key) ∧ W.cell? ⟨bi, ofi + j * 2 + 1, none⟩ = some (.slice (some ⟨bu', ou', none⟩) it.val.length cu') from
                ⟨(hW.cell (p := ⟨bx, ofx + j * 2, none⟩) (Nat.lt_of_lt_of_le hBx hzr)).trans ckx, (hW.cell (p := ⟨bx, ofx + j * 2 + 1, none⟩) (Nat.lt_of_lt_of_le hBx hzr)).trans cux, (hW.cell (p := ⟨bi, ofi + j * 2, none⟩) (Nat.lt_of_lt_of_le hBi hzr)).trans ckk, (hW.cell (p := ⟨bi, ofi + j * 2 + 1, none⟩) (Nat.lt_of_lt_of_le hBi hzr)).trans cu⟩)
              have HT := Lib.hid (And.intro t3 t4)
              have HCY := Lib.hid celly
              have HT1 := Lib.hid t1
              clear e1b e1c e2b e2c hit hix hix' hmem t1 t2 t3 t4 tk hpp hnn hc0 cellu celly hrowu hrowy hsz hsx
              by_cases h102 : ch = 102
              · subst h102
                rcases m0 : (nth it.val 0 == o.who)
                ·
                  have HEV := Lib.hid (HT.out.2 (fun h => by rw [h.2] at m0; simp at m0))
                  go_wp2
                  go_quiet (fail)
                  have HW6 := Lib.hid (belowDraws (Below.refl wr.heap.size wr) nq)
                  have k0 := HKK.out _ HW6.out
                  have HB6 := Lib.hid (HB.out.trans (HW6.out.mono hzr))
                  have hv1 := HUX.out.below (HW6.out.mono hzr)
                  have hv2 := HU.out.below (HW6.out.mono hzr)
                  rw [HEV.out] at hv1
                  clear HW6 HKK HB ckx cux ckk cu qq w0
                  generalize wr.drewN nq = w6 at *
                  have HV1 := Lib.hid (show Ints w6.drew w3.heap.size (.slice (some ⟨by', oy', none⟩) it.val.length cy') it.val from hv1)
                  have HV2 := Lib.hid (show Ints w6.drew w3.heap.size (.slice (some ⟨bu', ou', none⟩) it.val.length cu') it.val from hv2)
                  clear hv1 hv2
                  go_wp2
                  refine wp_region_held_drew (S := (fun w' => w'.cell? ⟨bx, ofx + j * 2, none⟩ = some (.string it.key) ∧ w'.cell? ⟨bx, ofx + j * 2 + 1, none⟩ = some (.slice (some ⟨by', oy', none⟩) it.val.length cy') ∧ w'.cell? ⟨bi, ofi + j * 2, none⟩ = some (.string it.key) ∧ w'.cell? ⟨bi, ofi + j * 2 + 1, none⟩ = some (.slice (some ⟨bu', ou', none⟩) it.val.length cu'))) (by kernel_rfl) ?hSrb (fun hHeldrb => ?strb)
                  case hSrb => (first | (dsimp only; (exact k0)) | (exact k0))
                  refine take_first 0 97 (v := ?vrb_1) rfl rfl (by kernel_rfl) (by kernel_rfl) (by kernel_rfl) (fun _ _ _ h => h) (by rfl) ?yrb_1 (by assumption) ?rrb_1
                  case yrb_1 => (intro w hSw; (try dsimp only at hSw); go_simp; (try with_reducible rfl))
                  simp only [Act.put, List.setIfInBounds_toArray, List.set_cons_zero, List.set_cons_succ]
                  refine take_first 1 98 (v := ?vrb_2) rfl rfl (by kernel_rfl) (by kernel_rfl) (by kernel_rfl) (fun _ _ _ h => h) (by rfl) ?yrb_2 (by assumption) ?rrb_2
                  case yrb_2 => (intro w hSw; (try dsimp only at hSw); go_simp; (try with_reducible rfl))
                  simp only [Act.put, List.setIfInBounds_toArray, List.set_cons_zero, List.set_cons_succ]
                  refine take_first 2 99 (v := ?vrb_3) rfl rfl (by kernel_rfl) (by kernel_rfl) (by kernel_rfl) (fun _ _ _ h => h) (by rfl) ?yrb_3 (by assumption) ?rrb_3
                  case yrb_3 => (intro w hSw; (try dsimp only at hSw); go_simp; (try with_reducible rfl))
                  simp only [Act.put, List.setIfInBounds_toArray, List.set_cons_zero, List.set_cons_succ]
                  refine take_first 3 100 (v := ?vrb_4) rfl rfl (by kernel_rfl) (by kernel_rfl) (by kernel_rfl) (fun _ _ _ h => h) (by rfl) ?yrb_4 (by assumption) ?rrb_4
                  case yrb_4 => (intro w hSw; (try dsimp only at hSw); go_simp; (try with_reducible rfl))
                  simp only [Act.put, List.setIfInBounds_toArray, List.set_cons_zero, List.set_cons_succ]
                  refine take_first 4 101 (v := ?vrb_5) rfl rfl (by kernel_rfl) (by kernel_rfl) (by kernel_rfl) (fun _ _ _ h => h) (by rfl) ?yrb_5 (by assumption) ?rrb_5
                  case yrb_5 => (intro w hSw; (try dsimp only at hSw); go_simp; (try with_reducible rfl))
                  simp only [Act.put, List.setIfInBounds_toArray, List.set_cons_zero, List.set_cons_succ]
                  refine take_first 5 102 (v := ?vrb_6) rfl rfl (by kernel_rfl) (by kernel_rfl) (by kernel_rfl) (fun _ _ _ h => h) (by rfl) ?yrb_6 (by assumption) ?rrb_6
                  case yrb_6 => (intro w hSw; (try dsimp only at hSw); go_simp; (try with_reducible rfl))
                  simp only [Act.put, List.setIfInBounds_toArray, List.set_cons_zero, List.set_cons_succ]
                  refine take_first 6 103 (v := ?vrb_7) rfl rfl (by kernel_rfl) (by kernel_rfl) (by kernel_rfl) (fun _ _ _ h => h) (by rfl) ?yrb_7 (by assumption) ?rrb_7
                  case yrb_7 => (intro w hSw; (try dsimp only at hSw); go_simp; (try with_reducible rfl))
                  simp only [Act.put, List.setIfInBounds_toArray, List.set_cons_zero, List.set_cons_succ]
                  refine take_first 7 104 (v := ?vrb_8) rfl rfl (by kernel_rfl) (by kernel_rfl) (by kernel_rfl) (fun _ _ _ h => h) (by rfl) ?yrb_8 (by assumption) ?rrb_8
                  case yrb_8 => (intro w hSw; (try dsimp only at hSw); go_simp; (try with_reducible rfl))
                  simp only [Act.put, List.setIfInBounds_toArray, List.set_cons_zero, List.set_cons_succ]
                  refine take_first 8 105 (v := ?vrb_9) rfl rfl (by kernel_rfl) (by kernel_rfl) (by kernel_rfl) (fun _ _ _ h => h) (by rfl) ?yrb_9 (by assumption) ?rrb_9
                  case yrb_9 => (intro w hSw; (try dsimp only at hSw); go_simp; (try with_reducible rfl))
                  simp only [Act.put, List.setIfInBounds_toArray, List.set_cons_zero, List.set_cons_succ]
                  refine take_first 9 106 (v := ?vrb_10) rfl rfl (by kernel_rfl) (by kernel_rfl) (by kernel_rfl) (fun _ _ _ h => h) (by rfl) ?yrb_10 (by assumption) ?rrb_10
                  case yrb_10 => (intro w hSw; (try dsimp only at hSw); go_simp; (try with_reducible rfl))
                  simp only [Act.put, List.setIfInBounds_toArray, List.set_cons_zero, List.set_cons_succ]
                  refine take_first 10 107 (v := ?vrb_11) rfl rfl (by kernel_rfl) (by kernel_rfl) (by kernel_rfl) (fun _ _ _ h => h) (by rfl) ?yrb_11 (by assumption) ?rrb_11
                  case yrb_11 => (intro w hSw; (try dsimp only at hSw); go_simp; (try with_reducible rfl))
                  simp only [Act.put, List.setIfInBounds_toArray, List.set_cons_zero, List.set_cons_succ]
                  refine take_first 11 108 (v := ?vrb_12) rfl rfl (by kernel_rfl) (by kernel_rfl) (by kernel_rfl) (fun _ _ _ h => h) (by rfl) ?yrb_12 (by assumption) ?rrb_12
                  case yrb_12 => (intro w hSw; (try dsimp only at hSw); go_simp; (try with_reducible rfl))
                  simp only [Act.put, List.setIfInBounds_toArray, List.set_cons_zero, List.set_cons_succ]
                  refine take_first 12 109 (v := ?vrb_13) rfl rfl (by kernel_rfl) (by kernel_rfl) (by kernel_rfl) (fun _ _ _ h => h) (by rfl) ?yrb_13 (by assumption) ?rrb_13
                  case yrb_13 => (intro w hSw; (try dsimp only at hSw); go_simp; (try with_reducible rfl))
                  simp only [Act.put, List.setIfInBounds_toArray, List.set_cons_zero, List.set_cons_succ]
                  refine take_first 13 110 (v := ?vrb_14) rfl rfl (by kernel_rfl) (by kernel_rfl) (by kernel_rfl) (fun _ _ _ h => h) (by rfl) ?yrb_14 (by assumption) ?rrb_14
                  case yrb_14 => (intro w hSw; (try dsimp only at hSw); go_simp; (try with_reducible rfl))
                  simp only [Act.put, List.setIfInBounds_toArray, List.set_cons_zero, List.set_cons_succ]
                  refine take_first 14 111 (v := ?vrb_15) rfl rfl (by kernel_rfl) (by kernel_rfl) (by kernel_rfl) (fun _ _ _ h => h) (by rfl) ?yrb_15 (by assumption) ?rrb_15
                  case yrb_15 => (intro w hSw; (try dsimp only at hSw); go_simp; (try with_reducible rfl))
                  simp only [Act.put, List.setIfInBounds_toArray, List.set_cons_zero, List.set_cons_succ]
                  refine take_first 15 112 (v := ?vrb_16) rfl rfl (by kernel_rfl) (by kernel_rfl) (by kernel_rfl) (fun _ _ _ h => h) (by rfl) ?yrb_16 (by assumption) ?rrb_16
                  case yrb_16 => (intro w hSw; (try dsimp only at hSw); go_simp; (try with_reducible rfl))
                  simp only [Act.put, List.setIfInBounds_toArray, List.set_cons_zero, List.set_cons_succ]
                  refine take_first 16 113 (v := ?vrb_17) rfl rfl (by kernel_rfl) (by kernel_rfl) (by kernel_rfl) (fun _ _ _ h => h) (by rfl) ?yrb_17 (by assumption) ?rrb_17
                  case yrb_17 => (intro w hSw; (try dsimp only at hSw); go_simp; (try with_reducible rfl))
                  simp only [Act.put, List.setIfInBounds_toArray, List.set_cons_zero, List.set_cons_succ]
                  refine pass_over 17 114 rfl rfl (by kernel_rfl) (by kernel_rfl) (by kernel_rfl) (fun _ _ _ h => h) (by rfl) (by assumption) ?rrb_18
                  simp only [Act.put, List.setIfInBounds_toArray, List.set_cons_zero, List.set_cons_succ]
                  refine pass_over 18 115 rfl rfl (by kernel_rfl) (by kernel_rfl) (by kernel_rfl) (fun _ _ _ h => h) (by rfl) (by assumption) ?rrb_19
                  simp only [Act.put, List.setIfInBounds_toArray, List.set_cons_zero, List.set_cons_succ]
                  refine pass_over 19 116 rfl rfl (by kernel_rfl) (by kernel_rfl) (by kernel_rfl) (fun _ _ _ h => h) (by rfl) (by assumption) ?rrb_20
                  simp only [Act.put, List.setIfInBounds_toArray, List.set_cons_zero, List.set_cons_succ]
                  refine pass_over 20 117 rfl rfl (by kernel_rfl) (by kernel_rfl) (by kernel_rfl) (fun _ _ _ h => h) (by rfl) (by assumption) ?rrb_21
                  simp only [Act.put, List.setIfInBounds_toArray, List.set_cons_zero, List.set_cons_succ]
                  refine pass_over 21 118 rfl rfl (by kernel_rfl) (by kernel_rfl) (by kernel_rfl) (fun _ _ _ h => h) (by rfl) (by assumption) ?rrb_22
                  simp only [Act.put, List.setIfInBounds_toArray, List.set_cons_zero, List.set_cons_succ]
                  refine pass_over 22 119 rfl rfl (by kernel_rfl) (by kernel_rfl) (by kernel_rfl) (fun _ _ _ h => h) (by rfl) (by assumption) ?rrb_23
                  simp only [Act.put, List.setIfInBounds_toArray, List.set_cons_zero, List.set_cons_succ]
                  refine pass_over 23 120 rfl rfl (by kernel_rfl) (by kernel_rfl) (by kernel_rfl) (fun _ _ _ h => h) (by rfl) (by assumption) ?rrb_24
                  simp only [Act.put, List.setIfInBounds_toArray, List.set_cons_zero, List.set_cons_succ]
                  refine pass_over 24 121 rfl rfl (by kernel_rfl) (by kernel_rfl) (by kernel_rfl) (fun _ _ _ h => h) (by rfl) (by assumption) ?rrb_25
                  simp only [Act.put, List.setIfInBounds_toArray, List.set_cons_zero, List.set_cons_succ]
                  refine take_first 25 122 (v := ?vrb_26) rfl rfl (by kernel_rfl) (by kernel_rfl) (by kernel_rfl) (fun _ _ _ h => h) (by rfl) ?yrb_26 (by assumption) ?rrb_26
                  case yrb_26 => (intro w hSw; (try dsimp only at hSw); go_simp; (try with_reducible rfl))
                  simp only [Act.put, List.setIfInBounds_toArray, List.set_cons_zero, List.set_cons_succ]
                  refine take_first 26 123 (v := ?vrb_27) rfl rfl (by kernel_rfl) (by kernel_rfl) (by kernel_rfl) (fun _ _ _ h => h) (by rfl) ?yrb_27 (by assumption) ?rrb_27
                  case yrb_27 => (intro w hSw; (try dsimp only at hSw); go_simp; (try with_reducible rfl))
                  simp only [Act.put, List.setIfInBounds_toArray, List.set_cons_zero, List.set_cons_succ]
                  refine take_first 27 124 (v := ?vrb_28) rfl rfl (by kernel_rfl) (by kernel_rfl) (by kernel_rfl) (fun _ _ _ h => h) (by rfl) ?yrb_28 (by assumption) ?rrb_28
                  case yrb_28 => (intro w hSw; (try dsimp only at hSw); go_simp; (try with_reducible rfl))
                  simp only [Act.put, List.setIfInBounds_toArray, List.set_cons_zero, List.set_cons_succ]
                  refine take_first 28 125 (v := ?vrb_29) rfl rfl (by kernel_rfl) (by kernel_rfl) (by kernel_rfl) (fun _ _ _ h => h) (by rfl) ?yrb_29 (by assumption) ?rrb_29
                  case yrb_29 => (intro w hSw; (try dsimp only at hSw); go_simp; (try with_reducible rfl))
                  simp only [Act.put, List.setIfInBounds_toArray, List.set_cons_zero, List.set_cons_succ]
                  refine take_first 29 126 (v := ?vrb_30) rfl rfl (by kernel_rfl) (by kernel_rfl) (by kernel_rfl) (fun _ _ _ h => h) (by rfl) ?yrb_30 (by assumption) ?rrb_30
                  case yrb_30 => (intro w hSw; (try dsimp only at hSw); go_simp; (try with_reducible rfl))
                  simp only [Act.put, List.setIfInBounds_toArray, List.set_cons_zero, List.set_cons_succ]
                  refine take_first 30 127 (v := ?vrb_31) rfl rfl (by kernel_rfl) (by kernel_rfl) (by kernel_rfl) (fun _ _ _ h => h) (by rfl) ?yrb_31 (by assumption) ?rrb_31
                  case yrb_31 => (intro w hSw; (try dsimp only at hSw); go_simp; (try with_reducible rfl))
                  simp only [Act.put, List.setIfInBounds_toArray, List.set_cons_zero, List.set_cons_succ]
                  refine take_first 31 128 (v := ?vrb_32) rfl rfl (by kernel_rfl) (by kernel_rfl) (by kernel_rfl) (fun _ _ _ h => h) (by rfl) ?yrb_32 (by assumption) ?rrb_32
                  case yrb_32 => (intro w hSw; (try dsimp only at hSw); go_simp; (try with_reducible rfl))
                  simp only [Act.put, List.setIfInBounds_toArray, List.set_cons_zero, List.set_cons_succ]
                  refine take_first 32 129 (v := ?vrb_33) rfl rfl (by kernel_rfl) (by kernel_rfl) (by kernel_rfl) (fun _ _ _ h => h) (by rfl) ?yrb_33 (by assumption) ?rrb_33
                  case yrb_33 => (intro w hSw; (try dsimp only at hSw); go_simp; (try with_reducible rfl))
                  simp only [Act.put, List.setIfInBounds_toArray, List.set_cons_zero, List.set_cons_succ]
                  refine take_first 33 130 (v := ?vrb_34) rfl rfl (by kernel_rfl) (by kernel_rfl) (by kernel_rfl) (fun _ _ _ h => h) (by rfl) ?yrb_34 (by assumption) ?rrb_34
                  case yrb_34 => (intro w hSw; (try dsimp only at hSw); go_simp; (try with_reducible rfl))
                  simp only [Act.put, List.setIfInBounds_toArray, List.set_cons_zero, List.set_cons_succ]
                  refine take_first 34 131 (v := ?vrb_35) rfl rfl (by kernel_rfl) (by kernel_rfl) (by kernel_rfl) (fun _ _ _ h => h) (by rfl) ?yrb_35 (by assumption) ?rrb_35
                  case yrb_35 => (intro w hSw; (try dsimp only at hSw); go_simp; (try with_reducible rfl))
                  simp only [Act.put, List.setIfInBounds_toArray, List.set_cons_zero, List.set_cons_succ]
                  refine take_first 35 132 (v := ?vrb_36) rfl rfl (by kernel_rfl) (by kernel_rfl) (by kernel_rfl) (fun _ _ _ h => h) (by rfl) ?yrb_36 (by assumption) ?rrb_36
                  case yrb_36 => (intro w hSw; (try dsimp only at hSw); go_simp; (try with_reducible rfl))
                  simp only [Act.put, List.setIfInBounds_toArray, List.set_cons_zero, List.set_cons_succ]
                  refine take_first 36 133 (v := ?vrb_37) rfl rfl (by kernel_rfl) (by kernel_rfl) (by kernel_rfl) (fun _ _ _ h => h) (by rfl) ?yrb_37 (by assumption) ?rrb_37
                  case yrb_37 => (intro w hSw; (try dsimp only at hSw); go_simp; (try with_reducible rfl))
                  simp only [Act.put, List.setIfInBounds_toArray, List.set_cons_zero, List.set_cons_succ]
                  refine take_first 37 134 (v := ?vrb_38) rfl rfl (by kernel_rfl) (by kernel_rfl) (by kernel_rfl) (fun _ _ _ h => h) (by rfl) ?yrb_38 (by assumption) ?rrb_38
                  case yrb_38 => (intro w hSw; (try dsimp only at hSw); go_simp; (try with_reducible rfl))
                  simp only [Act.put, List.setIfInBounds_toArray, List.set_cons_zero, List.set_cons_succ]
                  refine take_first 38 135 (v := ?vrb_39) rfl rfl (by kernel_rfl) (by kernel_rfl) (by kernel_rfl) (fun _ _ _ h => h) (by rfl) ?yrb_39 (by assumption) ?rrb_39
                  case yrb_39 => (intro w hSw; (try dsimp only at hSw); go_simp; (try with_reducible rfl))
                  simp only [Act.put, List.setIfInBounds_toArray, List.set_cons_zero, List.set_cons_succ]
                  refine take_first 39 136 (v := ?vrb_40) rfl rfl (by kernel_rfl) (by kernel_rfl) (by kernel_rfl) (fun _ _ _ h => h) (by rfl) ?yrb_40 (by assumption) ?rrb_40
                  case yrb_40 => (intro w hSw; (try dsimp only at hSw); go_simp; (try with_reducible rfl))
                  simp only [Act.put, List.setIfInBounds_toArray, List.set_cons_zero, List.set_cons_succ]
                  refine take_first 40 137 (v := ?vrb_41) rfl rfl (by kernel_rfl) (by kernel_rfl) (by kernel_rfl) (fun _ _ _ h => h) (by rfl) ?yrb_41 (by assumption) ?rrb_41
                  case yrb_41 => (intro w hSw; (try dsimp only at hSw); go_simp; (try with_reducible rfl))
                  simp only [Act.put, List.setIfInBounds_toArray, List.set_cons_zero, List.set_cons_succ]
                  refine take_first 41 138 (v := ?vrb_42) rfl rfl (by kernel_rfl) (by kernel_rfl) (by kernel_rfl) (fun _ _ _ h => h) (by rfl) ?yrb_42 (by assumption) ?rrb_42
                  case yrb_42 => (intro w hSw; (try dsimp only at hSw); go_simp; (try with_reducible rfl))
                  simp only [Act.put, List.setIfInBounds_toArray, List.set_cons_zero, List.set_cons_succ]
                  refine take_first 42 139 (v := ?vrb_43) rfl rfl (by kernel_rfl) (by kernel_rfl) (by kernel_rfl) (fun _ _ _ h => h) (by rfl) ?yrb_43 (by assumption) ?rrb_43
                  case yrb_43 => (intro w hSw; (try dsimp only at hSw); go_simp; (try with_reducible rfl))
                  simp only [Act.put, List.setIfInBounds_toArray, List.set_cons_zero, List.set_cons_succ]
                  refine take_first 43 140 (v := ?vrb_44) rfl rfl (by kernel_rfl) (by kernel_rfl) (by kernel_rfl) (fun _ _ _ h => h) (by rfl) ?yrb_44 (by assumption) ?rrb_44
                  case yrb_44 => (intro w hSw; (try dsimp only at hSw); go_simp; (try with_reducible rfl))
                  simp only [Act.put, List.setIfInBounds_toArray, List.set_cons_zero, List.set_cons_succ]
                  refine take_first 44 141 (v := ?vrb_45) rfl rfl (by kernel_rfl) (by kernel_rfl) (by kernel_rfl) (fun _ _ _ h => h) (by rfl) ?yrb_45 (by assumption) ?rrb_45
                  case yrb_45 => (intro w hSw; (try dsimp only at hSw); go_simp; (try with_reducible rfl))
                  simp only [Act.put, List.setIfInBounds_toArray, List.set_cons_zero, List.set_cons_succ]
                  refine wpAnyH_ready (rs := [45]) (by kernel_rfl) (by simp) ?_
                  refine AllReadyH.cons (o := _) rfl (fun Krb_46 hKrb_46 => ?crb_46) ?mrb_46
                  case mrb_46 => exact AllReadyH.nil
                  go_simp
                  refine (jaInts_any _ _ _ _ it.val it.val HV1.out HV2.out).mono ?_; rintro e w9 ⟨rfl, n9, rfl⟩; rw [show decide (it.val = it.val) = true from decide_eq_true rfl]
                  go_wp2_with fail
                  refine hKrb_46.out _ _ ?krb_46 (fun hHeldrb_46 => ?drb_46)
                  case krb_46 => (first | (dsimp only; (exact k0)) | (exact k0))
                  clear hKrb_46 Krb_46
                  refine take_first 46 143 (v := ?vrb_47) rfl rfl (by kernel_rfl) (by kernel_rfl) (by kernel_rfl) (fun _ _ _ h => h) (by rfl) ?yrb_47 (by assumption) ?rrb_47
                  case yrb_47 => (intro w hSw; (try dsimp only at hSw); go_simp; (try with_reducible rfl))
                  simp only [Act.put, List.setIfInBounds_toArray, List.set_cons_zero, List.set_cons_succ]
                  refine take_first 47 144 (v := ?vrb_48) rfl rfl (by kernel_rfl) (by kernel_rfl) (by kernel_rfl) (fun _ _ _ h => h) (by rfl) ?yrb_48 (by assumption) ?rrb_48
                  case yrb_48 => (intro w hSw; (try dsimp only at hSw); go_simp; (try with_reducible rfl))
                  simp only [Act.put, List.setIfInBounds_toArray, List.set_cons_zero, List.set_cons_succ]
                  refine take_first 48 145 (v := ?vrb_49) rfl rfl (by kernel_rfl) (by kernel_rfl) (by kernel_rfl) (fun _ _ _ h => h) (by rfl) ?yrb_49 (by assumption) ?rrb_49
                  case yrb_49 => (intro w hSw; (try dsimp only at hSw); go_simp; (try with_reducible rfl))
                  simp only [Act.put, List.setIfInBounds_toArray, List.set_cons_zero, List.set_cons_succ]
                  refine wpAnyH_done (by kernel_rfl) ?erb _
                  clear k0
                  go_wp2
                  go_roundw
                  case rel => exact ⟨j + 1, by omega, by go_num, belowDraws HB6.out (1 + n9)⟩
                  case measure => simp [intOf]; omega
                ·
                  have hA := HT.out.1 ⟨rfl, by simpa using m0⟩
                  have w2c := HCY.out 2 (by omega)
                  dsimp only at w2c
                  rw [hA.2] at w2c
                  have l3 : it.val.length = 3 := by rw [← HT1.out]; exact hA.1
                  have l4 : 2 < it.val.length := by omega
                  have l5 : (2 : Int) < (it.val.length : Int) := by omega
                  clear hA l3
                  go_wp2
                  go_quiet (fail)
                  have HW6 := Lib.hid (belowDraws (Below.refl wr.heap.size wr) nq)
                  have k0 := HKK.out _ HW6.out
                  have k0 := And.intro k0.1 (And.intro k0.2.1 (And.intro k0.2.2.1 (And.intro k0.2.2.2 ((HW6.out.cell (p := ⟨by', oy' + 2, none⟩) (Nat.lt_of_lt_of_le hby' hzr)).trans w2c))))
                  have HB6 := Lib.hid (HB.out.trans (HW6.out.mono hzr))
                  clear HW6 HKK HB ckx cux ckk cu qq w0
                  generalize wr.drewN nq = w6 at *
                  go_wp2
                  refine wp_region_held_drew (S := (fun w' => w'.cell? ⟨bx, ofx + j * 2, none⟩ = some (.string it.key) ∧ w'.cell? ⟨bx, ofx + j * 2 + 1, none⟩ = some (.slice (some ⟨by', oy', none⟩) it.val.length cy') ∧ w'.cell? ⟨bi, ofi + j * 2, none⟩ = some (.string it.key) ∧ w'.cell? ⟨bi, ofi + j * 2 + 1, none⟩ = some (.slice (some ⟨bu', ou', none⟩) it.val.length cu') ∧ w'.cell? ⟨by', oy' + 2, none⟩ = some (.int .i64 0))) (by kernel_rfl) ?hSra (fun hHeldra => ?stra)
                  case hSra => (first | (dsimp only; (exact k0)) | (exact k0))
                  refine take_first 0 97 (v := ?vra_1) rfl rfl (by kernel_rfl) (by kernel_rfl) (by kernel_rfl) (fun _ _ _ h => h) (by rfl) ?yra_1 (by assumption) ?rra_1
                  case yra_1 => (intro w hSw; (try dsimp only at hSw); go_simp; (try with_reducible rfl))
                  simp only [Act.put, List.setIfInBounds_toArray, List.set_cons_zero, List.set_cons_succ]
                  refine take_first 1 98 (v := ?vra_2) rfl rfl (by kernel_rfl) (by kernel_rfl) (by kernel_rfl) (fun _ _ _ h => h) (by rfl) ?yra_2 (by assumption) ?rra_2
                  case yra_2 => (intro w hSw; (try dsimp only at hSw); go_simp; (try with_reducible rfl))
                  simp only [Act.put, List.setIfInBounds_toArray, List.set_cons_zero, List.set_cons_succ]
                  refine take_first 2 99 (v := ?vra_3) rfl rfl (by kernel_rfl) (by kernel_rfl) (by kernel_rfl) (fun _ _ _ h => h) (by rfl) ?yra_3 (by assumption) ?rra_3
                  case yra_3 => (intro w hSw; (try dsimp only at hSw); go_simp; (try with_reducible rfl))
                  simp only [Act.put, List.setIfInBounds_toArray, List.set_cons_zero, List.set_cons_succ]
                  refine take_first 3 100 (v := ?vra_4) rfl rfl (by kernel_rfl) (by kernel_rfl) (by kernel_rfl) (fun _ _ _ h => h) (by rfl) ?yra_4 (by assumption) ?rra_4
                  case yra_4 => (intro w hSw; (try dsimp only at hSw); go_simp; (try with_reducible rfl))
                  simp only [Act.put, List.setIfInBounds_toArray, List.set_cons_zero, List.set_cons_succ]
                  refine take_first 4 101 (v := ?vra_5) rfl rfl (by kernel_rfl) (by kernel_rfl) (by kernel_rfl) (fun _ _ _ h => h) (by rfl) ?yra_5 (by assumption) ?rra_5
                  case yra_5 => (intro w hSw; (try dsimp only at hSw); go_simp; (try with_reducible rfl))
                  simp only [Act.put, List.setIfInBounds_toArray, List.set_cons_zero, List.set_cons_succ]
                  refine take_first 5 102 (v := ?vra_6) rfl rfl (by kernel_rfl) (by kernel_rfl) (by kernel_rfl) (fun _ _ _ h => h) (by rfl) ?yra_6 (by assumption) ?rra_6
                  case yra_6 => (intro w hSw; (try dsimp only at hSw); go_simp; (try with_reducible rfl))
                  simp only [Act.put, List.setIfInBounds_toArray, List.set_cons_zero, List.set_cons_succ]
                  refine take_first 6 103 (v := ?vra_7) rfl rfl (by kernel_rfl) (by kernel_rfl) (by kernel_rfl) (fun _ _ _ h => h) (by rfl) ?yra_7 (by assumption) ?rra_7
                  case yra_7 => (intro w hSw; (try dsimp only at hSw); go_simp; (try with_reducible rfl))
                  simp only [Act.put, List.setIfInBounds_toArray, List.set_cons_zero, List.set_cons_succ]
                  refine take_first 7 104 (v := ?vra_8) rfl rfl (by kernel_rfl) (by kernel_rfl) (by kernel_rfl) (fun _ _ _ h => h) (by rfl) ?yra_8 (by assumption) ?rra_8
                  case yra_8 => (intro w hSw; (try dsimp only at hSw); go_simp; (try with_reducible rfl))
                  simp only [Act.put, List.setIfInBounds_toArray, List.set_cons_zero, List.set_cons_succ]
                  refine take_first 8 105 (v := ?vra_9) rfl rfl (by kernel_rfl) (by kernel_rfl) (by kernel_rfl) (fun _ _ _ h => h) (by rfl) ?yra_9 (by assumption) ?rra_9
                  case yra_9 => (intro w hSw; (try dsimp only at hSw); go_simp; (try with_reducible rfl))
                  simp only [Act.put, List.setIfInBounds_toArray, List.set_cons_zero, List.set_cons_succ]
                  refine take_first 9 106 (v := ?vra_10) rfl rfl (by kernel_rfl) (by kernel_rfl) (by kernel_rfl) (fun _ _ _ h => h) (by rfl) ?yra_10 (by assumption) ?rra_10
                  case yra_10 => (intro w hSw; (try dsimp only at hSw); go_simp; (try with_reducible rfl))
                  simp only [Act.put, List.setIfInBounds_toArray, List.set_cons_zero, List.set_cons_succ]
                  refine take_first 10 107 (v := ?vra_11) rfl rfl (by kernel_rfl) (by kernel_rfl) (by kernel_rfl) (fun _ _ _ h => h) (by rfl) ?yra_11 (by assumption) ?rra_11
                  case yra_11 => (intro w hSw; (try dsimp only at hSw); go_simp; (try with_reducible rfl))
                  simp only [Act.put, List.setIfInBounds_toArray, List.set_cons_zero, List.set_cons_succ]
                  refine take_first 11 108 (v := ?vra_12) rfl rfl (by kernel_rfl) (by kernel_rfl) (by kernel_rfl) (fun _ _ _ h => h) (by rfl) ?yra_12 (by assumption) ?rra_12
                  case yra_12 => (intro w hSw; (try dsimp only at hSw); go_simp; (try with_reducible rfl))
                  simp only [Act.put, List.setIfInBounds_toArray, List.set_cons_zero, List.set_cons_succ]
                  refine take_first 12 109 (v := ?vra_13) rfl rfl (by kernel_rfl) (by kernel_rfl) (by kernel_rfl) (fun _ _ _ h => h) (by rfl) ?yra_13 (by assumption) ?rra_13
                  case yra_13 => (intro w hSw; (try dsimp only at hSw); go_simp; (try with_reducible rfl))
                  simp only [Act.put, List.setIfInBounds_toArray, List.set_cons_zero, List.set_cons_succ]
                  refine take_first 13 110 (v := ?vra_14) rfl rfl (by kernel_rfl) (by kernel_rfl) (by kernel_rfl) (fun _ _ _ h => h) (by rfl) ?yra_14 (by assumption) ?rra_14
                  case yra_14 => (intro w hSw; (try dsimp only at hSw); go_simp; (try with_reducible rfl))
                  simp only [Act.put, List.setIfInBounds_toArray, List.set_cons_zero, List.set_cons_succ]
                  refine take_first 14 111 (v := ?vra_15) rfl rfl (by kernel_rfl) (by kernel_rfl) (by kernel_rfl) (fun _ _ _ h => h) (by rfl) ?yra_15 (by assumption) ?rra_15
                  case yra_15 => (intro w hSw; (try dsimp only at hSw); go_simp; (try with_reducible rfl))
                  simp only [Act.put, List.setIfInBounds_toArray, List.set_cons_zero, List.set_cons_succ]
                  refine take_first 15 112 (v := ?vra_16) rfl rfl (by kernel_rfl) (by kernel_rfl) (by kernel_rfl) (fun _ _ _ h => h) (by rfl) ?yra_16 (by assumption) ?rra_16
                  case yra_16 => (intro w hSw; (try dsimp only at hSw); go_simp; (try with_reducible rfl))
                  simp only [Act.put, List.setIfInBounds_toArray, List.set_cons_zero, List.set_cons_succ]
                  refine take_first 16 113 (v := ?vra_17) rfl rfl (by kernel_rfl) (by kernel_rfl) (by kernel_rfl) (fun _ _ _ h => h) (by rfl) ?yra_17 (by assumption) ?rra_17
                  case yra_17 => (intro w hSw; (try dsimp only at hSw); go_simp; (try with_reducible rfl))
                  simp only [Act.put, List.setIfInBounds_toArray, List.set_cons_zero, List.set_cons_succ]
                  refine take_first 17 114 (v := ?vra_18) rfl rfl (by kernel_rfl) (by kernel_rfl) (by kernel_rfl) (fun _ _ _ h => h) (by rfl) ?yra_18 (by assumption) ?rra_18
                  case yra_18 => (intro w hSw; (try dsimp only at hSw); go_simp; (try with_reducible rfl))
                  simp only [Act.put, List.setIfInBounds_toArray, List.set_cons_zero, List.set_cons_succ]
                  refine take_first 18 115 (v := ?vra_19) rfl rfl (by kernel_rfl) (by kernel_rfl) (by kernel_rfl) (fun _ _ _ h => h) (by rfl) ?yra_19 (by assumption) ?rra_19
                  case yra_19 => (intro w hSw; (try dsimp only at hSw); go_simp; (try with_reducible rfl))
                  simp only [Act.put, List.setIfInBounds_toArray, List.set_cons_zero, List.set_cons_succ]
                  refine take_first 19 116 (v := ?vra_20) rfl rfl (by kernel_rfl) (by kernel_rfl) (by kernel_rfl) (fun _ _ _ h => h) (by rfl) ?yra_20 (by assumption) ?rra_20
                  case yra_20 => (intro w hSw; (try dsimp only at hSw); go_simp; (try with_reducible rfl))
                  simp only [Act.put, List.setIfInBounds_toArray, List.set_cons_zero, List.set_cons_succ]
                  refine take_first 20 117 (v := ?vra_21) rfl rfl (by kernel_rfl) (by kernel_rfl) (by kernel_rfl) (fun _ _ _ h => h) (by rfl) ?yra_21 (by assumption) ?rra_21
                  case yra_21 => (intro w hSw; (try dsimp only at hSw); go_simp; (try with_reducible rfl))
                  simp only [Act.put, List.setIfInBounds_toArray, List.set_cons_zero, List.set_cons_succ]
                  refine take_first 21 118 (v := ?vra_22) rfl rfl (by kernel_rfl) (by kernel_rfl) (by kernel_rfl) (fun _ _ _ h => h) (by rfl) ?yra_22 (by assumption) ?rra_22
                  case yra_22 => (intro w hSw; (try dsimp only at hSw); go_simp; (try with_reducible rfl))
                  simp only [Act.put, List.setIfInBounds_toArray, List.set_cons_zero, List.set_cons_succ]
                  refine take_first 22 119 (v := ?vra_23) rfl rfl (by kernel_rfl) (by kernel_rfl) (by kernel_rfl) (fun _ _ _ h => h) (by rfl) ?yra_23 (by assumption) ?rra_23
                  case yra_23 => (intro w hSw; (try dsimp only at hSw); go_simp; (try with_reducible rfl))
                  simp only [Act.put, List.setIfInBounds_toArray, List.set_cons_zero, List.set_cons_succ]
                  refine take_first 23 120 (v := ?vra_24) rfl rfl (by kernel_rfl) (by kernel_rfl) (by kernel_rfl) (fun _ _ _ h => h) (by rfl) ?yra_24 (by assumption) ?rra_24
                  case yra_24 => (intro w hSw; (try dsimp only at hSw); go_simp; (try with_reducible rfl))
                  simp only [Act.put, List.setIfInBounds_toArray, List.set_cons_zero, List.set_cons_succ]
                  refine take_first 24 121 (v := ?vra_25) rfl rfl (by kernel_rfl) (by kernel_rfl) (by kernel_rfl) (fun _ _ _ h => h) (by rfl) ?yra_25 (by assumption) ?rra_25
                  case yra_25 => (intro w hSw; (try dsimp only at hSw); go_simp; (try with_reducible rfl))
                  simp only [Act.put, List.setIfInBounds_toArray, List.set_cons_zero, List.set_cons_succ]
                  refine take_first 25 122 (v := ?vra_26) rfl rfl (by kernel_rfl) (by kernel_rfl) (by kernel_rfl) (fun _ _ _ h => h) (by rfl) ?yra_26 (by assumption) ?rra_26
                  case yra_26 => (intro w hSw; (try dsimp only at hSw); go_simp; (try with_reducible rfl))
                  simp only [Act.put, List.setIfInBounds_toArray, List.set_cons_zero, List.set_cons_succ]
                  refine take_first 26 123 (v := ?vra_27) rfl rfl (by kernel_rfl) (by kernel_rfl) (by kernel_rfl) (fun _ _ _ h => h) (by rfl) ?yra_27 (by assumption) ?rra_27
                  case yra_27 => (intro w hSw; (try dsimp only at hSw); go_simp; (try with_reducible rfl))
                  simp only [Act.put, List.setIfInBounds_toArray, List.set_cons_zero, List.set_cons_succ]
                  refine take_first 27 124 (v := ?vra_28) rfl rfl (by kernel_rfl) (by kernel_rfl) (by kernel_rfl) (fun _ _ _ h => h) (by rfl) ?yra_28 (by assumption) ?rra_28
                  case yra_28 => (intro w hSw; (try dsimp only at hSw); go_simp; (try with_reducible rfl))
                  simp only [Act.put, List.setIfInBounds_toArray, List.set_cons_zero, List.set_cons_succ]
                  refine take_first 28 125 (v := ?vra_29) rfl rfl (by kernel_rfl) (by kernel_rfl) (by kernel_rfl) (fun _ _ _ h => h) (by rfl) ?yra_29 (by assumption) ?rra_29
                  case yra_29 => (intro w hSw; (try dsimp only at hSw); go_simp; (try with_reducible rfl))
                  simp only [Act.put, List.setIfInBounds_toArray, List.set_cons_zero, List.set_cons_succ]
                  refine take_first 29 126 (v := ?vra_30) rfl rfl (by kernel_rfl) (by kernel_rfl) (by kernel_rfl) (fun _ _ _ h => h) (by rfl) ?yra_30 (by assumption) ?rra_30
                  case yra_30 => (intro w hSw; (try dsimp only at hSw); go_simp; (try with_reducible rfl))
                  simp only [Act.put, List.setIfInBounds_toArray, List.set_cons_zero, List.set_cons_succ]
                  refine take_first 30 127 (v := ?vra_31) rfl rfl (by kernel_rfl) (by kernel_rfl) (by kernel_rfl) (fun _ _ _ h => h) (by rfl) ?yra_31 (by assumption) ?rra_31
                  case yra_31 => (intro w hSw; (try dsimp only at hSw); go_simp; (try with_reducible rfl))
                  simp only [Act.put, List.setIfInBounds_toArray, List.set_cons_zero, List.set_cons_succ]
                  refine take_first 31 128 (v := ?vra_32) rfl rfl (by kernel_rfl) (by kernel_rfl) (by kernel_rfl) (fun _ _ _ h => h) (by rfl) ?yra_32 (by assumption) ?rra_32
                  case yra_32 => (intro w hSw; (try dsimp only at hSw); go_simp; (try with_reducible rfl))
                  simp only [Act.put, List.setIfInBounds_toArray, List.set_cons_zero, List.set_cons_succ]
                  refine take_first 32 129 (v := ?vra_33) rfl rfl (by kernel_rfl) (by kernel_rfl) (by kernel_rfl) (fun _ _ _ h => h) (by rfl) ?yra_33 (by assumption) ?rra_33
                  case yra_33 => (intro w hSw; (try dsimp only at hSw); go_simp; (try with_reducible rfl))
                  simp only [Act.put, List.setIfInBounds_toArray, List.set_cons_zero, List.set_cons_succ]
                  refine take_first 33 130 (v := ?vra_34) rfl rfl (by kernel_rfl) (by kernel_rfl) (by kernel_rfl) (fun _ _ _ h => h) (by rfl) ?yra_34 (by assumption) ?rra_34
                  case yra_34 => (intro w hSw; (try dsimp only at hSw); go_simp; (try with_reducible rfl))
                  simp only [Act.put, List.setIfInBounds_toArray, List.set_cons_zero, List.set_cons_succ]
                  refine take_first 34 131 (v := ?vra_35) rfl rfl (by kernel_rfl) (by kernel_rfl) (by kernel_rfl) (fun _ _ _ h => h) (by rfl) ?yra_35 (by assumption) ?rra_35
                  case yra_35 => (intro w hSw; (try dsimp only at hSw); go_simp; (try with_reducible rfl))
                  simp only [Act.put, List.setIfInBounds_toArray, List.set_cons_zero, List.set_cons_succ]
                  refine pass_over 35 132 rfl rfl (by kernel_rfl) (by kernel_rfl) (by kernel_rfl) (fun _ _ _ h => h) (by rfl) (by assumption) ?rra_36
                  simp only [Act.put, List.setIfInBounds_toArray, List.set_cons_zero, List.set_cons_succ]
                  refine pass_over 36 133 rfl rfl (by kernel_rfl) (by kernel_rfl) (by kernel_rfl) (fun _ _ _ h => h) (by rfl) (by assumption) ?rra_37
                  simp only [Act.put, List.setIfInBounds_toArray, List.set_cons_zero, List.set_cons_succ]
                  refine pass_over 37 134 rfl rfl (by kernel_rfl) (by kernel_rfl) (by kernel_rfl) (fun _ _ _ h => h) (by rfl) (by assumption) ?rra_38
                  simp only [Act.put, List.setIfInBounds_toArray, List.set_cons_zero, List.set_cons_succ]
                  refine pass_over 38 135 rfl rfl (by kernel_rfl) (by kernel_rfl) (by kernel_rfl) (fun _ _ _ h => h) (by rfl) (by assumption) ?rra_39
                  simp only [Act.put, List.setIfInBounds_toArray, List.set_cons_zero, List.set_cons_succ]
                  refine pass_over 39 136 rfl rfl (by kernel_rfl) (by kernel_rfl) (by kernel_rfl) (fun _ _ _ h => h) (by rfl) (by assumption) ?rra_40
                  simp only [Act.put, List.setIfInBounds_toArray, List.set_cons_zero, List.set_cons_succ]
                  refine pass_over 40 137 rfl rfl (by kernel_rfl) (by kernel_rfl) (by kernel_rfl) (fun _ _ _ h => h) (by rfl) (by assumption) ?rra_41
                  simp only [Act.put, List.setIfInBounds_toArray, List.set_cons_zero, List.set_cons_succ]
                  refine pass_over 41 138 rfl rfl (by kernel_rfl) (by kernel_rfl) (by kernel_rfl) (fun _ _ _ h => h) (by rfl) (by assumption) ?rra_42
                  simp only [Act.put, List.setIfInBounds_toArray, List.set_cons_zero, List.set_cons_succ]
                  refine pass_over 42 139 rfl rfl (by kernel_rfl) (by kernel_rfl) (by kernel_rfl) (fun _ _ _ h => h) (by rfl) (by assumption) ?rra_43
                  simp only [Act.put, List.setIfInBounds_toArray, List.set_cons_zero, List.set_cons_succ]
                  refine pass_over 43 140 rfl rfl (by kernel_rfl) (by kernel_rfl) (by kernel_rfl) (fun _ _ _ h => h) (by rfl) (by assumption) ?rra_44
                  simp only [Act.put, List.setIfInBounds_toArray, List.set_cons_zero, List.set_cons_succ]
                  refine pass_over 44 141 rfl rfl (by kernel_rfl) (by kernel_rfl) (by kernel_rfl) (fun _ _ _ h => h) (by rfl) (by assumption) ?rra_45
                  simp only [Act.put, List.setIfInBounds_toArray, List.set_cons_zero, List.set_cons_succ]
                  refine pass_over 45 142 rfl rfl (by kernel_rfl) (by kernel_rfl) (by kernel_rfl) (fun _ _ _ h => h) (by rfl) (by assumption) ?rra_46
                  simp only [Act.put, List.setIfInBounds_toArray, List.set_cons_zero, List.set_cons_succ]
                  refine pass_over 46 143 rfl rfl (by kernel_rfl) (by kernel_rfl) (by kernel_rfl) (fun _ _ _ h => h) (by rfl) (by assumption) ?rra_47
                  simp only [Act.put, List.setIfInBounds_toArray, List.set_cons_zero, List.set_cons_succ]
                  refine take_first 47 144 (v := ?vra_48) rfl rfl (by kernel_rfl) (by kernel_rfl) (by kernel_rfl) (fun _ _ _ h => h) (by rfl) ?yra_48 (by assumption) ?rra_48
                  case yra_48 => (intro w hSw; (try dsimp only at hSw); go_simp; (try with_reducible rfl))
                  simp only [Act.put, List.setIfInBounds_toArray, List.set_cons_zero, List.set_cons_succ]
                  refine take_first 48 145 (v := ?vra_49) rfl rfl (by kernel_rfl) (by kernel_rfl) (by kernel_rfl) (fun _ _ _ h => h) (by rfl) ?yra_49 (by assumption) ?rra_49
                  case yra_49 => (intro w hSw; (try dsimp only at hSw); go_simp; (try with_reducible rfl))
                  simp only [Act.put, List.setIfInBounds_toArray, List.set_cons_zero, List.set_cons_succ]
                  refine wpAnyH_done (by kernel_rfl) ?era _
                  clear k0
                  go_wp2
                  go_roundw
                  case rel => exact ⟨j + 1, by omega, by go_num, HB6.out.drew⟩
                  case measure => simp [intOf]; omega
              · have g1 : (ch == 102) = false := by simpa using h102
                have HEV := Lib.hid (HT.out.2 (fun h => h102 h.1))
                clear h102
                rcases m0 : (nth it.val 0 == o.who)
                ·
                  go_wp2
                  go_quiet (fail)
                  have HW6 := Lib.hid (belowDraws (Below.refl wr.heap.size wr) nq)
                  have k0 := HKK.out _ HW6.out
                  have HB6 := Lib.hid (HB.out.trans (HW6.out.mono hzr))
                  have hv1 := HUX.out.below (HW6.out.mono hzr)
                  have hv2 := HU.out.below (HW6.out.mono hzr)
                  rw [HEV.out] at hv1
                  clear HW6 HKK HB ckx cux ckk cu qq w0
                  generalize wr.drewN nq = w6 at *
                  have HV1 := Lib.hid (show Ints w6.drew w3.heap.size (.slice (some ⟨by', oy', none⟩) it.val.length cy') it.val from hv1)
                  have HV2 := Lib.hid (show Ints w6.drew w3.heap.size (.slice (some ⟨bu', ou', none⟩) it.val.length cu') it.val from hv2)
                  clear hv1 hv2
                  go_wp2
                  refine wp_region_held_drew (S := (fun w' => w'.cell? ⟨bx, ofx + j * 2, none⟩ = some (.string it.key) ∧ w'.cell? ⟨bx, ofx + j * 2 + 1, none⟩ = some (.slice (some ⟨by', oy', none⟩) it.val.length cy') ∧ w'.cell? ⟨bi, ofi + j * 2, none⟩ = some (.string it.key) ∧ w'.cell? ⟨bi, ofi + j * 2 + 1, none⟩ = some (.slice (some ⟨bu', ou', none⟩) it.val.length cu'))) (by kernel_rfl) ?hSrc (fun hHeldrc => ?strc)
                  case hSrc => (first | (dsimp only; (exact k0)) | (exact k0))
                  refine take_first 0 97 (v := ?vrc_1) rfl rfl (by kernel_rfl) (by kernel_rfl) (by kernel_rfl) (fun _ _ _ h => h) (by rfl) ?yrc_1 (by assumption) ?rrc_1
                  case yrc_1 => (intro w hSw; (try dsimp only at hSw); go_simp; (try with_reducible rfl))
                  simp only [Act.put, List.setIfInBounds_toArray, List.set_cons_zero, List.set_cons_succ]
                  refine take_first 1 98 (v := ?vrc_2) rfl rfl (by kernel_rfl) (by kernel_rfl) (by kernel_rfl) (fun _ _ _ h => h) (by rfl) ?yrc_2 (by assumption) ?rrc_2
                  case yrc_2 => (intro w hSw; (try dsimp only at hSw); go_simp; (try with_reducible rfl))
                  simp only [Act.put, List.setIfInBounds_toArray, List.set_cons_zero, List.set_cons_succ]
                  refine take_first 2 99 (v := ?vrc_3) rfl rfl (by kernel_rfl) (by kernel_rfl) (by kernel_rfl) (fun _ _ _ h => h) (by rfl) ?yrc_3 (by assumption) ?rrc_3
                  case yrc_3 => (intro w hSw; (try dsimp only at hSw); go_simp; (try with_reducible rfl))
                  simp only [Act.put, List.setIfInBounds_toArray, List.set_cons_zero, List.set_cons_succ]
                  refine take_first 3 100 (v := ?vrc_4) rfl rfl (by kernel_rfl) (by kernel_rfl) (by kernel_rfl) (fun _ _ _ h => h) (by rfl) ?yrc_4 (by assumption) ?rrc_4
                  case yrc_4 => (intro w hSw; (try dsimp only at hSw); go_simp; (try with_reducible rfl))
                  simp only [Act.put, List.setIfInBounds_toArray, List.set_cons_zero, List.set_cons_succ]
                  refine take_first 4 101 (v := ?vrc_5) rfl rfl (by kernel_rfl) (by kernel_rfl) (by kernel_rfl) (fun _ _ _ h => h) (by rfl) ?yrc_5 (by assumption) ?rrc_5
                  case yrc_5 => (intro w hSw; (try dsimp only at hSw); go_simp; (try with_reducible rfl))
                  simp only [Act.put, List.setIfInBounds_toArray, List.set_cons_zero, List.set_cons_succ]
                  refine take_first 5 102 (v := ?vrc_6) rfl rfl (by kernel_rfl) (by kernel_rfl) (by kernel_rfl) (fun _ _ _ h => h) (by rfl) ?yrc_6 (by assumption) ?rrc_6
                  case yrc_6 => (intro w hSw; (try dsimp only at hSw); go_simp; (try with_reducible rfl))
                  simp only [Act.put, List.setIfInBounds_toArray, List.set_cons_zero, List.set_cons_succ]
                  refine take_first 6 103 (v := ?vrc_7) rfl rfl (by kernel_rfl) (by kernel_rfl) (by kernel_rfl) (fun _ _ _ h => h) (by rfl) ?yrc_7 (by assumption) ?rrc_7
                  case yrc_7 => (intro w hSw; (try dsimp only at hSw); go_simp; (try with_reducible rfl))
                  simp only [Act.put, List.setIfInBounds_toArray, List.set_cons_zero, List.set_cons_succ]
                  refine take_first 7 104 (v := ?vrc_8) rfl rfl (by kernel_rfl) (by kernel_rfl) (by kernel_rfl) (fun _ _ _ h => h) (by rfl) ?yrc_8 (by assumption) ?rrc_8
                  case yrc_8 => (intro w hSw; (try dsimp only at hSw); go_simp; (try with_reducible rfl))
                  simp only [Act.put, List.setIfInBounds_toArray, List.set_cons_zero, List.set_cons_succ]
                  refine take_first 8 105 (v := ?vrc_9) rfl rfl (by kernel_rfl) (by kernel_rfl) (by kernel_rfl) (fun _ _ _ h => h) (by rfl) ?yrc_9 (by assumption) ?rrc_9
                  case yrc_9 => (intro w hSw; (try dsimp only at hSw); go_simp; (try with_reducible rfl))
                  simp only [Act.put, List.setIfInBounds_toArray, List.set_cons_zero, List.set_cons_succ]
                  refine take_first 9 106 (v := ?vrc_10) rfl rfl (by kernel_rfl) (by kernel_rfl) (by kernel_rfl) (fun _ _ _ h => h) (by rfl) ?yrc_10 (by assumption) ?rrc_10
                  case yrc_10 => (intro w hSw; (try dsimp only at hSw); go_simp; (try with_reducible rfl))
                  simp only [Act.put, List.setIfInBounds_toArray, List.set_cons_zero, List.set_cons_succ]
                  refine take_first 10 107 (v := ?vrc_11) rfl rfl (by kernel_rfl) (by kernel_rfl) (by kernel_rfl) (fun _ _ _ h => h) (by rfl) ?yrc_11 (by assumption) ?rrc_11
                  case yrc_11 => (intro w hSw; (try dsimp only at hSw); go_simp; (try with_reducible rfl))
                  simp only [Act.put, List.setIfInBounds_toArray, List.set_cons_zero, List.set_cons_succ]
                  refine take_first 11 108 (v := ?vrc_12) rfl rfl (by kernel_rfl) (by kernel_rfl) (by kernel_rfl) (fun _ _ _ h => h) (by rfl) ?yrc_12 (by assumption) ?rrc_12
                  case yrc_12 => (intro w hSw; (try dsimp only at hSw); go_simp; (try with_reducible rfl))
                  simp only [Act.put, List.setIfInBounds_toArray, List.set_cons_zero, List.set_cons_succ]
                  refine take_first 12 109 (v := ?vrc_13) rfl rfl (by kernel_rfl) (by kernel_rfl) (by kernel_rfl) (fun _ _ _ h => h) (by rfl) ?yrc_13 (by assumption) ?rrc_13
                  case yrc_13 => (intro w hSw; (try dsimp only at hSw); go_simp; (try with_reducible rfl))
                  simp only [Act.put, List.setIfInBounds_toArray, List.set_cons_zero, List.set_cons_succ]
                  refine take_first 13 110 (v := ?vrc_14) rfl rfl (by kernel_rfl) (by kernel_rfl) (by kernel_rfl) (fun _ _ _ h => h) (by rfl) ?yrc_14 (by assumption) ?rrc_14
                  case yrc_14 => (intro w hSw; (try dsimp only at hSw); go_simp; (try with_reducible rfl))
                  simp only [Act.put, List.setIfInBounds_toArray, List.set_cons_zero, List.set_cons_succ]
                  refine pass_over 14 111 rfl rfl (by kernel_rfl) (by kernel_rfl) (by kernel_rfl) (fun _ _ _ h => h) (by rfl) (by assumption) ?rrc_15
                  simp only [Act.put, List.setIfInBounds_toArray, List.set_cons_zero, List.set_cons_succ]
                  refine take_first 15 112 (v := ?vrc_16) rfl rfl (by kernel_rfl) (by kernel_rfl) (by kernel_rfl) (fun _ _ _ h => h) (by rfl) ?yrc_16 (by assumption) ?rrc_16
                  case yrc_16 => (intro w hSw; (try dsimp only at hSw); go_simp; (try with_reducible rfl))
                  simp only [Act.put, List.setIfInBounds_toArray, List.set_cons_zero, List.set_cons_succ]
                  refine take_first 16 113 (v := ?vrc_17) rfl rfl (by kernel_rfl) (by kernel_rfl) (by kernel_rfl) (fun _ _ _ h => h) (by rfl) ?yrc_17 (by assumption) ?rrc_17
                  case yrc_17 => (intro w hSw; (try dsimp only at hSw); go_simp; (try with_reducible rfl))
                  simp only [Act.put, List.setIfInBounds_toArray, List.set_cons_zero, List.set_cons_succ]
                  refine pass_over 17 114 rfl rfl (by kernel_rfl) (by kernel_rfl) (by kernel_rfl) (fun _ _ _ h => h) (by rfl) (by assumption) ?rrc_18
                  simp only [Act.put, List.setIfInBounds_toArray, List.set_cons_zero, List.set_cons_succ]
                  refine pass_over 18 115 rfl rfl (by kernel_rfl) (by kernel_rfl) (by kernel_rfl) (fun _ _ _ h => h) (by rfl) (by assumption) ?rrc_19
                  simp only [Act.put, List.setIfInBounds_toArray, List.set_cons_zero, List.set_cons_succ]
                  refine pass_over 19 116 rfl rfl (by kernel_rfl) (by kernel_rfl) (by kernel_rfl) (fun _ _ _ h => h) (by rfl) (by assumption) ?rrc_20
                  simp only [Act.put, List.setIfInBounds_toArray, List.set_cons_zero, List.set_cons_succ]
                  refine pass_over 20 117 rfl rfl (by kernel_rfl) (by kernel_rfl) (by kernel_rfl) (fun _ _ _ h => h) (by rfl) (by assumption) ?rrc_21
                  simp only [Act.put, List.setIfInBounds_toArray, List.set_cons_zero, List.set_cons_succ]
                  refine pass_over 21 118 rfl rfl (by kernel_rfl) (by kernel_rfl) (by kernel_rfl) (fun _ _ _ h => h) (by rfl) (by assumption) ?rrc_22
                  simp only [Act.put, List.setIfInBounds_toArray, List.set_cons_zero, List.set_cons_succ]
                  refine pass_over 22 119 rfl rfl (by kernel_rfl) (by kernel_rfl) (by kernel_rfl) (fun _ _ _ h => h) (by rfl) (by assumption) ?rrc_23
                  simp only [Act.put, List.setIfInBounds_toArray, List.set_cons_zero, List.set_cons_succ]
                  refine pass_over 23 120 rfl rfl (by kernel_rfl) (by kernel_rfl) (by kernel_rfl) (fun _ _ _ h => h) (by rfl) (by assumption) ?rrc_24
                  simp only [Act.put, List.setIfInBounds_toArray, List.set_cons_zero, List.set_cons_succ]
                  refine pass_over 24 121 rfl rfl (by kernel_rfl) (by kernel_rfl) (by kernel_rfl) (fun _ _ _ h => h) (by rfl) (by assumption) ?rrc_25
                  simp only [Act.put, List.setIfInBounds_toArray, List.set_cons_zero, List.set_cons_succ]
                  refine take_first 25 122 (v := ?vrc_26) rfl rfl (by kernel_rfl) (by kernel_rfl) (by kernel_rfl) (fun _ _ _ h => h) (by rfl) ?yrc_26 (by assumption) ?rrc_26
                  case yrc_26 => (intro w hSw; (try dsimp only at hSw); go_simp; (try with_reducible rfl))
                  simp only [Act.put, List.setIfInBounds_toArray, List.set_cons_zero, List.set_cons_succ]
                  refine take_first 26 123 (v := ?vrc_27) rfl rfl (by kernel_rfl) (by kernel_rfl) (by kernel_rfl) (fun _ _ _ h => h) (by rfl) ?yrc_27 (by assumption) ?rrc_27
                  case yrc_27 => (intro w hSw; (try dsimp only at hSw); go_simp; (try with_reducible rfl))
                  simp only [Act.put, List.setIfInBounds_toArray, List.set_cons_zero, List.set_cons_succ]
                  refine take_first 27 124 (v := ?vrc_28) rfl rfl (by kernel_rfl) (by kernel_rfl) (by kernel_rfl) (fun _ _ _ h => h) (by rfl) ?yrc_28 (by assumption) ?rrc_28
                  case yrc_28 => (intro w hSw; (try dsimp only at hSw); go_simp; (try with_reducible rfl))
                  simp only [Act.put, List.setIfInBounds_toArray, List.set_cons_zero, List.set_cons_succ]
                  refine take_first 28 125 (v := ?vrc_29) rfl rfl (by kernel_rfl) (by kernel_rfl) (by kernel_rfl) (fun _ _ _ h => h) (by rfl) ?yrc_29 (by assumption) ?rrc_29
                  case yrc_29 => (intro w hSw; (try dsimp only at hSw); go_simp; (try with_reducible rfl))
                  simp only [Act.put, List.setIfInBounds_toArray, List.set_cons_zero, List.set_cons_succ]
                  refine take_first 29 126 (v := ?vrc_30) rfl rfl (by kernel_rfl) (by kernel_rfl) (by kernel_rfl) (fun _ _ _ h => h) (by rfl) ?yrc_30 (by assumption) ?rrc_30
                  case yrc_30 => (intro w hSw; (try dsimp only at hSw); go_simp; (try with_reducible rfl))
                  simp only [Act.put, List.setIfInBounds_toArray, List.set_cons_zero, List.set_cons_succ]
                  refine take_first 30 127 (v := ?vrc_31) rfl rfl (by kernel_rfl) (by kernel_rfl) (by kernel_rfl) (fun _ _ _ h => h) (by rfl) ?yrc_31 (by assumption) ?rrc_31
                  case yrc_31 => (intro w hSw; (try dsimp only at hSw); go_simp; (try with_reducible rfl))
                  simp only [Act.put, List.setIfInBounds_toArray, List.set_cons_zero, List.set_cons_succ]
                  refine pass_over 31 128 rfl rfl (by kernel_rfl) (by kernel_rfl) (by kernel_rfl) (fun _ _ _ h => h) (by rfl) (by assumption) ?rrc_32
                  simp only [Act.put, List.setIfInBounds_toArray, List.set_cons_zero, List.set_cons_succ]
                  refine pass_over 32 129 rfl rfl (by kernel_rfl) (by kernel_rfl) (by kernel_rfl) (fun _ _ _ h => h) (by rfl) (by assumption) ?rrc_33
                  simp only [Act.put, List.setIfInBounds_toArray, List.set_cons_zero, List.set_cons_succ]
                  refine take_first 33 130 (v := ?vrc_34) rfl rfl (by kernel_rfl) (by kernel_rfl) (by kernel_rfl) (fun _ _ _ h => h) (by rfl) ?yrc_34 (by assumption) ?rrc_34
                  case yrc_34 => (intro w hSw; (try dsimp only at hSw); go_simp; (try with_reducible rfl))
                  simp only [Act.put, List.setIfInBounds_toArray, List.set_cons_zero, List.set_cons_succ]
                  refine take_first 34 131 (v := ?vrc_35) rfl rfl (by kernel_rfl) (by kernel_rfl) (by kernel_rfl) (fun _ _ _ h => h) (by rfl) ?yrc_35 (by assumption) ?rrc_35
                  case yrc_35 => (intro w hSw; (try dsimp only at hSw); go_simp; (try with_reducible rfl))
                  simp only [Act.put, List.setIfInBounds_toArray, List.set_cons_zero, List.set_cons_succ]
                  refine take_first 35 132 (v := ?vrc_36) rfl rfl (by kernel_rfl) (by kernel_rfl) (by kernel_rfl) (fun _ _ _ h => h) (by rfl) ?yrc_36 (by assumption) ?rrc_36
                  case yrc_36 => (intro w hSw; (try dsimp only at hSw); go_simp; (try with_reducible rfl))
                  simp only [Act.put, List.setIfInBounds_toArray, List.set_cons_zero, List.set_cons_succ]
                  refine take_first 36 133 (v := ?vrc_37) rfl rfl (by kernel_rfl) (by kernel_rfl) (by kernel_rfl) (fun _ _ _ h => h) (by rfl) ?yrc_37 (by assumption) ?rrc_37
                  case yrc_37 => (intro w hSw; (try dsimp only at hSw); go_simp; (try with_reducible rfl))
                  simp only [Act.put, List.setIfInBounds_toArray, List.set_cons_zero, List.set_cons_succ]
                  refine take_first 37 134 (v := ?vrc_38) rfl rfl (by kernel_rfl) (by kernel_rfl) (by kernel_rfl) (fun _ _ _ h => h) (by rfl) ?yrc_38 (by assumption) ?rrc_38
                  case yrc_38 => (intro w hSw; (try dsimp only at hSw); go_simp; (try with_reducible rfl))
                  simp only [Act.put, List.setIfInBounds_toArray, List.set_cons_zero, List.set_cons_succ]
                  refine take_first 38 135 (v := ?vrc_39) rfl rfl (by kernel_rfl) (by kernel_rfl) (by kernel_rfl) (fun _ _ _ h => h) (by rfl) ?yrc_39 (by assumption) ?rrc_39
                  case yrc_39 => (intro w hSw; (try dsimp only at hSw); go_simp; (try with_reducible rfl))
                  simp only [Act.put, List.setIfInBounds_toArray, List.set_cons_zero, List.set_cons_succ]
                  refine take_first 39 136 (v := ?vrc_40) rfl rfl (by kernel_rfl) (by kernel_rfl) (by kernel_rfl) (fun _ _ _ h => h) (by rfl) ?yrc_40 (by assumption) ?rrc_40
                  case yrc_40 => (intro w hSw; (try dsimp only at hSw); go_simp; (try with_reducible rfl))
                  simp only [Act.put, List.setIfInBounds_toArray, List.set_cons_zero, List.set_cons_succ]
                  refine take_first 40 137 (v := ?vrc_41) rfl rfl (by kernel_rfl) (by kernel_rfl) (by kernel_rfl) (fun _ _ _ h => h) (by rfl) ?yrc_41 (by assumption) ?rrc_41
                  case yrc_41 => (intro w hSw; (try dsimp only at hSw); go_simp; (try with_reducible rfl))
                  simp only [Act.put, List.setIfInBounds_toArray, List.set_cons_zero, List.set_cons_succ]
                  refine take_first 41 138 (v := ?vrc_42) rfl rfl (by kernel_rfl) (by kernel_rfl) (by kernel_rfl) (fun _ _ _ h => h) (by rfl) ?yrc_42 (by assumption) ?rrc_42
                  case yrc_42 => (intro w hSw; (try dsimp only at hSw); go_simp; (try with_reducible rfl))
                  simp only [Act.put, List.setIfInBounds_toArray, List.set_cons_zero, List.set_cons_succ]
                  refine take_first 42 139 (v := ?vrc_43) rfl rfl (by kernel_rfl) (by kernel_rfl) (by kernel_rfl) (fun _ _ _ h => h) (by rfl) ?yrc_43 (by assumption) ?rrc_43
                  case yrc_43 => (intro w hSw; (try dsimp only at hSw); go_simp; (try with_reducible rfl))
                  simp only [Act.put, List.setIfInBounds_toArray, List.set_cons_zero, List.set_cons_succ]
                  refine take_first 43 140 (v := ?vrc_44) rfl rfl (by kernel_rfl) (by kernel_rfl) (by kernel_rfl) (fun _ _ _ h => h) (by rfl) ?yrc_44 (by assumption) ?rrc_44
                  case yrc_44 => (intro w hSw; (try dsimp only at hSw); go_simp; (try with_reducible rfl))
                  simp only [Act.put, List.setIfInBounds_toArray, List.set_cons_zero, List.set_cons_succ]
                  refine take_first 44 141 (v := ?vrc_45) rfl rfl (by kernel_rfl) (by kernel_rfl) (by kernel_rfl) (fun _ _ _ h => h) (by rfl) ?yrc_45 (by assumption) ?rrc_45
                  case yrc_45 => (intro w hSw; (try dsimp only at hSw); go_simp; (try with_reducible rfl))
                  simp only [Act.put, List.setIfInBounds_toArray, List.set_cons_zero, List.set_cons_succ]
                  refine wpAnyH_ready (rs := [45]) (by kernel_rfl) (by simp) ?_
                  refine AllReadyH.cons (o := _) rfl (fun Krc_46 hKrc_46 => ?crc_46) ?mrc_46
                  case mrc_46 => exact AllReadyH.nil
                  go_simp
                  refine (jaInts_any _ _ _ _ it.val it.val HV1.out HV2.out).mono ?_; rintro e w9 ⟨rfl, n9, rfl⟩; rw [show decide (it.val = it.val) = true from decide_eq_true rfl]
                  go_wp2_with fail
                  refine hKrc_46.out _ _ ?krc_46 (fun hHeldrc_46 => ?drc_46)
                  case krc_46 => (first | (dsimp only; (exact k0)) | (exact k0))
                  clear hKrc_46 Krc_46
                  refine take_first 46 143 (v := ?vrc_47) rfl rfl (by kernel_rfl) (by kernel_rfl) (by kernel_rfl) (fun _ _ _ h => h) (by rfl) ?yrc_47 (by assumption) ?rrc_47
                  case yrc_47 => (intro w hSw; (try dsimp only at hSw); go_simp; (try with_reducible rfl))
                  simp only [Act.put, List.setIfInBounds_toArray, List.set_cons_zero, List.set_cons_succ]
                  refine take_first 47 144 (v := ?vrc_48) rfl rfl (by kernel_rfl) (by kernel_rfl) (by kernel_rfl) (fun _ _ _ h => h) (by rfl) ?yrc_48 (by assumption) ?rrc_48
                  case yrc_48 => (intro w hSw; (try dsimp only at hSw); go_simp; (try with_reducible rfl))
                  simp only [Act.put, List.setIfInBounds_toArray, List.set_cons_zero, List.set_cons_succ]
                  refine take_first 48 145 (v := ?vrc_49) rfl rfl (by kernel_rfl) (by kernel_rfl) (by kernel_rfl) (fun _ _ _ h => h) (by rfl) ?yrc_49 (by assumption) ?rrc_49
                  case yrc_49 => (intro w hSw; (try dsimp only at hSw); go_simp; (try with_reducible rfl))
                  simp only [Act.put, List.setIfInBounds_toArray, List.set_cons_zero, List.set_cons_succ]
                  refine wpAnyH_done (by kernel_rfl) ?erc _
                  clear k0
                  go_wp2
                  go_roundw
                  case rel => exact ⟨j + 1, by omega, by go_num, belowDraws HB6.out (1 + n9)⟩
                  case measure => simp [intOf]; omega
                ·
                  go_wp2
                  go_quiet (fail)
                  have HW6 := Lib.hid (belowDraws (Below.refl wr.heap.size wr) nq)
                  have k0 := HKK.out _ HW6.out
                  have HB6 := Lib.hid (HB.out.trans (HW6.out.mono hzr))
                  have hv1 := HUX.out.below (HW6.out.mono hzr)
                  have hv2 := HU.out.below (HW6.out.mono hzr)
                  rw [HEV.out] at hv1
                  clear HW6 HKK HB ckx cux ckk cu qq w0
                  generalize wr.drewN nq = w6 at *
                  have HV1 := Lib.hid (show Ints w6.drew w3.heap.size (.slice (some ⟨by', oy', none⟩) it.val.length cy') it.val from hv1)
                  have HV2 := Lib.hid (show Ints w6.drew w3.heap.size (.slice (some ⟨bu', ou', none⟩) it.val.length cu') it.val from hv2)
                  clear hv1 hv2
                  go_wp2
                  refine wp_region_held_drew (S := (fun w' => w'.cell? ⟨bx, ofx + j * 2, none⟩ = some (.string it.key) ∧ w'.cell? ⟨bx, ofx + j * 2 + 1, none⟩ = some (.slice (some ⟨by', oy', none⟩) it.val.length cy') ∧ w'.cell? ⟨bi, ofi + j * 2, none⟩ = some (.string it.key) ∧ w'.cell? ⟨bi, ofi + j * 2 + 1, none⟩ = some (.slice (some ⟨bu', ou', none⟩) it.val.length cu'))) (by kernel_rfl) ?hSrd (fun hHeldrd => ?strd)
                  case hSrd => (first | (dsimp only; (exact k0)) | (exact k0))
                  refine take_first 0 97 (v := ?vrd_1) rfl rfl (by kernel_rfl) (by kernel_rfl) (by kernel_rfl) (fun _ _ _ h => h) (by rfl) ?yrd_1 (by assumption) ?rrd_1
                  case yrd_1 => (intro w hSw; (try dsimp only at hSw); go_simp; (try with_reducible rfl))
                  simp only [Act.put, List.setIfInBounds_toArray, List.set_cons_zero, List.set_cons_succ]
                  refine take_first 1 98 (v := ?vrd_2) rfl rfl (by kernel_rfl) (by kernel_rfl) (by kernel_rfl) (fun _ _ _ h => h) (by rfl) ?yrd_2 (by assumption) ?rrd_2
                  case yrd_2 => (intro w hSw; (try dsimp only at hSw); go_simp; (try with_reducible rfl))
                  simp only [Act.put, List.setIfInBounds_toArray, List.set_cons_zero, List.set_cons_succ]
                  refine take_first 2 99 (v := ?vrd_3) rfl rfl (by kernel_rfl) (by kernel_rfl) (by kernel_rfl) (fun _ _ _ h => h) (by rfl) ?yrd_3 (by assumption) ?rrd_3
                  case yrd_3 => (intro w hSw; (try dsimp only at hSw); go_simp; (try with_reducible rfl))
                  simp only [Act.put, List.setIfInBounds_toArray, List.set_cons_zero, List.set_cons_succ]
                  refine take_first 3 100 (v := ?vrd_4) rfl rfl (by kernel_rfl) (by kernel_rfl) (by kernel_rfl) (fun _ _ _ h => h) (by rfl) ?yrd_4 (by assumption) ?rrd_4
                  case yrd_4 => (intro w hSw; (try dsimp only at hSw); go_simp; (try with_reducible rfl))
                  simp only [Act.put, List.setIfInBounds_toArray, List.set_cons_zero, List.set_cons_succ]
                  refine take_first 4 101 (v := ?vrd_5) rfl rfl (by kernel_rfl) (by kernel_rfl) (by kernel_rfl) (fun _ _ _ h => h) (by rfl) ?yrd_5 (by assumption) ?rrd_5
                  case yrd_5 => (intro w hSw; (try dsimp only at hSw); go_simp; (try with_reducible rfl))
                  simp only [Act.put, List.setIfInBounds_toArray, List.set_cons_zero, List.set_cons_succ]
                  refine take_first 5 102 (v := ?vrd_6) rfl rfl (by kernel_rfl) (by kernel_rfl) (by kernel_rfl) (fun _ _ _ h => h) (by rfl) ?yrd_6 (by assumption) ?rrd_6
                  case yrd_6 => (intro w hSw; (try dsimp only at hSw); go_simp; (try with_reducible rfl))
                  simp only [Act.put, List.setIfInBounds_toArray, List.set_cons_zero, List.set_cons_succ]
                  refine take_first 6 103 (v := ?vrd_7) rfl rfl (by kernel_rfl) (by kernel_rfl) (by kernel_rfl) (fun _ _ _ h => h) (by rfl) ?yrd_7 (by assumption) ?rrd_7
                  case yrd_7 => (intro w hSw; (try dsimp only at hSw); go_simp; (try with_reducible rfl))
                  simp only [Act.put, List.setIfInBounds_toArray, List.set_cons_zero, List.set_cons_succ]
                  refine take_first 7 104 (v := ?vrd_8) rfl rfl (by kernel_rfl) (by kernel_rfl) (by kernel_rfl) (fun _ _ _ h => h) (by rfl) ?yrd_8 (by assumption) ?rrd_8
                  case yrd_8 => (intro w hSw; (try dsimp only at hSw); go_simp; (try with_reducible rfl))
                  simp only [Act.put, List.setIfInBounds_toArray, List.set_cons_zero, List.set_cons_succ]
                  refine take_first 8 105 (v := ?vrd_9) rfl rfl (by kernel_rfl) (by kernel_rfl) (by kernel_rfl) (fun _ _ _ h => h) (by rfl) ?yrd_9 (by assumption) ?rrd_9
                  case yrd_9 => (intro w hSw; (try dsimp only at hSw); go_simp; (try with_reducible rfl))
                  simp only [Act.put, List.setIfInBounds_toArray, List.set_cons_zero, List.set_cons_succ]
                  refine take_first 9 106 (v := ?vrd_10) rfl rfl (by kernel_rfl) (by kernel_rfl) (by kernel_rfl) (fun _ _ _ h => h) (by rfl) ?yrd_10 (by assumption) ?rrd_10
                  case yrd_10 => (intro w hSw; (try dsimp only at hSw); go_simp; (try with_reducible rfl))
                  simp only [Act.put, List.setIfInBounds_toArray, List.set_cons_zero, List.set_cons_succ]
                  refine take_first 10 107 (v := ?vrd_11) rfl rfl (by kernel_rfl) (by kernel_rfl) (by kernel_rfl) (fun _ _ _ h => h) (by rfl) ?yrd_11 (by assumption) ?rrd_11
                  case yrd_11 => (intro w hSw; (try dsimp only at hSw); go_simp; (try with_reducible rfl))
                  simp only [Act.put, List.setIfInBounds_toArray, List.set_cons_zero, List.set_cons_succ]
                  refine take_first 11 108 (v := ?vrd_12) rfl rfl (by kernel_rfl) (by kernel_rfl) (by kernel_rfl) (fun _ _ _ h => h) (by rfl) ?yrd_12 (by assumption) ?rrd_12
                  case yrd_12 => (intro w hSw; (try dsimp only at hSw); go_simp; (try with_reducible rfl))
                  simp only [Act.put, List.setIfInBounds_toArray, List.set_cons_zero, List.set_cons_succ]
                  refine take_first 12 109 (v := ?vrd_13) rfl rfl (by kernel_rfl) (by kernel_rfl) (by kernel_rfl) (fun _ _ _ h => h) (by rfl) ?yrd_13 (by assumption) ?rrd_13
                  case yrd_13 => (intro w hSw; (try dsimp only at hSw); go_simp; (try with_reducible rfl))
                  simp only [Act.put, List.setIfInBounds_toArray, List.set_cons_zero, List.set_cons_succ]
                  refine take_first 13 110 (v := ?vrd_14) rfl rfl (by kernel_rfl) (by kernel_rfl) (by kernel_rfl) (fun _ _ _ h => h) (by rfl) ?yrd_14 (by assumption) ?rrd_14
                  case yrd_14 => (intro w hSw; (try dsimp only at hSw); go_simp; (try with_reducible rfl))
                  simp only [Act.put, List.setIfInBounds_toArray, List.set_cons_zero, List.set_cons_succ]
                  refine pass_over 14 111 rfl rfl (by kernel_rfl) (by kernel_rfl) (by kernel_rfl) (fun _ _ _ h => h) (by rfl) (by assumption) ?rrd_15
                  simp only [Act.put, List.setIfInBounds_toArray, List.set_cons_zero, List.set_cons_succ]
                  refine take_first 15 112 (v := ?vrd_16) rfl rfl (by kernel_rfl) (by kernel_rfl) (by kernel_rfl) (fun _ _ _ h => h) (by rfl) ?yrd_16 (by assumption) ?rrd_16
                  case yrd_16 => (intro w hSw; (try dsimp only at hSw); go_simp; (try with_reducible rfl))
                  simp only [Act.put, List.setIfInBounds_toArray, List.set_cons_zero, List.set_cons_succ]
                  refine take_first 16 113 (v := ?vrd_17) rfl rfl (by kernel_rfl) (by kernel_rfl) (by kernel_rfl) (fun _ _ _ h => h) (by rfl) ?yrd_17 (by assumption) ?rrd_17
                  case yrd_17 => (intro w hSw; (try dsimp only at hSw); go_simp; (try with_reducible rfl))
                  simp only [Act.put, List.setIfInBounds_toArray, List.set_cons_zero, List.set_cons_succ]
                  refine pass_over 17 114 rfl rfl (by kernel_rfl) (by kernel_rfl) (by kernel_rfl) (fun _ _ _ h => h) (by rfl) (by assumption) ?rrd_18
                  simp only [Act.put, List.setIfInBounds_toArray, List.set_cons_zero, List.set_cons_succ]
                  refine pass_over 18 115 rfl rfl (by kernel_rfl) (by kernel_rfl) (by kernel_rfl) (fun _ _ _ h => h) (by rfl) (by assumption) ?rrd_19
                  simp only [Act.put, List.setIfInBounds_toArray, List.set_cons_zero, List.set_cons_succ]
                  refine pass_over 19 116 rfl rfl (by kernel_rfl) (by kernel_rfl) (by kernel_rfl) (fun _ _ _ h => h) (by rfl) (by assumption) ?rrd_20
                  simp only [Act.put, List.setIfInBounds_toArray, List.set_cons_zero, List.set_cons_succ]
                  refine pass_over 20 117 rfl rfl (by kernel_rfl) (by kernel_rfl) (by kernel_rfl) (fun _ _ _ h => h) (by rfl) (by assumption) ?rrd_21
                  simp only [Act.put, List.setIfInBounds_toArray, List.set_cons_zero, List.set_cons_succ]
                  refine pass_over 21 118 rfl rfl (by kernel_rfl) (by kernel_rfl) (by kernel_rfl) (fun _ _ _ h => h) (by rfl) (by assumption) ?rrd_22
                  simp only [Act.put, List.setIfInBounds_toArray, List.set_cons_zero, List.set_cons_succ]
                  refine pass_over 22 119 rfl rfl (by kernel_rfl) (by kernel_rfl) (by kernel_rfl) (fun _ _ _ h => h) (by rfl) (by assumption) ?rrd_23
                  simp only [Act.put, List.setIfInBounds_toArray, List.set_cons_zero, List.set_cons_succ]
                  refine pass_over 23 120 rfl rfl (by kernel_rfl) (by kernel_rfl) (by kernel_rfl) (fun _ _ _ h => h) (by rfl) (by assumption) ?rrd_24
                  simp only [Act.put, List.setIfInBounds_toArray, List.set_cons_zero, List.set_cons_succ]
                  refine pass_over 24 121 rfl rfl (by kernel_rfl) (by kernel_rfl) (by kernel_rfl) (fun _ _ _ h => h) (by rfl) (by assumption) ?rrd_25
                  simp only [Act.put, List.setIfInBounds_toArray, List.set_cons_zero, List.set_cons_succ]
                  refine take_first 25 122 (v := ?vrd_26) rfl rfl (by kernel_rfl) (by kernel_rfl) (by kernel_rfl) (fun _ _ _ h => h) (by rfl) ?yrd_26 (by assumption) ?rrd_26
                  case yrd_26 => (intro w hSw; (try dsimp only at hSw); go_simp; (try with_reducible rfl))
                  simp only [Act.put, List.setIfInBounds_toArray, List.set_cons_zero, List.set_cons_succ]
                  refine take_first 26 123 (v := ?vrd_27) rfl rfl (by kernel_rfl) (by kernel_rfl) (by kernel_rfl) (fun _ _ _ h => h) (by rfl) ?yrd_27 (by assumption) ?rrd_27
                  case yrd_27 => (intro w hSw; (try dsimp only at hSw); go_simp; (try with_reducible rfl))
                  simp only [Act.put, List.setIfInBounds_toArray, List.set_cons_zero, List.set_cons_succ]
                  refine take_first 27 124 (v := ?vrd_28) rfl rfl (by kernel_rfl) (by kernel_rfl) (by kernel_rfl) (fun _ _ _ h => h) (by rfl) ?yrd_28 (by assumption) ?rrd_28
                  case yrd_28 => (intro w hSw; (try dsimp only at hSw); go_simp; (try with_reducible rfl))
                  simp only [Act.put, List.setIfInBounds_toArray, List.set_cons_zero, List.set_cons_succ]
                  refine take_first 28 125 (v := ?vrd_29) rfl rfl (by kernel_rfl) (by kernel_rfl) (by kernel_rfl) (fun _ _ _ h => h) (by rfl) ?yrd_29 (by assumption) ?rrd_29
                  case yrd_29 => (intro w hSw; (try dsimp only at hSw); go_simp; (try with_reducible rfl))
                  simp only [Act.put, List.setIfInBounds_toArray, List.set_cons_zero, List.set_cons_succ]
                  refine take_first 29 126 (v := ?vrd_30) rfl rfl (by kernel_rfl) (by kernel_rfl) (by kernel_rfl) (fun _ _ _ h => h) (by rfl) ?yrd_30 (by assumption) ?rrd_30
                  case yrd_30 => (intro w hSw; (try dsimp only at hSw); go_simp; (try with_reducible rfl))
                  simp only [Act.put, List.setIfInBounds_toArray, List.set_cons_zero, List.set_cons_succ]
                  refine take_first 30 127 (v := ?vrd_31) rfl rfl (by kernel_rfl) (by kernel_rfl) (by kernel_rfl) (fun _ _ _ h => h) (by rfl) ?yrd_31 (by assumption) ?rrd_31
                  case yrd_31 => (intro w hSw; (try dsimp only at hSw); go_simp; (try with_reducible rfl))
                  simp only [Act.put, List.setIfInBounds_toArray, List.set_cons_zero, List.set_cons_succ]
                  refine pass_over 31 128 rfl rfl (by kernel_rfl) (by kernel_rfl) (by kernel_rfl) (fun _ _ _ h => h) (by rfl) (by assumption) ?rrd_32
                  simp only [Act.put, List.setIfInBounds_toArray, List.set_cons_zero, List.set_cons_succ]
                  refine pass_over 32 129 rfl rfl (by kernel_rfl) (by kernel_rfl) (by kernel_rfl) (fun _ _ _ h => h) (by rfl) (by assumption) ?rrd_33
                  simp only [Act.put, List.setIfInBounds_toArray, List.set_cons_zero, List.set_cons_succ]
                  refine take_first 33 130 (v := ?vrd_34) rfl rfl (by kernel_rfl) (by kernel_rfl) (by kernel_rfl) (fun _ _ _ h => h) (by rfl) ?yrd_34 (by assumption) ?rrd_34
                  case yrd_34 => (intro w hSw; (try dsimp only at hSw); go_simp; (try with_reducible rfl))
                  simp only [Act.put, List.setIfInBounds_toArray, List.set_cons_zero, List.set_cons_succ]
                  refine take_first 34 131 (v := ?vrd_35) rfl rfl (by kernel_rfl) (by kernel_rfl) (by kernel_rfl) (fun _ _ _ h => h) (by rfl) ?yrd_35 (by assumption) ?rrd_35
                  case yrd_35 => (intro w hSw; (try dsimp only at hSw); go_simp; (try with_reducible rfl))
                  simp only [Act.put, List.setIfInBounds_toArray, List.set_cons_zero, List.set_cons_succ]
                  refine take_first 35 132 (v := ?vrd_36) rfl rfl (by kernel_rfl) (by kernel_rfl) (by kernel_rfl) (fun _ _ _ h => h) (by rfl) ?yrd_36 (by assumption) ?rrd_36
                  case yrd_36 => (intro w hSw; (try dsimp only at hSw); go_simp; (try with_reducible rfl))
                  simp only [Act.put, List.setIfInBounds_toArray, List.set_cons_zero, List.set_cons_succ]
                  refine take_first 36 133 (v := ?vrd_37) rfl rfl (by kernel_rfl) (by kernel_rfl) (by kernel_rfl) (fun _ _ _ h => h) (by rfl) ?yrd_37 (by assumption) ?rrd_37
                  case yrd_37 => (intro w hSw; (try dsimp only at hSw); go_simp; (try with_reducible rfl))
                  simp only [Act.put, List.setIfInBounds_toArray, List.set_cons_zero, List.set_cons_succ]
                  refine take_first 37 134 (v := ?vrd_38) rfl rfl (by kernel_rfl) (by kernel_rfl) (by kernel_rfl) (fun _ _ _ h => h) (by rfl) ?yrd_38 (by assumption) ?rrd_38
                  case yrd_38 => (intro w hSw; (try dsimp only at hSw); go_simp; (try with_reducible rfl))
                  simp only [Act.put, List.setIfInBounds_toArray, List.set_cons_zero, List.set_cons_succ]
                  refine take_first 38 135 (v := ?vrd_39) rfl rfl (by kernel_rfl) (by kernel_rfl) (by kernel_rfl) (fun _ _ _ h => h) (by rfl) ?yrd_39 (by assumption) ?rrd_39
                  case yrd_39 => (intro w hSw; (try dsimp only at hSw); go_simp; (try with_reducible rfl))
                  simp only [Act.put, List.setIfInBounds_toArray, List.set_cons_zero, List.set_cons_succ]
                  refine take_first 39 136 (v := ?vrd_40) rfl rfl (by kernel_rfl) (by kernel_rfl) (by kernel_rfl) (fun _ _ _ h => h) (by rfl) ?yrd_40 (by assumption) ?rrd_40
                  case yrd_40 => (intro w hSw; (try dsimp only at hSw); go_simp; (try with_reducible rfl))
                  simp only [Act.put, List.setIfInBounds_toArray, List.set_cons_zero, List.set_cons_succ]
                  refine take_first 40 137 (v := ?vrd_41) rfl rfl (by kernel_rfl) (by kernel_rfl) (by kernel_rfl) (fun _ _ _ h => h) (by rfl) ?yrd_41 (by assumption) ?rrd_41
                  case yrd_41 => (intro w hSw; (try dsimp only at hSw); go_simp; (try with_reducible rfl))
                  simp only [Act.put, List.setIfInBounds_toArray, List.set_cons_zero, List.set_cons_succ]
                  refine take_first 41 138 (v := ?vrd_42) rfl rfl (by kernel_rfl) (by kernel_rfl) (by kernel_rfl) (fun _ _ _ h => h) (by rfl) ?yrd_42 (by assumption) ?rrd_42
                  case yrd_42 => (intro w hSw; (try dsimp only at hSw); go_simp; (try with_reducible rfl))
                  simp only [Act.put, List.setIfInBounds_toArray, List.set_cons_zero, List.set_cons_succ]
                  refine take_first 42 139 (v := ?vrd_43) rfl rfl (by kernel_rfl) (by kernel_rfl) (by kernel_rfl) (fun _ _ _ h => h) (by rfl) ?yrd_43 (by assumption) ?rrd_43
                  case yrd_43 => (intro w hSw; (try dsimp only at hSw); go_simp; (try with_reducible rfl))
                  simp only [Act.put, List.setIfInBounds_toArray, List.set_cons_zero, List.set_cons_succ]
                  refine take_first 43 140 (v := ?vrd_44) rfl rfl (by kernel_rfl) (by kernel_rfl) (by kernel_rfl) (fun _ _ _ h => h) (by rfl) ?yrd_44 (by assumption) ?rrd_44
                  case yrd_44 => (intro w hSw; (try dsimp only at hSw); go_simp; (try with_reducible rfl))
                  simp only [Act.put, List.setIfInBounds_toArray, List.set_cons_zero, List.set_cons_succ]
                  refine take_first 44 141 (v := ?vrd_45) rfl rfl (by kernel_rfl) (by kernel_rfl) (by kernel_rfl) (fun _ _ _ h => h) (by rfl) ?yrd_45 (by assumption) ?rrd_45
                  case yrd_45 => (intro w hSw; (try dsimp only at hSw); go_simp; (try with_reducible rfl))
                  simp only [Act.put, List.setIfInBounds_toArray, List.set_cons_zero, List.set_cons_succ]
                  refine wpAnyH_ready (rs := [45]) (by kernel_rfl) (by simp) ?_
                  refine AllReadyH.cons (o := _) rfl (fun Krd_46 hKrd_46 => ?crd_46) ?mrd_46
                  case mrd_46 => exact AllReadyH.nil
                  go_simp
                  refine (jaInts_any _ _ _ _ it.val it.val HV1.out HV2.out).mono ?_; rintro e w9 ⟨rfl, n9, rfl⟩; rw [show decide (it.val = it.val) = true from decide_eq_true rfl]
                  go_wp2_with fail
                  refine hKrd_46.out _ _ ?krd_46 (fun hHeldrd_46 => ?drd_46)
                  case krd_46 => (first | (dsimp only; (exact k0)) | (exact k0))
                  clear hKrd_46 Krd_46
                  refine take_first 46 143 (v := ?vrd_47) rfl rfl (by kernel_rfl) (by kernel_rfl) (by kernel_rfl) (fun _ _ _ h => h) (by rfl) ?yrd_47 (by assumption) ?rrd_47
                  case yrd_47 => (intro w hSw; (try dsimp only at hSw); go_simp; (try with_reducible rfl))
                  simp only [Act.put, List.setIfInBounds_toArray, List.set_cons_zero, List.set_cons_succ]
                  refine take_first 47 144 (v := ?vrd_48) rfl rfl (by kernel_rfl) (by kernel_rfl) (by kernel_rfl) (fun _ _ _ h => h) (by rfl) ?yrd_48 (by assumption) ?rrd_48
                  case yrd_48 => (intro w hSw; (try dsimp only at hSw); go_simp; (try with_reducible rfl))
                  simp only [Act.put, List.setIfInBounds_toArray, List.set_cons_zero, List.set_cons_succ]
                  refine take_first 48 145 (v := ?vrd_49) rfl rfl (by kernel_rfl) (by kernel_rfl) (by kernel_rfl) (fun _ _ _ h => h) (by rfl) ?yrd_49 (by assumption) ?rrd_49
                  case yrd_49 => (intro w hSw; (try dsimp only at hSw); go_simp; (try with_reducible rfl))
                  simp only [Act.put, List.setIfInBounds_toArray, List.set_cons_zero, List.set_cons_succ]
                  refine wpAnyH_done (by kernel_rfl) ?erd _
                  clear k0
                  go_wp2
                  go_roundw
                  case rel => exact ⟨j + 1, by omega, by go_num, belowDraws HB6.out (1 + n9)⟩
                  case measure => simp [intOf]; omega
            · have HNn := Lib.hid (show GoneI w2 os (k + 1) (.slice (some ⟨b4, of4, none⟩) 3 c3) wr from by
                obtain ⟨a, b, c, h1, h2, h3⟩ := HN.out
                exact ⟨a, b, c, h1, (h2.below HB.out).more hzr, h3.trans (HB.out.mono h3.size)⟩)
              clear HB HN
              go_wp2
              go_roundw
              case rel => exact ⟨k + 1, by omega, by go_num, HNn.out⟩
              case measure => simp [intOf]; omega
        · have h5' : (o.kind == 5) = false := by simp [h5]
          clear hy h5 hgd hpn
          go_wp2
          go_roundw
          case rel => exact ⟨k + 1, by omega, by go_num, HN.out⟩
          case measure => simp [intOf]; omega
    · have hkk : k = os.length := by omega
      subst hkk
      have HBe := Lib.hid (HB2.out.trans (hb.mono HB2.out.size))
      have HL := Lib.hid hl
      have HK := Lib.hid hpl.ok
      have HIS := Lib.hid hpl.is
      clear hb hlt hpl hk hl HI
      go_wp2_with fail
      refine (implGloOk_any _ _ _ HL.out).mono ?_
      rintro e w4 ⟨rfl, hb4⟩
      rw [HIS.out, HK.out]
      have HB4 := Lib.hid (belowNext HBe.out hb4)
      clear hb4
      go_wp2_with fail
      refine (jaOk_any _).mono ?_
      rintro e w5 ⟨rfl, hb5⟩
      have HB5 := Lib.hid (belowNext HB4.out hb5)
      clear hb5
      go_wp2
      go_ret
      exact ⟨rfl, HB5.out⟩

end Go.Proofs.Ytlmcpkijcadalaa
