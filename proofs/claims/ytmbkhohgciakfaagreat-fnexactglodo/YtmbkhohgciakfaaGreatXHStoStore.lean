/- The helpers of the exact laws over StoStore: a count, a copy, a comparison, marks. By shgen.py. -/
import Derived.Test.YtmbkhohgciakfaaGreatXHStr
import Derived.Test.YtmbkhohgciakfaaGreatXFrameRow
import Derived.Deep.RegionHeld3
namespace Go.Proofs.YtmbkhohgciakfaaGreat
open Go.RowKit

theorem wtStoStore (x : Sto) : (stoSh.wt x : Int) = (itsSh.wt x.items : Int) := by
  show ((itsSh.wt x.items : Nat) : Int) = _
  omega
theorem szStoStore_sh1 (w : World) (cs : List Value) (x : Sto) (h : stoSh.rel w w.heap.size cs x) (left : Int) (h0 : 0 ≤ left) (h1 : left ≤ 1048576) :
    Calls Tryz.prog 9 #[.agg cs.toArray, .int .i64 left] w (Sized left (stoSh.wt x) w) := by
  obtain ⟨u0, rfl, hu0⟩ := sto_rel.1 h
  obtain ⟨A0, c0, rfl, hc0, hd0⟩ := hu0.form
  unfold maxLen at hc0
  have HU0 := Lib.hid fun W (hb : Below w.heap.size w W) => (hu0.below hb).more hb.size
  clear h hu0
  have HT := Lib.hid (wtStoStore x)
  have HB0 := Lib.hid (belowOne w (.cells #[.slice A0 x.items.length c0] 24))
  have HX0 := Lib.hid (Held.new w #[.slice A0 x.items.length c0] 24)
  go_enter Tryz.func9, Tryz.ntmps9
  by_cases hq0 : left < (itsSh.wt x.items : Int)
  · have hl := less_no hq0
    go_wp2_with fail
    refine (szStoItemS_sh _ _ _ (HU0.out _ HB0.out) _ (by omega) (by omega)).mono ?_
    rintro e w1 ⟨rfl, hb⟩
    rw [hl]
    have HB1 := Lib.hid (belowNext HB0.out hb)
    have HX1 := Lib.hid (HX0.out.below hb HX0.out.1)
    clear hb
    clear hl HB0 HX0
    have x0 := HX1.out.of 0 _ rfl
    go_wp2
    go_ret
    exact ⟨ret_int (by rw [less_no (by rw [HT.out]; omega)]), HB1.out⟩
  · have hl := less_yes (show (itsSh.wt x.items : Int) ≤ left by omega)
    have hq0' : (itsSh.wt x.items : Int) ≤ left := by omega
    clear hq0
    go_wp2_with fail
    refine (szStoItemS_sh _ _ _ (HU0.out _ HB0.out) _ (by omega) (by omega)).mono ?_
    rintro e w1 ⟨rfl, hb⟩
    rw [hl]
    have HB1 := Lib.hid (belowNext HB0.out hb)
    have HX1 := Lib.hid (HX0.out.below hb HX0.out.1)
    clear hb
    clear hl HB0 HX0
    have x0 := HX1.out.of 0 _ rfl
    go_wp2
    go_ret
    exact ⟨ret_int (by rw [less_yes (by rw [HT.out]; omega), HT.out] <;> omega), HB1.out⟩
set_option maxRecDepth 100000 in
theorem szStoStoreS_sh (w : World) (v : Value) (xs : List Sto) (hv : stoSh.Row w w.heap.size v xs) (left : Int) (h0 : 0 ≤ left) (h1 : left ≤ 1048576) :
    Calls Tryz.prog 36 #[v, .int .i64 left] w (Sized left (stosSh.wt xs) w) := by
  obtain ⟨A, c, rfl, hc2, hc1⟩ := hv.form
  unfold maxLen at hc2
  have HW := Lib.hid (show stosSh.wt xs = xs.length + cntL stoSh.wt xs from wtL_eq _ _)
  by_cases h : left < (xs.length : Int)
  · have HL := Lib.hid (less_no (left := left) (n := (stosSh.wt xs : Int)) (by rw [HW.out]; omega))
    clear hv
    go_enter Tryz.func36, Tryz.ntmps36
    go_wp2
    go_ret
    exact ⟨ret_int HL.out.symm, Below.refl _ _⟩
  · have h2 : (xs.length : Int) ≤ left := by omega
    clear h
    go_enter Tryz.func36, Tryz.ntmps36
    go_wp2
    go_loopw [1, 5] (fun l i wr => ∃ (k : Nat) (r : Int), k ≤ xs.length ∧ i = .int .i64 k ∧ l = .int .i64 r ∧ 0 ≤ r ∧ r = left - xs.length - cntL stoSh.wt (xs.take k) ∧ Below w.heap.size w wr) (fun _ i _ => xs.length - (intOf i).toNat)
    case atStart => exact ⟨0, _, Nat.zero_le _, rfl, rfl, by omega, by simp [cntL], Below.refl _ _⟩
    case round =>
      obtain ⟨k, r, hk, rfl, rfl, hr0, hr, hb⟩ := hrel
      have HR := Lib.hid hr
      have hrl : r ≤ left := by omega
      have HB := Lib.hid hb
      clear hr hb
      by_cases hlt : k < xs.length
      · obtain ⟨b, off, c', x, cs, e1, hx, hB, hrel, hcell⟩ := (hv.below HB.out).at_ (k := k) hlt
        injection e1 with e1a e1b e1c
        subst e1a
        have HV := Lib.hid (stoSh.rmore hrel HB.out.size)
        obtain ⟨u0, rfl, hu0⟩ := sto_rel.1 hrel
        obtain ⟨A0, c0, rfl, -, -⟩ := hu0.form
        have d0 := hcell 0 _ rfl
        have hwd : stoSh.wd = 1 := rfl
        rw [hwd] at d0
        simp only [Nat.add_zero, Nat.mul_one] at d0
        have HC := Lib.hid (cntL_take (f := stoSh.wt) hx)
        have HT := Lib.hid (cntL_take_le stoSh.wt xs (k + 1))
        clear e1b e1c hv hx hcell hrel hwd hu0
        by_cases hneg : r < (stoSh.wt x : Int)
        · have HL := Lib.hid (less_no (left := left) (n := (stosSh.wt xs : Int)) (by rw [HW.out]; have := HR.out; have := HC.out; have := HT.out; omega))
          have hl := less_no hneg
          go_wp2_with fail
          refine (szStoStore_sh1 _ _ x HV.out _ hr0 (by omega)).mono ?_
          rintro e w1 ⟨rfl, hb1⟩
          rw [hl]
          clear hl
          go_wp2
          go_ret
          exact ⟨ret_int HL.out.symm, belowNext HB.out hb1⟩
        · have hge : (stoSh.wt x : Int) ≤ r := by omega
          have hl := less_yes hge
          go_wp2_with fail
          refine (szStoStore_sh1 _ _ x HV.out _ hr0 (by omega)).mono ?_
          rintro e w1 ⟨rfl, hb1⟩
          rw [hl]
          clear hl
          go_wp2
          go_roundw
          case rel => exact ⟨k + 1, _, by omega, by go_num, rfl, by omega, by rw [HR.out, HC.out]; omega, belowNext HB.out hb1⟩
          case measure => simp [intOf]; omega
      · have hks : k = xs.length := by omega
        have HL := Lib.hid (less_yes (left := left) (n := (stosSh.wt xs : Int)) (by have h1 := HR.out; rw [HW.out]; rw [hks, List.take_length] at h1; omega))
        have HE := Lib.hid (show r = left - (stosSh.wt xs : Int) by have h1 := HR.out; rw [HW.out]; rw [hks, List.take_length] at h1; omega)
        clear hks hv
        go_wp2
        go_ret
        exact ⟨ret_int (by rw [HL.out]; exact HE.out), HB.out⟩

set_option maxRecDepth 100000 in
theorem toStoStore_sh1 (w : World) (cs : List Value) (x : Sto) (h : stoSh.rel w w.heap.size cs x) (hl : stoSh.wt x ≤ 1048576) :
    Calls Tryz.prog 11 #[.agg cs.toArray] w (CopiedAg stoSh x w) := by
  have hwt := wtStoStore x
  obtain ⟨u0, rfl, hu0⟩ := sto_rel.1 h
  have hn0 : x.items.length ≤ itsSh.wt x.items := wtL_len _ _
  obtain ⟨A0, c0, rfl, hc0, hd0⟩ := hu0.form
  have HU0 := Lib.hid fun W (hb : Below w.heap.size w W) => (hu0.below hb).more hb.size
  have hm0 : itsSh.wt x.items ≤ 1048576 := by omega
  have hp0 : x.items.length ≤ 1048576 := by omega
  clear h hwt hu0
  have HI := Lib.hid (ToInv.start w #[.slice A0 x.items.length c0] #[.slice none 0 0] #[.slice none 0 0] 24 35 35)
  go_enter Tryz.func11, Tryz.ntmps11
  go_wp2_with fail
  refine (toStoItemS_sh _ _ x.items (HU0.out _ HI.out.bel) hm0).mono ?_
  rintro e w1 ⟨v0, rfl, ho, hb⟩
  obtain ⟨B0, e0, rfl, -, -⟩ := ho.row.form
  have hz := HI.out.size
  have HJ := Lib.hid (HI.out.call hb)
  have HS0 : Hid (CopFrom itSh 98 (w.heap.size + 1 + 1 + 1) (w1.heap.size) (.slice B0 x.items.length e0) x.items w1) := Lib.hid (Sh.Own.mono ho fun b hb => ⟨by have := hb.1; simp at this; omega, hb.2⟩)
  have hzw : w.heap.size + 1 + 1 + 1 ≤ w1.heap.size := by have := hb.size; simp at this; omega
  have x0 := HJ.out.box.of 0 _ rfl
  have o0 := HJ.out.out.of 0 _ rfl
  have of := HJ.out.out.2.1
  replace HJ := Lib.hid (HJ.out.putOut 0 (.slice B0 x.items.length e0))
  replace HS0 := Lib.hid (HS0.out.set (p := ⟨w.heap.size + 1 + 1, 0, none⟩) (by show w.heap.size + 1 + 1 < _; omega) (.slice B0 x.items.length e0))
  clear HI hb ho hz
  have HI := HJ
  clear HJ
  have r0 := HI.out.res.of 0 _ rfl
  have rf := HI.out.res.2.1
  go_wp2
  replace HI := Lib.hid (HI.out.putRes 0 (.slice B0 x.items.length e0))
  replace HS0 := Lib.hid (HS0.out.set (p := ⟨w.heap.size + 1, 0, none⟩) (by show w.heap.size + 1 < _; omega) (.slice B0 x.items.length e0))
  have q0 := HI.out.res.of 0 _ rfl
  refine bodyPost_ret (v := .agg #[.slice B0 x.items.length e0]) (by simp [results, Tryz.results11, go_sem, q0]) rfl ⟨[.slice B0 x.items.length e0], rfl, ?_, HI.out.bel⟩
  exact sto_own.2 ⟨_, rfl, Sh.Own.mono HS0.out fun b hb => ⟨by have := hb.1; omega, by simp [World.setCell]; exact hb.2⟩⟩

theorem infoStoStoreH : (Tryz.prog.info? 35).map (fun i => (i.zero, i.size, i.bytes)) = some (some (.agg #[.slice none 0 0]), 1, 24) := by kernel_rfl
theorem madeStoStore (n : Nat) (hbytes : 24 * n ≤ 281474976710656) (w : World) :
    (Instr.makeSlice 59 (.int .i64 (n : Int)) (.int .i64 (n : Int))).run Tryz.prog w = .ok (.slice (some ⟨w.heap.size, 0, none⟩) n n) (w.alloc (.cells (madeCells #[.slice none 0 0] (n)) 35)) := by
  obtain ⟨i, hi, hzz⟩ := Option.map_eq_some_iff.1 infoStoStoreH
  simp only [Prod.mk.injEq] at hzz
  obtain ⟨hz, hs, hb⟩ := hzz
  have hb' : (i.bytes : Int) * (n : Int) ≤ 281474976710656 := by
    have h : ((i.bytes * n : Nat) : Int) ≤ 281474976710656 := by rw [hb]; omega
    rwa [Int.natCast_mul] at h
  have hr := run_make (P := Tryz.prog) w 59 35 i _ Tryz.underlying59 hi hz .i64 .i64 n n (by omega) (Int.le_refl _) hb' (by omega)
  simp only [Int.toNat_natCast, hs, Nat.mul_one] at hr
  exact hr
set_option maxRecDepth 100000 in
theorem toStoStoreS_sh (w : World) (v : Value) (xs : List Sto) (hv : stoSh.Row w w.heap.size v xs) (hl : stosSh.wt xs ≤ 1048576) :
    Calls Tryz.prog 37 #[v] w (CopiedSl stoSh 35 xs w) := by
  obtain ⟨A, c, rfl, hc2, hc1⟩ := hv.form
  unfold maxLen at hc2
  have hlen : xs.length ≤ 1048576 := Nat.le_trans (wtL_len stoSh.wt xs) hl
  have hmk := fun W => madeStoStore xs.length (by omega) W
  have HM : Hid (stoSh.Own 35 (w.alloc (.cells (madeCells #[.slice none 0 0] xs.length) 35)) (fun b => b = w.heap.size) (.slice (some ⟨w.heap.size, 0, none⟩) xs.length xs.length) (xs.take 0 ++ List.replicate (xs.length - 0) stoSh.z)) :=
    Lib.hid (by have h := Sh.Own.made stoSh 35 w xs.length (by unfold maxLen; omega); rw [show xs.length * stoSh.wd = xs.length from Nat.mul_one _] at h; exact h)
  have HW := Lib.hid (belowOne w (.cells (madeCells #[.slice none 0 0] xs.length) 35))
  go_enter Tryz.func37, Tryz.ntmps37
  go_wp2
  clear hmk
  go_loopw [4] (fun i wr => ∃ k : Nat, k ≤ xs.length ∧ i = .int .i64 k ∧ stoSh.Own 35 wr (fun b => w.heap.size ≤ b ∧ b < wr.heap.size) (.slice (some ⟨w.heap.size, 0, none⟩) xs.length xs.length) (xs.take k ++ List.replicate (xs.length - k) stoSh.z) ∧ Below w.heap.size w wr) (fun i _ => xs.length - (intOf i).toNat)
  case atStart => exact ⟨0, Nat.zero_le _, rfl, HM.out.mono fun b hb => ⟨by omega, by simp; omega⟩, HW.out⟩
  case round =>
    clear HM HW
    obtain ⟨k, hk, rfl, ho, hb⟩ := hrel
    by_cases hlt : k < xs.length
    · obtain ⟨b, off, c', x, cs, e1, hx, hB, hrel, hcell⟩ := (hv.below hb).at_ (k := k) hlt
      injection e1 with e1a e1b e1c
      subst e1a
      have HV := Lib.hid (stoSh.rmore hrel hb.size)
      have hxl : stoSh.wt x ≤ 1048576 := by have := wtL_at_le (f := stoSh.wt) hx; have h2 : wtL stoSh.wt xs ≤ 1048576 := hl; omega
      obtain ⟨u0, rfl, hu0⟩ := sto_rel.1 hrel
      obtain ⟨A0, c0, rfl, -, -⟩ := hu0.form
      have d0 := hcell 0 _ rfl
      have hwd : stoSh.wd = 1 := rfl
      rw [hwd] at d0
      simp only [Nat.add_zero, Nat.mul_one] at d0
      clear e1b e1c hv hcell hrel hu0
      have HO := Lib.hid ho
      have HB := Lib.hid hb
      have HX := Lib.hid hx
      clear ho hb hx
      go_wp2_with fail
      refine (toStoStore_sh1 _ _ x HV.out hxl).mono ?_
      rintro e w1 ⟨cs, rfl, hc, hb1⟩
      obtain ⟨g, cap, y, ds, Sj, e2, -, hSg, -, hds, -, hcell, hfr, -, -⟩ := (HO.out.below hb1).at_ (j := k) (by simp; omega)
      have HLn : Hid (xs.length = (xs.take k ++ List.replicate (xs.length - k) stoSh.z).length) := Lib.hid (by simp; omega)
      injection e2 with e2a e2b e2c
      injection e2a with e2a
      injection e2a with e2a
      subst e2a
      obtain ⟨y0, rfl, -⟩ := sto_rel.1 (stoSh.orel hds)
      have r0 := hcell 0 _ rfl
      rw [hwd] at r0
      simp only [Nat.add_zero, Nat.mul_one] at r0
      have hput := Sh.Own.put (HO.out) (j := k) (g := w.heap.size) (cap := xs.length) (by rw [← HLn.out]; exact hlt) (by rw [← HLn.out]) (w1 := w1) (fun b _ hlt => hb1.block b hlt) hc (fun b hb hb2 => by have := hb.1; have := hb2.2; omega)
      rw [repl_take HX.out, show k * stoSh.wd = k from Nat.mul_one _] at hput
      obtain ⟨v0, rfl, hv0⟩ := sto_rel.1 (stoSh.orel hc)
      obtain ⟨B0, e0, rfl, -, -⟩ := hv0.form
      have HP := Lib.hid hput
      have HS := Lib.hid (Nat.le_trans HB.out.size hb1.size)
      have HN := Lib.hid (belowNext HB.out hb1)
      have hsz := hb1.size
      clear hput hcell hds hc hb1 hSg e2b e2c HV HLn hwd hv0
      go_wp2
      go_roundw
      case rel =>
        refine ⟨k + 1, by omega, by go_num, Sh.Own.mono HP.out (fun b hb => ?_), (HN.out.setCell (Nat.le_refl _) _)⟩
        have h0 := HS.out
        simp only [World.setCell, Array.size_modify]
        rcases hb with hb | hb
        · have h1 := hb.1; have h2 := hb.2; exact ⟨h1, by omega⟩
        · have h1 := hb.1; have h2 := hb.2; exact ⟨by have := HB.out.size; omega, h2⟩
      case measure => simp [intOf]; omega
    · have hks : k = xs.length := by omega
      have HO : Hid (stoSh.Own 35 wr (fun b => w.heap.size ≤ b ∧ b < wr.heap.size) (.slice (some ⟨w.heap.size, 0, none⟩) xs.length xs.length) xs) := by
        subst hks; exact Lib.hid (by simpa using ho)
      clear hks hv ho
      go_wp2
      go_ret
      exact ⟨_, rfl, HO.out, hb⟩

set_option maxRecDepth 100000 in
theorem eqStoStore_alike (w : World) (cs ds : List Value) (x : Sto) (h : stoSh.rel w w.heap.size cs x) (h2 : stoSh.rel w w.heap.size ds x) :
    Calls Tryz.prog 15 #[.agg cs.toArray, .agg ds.toArray] w (Alike w) := by
  obtain ⟨u0, rfl, hu0⟩ := sto_rel.1 h
  obtain ⟨v0, rfl, hv0⟩ := sto_rel.1 h2
  obtain ⟨A0, c0, rfl, hc0, hd0⟩ := hu0.form
  obtain ⟨B0, e0, rfl, hc0', hd0'⟩ := hv0.form
  have HU0 := Lib.hid fun W (hb : Below w.heap.size w W) => (hu0.below hb).more hb.size
  have HV0 := Lib.hid fun W (hb : Below w.heap.size w W) => (hv0.below hb).more hb.size
  clear h h2 hu0 hv0
  have HI := Lib.hid (TwoInv.start w #[.slice A0 x.items.length c0] #[.slice B0 x.items.length e0] 35 35)
  go_enter Tryz.func15, Tryz.ntmps15
  go_wp2_with fail
  refine (eqStoItemS_alike _ _ _ x.items (HU0.out _ HI.out.bel) (HV0.out _ HI.out.bel)).mono ?_
  rintro e w1 ⟨rfl, hb⟩
  replace HI := Lib.hid (HI.out.call hb)
  clear hb
  have x0_0 := HI.out.one.of 0 _ rfl
  have y0_0 := HI.out.two.of 0 _ rfl
  go_wp2
  go_ret
  exact ⟨rfl, HI.out.bel⟩

set_option maxRecDepth 100000 in
theorem eqStoStoreS_alike (w : World) (v u : Value) (xs : List Sto) (hv : stoSh.Row w w.heap.size v xs) (hu : stoSh.Row w w.heap.size u xs) :
    Calls Tryz.prog 38 #[v, u] w (Alike w) := by
  obtain ⟨A, c, rfl, hc2, hc1⟩ := hv.form
  obtain ⟨A', c', rfl, hc2', hc1'⟩ := hu.form
  unfold maxLen at hc2 hc2'
  go_enter Tryz.func38, Tryz.ntmps38
  go_wp2
  go_loopw [5] (fun i wr => ∃ k : Nat, k ≤ xs.length ∧ i = .int .i64 k ∧ Below w.heap.size w wr) (fun i _ => xs.length - (intOf i).toNat)
  case atStart => exact ⟨0, Nat.zero_le _, rfl, Below.refl _ _⟩
  case round =>
    obtain ⟨k, hk, rfl, hb⟩ := hrel
    by_cases hlt : k < xs.length
    · obtain ⟨b, off, d, x, cs, e1, hx, hB, hr, hcell⟩ := hv.at_ (k := k) hlt
      obtain ⟨b2, off2, d2, x2, cs2, e2, hx2, hB2, hr2, hcell2⟩ := hu.at_ (k := k) hlt
      rw [hx] at hx2
      injection hx2 with hx2
      subst hx2
      injection e1 with e1a e1b e1c
      injection e2 with e2a e2b e2c
      subst e1a e2a
      have HR := Lib.hid fun (y : World) (hy : Below w.heap.size w y) => stoSh.rmore (stoSh.rbelow hr hy) hy.size
      have HR2 := Lib.hid fun (y : World) (hy : Below w.heap.size w y) => stoSh.rmore (stoSh.rbelow hr2 hy) hy.size
      obtain ⟨u0, rfl, hu0⟩ := sto_rel.1 hr
      obtain ⟨v0, rfl, hv0⟩ := sto_rel.1 hr2
      obtain ⟨A0, c0, rfl, -, -⟩ := hu0.form
      obtain ⟨B0, e0, rfl, -, -⟩ := hv0.form
      have p0 := hcell 0 _ rfl
      have q0 := hcell2 0 _ rfl
      have hwd : stoSh.wd = 1 := rfl
      rw [hwd] at p0 q0
      simp only [Nat.add_zero, Nat.mul_one] at p0 q0
      have HS := Lib.hid fun (y : World) (hy : Below w.heap.size w y) => And.intro ((hy.cell (p := ⟨b, off + k, none⟩) hB).trans p0) ((hy.cell (p := ⟨b2, off2 + k, none⟩) hB2).trans q0)
      obtain ⟨d0', d1'⟩ := HS.out wr hb
      have hb0 := hb.drew
      have f3 : (0 : Int) ≤ (k : Int) := by omega
      have f4 : (k : Int) < (xs.length : Int) := by omega
      clear e1b e1c e2b e2c hv hu hx hr hr2 hcell hcell2 hwd p0 q0 hu0 hv0
      go_wp2
      go_region_held3 (fun w' => w'.cell? ⟨b, off + k, none⟩ = some (.slice A0 x.items.length c0) ∧ w'.cell? ⟨b2, off2 + k, none⟩ = some (.slice B0 x.items.length e0))
        (first | exact HS.out _ hb0 | exact HS.out _ (by assumption))
        (first | (go_at_call 15; refine (eqStoStore_alike _ _ _ x (HR.out _ hb0) (HR2.out _ hb0)).mono ?_; rintro e w' ⟨rfl, hb'⟩; have hq := belowNext hb0 hb'; clear hb'))
      go_wp2
      go_roundw
      case rel => exact ⟨k + 1, by omega, by go_num, by assumption⟩
      case measure => simp [intOf]; omega
    · clear hv hu
      go_wp2
      go_ret
      exact ⟨rfl, hb⟩

end Go.Proofs.YtmbkhohgciakfaaGreat
