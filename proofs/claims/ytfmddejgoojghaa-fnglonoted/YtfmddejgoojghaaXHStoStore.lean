/- The helpers of the exact laws over StoStore: a count, a copy, a comparison, marks. By shgen.py. -/
import Derived.Test.YtfmddejgoojghaaXHStoItem
import Derived.Test.YtfmddejgoojghaaXCopyI
import Derived.Deep.RegionHeld3
namespace Go.Proofs.Ytfmddejgoojghaa
open Go.RowKit

theorem wtStoStore (x : Sto) : (stoSh.wt x : Int) = (itsSh.wt x.items : Int) := by
  show ((itsSh.wt x.items : Nat) : Int) = _
  omega
theorem szStoStore_sh1 (w : World) (cs : List Value) (x : Sto) (h : stoSh.rel w w.heap.size cs x) (left : Int) (h0 : 0 ≤ left) (h1 : left ≤ 1048576) :
    Calls Try.prog 20 #[.agg cs.toArray, .int .i64 left] w (Sized left (stoSh.wt x) w) := by
  obtain ⟨u0, rfl, hu0⟩ := sto_rel.1 h
  obtain ⟨A0, c0, rfl, hc0, hd0⟩ := hu0.form
  unfold maxLen at hc0
  have HU0 := Lib.hid fun W (hb : Below w.heap.size w W) => (hu0.below hb).more hb.size
  clear h hu0
  have HT := Lib.hid (wtStoStore x)
  have HB0 := Lib.hid (belowOne w (.cells #[.slice A0 x.items.length c0] 38))
  have HX0 := Lib.hid (Held.new w #[.slice A0 x.items.length c0] 38)
  go_enter Try.func20, Try.ntmps20
  by_cases hq0 : left < (itsSh.wt x.items : Int)
  · have hl := less_no hq0
    go_wp2_with fail
    refine (szStoItemS_sh _ _ _ (HU0.out _ HB0.out) _ (by omega) (by omega)).mono ?_
    rintro e w1 ⟨rfl, hb⟩
    rw [hl]
    have HB1 := Lib.hid (belowNext HB0.out hb)
    have HX1 := Lib.hid (HX0.out.below hb HX0.out.1)
    clear hb
    clear hl HB0 HX0
    have x0 := HX1.out.of 0 _ rfl
    go_wp2
    go_ret
    exact ⟨ret_int (by rw [less_no (by rw [HT.out]; omega)]), HB1.out⟩
  · have hl := less_yes (show (itsSh.wt x.items : Int) ≤ left by omega)
    have hq0' : (itsSh.wt x.items : Int) ≤ left := by omega
    clear hq0
    go_wp2_with fail
    refine (szStoItemS_sh _ _ _ (HU0.out _ HB0.out) _ (by omega) (by omega)).mono ?_
    rintro e w1 ⟨rfl, hb⟩
    rw [hl]
    have HB1 := Lib.hid (belowNext HB0.out hb)
    have HX1 := Lib.hid (HX0.out.below hb HX0.out.1)
    clear hb
    clear hl HB0 HX0
    have x0 := HX1.out.of 0 _ rfl
    go_wp2
    go_ret
    exact ⟨ret_int (by rw [less_yes (by rw [HT.out]; omega), HT.out] <;> omega), HB1.out⟩
set_option maxRecDepth 100000 in
theorem toStoStore_sh1 (w : World) (cs : List Value) (x : Sto) (h : stoSh.rel w w.heap.size cs x) (hl : stoSh.wt x ≤ 1048576) :
    Calls Try.prog 22 #[.agg cs.toArray] w (CopiedAg stoSh x w) := by
  have hwt := wtStoStore x
  obtain ⟨u0, rfl, hu0⟩ := sto_rel.1 h
  have hn0 : x.items.length ≤ itsSh.wt x.items := wtL_len _ _
  obtain ⟨A0, c0, rfl, hc0, hd0⟩ := hu0.form
  have HU0 := Lib.hid fun W (hb : Below w.heap.size w W) => (hu0.below hb).more hb.size
  have hm0 : itsSh.wt x.items ≤ 1048576 := by omega
  have hp0 : x.items.length ≤ 1048576 := by omega
  clear h hwt hu0
  have HI := Lib.hid (ToInv.start w #[.slice A0 x.items.length c0] #[.slice none 0 0] #[.slice none 0 0] 38 43 43)
  go_enter Try.func22, Try.ntmps22
  go_wp2_with fail
  refine (toStoItemS_sh _ _ x.items (HU0.out _ HI.out.bel) hm0).mono ?_
  rintro e w1 ⟨v0, rfl, ho, hb⟩
  obtain ⟨B0, e0, rfl, -, -⟩ := ho.row.form
  have hz := HI.out.size
  have HJ := Lib.hid (HI.out.call hb)
  have HS0 : Hid (CopFrom itSh 58 (w.heap.size + 1 + 1 + 1) (w1.heap.size) (.slice B0 x.items.length e0) x.items w1) := Lib.hid (Sh.Own.mono ho fun b hb => ⟨by have := hb.1; simp at this; omega, hb.2⟩)
  have hzw : w.heap.size + 1 + 1 + 1 ≤ w1.heap.size := by have := hb.size; simp at this; omega
  have x0 := HJ.out.box.of 0 _ rfl
  have o0 := HJ.out.out.of 0 _ rfl
  have of := HJ.out.out.2.1
  replace HJ := Lib.hid (HJ.out.putOut 0 (.slice B0 x.items.length e0))
  replace HS0 := Lib.hid (HS0.out.set (p := ⟨w.heap.size + 1 + 1, 0, none⟩) (by show w.heap.size + 1 + 1 < _; omega) (.slice B0 x.items.length e0))
  clear HI hb ho hz
  have HI := HJ
  clear HJ
  have r0 := HI.out.res.of 0 _ rfl
  have rf := HI.out.res.2.1
  go_wp2
  replace HI := Lib.hid (HI.out.putRes 0 (.slice B0 x.items.length e0))
  replace HS0 := Lib.hid (HS0.out.set (p := ⟨w.heap.size + 1, 0, none⟩) (by show w.heap.size + 1 < _; omega) (.slice B0 x.items.length e0))
  have q0 := HI.out.res.of 0 _ rfl
  refine bodyPost_ret (v := .agg #[.slice B0 x.items.length e0]) (by simp [results, Try.results22, go_sem, q0]) rfl ⟨[.slice B0 x.items.length e0], rfl, ?_, HI.out.bel⟩
  exact sto_own.2 ⟨_, rfl, Sh.Own.mono HS0.out fun b hb => ⟨by have := hb.1; omega, by simp [World.setCell]; exact hb.2⟩⟩

theorem infoStoStoreH : (Try.prog.info? 43).map (fun i => (i.zero, i.size, i.bytes)) = some (some (.agg #[.slice none 0 0]), 1, 24) := by kernel_rfl
theorem madeStoStore (n : Nat) (hbytes : 24 * n ≤ 281474976710656) (w : World) :
    (Instr.makeSlice 48 (.int .i64 (n : Int)) (.int .i64 (n : Int))).run Try.prog w = .ok (.slice (some ⟨w.heap.size, 0, none⟩) n n) (w.alloc (.cells (madeCells #[.slice none 0 0] (n)) 43)) := by
  obtain ⟨i, hi, hzz⟩ := Option.map_eq_some_iff.1 infoStoStoreH
  simp only [Prod.mk.injEq] at hzz
  obtain ⟨hz, hs, hb⟩ := hzz
  have hb' : (i.bytes : Int) * (n : Int) ≤ 281474976710656 := by
    have h : ((i.bytes * n : Nat) : Int) ≤ 281474976710656 := by rw [hb]; omega
    rwa [Int.natCast_mul] at h
  have hr := run_make (P := Try.prog) w 48 43 i _ Try.underlying48 hi hz .i64 .i64 n n (by omega) (Int.le_refl _) hb' (by omega)
  simp only [Int.toNat_natCast, hs, Nat.mul_one] at hr
  exact hr
set_option maxRecDepth 100000 in
theorem eqStoStore_alike (w : World) (cs ds : List Value) (x : Sto) (h : stoSh.rel w w.heap.size cs x) (h2 : stoSh.rel w w.heap.size ds x) :
    Calls Try.prog 24 #[.agg cs.toArray, .agg ds.toArray] w (Alike w) := by
  obtain ⟨u0, rfl, hu0⟩ := sto_rel.1 h
  obtain ⟨v0, rfl, hv0⟩ := sto_rel.1 h2
  obtain ⟨A0, c0, rfl, hc0, hd0⟩ := hu0.form
  obtain ⟨B0, e0, rfl, hc0', hd0'⟩ := hv0.form
  have HU0 := Lib.hid fun W (hb : Below w.heap.size w W) => (hu0.below hb).more hb.size
  have HV0 := Lib.hid fun W (hb : Below w.heap.size w W) => (hv0.below hb).more hb.size
  clear h h2 hu0 hv0
  have HI := Lib.hid (TwoInv.start w #[.slice A0 x.items.length c0] #[.slice B0 x.items.length e0] 43 43)
  go_enter Try.func24, Try.ntmps24
  go_wp2_with fail
  refine (eqStoItemS_alike _ _ _ x.items (HU0.out _ HI.out.bel) (HV0.out _ HI.out.bel)).mono ?_
  rintro e w1 ⟨rfl, hb⟩
  replace HI := Lib.hid (HI.out.call hb)
  clear hb
  have x0_0 := HI.out.one.of 0 _ rfl
  have y0_0 := HI.out.two.of 0 _ rfl
  go_wp2
  go_ret
  exact ⟨rfl, HI.out.bel⟩

end Go.Proofs.Ytfmddejgoojghaa
