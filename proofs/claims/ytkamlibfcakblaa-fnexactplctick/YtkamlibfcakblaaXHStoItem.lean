/- The helpers of the exact laws over StoItem: a count, a copy, a comparison, marks. By shgen.py. -/
import Derived.Test.YtkamlibfcakblaaXHStr
import Derived.Test.YtkamlibfcakblaaXKey
import Derived.Deep.RegionHeld3
namespace Go.Proofs.Ytkamlibfcakblaa
open Go.RowKit

theorem wtStoItem (x : Item) : (itSh.wt x : Int) = (x.key.size : Int) + (intsSh.wt x.val : Int) := by
  show (((x.key.size + intsSh.wt x.val) : Nat) : Int) = _
  omega
theorem infoStoItemH : (Try.prog.info? 104).map (fun i => (i.zero, i.size, i.bytes)) = some (some (.agg #[.string ByteArray.empty, .slice none 0 0]), 2, 40) := by kernel_rfl
theorem madeStoItem (n : Nat) (hbytes : 40 * n ≤ 281474976710656) (w : World) :
    (Instr.makeSlice 52 (.int .i64 (n : Int)) (.int .i64 (n : Int))).run Try.prog w = .ok (.slice (some ⟨w.heap.size, 0, none⟩) n n) (w.alloc (.cells (madeCells #[.string ByteArray.empty, .slice none 0 0] (n * 2)) 104)) := by
  obtain ⟨i, hi, hzz⟩ := Option.map_eq_some_iff.1 infoStoItemH
  simp only [Prod.mk.injEq] at hzz
  obtain ⟨hz, hs, hb⟩ := hzz
  have hb' : (i.bytes : Int) * (n : Int) ≤ 281474976710656 := by
    have h : ((i.bytes * n : Nat) : Int) ≤ 281474976710656 := by rw [hb]; omega
    rwa [Int.natCast_mul] at h
  have hr := run_make (P := Try.prog) w 52 104 i _ Try.underlying52 hi hz .i64 .i64 n n (by omega) (Int.le_refl _) hb' (by omega)
  simp only [Int.toNat_natCast, hs] at hr
  exact hr
set_option maxRecDepth 100000 in
theorem eqStoItem_alike (w : World) (cs ds : List Value) (x : Item) (h : itSh.rel w w.heap.size cs x) (h2 : itSh.rel w w.heap.size ds x) :
    Calls Try.prog 130 #[.agg cs.toArray, .agg ds.toArray] w (Alike w) := by
  obtain ⟨u1, rfl, hs_key, hu1⟩ := it_rel.1 h
  obtain ⟨v1, rfl, -, hv1⟩ := it_rel.1 h2
  obtain ⟨A1, c1, rfl, hc1, hd1⟩ := hu1.form
  obtain ⟨B1, e1, rfl, hc1', hd1'⟩ := hv1.form
  have HU1 := Lib.hid fun W (hb : Below w.heap.size w W) => (hu1.below hb).more hb.size
  have HV1 := Lib.hid fun W (hb : Below w.heap.size w W) => (hv1.below hb).more hb.size
  clear h h2 hu1 hv1
  have HI := Lib.hid (TwoInv.start w #[.string x.key, .slice A1 x.val.length c1] #[.string x.key, .slice B1 x.val.length e1] 104 104)
  go_enter Try.func130, Try.ntmps130
  go_wp2_with fail
  refine (eqIntS_same _ _ _ _ x.val (HU1.out _ HI.out.bel) (HV1.out _ HI.out.bel)).mono ?_
  rintro e w1 ⟨rfl, hb⟩
  replace HI := Lib.hid (HI.out.call hb)
  clear hb
  have x0_0 := HI.out.one.of 0 _ rfl
  have x0_1 := HI.out.one.of 1 _ rfl
  have y0_0 := HI.out.two.of 0 _ rfl
  have y0_1 := HI.out.two.of 1 _ rfl
  go_wp2
  go_ret
  exact ⟨rfl, HI.out.bel⟩

set_option maxRecDepth 100000 in
theorem eqStoItemS_alike (w : World) (v u : Value) (xs : List Item) (hv : itSh.Row w w.heap.size v xs) (hu : itSh.Row w w.heap.size u xs) :
    Calls Try.prog 98 #[v, u] w (Alike w) := by
  obtain ⟨A, c, rfl, hc2, hc1⟩ := hv.form
  obtain ⟨A', c', rfl, hc2', hc1'⟩ := hu.form
  unfold maxLen at hc2 hc2'
  go_enter Try.func98, Try.ntmps98
  go_wp2
  go_loopw [5] (fun i wr => ∃ k : Nat, k ≤ xs.length ∧ i = .int .i64 k ∧ Below w.heap.size w wr) (fun i _ => xs.length - (intOf i).toNat)
  case atStart => exact ⟨0, Nat.zero_le _, rfl, Below.refl _ _⟩
  case round =>
    obtain ⟨k, hk, rfl, hb⟩ := hrel
    by_cases hlt : k < xs.length
    · obtain ⟨b, off, d, x, cs, e1, hx, hB, hr, hcell⟩ := hv.at_ (k := k) hlt
      obtain ⟨b2, off2, d2, x2, cs2, e2, hx2, hB2, hr2, hcell2⟩ := hu.at_ (k := k) hlt
      rw [hx] at hx2
      injection hx2 with hx2
      subst hx2
      injection e1 with e1a e1b e1c
      injection e2 with e2a e2b e2c
      subst e1a e2a
      have HR := Lib.hid fun (y : World) (hy : Below w.heap.size w y) => itSh.rmore (itSh.rbelow hr hy) hy.size
      have HR2 := Lib.hid fun (y : World) (hy : Below w.heap.size w y) => itSh.rmore (itSh.rbelow hr2 hy) hy.size
      obtain ⟨u1, rfl, hs_key, hu1⟩ := it_rel.1 hr
      obtain ⟨v1, rfl, -, hv1⟩ := it_rel.1 hr2
      obtain ⟨A1, c1, rfl, -, -⟩ := hu1.form
      obtain ⟨B1, e1, rfl, -, -⟩ := hv1.form
      have p0 := hcell 0 _ rfl
      have p1 := hcell 1 _ rfl
      have q0 := hcell2 0 _ rfl
      have q1 := hcell2 1 _ rfl
      have hwd : itSh.wd = 2 := rfl
      rw [hwd] at p0 q0 p1 q1
      simp only [Nat.add_zero] at p0 q0
      have HS := Lib.hid fun (y : World) (hy : Below w.heap.size w y) => And.intro ((hy.cell (p := ⟨b, off + k * 2, none⟩) hB).trans p0) (And.intro ((hy.cell (p := ⟨b, off + k * 2 + 1, none⟩) hB).trans p1) (And.intro ((hy.cell (p := ⟨b2, off2 + k * 2, none⟩) hB2).trans q0) ((hy.cell (p := ⟨b2, off2 + k * 2 + 1, none⟩) hB2).trans q1)))
      obtain ⟨d0', d1', d2', d3'⟩ := HS.out wr hb
      have hb0 := hb.drew
      have f3 : (0 : Int) ≤ (k : Int) := by omega
      have f4 : (k : Int) < (xs.length : Int) := by omega
      clear e1b e1c e2b e2c hv hu hx hr hr2 hcell hcell2 hwd p0 q0 p1 q1 hu1 hv1
      go_wp2
      go_region_held3 (fun w' => w'.cell? ⟨b, off + k * 2, none⟩ = some (.string x.key) ∧ w'.cell? ⟨b, off + k * 2 + 1, none⟩ = some (.slice A1 x.val.length c1) ∧ w'.cell? ⟨b2, off2 + k * 2, none⟩ = some (.string x.key) ∧ w'.cell? ⟨b2, off2 + k * 2 + 1, none⟩ = some (.slice B1 x.val.length e1))
        (first | exact HS.out _ hb0 | exact HS.out _ (by assumption))
        (first | (go_at_call 130; refine (eqStoItem_alike _ _ _ x (HR.out _ hb0) (HR2.out _ hb0)).mono ?_; rintro e w' ⟨rfl, hb'⟩; have hq := belowNext hb0 hb'; clear hb'))
      go_wp2
      go_roundw
      case rel => exact ⟨k + 1, by omega, by go_num, by assumption⟩
      case measure => simp [intOf]; omega
    · clear hv hu
      go_wp2
      go_ret
      exact ⟨rfl, hb⟩

end Go.Proofs.Ytkamlibfcakblaa
