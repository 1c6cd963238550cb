/- Texts that follow each other, merged: MStoItem, ShapesSto, HStoStore. -/
import Derived.Test.YtkamlibfcakblaaXHMark
import Derived.Test.YtkamlibfcakblaaXHStoItem
import Derived.Test.YtkamlibfcakblaaXExItems
import Derived.Deep.RegionHeld3

/- Marks on StoItem and on slices of it. By shgen.py. -/
namespace Go.Proofs.Ytkamlibfcakblaa
open Go.RowKit

theorem setStoItemKey {w : World} {S : Nat → Prop} {cs : List Value} {x : Item} {g o : Nat} (h : itSh.own w S cs x) (hg : ¬ S g) (a : ByteArray) (ha : a.size ≤ maxLen) : itSh.own (w.setCell ⟨g, o, none⟩ (.string a)) S (cs.set 0 (.string a)) { x with key := a } := by
  obtain ⟨u1, rfl, hs_key, ho1⟩ := it_own.1 h
  exact it_own.2 ⟨u1, rfl, ha, (ho1.keep fun b hb _ => Below.heap_setCell _ _ _ _ (by rintro rfl; exact hg (hb)))⟩
theorem subStoItemVal {w : World} {S : Nat → Prop} {cs : List Value} {x : Item} (h : itSh.own w S cs x) : ∃ u Sf, cs[1]? = some u ∧ Sh.int.Own 3 w Sf u x.val ∧ (∀ b, Sf b → S b) ∧ ∀ w' ys, Sh.int.Own 3 w' Sf u ys → Outs Sf w w' → itSh.own w' S cs { x with val := ys } := by
  obtain ⟨u1, rfl, hs_key, ho1⟩ := it_own.1 h
  exact ⟨u1, S, rfl, ho1, fun _ h => h, fun w' ys hy _ => it_own.2 ⟨u1, rfl, hs_key, hy⟩⟩
set_option maxRecDepth 100000 in
set_option maxHeartbeats 1000000 in
theorem markStoItemS_sh (w : World) (S : Nat → Prop) (v : Value) (xs : List Item) (hv : itSh.Own 104 w S v xs) (k : Int) (hl : itsSh.wt xs ≤ 1048576) (h0 : 1 ≤ k) (h1 : k + 16 * (itsSh.wt xs : Int) ≤ 1000000000000000) :
    Calls Try.prog 99 #[v, .int .i64 k] w (MarkedSl itSh 104 S v xs k w) := by
  have hn : xs.length ≤ itsSh.wt xs := wtL_len _ _
  obtain ⟨Ad, c, hvf, hc2, hc1⟩ := hv.row.form
  subst hvf
  unfold maxLen at hc2
  have HV := Lib.hid hv
  clear hv
  go_enter Try.func99, Try.ntmps99
  go_wp2
  go_loopw [1, 5] (fun q i wr => ∃ (m : Nat) (ys : List Item), m ≤ xs.length ∧ i = .int .i64 m ∧ q = .int .i64 (k + cntL itSh.cnt (xs.take m)) ∧ ys.length = xs.length ∧ cntL itSh.cnt (ys.take m) = cntL itSh.cnt (xs.take m) ∧ (∀ j, m ≤ j → ys[j]? = xs[j]?) ∧ MkTo itSh.cnt itSh.mkd k ys m ∧ itSh.Own 104 wr S (.slice Ad xs.length c) ys ∧ Outs S w wr) (fun _ i _ => xs.length - (intOf i).toNat)
  case atStart => exact ⟨0, xs, Nat.zero_le _, rfl, by simp [cntL], rfl, rfl, fun _ _ => rfl, MkTo.start _ _ _ _, HV.out, Outs.refl _ _⟩
  case round =>
    clear HV
    obtain ⟨m, ys, hm, rfl, rfl, hyl, hcm, hfar, hmk, hown, hout⟩ := hrel
    by_cases hlt : m < xs.length
    · obtain ⟨x, hx⟩ : ∃ x, xs[m]? = some x := ⟨_, List.getElem?_eq_getElem hlt⟩
      have hyx : ys[m]? = some x := (hfar m (Nat.le_refl _)).trans hx
      have hset : ys.set m x = ys := by
        obtain ⟨h', e'⟩ := List.getElem?_eq_some_iff.1 hyx
        rw [← e']; exact List.set_getElem_self h'
      have hb1 : wtL itSh.wt (xs.take (m + 1)) ≤ itsSh.wt xs := wtL_take_le _ _ _
      rw [wtL_take hx] at hb1
      have hb2 := cntL_le itSh.cnt itSh.wt itSh.base (by decide) itSh.cntLe (xs.take m)
      have hwx := wtStoItem x
      rcases hown.form with ⟨hv', -⟩ | ⟨g, cap, hv', hSg, hgw, -, -⟩
      · injection hv' with _ hv' _; omega
      rw [hyl] at hv'
      injection hv' with hv1 hv2 hv3
      subst hv1 hv3
      obtain ⟨K, hK⟩ : ∃ K, k + (cntL itSh.cnt (xs.take m) : Int) = K := ⟨_, rfl⟩
      rw [hK]
      have hK1 : 1 ≤ K := by omega
      have hK2 : K + 16 * (1 + (itSh.wt x : Int)) ≤ 1000000000000000 := by omega
      have HK := Lib.hid hK
      have HYl := Lib.hid hyl
      have HCm := Lib.hid hcm
      have HFar := Lib.hid hfar
      have HMk := Lib.hid hmk
      have HOut := Lib.hid hout
      have HX := Lib.hid hx
      have HO : Hid (itSh.Own 104 wr S (.slice (some ⟨g, 0, none⟩) xs.length c) (ys.set m x)) := Lib.hid (hset.symm ▸ hown)
      have hmy : m < ys.length := by omega
      clear hv2 hK hyl hcm hfar hmk hown hout hx hyx hset
      have hsub1 : intsSh.wt x.val ≤ 1048576 := by omega
      clear hb1 hb2
      go_wp2_with fail
      refine (markText_any _ _ (by omega) (by omega)).mono ?_
      rintro e w1 ⟨rfl, hb⟩
      replace HO := Lib.hid (HO.out.below hb)
      replace HOut := Lib.hid (HOut.out.trans (Outs.of_below hb))
      clear hb
      obtain ⟨cs, Sj, ho, hS, -, hc, hf, hkeep, hput⟩ := HO.out.focus hmy
      obtain ⟨y1, rfl, -, hy1⟩ := it_rel.1 (itSh.orel ho)
      obtain ⟨Y1, z1, rfl, -, -⟩ := hy1.form
      have t0 : (w1).cell? ⟨g, m * 2, none⟩ = some _ := hc 0 _ rfl
      have f0 : (w1).frozen? ⟨g, m * 2, none⟩ = false := hf _
      have HO' : Hid (itSh.Own 104 (w1.setCell ⟨g, m * 2, none⟩ (.string (markS (K)))) S (.slice (some ⟨g, 0, none⟩) xs.length c) (ys.set m { key := markS (K), val := x.val })) := Lib.hid (hput 0 (.string (markS (K))) { key := markS (K), val := x.val } (by decide) (setStoItemKey ho (fun h => (hS _ h).2 rfl) (markS (K)) (markS_size (by omega))))
      replace HOut := Lib.hid (HOut.out.trans (Outs.of_set w1 ⟨g, m * 2, none⟩ (.string (markS (K))) hSg))
      clear HO ho hS hc hf hkeep hput hy1
      have HO := HO'
      clear HO'
      obtain ⟨cs, Sj, ho, hS, -, hc, hf, hkeep, hput⟩ := HO.out.focus hmy
      obtain ⟨y1, rfl, -, hy1⟩ := it_rel.1 (itSh.orel ho)
      obtain ⟨Y1, z1, rfl, -, -⟩ := hy1.form
      have t1 : ((w1.setCell ⟨g, m * 2, none⟩ (.string (markS (K))))).cell? ⟨g, m * 2 + 1, none⟩ = some _ := hc 1 _ rfl
      obtain ⟨u, Sf, hu, hsf, hss, hback⟩ := subStoItemVal ho
      obtain rfl : _ = u := Option.some.inj hu
      have HSf := Lib.hid hsf
      have HBk := Lib.hid fun w' ys' (h1 : Sh.int.Own 3 w' Sf _ ys') (h2 : Outs Sf ((w1.setCell ⟨g, m * 2, none⟩ (.string (markS (K))))) w') => hkeep w' _ (hback w' ys' h1 h2) (h2.mono fun _ _ h => hss _ h)
      have HSs := Lib.hid fun b (hb : Sf b) => (hS b (hss b hb)).1
      clear HO ho hS hc hf hkeep hput hu hsf hss hback hy1
      go_wp2_with fail
      refine (markIntS_sh _ Sf _ _ HSf.out _ hsub1 (by omega) (by omega)).mono ?_
      rintro e w2 ⟨l1, rfl, hll1, hlc1, hlm1, hlo1, hlout1⟩
      have HO := Lib.hid (HBk.out _ _ hlo1 hlout1)
      replace HOut := Lib.hid (HOut.out.trans (hlout1.mono fun b _ hb => HSs.out b hb))
      have HC1 := Lib.hid hlc1
      have HL1 := Lib.hid hlm1
      have hcb1 : cntL Sh.int.cnt x.val ≤ 0 + 16 * intsSh.wt x.val := cntL_le Sh.int.cnt Sh.int.wt Sh.int.base (by decide) Sh.int.cntLe x.val
      clear HSf HBk HSs hll1 hlc1 hlm1 hlo1 hlout1
      have hcx : itSh.cnt x = (1 + cntL Sh.int.cnt x.val) := rfl
      have hcy : itSh.cnt ({ key := markS (K), val := l1 } : Item) = itSh.cnt x := by
        show (1 + cntL Sh.int.cnt l1) = (1 + cntL Sh.int.cnt x.val)
        rw [HC1.out]
      have HCx := Lib.hid hcx
      have HCy := Lib.hid hcy
      have HMd : Hid (itSh.mkd K ({ key := markS (K), val := l1 } : Item)) := Lib.hid ⟨rfl, HL1.out⟩
      clear hcx hcy
      go_wp2
      go_roundw
      case rel =>
        refine ⟨m + 1, ys.set m { key := markS (K), val := l1 }, by omega, by go_num, int_eq ?_, by rw [List.length_set]; exact HYl.out, ?_, fun j hj => ?_, ?_, HO.out, HOut.out⟩
        · rw [cntL_take HX.out, HCx.out]; have := HK.out; omega
        · rw [cntL_take (List.getElem?_set_self hmy), cnt_set_take (Nat.le_refl _), HCm.out, cntL_take HX.out, HCy.out]
        · rw [List.getElem?_set_ne (by omega)]; exact HFar.out j (by omega)
        · exact HMk.out.step hmy (by rw [HCm.out, HK.out]; exact HMd.out)
      case measure => simp [intOf]; omega
    · obtain rfl : m = xs.length := by omega
      have HYl := Lib.hid hyl
      have HCm := Lib.hid hcm
      have HMk := Lib.hid hmk
      have HO := Lib.hid hown
      have HOut := Lib.hid hout
      clear hyl hcm hfar hmk hown hout
      go_wp2
      go_ret
      have hty : ys.take xs.length = ys := by rw [← HYl.out]; exact List.take_length
      have hc := HCm.out
      rw [hty, List.take_length] at hc
      exact ⟨ys, ret_int (by rw [List.take_length]), HYl.out, hc, MkTo.all (HYl.out.symm ▸ HMk.out), HO.out, HOut.out⟩
set_option maxRecDepth 100000 in
set_option maxHeartbeats 1000000 in
theorem heldStoItemS_sh (w : World) (v : Value) (xs : List Item) (hv : itSh.Row w w.heap.size v xs) (k : Int) (hl : itsSh.wt xs ≤ 1048576) (h0 : 1 ≤ k) (h1 : k + 16 * (itsSh.wt xs : Int) ≤ 1000000000000000) (hm : mkdL itSh.cnt itSh.mkd k xs) :
    Calls Try.prog 100 #[v, .int .i64 k] w fun e w' => e = .returned (.int .i64 (k + cntL itSh.cnt xs)) ∧ Below w.heap.size w w' := by
  have hn : xs.length ≤ itsSh.wt xs := wtL_len _ _
  obtain ⟨Ad, c, hvf, hc2, hc1⟩ := hv.form
  subst hvf
  unfold maxLen at hc2
  have HM := Lib.hid hm
  clear hm
  go_enter Try.func100, Try.ntmps100
  go_wp2
  go_loopw [1, 5] (fun q i wr => ∃ m : Nat, m ≤ xs.length ∧ i = .int .i64 m ∧ q = .int .i64 (k + cntL itSh.cnt (xs.take m)) ∧ Below w.heap.size w wr) (fun _ i _ => xs.length - (intOf i).toNat)
  case atStart => exact ⟨0, Nat.zero_le _, rfl, by simp [cntL], Below.refl _ _⟩
  case round =>
    obtain ⟨m, hm, rfl, rfl, hb⟩ := hrel
    by_cases hlt : m < xs.length
    · obtain ⟨b, off, c', x, cs, e1, hx, hB, hr, hcell⟩ := hv.at_ (k := m) hlt
      injection e1 with e1a e1b e1c
      subst e1a
      have hmd := mkdL_at HM.out hx
      have hb1 : wtL itSh.wt (xs.take (m + 1)) ≤ itsSh.wt xs := wtL_take_le _ _ _
      rw [wtL_take hx] at hb1
      have hb2 := cntL_le itSh.cnt itSh.wt itSh.base (by decide) itSh.cntLe (xs.take m)
      have hwx := wtStoItem x
      obtain ⟨K, hK⟩ : ∃ K, k + (cntL itSh.cnt (xs.take m) : Int) = K := ⟨_, rfl⟩
      rw [hK] at hmd ⊢
      have hK1 : 1 ≤ K := by omega
      have hK2 : K + 16 * (1 + (itSh.wt x : Int)) ≤ 1000000000000000 := by omega
      have hsub1 : intsSh.wt x.val ≤ 1048576 := by omega
      have hcb1 : cntL Sh.int.cnt x.val ≤ 0 + 16 * intsSh.wt x.val := cntL_le Sh.int.cnt Sh.int.wt Sh.int.base (by decide) Sh.int.cntLe x.val
      obtain ⟨md0, md1⟩ := hmd
      obtain ⟨u1, rfl, -, hu1⟩ := it_rel.1 hr
      obtain ⟨A1, c1, rfl, -, -⟩ := hu1.form
      have HU1 := Lib.hid fun (y : World) (hy : Below w.heap.size w y) => (hu1.below hy).more hy.size
      have md0' : x.key = markS (K) := md0
      clear md0
      have HMd1 : Hid (mkdL Sh.int.cnt Sh.int.mkd (K + 1) x.val) := Lib.hid md1
      clear md1
      have p0 : w.cell? ⟨b, off + m * 2, none⟩ = some _ := hcell 0 _ rfl
      have p1 : w.cell? ⟨b, off + m * 2 + 1, none⟩ = some _ := hcell 1 _ rfl
      rw [md0'] at p0
      have HS := Lib.hid fun (y : World) (hy : Below w.heap.size w y) => And.intro ((hy.cell (p := ⟨b, off + m * 2, none⟩) hB).trans p0) ((hy.cell (p := ⟨b, off + m * 2 + 1, none⟩) hB).trans p1)
      have hcx : itSh.cnt x = (1 + cntL Sh.int.cnt x.val) := rfl
      have HCx := Lib.hid hcx
      have HX := Lib.hid hx
      have HK := Lib.hid hK
      have HB := Lib.hid hb
      have f3 : (0 : Int) ≤ (m : Int) := by omega
      have f4 : (m : Int) < (xs.length : Int) := by omega
      clear e1b e1c hv hx hr hcell hb1 hb2 hcx hK hu1 md0' p0 p1
      obtain ⟨d0, d1⟩ := HS.out wr hb
      have hb0 := hb.drew
      go_wp2
      go_region_held3 (fun w' => w'.cell? ⟨b, off + m * 2, none⟩ = some (.string (markS (K))))
        (first | exact (HS.out _ hb0).1 | exact (HS.out _ (by assumption)).1)
        (first | (go_at_call 97; refine (markText_any _ _ (by omega) (by omega)).mono ?_; rintro e w' ⟨rfl, hb'⟩; have hq := belowNext hb0 hb'; clear hb'))
      clear hb0
      have HBq := Lib.hid hq
      obtain ⟨e0_0, e0_1⟩ := HS.out _ hq
      go_wp2_with fail
      refine (heldIntS_sh _ _ x.val (HU1.out _ hq) _ hsub1 (by omega) (by omega) HMd1.out).mono ?_
      rintro e v1 ⟨rfl, hbv1⟩
      have hn1 := belowNext hq hbv1
      clear hbv1
      obtain ⟨g1_0, g1_1⟩ := HS.out _ hn1
      go_wp2
      go_roundw
      case rel => exact ⟨m + 1, by omega, by go_num, int_eq (by rw [cntL_take HX.out, HCx.out]; have := HK.out; omega), hn1⟩
      case measure => simp [intOf]; omega
    · obtain rfl : m = xs.length := by omega
      clear hv
      go_wp2
      go_ret
      exact ⟨ret_int (by rw [List.take_length]), hb⟩

end Go.Proofs.Ytkamlibfcakblaa

/- The shape of what a place keeps, and of what some places keep. -/
namespace Go.Proofs.Ytkamlibfcakblaa
open Go.RowKit

/-- What a place keeps. -/
structure Sto where
  items : List Item
def stoSh : Sh Sto := itsSh.conv (fun x => x.items) (fun p => ⟨p⟩) rfl
abbrev stosSh : Sh (List Sto) := stoSh.sl 54 (by decide)
section
variable {w : World} {B : Nat} {S : Nat → Prop} {v : Value}
theorem sto_rel {cs : List Value} {x : Sto} : stoSh.rel w B cs x ↔ ∃ u, cs = [u] ∧ itSh.Row w B u x.items := Iff.rfl
theorem sto_own {cs : List Value} {x : Sto} : stoSh.own w S cs x ↔ ∃ u, cs = [u] ∧ itSh.Own 104 w S u x.items := Iff.rfl
/-- What one of some places keeps. -/
theorem stos_at {xs : List Sto} (h : stoSh.Row w B v xs) {k : Nat} (hk : k < xs.length) : ∃ b off c x u, v = .slice (some ⟨b, off, none⟩) xs.length c ∧ xs[k]? = some x ∧ b < B ∧ w.cell? ⟨b, off + k, none⟩ = some u ∧ itSh.Row w B u x.items := by
  obtain ⟨b, off, c, x, cs, hv, hx, hb, ⟨u, rfl, hu⟩, hc⟩ := h.at_ hk
  have := hc 0 _ rfl
  have hwd : stoSh.wd = 1 := rfl
  rw [hwd] at this
  exact ⟨b, off, c, x, u, hv, hx, hb, by simpa using this, hu⟩
end

end Go.Proofs.Ytkamlibfcakblaa

/- The helpers of the exact laws over StoStore: a count, a copy, a comparison, marks. By shgen.py. -/
namespace Go.Proofs.Ytkamlibfcakblaa
open Go.RowKit

theorem wtStoStore (x : Sto) : (stoSh.wt x : Int) = (itsSh.wt x.items : Int) := by
  show ((itsSh.wt x.items : Nat) : Int) = _
  omega
theorem infoStoStoreH : (Try.prog.info? 54).map (fun i => (i.zero, i.size, i.bytes)) = some (some (.agg #[.slice none 0 0]), 1, 24) := by kernel_rfl
set_option maxRecDepth 100000 in
theorem eqStoStore_alike (w : World) (cs ds : List Value) (x : Sto) (h : stoSh.rel w w.heap.size cs x) (h2 : stoSh.rel w w.heap.size ds x) :
    Calls Try.prog 49 #[.agg cs.toArray, .agg ds.toArray] w (Alike w) := by
  obtain ⟨u0, rfl, hu0⟩ := sto_rel.1 h
  obtain ⟨v0, rfl, hv0⟩ := sto_rel.1 h2
  obtain ⟨A0, c0, rfl, hc0, hd0⟩ := hu0.form
  obtain ⟨B0, e0, rfl, hc0', hd0'⟩ := hv0.form
  have HU0 := Lib.hid fun W (hb : Below w.heap.size w W) => (hu0.below hb).more hb.size
  have HV0 := Lib.hid fun W (hb : Below w.heap.size w W) => (hv0.below hb).more hb.size
  clear h h2 hu0 hv0
  have HI := Lib.hid (TwoInv.start w #[.slice A0 x.items.length c0] #[.slice B0 x.items.length e0] 54 54)
  go_enter Try.func49, Try.ntmps49
  go_wp2_with fail
  refine (eqStoItemS_alike _ _ _ x.items (HU0.out _ HI.out.bel) (HV0.out _ HI.out.bel)).mono ?_
  rintro e w1 ⟨rfl, hb⟩
  replace HI := Lib.hid (HI.out.call hb)
  clear hb
  have x0_0 := HI.out.one.of 0 _ rfl
  have y0_0 := HI.out.two.of 0 _ rfl
  go_wp2
  go_ret
  exact ⟨rfl, HI.out.bel⟩

end Go.Proofs.Ytkamlibfcakblaa
