/- Marks on StoWrite and on slices of it. By shgen.py. -/
import Derived.Test.YtkamlibfcakblaaXMarkSize
import Derived.Test.YtkamlibfcakblaaXMarkWt
namespace Go.Proofs.Ytkamlibfcakblaa
open Go.RowKit

theorem setStoWriteKey {w : World} {S : Nat → Prop} {cs : List Value} {x : Wr} {g o : Nat} (h : wrSh.own w S cs x) (hg : ¬ S g) (a : ByteArray) (ha : a.size ≤ maxLen) : wrSh.own (w.setCell ⟨g, o, none⟩ (.string a)) S (cs.set 0 (.string a)) { x with key := a } := by
  obtain ⟨u2, rfl, hs_key, ho2⟩ := wr_own.1 h
  exact wr_own.2 ⟨u2, rfl, ha, (ho2.keep fun b hb _ => Below.heap_setCell _ _ _ _ (by rintro rfl; exact hg (hb)))⟩
theorem setStoWriteDel {w : World} {S : Nat → Prop} {cs : List Value} {x : Wr} {g o : Nat} (h : wrSh.own w S cs x) (hg : ¬ S g) (a : Bool) : wrSh.own (w.setCell ⟨g, o, none⟩ (.bool a)) S (cs.set 1 (.bool a)) { x with del := a } := by
  obtain ⟨u2, rfl, hs_key, ho2⟩ := wr_own.1 h
  exact wr_own.2 ⟨u2, rfl, hs_key, (ho2.keep fun b hb _ => Below.heap_setCell _ _ _ _ (by rintro rfl; exact hg (hb)))⟩
theorem subStoWriteVal {w : World} {S : Nat → Prop} {cs : List Value} {x : Wr} (h : wrSh.own w S cs x) : ∃ u Sf, cs[2]? = some u ∧ Sh.int.Own 3 w Sf u x.val ∧ (∀ b, Sf b → S b) ∧ ∀ w' ys, Sh.int.Own 3 w' Sf u ys → Outs Sf w w' → wrSh.own w' S cs { x with val := ys } := by
  obtain ⟨u2, rfl, hs_key, ho2⟩ := wr_own.1 h
  exact ⟨u2, S, rfl, ho2, fun _ h => h, fun w' ys hy _ => wr_own.2 ⟨u2, rfl, hs_key, hy⟩⟩
set_option maxRecDepth 100000 in
set_option maxHeartbeats 1000000 in
theorem markStoWriteS_sh (w : World) (S : Nat → Prop) (v : Value) (xs : List Wr) (hv : wrSh.Own 86 w S v xs) (k : Int) (hl : wrsSh.wt xs ≤ 1048576) (h0 : 1 ≤ k) (h1 : k + 16 * (wrsSh.wt xs : Int) ≤ 1000000000000000) :
    Calls Try.prog 129 #[v, .int .i64 k] w (MarkedSl wrSh 86 S v xs k w) := by
  have hn : xs.length ≤ wrsSh.wt xs := wtL_len _ _
  obtain ⟨Ad, c, hvf, hc2, hc1⟩ := hv.row.form
  subst hvf
  unfold maxLen at hc2
  have HV := Lib.hid hv
  clear hv
  go_enter Try.func129, Try.ntmps129
  go_wp2
  go_loopw [1, 5] (fun q i wr => ∃ (m : Nat) (ys : List Wr), m ≤ xs.length ∧ i = .int .i64 m ∧ q = .int .i64 (k + cntL wrSh.cnt (xs.take m)) ∧ ys.length = xs.length ∧ cntL wrSh.cnt (ys.take m) = cntL wrSh.cnt (xs.take m) ∧ (∀ j, m ≤ j → ys[j]? = xs[j]?) ∧ MkTo wrSh.cnt wrSh.mkd k ys m ∧ wrSh.Own 86 wr S (.slice Ad xs.length c) ys ∧ Outs S w wr) (fun _ i _ => xs.length - (intOf i).toNat)
  case atStart => exact ⟨0, xs, Nat.zero_le _, rfl, by simp [cntL], rfl, rfl, fun _ _ => rfl, MkTo.start _ _ _ _, HV.out, Outs.refl _ _⟩
  case round =>
    clear HV
    obtain ⟨m, ys, hm, rfl, rfl, hyl, hcm, hfar, hmk, hown, hout⟩ := hrel
    by_cases hlt : m < xs.length
    · obtain ⟨x, hx⟩ : ∃ x, xs[m]? = some x := ⟨_, List.getElem?_eq_getElem hlt⟩
      have hyx : ys[m]? = some x := (hfar m (Nat.le_refl _)).trans hx
      have hset : ys.set m x = ys := by
        obtain ⟨h', e'⟩ := List.getElem?_eq_some_iff.1 hyx
        rw [← e']; exact List.set_getElem_self h'
      have hb1 : wtL wrSh.wt (xs.take (m + 1)) ≤ wrsSh.wt xs := wtL_take_le _ _ _
      rw [wtL_take hx] at hb1
      have hb2 := cntL_le wrSh.cnt wrSh.wt wrSh.base (by decide) wrSh.cntLe (xs.take m)
      have hwx := wtStoWrite x
      rcases hown.form with ⟨hv', -⟩ | ⟨g, cap, hv', hSg, hgw, -, -⟩
      · injection hv' with _ hv' _; omega
      rw [hyl] at hv'
      injection hv' with hv1 hv2 hv3
      subst hv1 hv3
      obtain ⟨K, hK⟩ : ∃ K, k + (cntL wrSh.cnt (xs.take m) : Int) = K := ⟨_, rfl⟩
      rw [hK]
      have hK1 : 1 ≤ K := by omega
      have hK2 : K + 16 * (1 + (wrSh.wt x : Int)) ≤ 1000000000000000 := by omega
      have HK := Lib.hid hK
      have HYl := Lib.hid hyl
      have HCm := Lib.hid hcm
      have HFar := Lib.hid hfar
      have HMk := Lib.hid hmk
      have HOut := Lib.hid hout
      have HX := Lib.hid hx
      have HO : Hid (wrSh.Own 86 wr S (.slice (some ⟨g, 0, none⟩) xs.length c) (ys.set m x)) := Lib.hid (hset.symm ▸ hown)
      have hmy : m < ys.length := by omega
      clear hv2 hK hyl hcm hfar hmk hown hout hx hyx hset
      have hsub2 : intsSh.wt x.val ≤ 1048576 := by omega
      clear hb1 hb2
      go_wp2_with fail
      refine (markText_any _ _ (by omega) (by omega)).mono ?_
      rintro e w1 ⟨rfl, hb⟩
      replace HO := Lib.hid (HO.out.below hb)
      replace HOut := Lib.hid (HOut.out.trans (Outs.of_below hb))
      clear hb
      obtain ⟨cs, Sj, ho, hS, -, hc, hf, hkeep, hput⟩ := HO.out.focus hmy
      obtain ⟨y2, rfl, -, hy2⟩ := wr_rel.1 (wrSh.orel ho)
      obtain ⟨Y2, z2, rfl, -, -⟩ := hy2.form
      have t0 : (w1).cell? ⟨g, m * 3, none⟩ = some _ := hc 0 _ rfl
      have f0 : (w1).frozen? ⟨g, m * 3, none⟩ = false := hf _
      have HO' : Hid (wrSh.Own 86 (w1.setCell ⟨g, m * 3, none⟩ (.string (markS (K)))) S (.slice (some ⟨g, 0, none⟩) xs.length c) (ys.set m { key := markS (K), del := x.del, val := x.val })) := Lib.hid (hput 0 (.string (markS (K))) { key := markS (K), del := x.del, val := x.val } (by decide) (setStoWriteKey ho (fun h => (hS _ h).2 rfl) (markS (K)) (markS_size (by omega))))
      replace HOut := Lib.hid (HOut.out.trans (Outs.of_set w1 ⟨g, m * 3, none⟩ (.string (markS (K))) hSg))
      clear HO ho hS hc hf hkeep hput hy2
      have HO := HO'
      clear HO'
      obtain ⟨cs, Sj, ho, hS, -, hc, hf, hkeep, hput⟩ := HO.out.focus hmy
      obtain ⟨y2, rfl, -, hy2⟩ := wr_rel.1 (wrSh.orel ho)
      obtain ⟨Y2, z2, rfl, -, -⟩ := hy2.form
      have t1 : ((w1.setCell ⟨g, m * 3, none⟩ (.string (markS (K))))).cell? ⟨g, m * 3 + 1, none⟩ = some _ := hc 1 _ rfl
      have f1 : ((w1.setCell ⟨g, m * 3, none⟩ (.string (markS (K))))).frozen? ⟨g, m * 3 + 1, none⟩ = false := hf _
      have HO' : Hid (wrSh.Own 86 ((w1.setCell ⟨g, m * 3, none⟩ (.string (markS (K)))).setCell ⟨g, m * 3 + 1, none⟩ (.bool ((K + 1) % 3 == 0))) S (.slice (some ⟨g, 0, none⟩) xs.length c) (ys.set m { key := markS (K), del := ((K + 1) % 3 == 0), val := x.val })) := Lib.hid (hput 1 (.bool ((K + 1) % 3 == 0)) { key := markS (K), del := ((K + 1) % 3 == 0), val := x.val } (by decide) (setStoWriteDel ho (fun h => (hS _ h).2 rfl) ((K + 1) % 3 == 0)))
      replace HOut := Lib.hid (HOut.out.trans (Outs.of_set (w1.setCell ⟨g, m * 3, none⟩ (.string (markS (K)))) ⟨g, m * 3 + 1, none⟩ (.bool ((K + 1) % 3 == 0)) hSg))
      clear HO ho hS hc hf hkeep hput hy2
      have HO := HO'
      clear HO'
      obtain ⟨cs, Sj, ho, hS, -, hc, hf, hkeep, hput⟩ := HO.out.focus hmy
      obtain ⟨y2, rfl, -, hy2⟩ := wr_rel.1 (wrSh.orel ho)
      obtain ⟨Y2, z2, rfl, -, -⟩ := hy2.form
      have t2 : (((w1.setCell ⟨g, m * 3, none⟩ (.string (markS (K)))).setCell ⟨g, m * 3 + 1, none⟩ (.bool ((K + 1) % 3 == 0)))).cell? ⟨g, m * 3 + 2, none⟩ = some _ := hc 2 _ rfl
      obtain ⟨u, Sf, hu, hsf, hss, hback⟩ := subStoWriteVal ho
      obtain rfl : _ = u := Option.some.inj hu
      have HSf := Lib.hid hsf
      have HBk := Lib.hid fun w' ys' (h1 : Sh.int.Own 3 w' Sf _ ys') (h2 : Outs Sf (((w1.setCell ⟨g, m * 3, none⟩ (.string (markS (K)))).setCell ⟨g, m * 3 + 1, none⟩ (.bool ((K + 1) % 3 == 0)))) w') => hkeep w' _ (hback w' ys' h1 h2) (h2.mono fun _ _ h => hss _ h)
      have HSs := Lib.hid fun b (hb : Sf b) => (hS b (hss b hb)).1
      clear HO ho hS hc hf hkeep hput hu hsf hss hback hy2
      go_wp2_with fail
      refine (markIntS_sh _ Sf _ _ HSf.out _ hsub2 (by omega) (by omega)).mono ?_
      rintro e w2 ⟨l2, rfl, hll2, hlc2, hlm2, hlo2, hlout2⟩
      have HO := Lib.hid (HBk.out _ _ hlo2 hlout2)
      replace HOut := Lib.hid (HOut.out.trans (hlout2.mono fun b _ hb => HSs.out b hb))
      have HC2 := Lib.hid hlc2
      have HL2 := Lib.hid hlm2
      have hcb2 : cntL Sh.int.cnt x.val ≤ 0 + 16 * intsSh.wt x.val := cntL_le Sh.int.cnt Sh.int.wt Sh.int.base (by decide) Sh.int.cntLe x.val
      clear HSf HBk HSs hll2 hlc2 hlm2 hlo2 hlout2
      have hcx : wrSh.cnt x = (1 + (1 + cntL Sh.int.cnt x.val)) := rfl
      have hcy : wrSh.cnt ({ key := markS (K), del := ((K + 1) % 3 == 0), val := l2 } : Wr) = wrSh.cnt x := by
        show (1 + (1 + cntL Sh.int.cnt l2)) = (1 + (1 + cntL Sh.int.cnt x.val))
        rw [HC2.out]
      have HCx := Lib.hid hcx
      have HCy := Lib.hid hcy
      have HMd : Hid (wrSh.mkd K ({ key := markS (K), del := ((K + 1) % 3 == 0), val := l2 } : Wr)) := Lib.hid ⟨rfl, rfl, HL2.out⟩
      clear hcx hcy
      go_wp2
      go_roundw
      case rel =>
        refine ⟨m + 1, ys.set m { key := markS (K), del := ((K + 1) % 3 == 0), val := l2 }, by omega, by go_num, int_eq ?_, by rw [List.length_set]; exact HYl.out, ?_, fun j hj => ?_, ?_, HO.out, HOut.out⟩
        · rw [cntL_take HX.out, HCx.out]; have := HK.out; omega
        · rw [cntL_take (List.getElem?_set_self hmy), cnt_set_take (Nat.le_refl _), HCm.out, cntL_take HX.out, HCy.out]
        · rw [List.getElem?_set_ne (by omega)]; exact HFar.out j (by omega)
        · exact HMk.out.step hmy (by rw [HCm.out, HK.out]; exact HMd.out)
      case measure => simp [intOf]; omega
    · obtain rfl : m = xs.length := by omega
      have HYl := Lib.hid hyl
      have HCm := Lib.hid hcm
      have HMk := Lib.hid hmk
      have HO := Lib.hid hown
      have HOut := Lib.hid hout
      clear hyl hcm hfar hmk hown hout
      go_wp2
      go_ret
      have hty : ys.take xs.length = ys := by rw [← HYl.out]; exact List.take_length
      have hc := HCm.out
      rw [hty, List.take_length] at hc
      exact ⟨ys, ret_int (by rw [List.take_length]), HYl.out, hc, MkTo.all (HYl.out.symm ▸ HMk.out), HO.out, HOut.out⟩
end Go.Proofs.Ytkamlibfcakblaa
