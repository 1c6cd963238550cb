/- Texts that follow each other, merged: MLogNote, DisksSh. -/
import Derived.Test.YtkamlibfcakblaaXMStoWrite
import Derived.Test.YtkamlibfcakblaaXHLogNote
import Derived.Test.YtkamlibfcakblaaXFrameRow

/- Marks on LogNote and on slices of it. By shgen.py. -/
namespace Go.Proofs.Ytkamlibfcakblaa
open Go.RowKit

theorem setLogNoteKind {w : World} {S : Nat → Prop} {cs : List Value} {x : Note} {g o : Nat} (h : noteSh.own w S cs x) (hg : ¬ S g) (a : Int) : noteSh.own (w.setCell ⟨g, o, none⟩ (.int .i64 a)) S (cs.set 0 (.int .i64 a)) { x with kind := a } := by
  obtain ⟨u2, u3, S1, S2, rfl, ho2, ho3, s1, s2, d⟩ := note_own.1 h
  exact note_own.2 ⟨u2, u3, S1, S2, rfl, (ho2.keep fun b hb _ => Below.heap_setCell _ _ _ _ (by rintro rfl; exact hg (s1 b hb))), (ho3.keep fun b hb _ => Below.heap_setCell _ _ _ _ (by rintro rfl; exact hg (s2 b hb))), s1, s2, d⟩
theorem setLogNoteTx {w : World} {S : Nat → Prop} {cs : List Value} {x : Note} {g o : Nat} (h : noteSh.own w S cs x) (hg : ¬ S g) (a : Int) : noteSh.own (w.setCell ⟨g, o, none⟩ (.int .i64 a)) S (cs.set 1 (.int .i64 a)) { x with tx := a } := by
  obtain ⟨u2, u3, S1, S2, rfl, ho2, ho3, s1, s2, d⟩ := note_own.1 h
  exact note_own.2 ⟨u2, u3, S1, S2, rfl, (ho2.keep fun b hb _ => Below.heap_setCell _ _ _ _ (by rintro rfl; exact hg (s1 b hb))), (ho3.keep fun b hb _ => Below.heap_setCell _ _ _ _ (by rintro rfl; exact hg (s2 b hb))), s1, s2, d⟩
theorem subLogNoteLocks {w : World} {S : Nat → Prop} {cs : List Value} {x : Note} (h : noteSh.own w S cs x) : ∃ u Sf, cs[2]? = some u ∧ strSh.Own 9 w Sf u x.locks ∧ (∀ b, Sf b → S b) ∧ ∀ w' ys, strSh.Own 9 w' Sf u ys → Outs Sf w w' → noteSh.own w' S cs { x with locks := ys } := by
  obtain ⟨u2, u3, S1, S2, rfl, ho2, ho3, s1, s2, d⟩ := note_own.1 h
  exact ⟨u2, S1, rfl, ho2, s1, fun w' ys hy hout => note_own.2 ⟨u2, u3, S1, S2, rfl, hy, (ho3.keep fun b hb hlt => hout.block b hlt fun h1 => d b h1 hb), s1, s2, d⟩⟩
theorem subLogNoteWrites {w : World} {S : Nat → Prop} {cs : List Value} {x : Note} (h : noteSh.own w S cs x) : ∃ u Sf, cs[3]? = some u ∧ wrSh.Own 86 w Sf u x.writes ∧ (∀ b, Sf b → S b) ∧ ∀ w' ys, wrSh.Own 86 w' Sf u ys → Outs Sf w w' → noteSh.own w' S cs { x with writes := ys } := by
  obtain ⟨u2, u3, S1, S2, rfl, ho2, ho3, s1, s2, d⟩ := note_own.1 h
  exact ⟨u3, S2, rfl, ho3, s2, fun w' ys hy hout => note_own.2 ⟨u2, u3, S1, S2, rfl, (ho2.keep fun b hb hlt => hout.block b hlt fun h1 => d b hb h1), hy, s1, s2, d⟩⟩
set_option maxRecDepth 100000 in
set_option maxHeartbeats 1000000 in
theorem markLogNoteS_sh (w : World) (S : Nat → Prop) (v : Value) (xs : List Note) (hv : noteSh.Own 36 w S v xs) (k : Int) (hl : notesSh.wt xs ≤ 1048576) (h0 : 1 ≤ k) (h1 : k + 16 * (notesSh.wt xs : Int) ≤ 1000000000000000) :
    Calls Try.prog 96 #[v, .int .i64 k] w (MarkedSl noteSh 36 S v xs k w) := by
  have hn : xs.length ≤ notesSh.wt xs := wtL_len _ _
  obtain ⟨Ad, c, hvf, hc2, hc1⟩ := hv.row.form
  subst hvf
  unfold maxLen at hc2
  have HV := Lib.hid hv
  clear hv
  go_enter Try.func96, Try.ntmps96
  go_wp2
  go_loopw [1, 5] (fun q i wr => ∃ (m : Nat) (ys : List Note), m ≤ xs.length ∧ i = .int .i64 m ∧ q = .int .i64 (k + cntL noteSh.cnt (xs.take m)) ∧ ys.length = xs.length ∧ cntL noteSh.cnt (ys.take m) = cntL noteSh.cnt (xs.take m) ∧ (∀ j, m ≤ j → ys[j]? = xs[j]?) ∧ MkTo noteSh.cnt noteSh.mkd k ys m ∧ noteSh.Own 36 wr S (.slice Ad xs.length c) ys ∧ Outs S w wr) (fun _ i _ => xs.length - (intOf i).toNat)
  case atStart => exact ⟨0, xs, Nat.zero_le _, rfl, by simp [cntL], rfl, rfl, fun _ _ => rfl, MkTo.start _ _ _ _, HV.out, Outs.refl _ _⟩
  case round =>
    clear HV
    obtain ⟨m, ys, hm, rfl, rfl, hyl, hcm, hfar, hmk, hown, hout⟩ := hrel
    by_cases hlt : m < xs.length
    · obtain ⟨x, hx⟩ : ∃ x, xs[m]? = some x := ⟨_, List.getElem?_eq_getElem hlt⟩
      have hyx : ys[m]? = some x := (hfar m (Nat.le_refl _)).trans hx
      have hset : ys.set m x = ys := by
        obtain ⟨h', e'⟩ := List.getElem?_eq_some_iff.1 hyx
        rw [← e']; exact List.set_getElem_self h'
      have hb1 : wtL noteSh.wt (xs.take (m + 1)) ≤ notesSh.wt xs := wtL_take_le _ _ _
      rw [wtL_take hx] at hb1
      have hb2 := cntL_le noteSh.cnt noteSh.wt noteSh.base (by decide) noteSh.cntLe (xs.take m)
      have hwx := wtLogNote x
      rcases hown.form with ⟨hv', -⟩ | ⟨g, cap, hv', hSg, hgw, -, -⟩
      · injection hv' with _ hv' _; omega
      rw [hyl] at hv'
      injection hv' with hv1 hv2 hv3
      subst hv1 hv3
      obtain ⟨K, hK⟩ : ∃ K, k + (cntL noteSh.cnt (xs.take m) : Int) = K := ⟨_, rfl⟩
      rw [hK]
      have hK1 : 1 ≤ K := by omega
      have hK2 : K + 16 * (1 + (noteSh.wt x : Int)) ≤ 1000000000000000 := by omega
      have HK := Lib.hid hK
      have HYl := Lib.hid hyl
      have HCm := Lib.hid hcm
      have HFar := Lib.hid hfar
      have HMk := Lib.hid hmk
      have HOut := Lib.hid hout
      have HX := Lib.hid hx
      have HO : Hid (noteSh.Own 36 wr S (.slice (some ⟨g, 0, none⟩) xs.length c) (ys.set m x)) := Lib.hid (hset.symm ▸ hown)
      have hmy : m < ys.length := by omega
      clear hv2 hK hyl hcm hfar hmk hown hout hx hyx hset
      have hsub2 : strsSh.wt x.locks ≤ 1048576 := by omega
      have hsub3 : wrsSh.wt x.writes ≤ 1048576 := by omega
      clear hb1 hb2
      obtain ⟨cs, Sj, ho, hS, -, hc, hf, hkeep, hput⟩ := HO.out.focus hmy
      obtain ⟨y2, y3, rfl, hy2, hy3⟩ := note_rel.1 (noteSh.orel ho)
      obtain ⟨Y2, z2, rfl, -, -⟩ := hy2.form
      obtain ⟨Y3, z3, rfl, -, -⟩ := hy3.form
      have t0 : (wr).cell? ⟨g, m * 4, none⟩ = some _ := hc 0 _ rfl
      have f0 : (wr).frozen? ⟨g, m * 4, none⟩ = false := hf _
      have HO' : Hid (noteSh.Own 36 (wr.setCell ⟨g, m * 4, none⟩ (.int .i64 (K))) S (.slice (some ⟨g, 0, none⟩) xs.length c) (ys.set m { kind := K, tx := x.tx, locks := x.locks, writes := x.writes })) := Lib.hid (hput 0 (.int .i64 (K)) { kind := K, tx := x.tx, locks := x.locks, writes := x.writes } (by decide) (setLogNoteKind ho (fun h => (hS _ h).2 rfl) (K)))
      replace HOut := Lib.hid (HOut.out.trans (Outs.of_set wr ⟨g, m * 4, none⟩ (.int .i64 (K)) hSg))
      clear HO ho hS hc hf hkeep hput hy2 hy3
      have HO := HO'
      clear HO'
      obtain ⟨cs, Sj, ho, hS, -, hc, hf, hkeep, hput⟩ := HO.out.focus hmy
      obtain ⟨y2, y3, rfl, hy2, hy3⟩ := note_rel.1 (noteSh.orel ho)
      obtain ⟨Y2, z2, rfl, -, -⟩ := hy2.form
      obtain ⟨Y3, z3, rfl, -, -⟩ := hy3.form
      have t1 : ((wr.setCell ⟨g, m * 4, none⟩ (.int .i64 (K)))).cell? ⟨g, m * 4 + 1, none⟩ = some _ := hc 1 _ rfl
      have f1 : ((wr.setCell ⟨g, m * 4, none⟩ (.int .i64 (K)))).frozen? ⟨g, m * 4 + 1, none⟩ = false := hf _
      have HO' : Hid (noteSh.Own 36 ((wr.setCell ⟨g, m * 4, none⟩ (.int .i64 (K))).setCell ⟨g, m * 4 + 1, none⟩ (.int .i64 (K + 1))) S (.slice (some ⟨g, 0, none⟩) xs.length c) (ys.set m { kind := K, tx := K + 1, locks := x.locks, writes := x.writes })) := Lib.hid (hput 1 (.int .i64 (K + 1)) { kind := K, tx := K + 1, locks := x.locks, writes := x.writes } (by decide) (setLogNoteTx ho (fun h => (hS _ h).2 rfl) (K + 1)))
      replace HOut := Lib.hid (HOut.out.trans (Outs.of_set (wr.setCell ⟨g, m * 4, none⟩ (.int .i64 (K))) ⟨g, m * 4 + 1, none⟩ (.int .i64 (K + 1)) hSg))
      clear HO ho hS hc hf hkeep hput hy2 hy3
      have HO := HO'
      clear HO'
      obtain ⟨cs, Sj, ho, hS, -, hc, hf, hkeep, hput⟩ := HO.out.focus hmy
      obtain ⟨y2, y3, rfl, hy2, hy3⟩ := note_rel.1 (noteSh.orel ho)
      obtain ⟨Y2, z2, rfl, -, -⟩ := hy2.form
      obtain ⟨Y3, z3, rfl, -, -⟩ := hy3.form
      have t2 : (((wr.setCell ⟨g, m * 4, none⟩ (.int .i64 (K))).setCell ⟨g, m * 4 + 1, none⟩ (.int .i64 (K + 1)))).cell? ⟨g, m * 4 + 2, none⟩ = some _ := hc 2 _ rfl
      obtain ⟨u, Sf, hu, hsf, hss, hback⟩ := subLogNoteLocks ho
      obtain rfl : _ = u := Option.some.inj hu
      have HSf := Lib.hid hsf
      have HBk := Lib.hid fun w' ys' (h1 : strSh.Own 9 w' Sf _ ys') (h2 : Outs Sf (((wr.setCell ⟨g, m * 4, none⟩ (.int .i64 (K))).setCell ⟨g, m * 4 + 1, none⟩ (.int .i64 (K + 1)))) w') => hkeep w' _ (hback w' ys' h1 h2) (h2.mono fun _ _ h => hss _ h)
      have HSs := Lib.hid fun b (hb : Sf b) => (hS b (hss b hb)).1
      clear HO ho hS hc hf hkeep hput hu hsf hss hback hy2 hy3
      go_wp2_with fail
      refine (markStringS_sh _ Sf _ _ HSf.out _ hsub2 (by omega) (by omega)).mono ?_
      rintro e w1 ⟨l2, rfl, hll2, hlc2, hlm2, hlo2, hlout2⟩
      have HO := Lib.hid (HBk.out _ _ hlo2 hlout2)
      replace HOut := Lib.hid (HOut.out.trans (hlout2.mono fun b _ hb => HSs.out b hb))
      have HC2 := Lib.hid hlc2
      have HL2 := Lib.hid hlm2
      have hcb2 : cntL strSh.cnt x.locks ≤ 0 + 16 * strsSh.wt x.locks := cntL_le strSh.cnt strSh.wt strSh.base (by decide) strSh.cntLe x.locks
      clear HSf HBk HSs hll2 hlc2 hlm2 hlo2 hlout2
      obtain ⟨cs, Sj, ho, hS, -, hc, hf, hkeep, hput⟩ := HO.out.focus hmy
      obtain ⟨y2, y3, rfl, hy2, hy3⟩ := note_rel.1 (noteSh.orel ho)
      obtain ⟨Y2, z2, rfl, -, -⟩ := hy2.form
      obtain ⟨Y3, z3, rfl, -, -⟩ := hy3.form
      have t3 : (w1).cell? ⟨g, m * 4 + 3, none⟩ = some _ := hc 3 _ rfl
      obtain ⟨u, Sf, hu, hsf, hss, hback⟩ := subLogNoteWrites ho
      obtain rfl : _ = u := Option.some.inj hu
      have HSf := Lib.hid hsf
      have HBk := Lib.hid fun w' ys' (h1 : wrSh.Own 86 w' Sf _ ys') (h2 : Outs Sf (w1) w') => hkeep w' _ (hback w' ys' h1 h2) (h2.mono fun _ _ h => hss _ h)
      have HSs := Lib.hid fun b (hb : Sf b) => (hS b (hss b hb)).1
      clear HO ho hS hc hf hkeep hput hu hsf hss hback hy2 hy3
      go_wp2_with fail
      refine (markStoWriteS_sh _ Sf _ _ HSf.out _ hsub3 (by omega) (by omega)).mono ?_
      rintro e w2 ⟨l3, rfl, hll3, hlc3, hlm3, hlo3, hlout3⟩
      have HO := Lib.hid (HBk.out _ _ hlo3 hlout3)
      replace HOut := Lib.hid (HOut.out.trans (hlout3.mono fun b _ hb => HSs.out b hb))
      have HC3 := Lib.hid hlc3
      have HL3 := Lib.hid hlm3
      have hcb3 : cntL wrSh.cnt x.writes ≤ 0 + 16 * wrsSh.wt x.writes := cntL_le wrSh.cnt wrSh.wt wrSh.base (by decide) wrSh.cntLe x.writes
      clear HSf HBk HSs hll3 hlc3 hlm3 hlo3 hlout3
      have hcx : noteSh.cnt x = (1 + (1 + (cntL strSh.cnt x.locks + cntL wrSh.cnt x.writes))) := rfl
      have hcy : noteSh.cnt ({ kind := K, tx := K + 1, locks := l2, writes := l3 } : Note) = noteSh.cnt x := by
        show (1 + (1 + (cntL strSh.cnt l2 + cntL wrSh.cnt l3))) = (1 + (1 + (cntL strSh.cnt x.locks + cntL wrSh.cnt x.writes)))
        rw [HC2.out, HC3.out]
      have HCx := Lib.hid hcx
      have HCy := Lib.hid hcy
      have HMd : Hid (noteSh.mkd K ({ kind := K, tx := K + 1, locks := l2, writes := l3 } : Note)) := Lib.hid ⟨rfl, rfl, HL2.out, (by have h := HL3.out; rw [← HC2.out] at h; exact h)⟩
      clear hcx hcy
      go_wp2
      go_roundw
      case rel =>
        refine ⟨m + 1, ys.set m { kind := K, tx := K + 1, locks := l2, writes := l3 }, by omega, by go_num, int_eq ?_, by rw [List.length_set]; exact HYl.out, ?_, fun j hj => ?_, ?_, HO.out, HOut.out⟩
        · rw [cntL_take HX.out, HCx.out]; have := HK.out; omega
        · rw [cntL_take (List.getElem?_set_self hmy), cnt_set_take (Nat.le_refl _), HCm.out, cntL_take HX.out, HCy.out]
        · rw [List.getElem?_set_ne (by omega)]; exact HFar.out j (by omega)
        · exact HMk.out.step hmy (by rw [HCm.out, HK.out]; exact HMd.out)
      case measure => simp [intOf]; omega
    · obtain rfl : m = xs.length := by omega
      have HYl := Lib.hid hyl
      have HCm := Lib.hid hcm
      have HMk := Lib.hid hmk
      have HO := Lib.hid hown
      have HOut := Lib.hid hout
      clear hyl hcm hfar hmk hown hout
      go_wp2
      go_ret
      have hty : ys.take xs.length = ys := by rw [← HYl.out]; exact List.take_length
      have hc := HCm.out
      rw [hty, List.take_length] at hc
      exact ⟨ys, ret_int (by rw [List.take_length]), HYl.out, hc, MkTo.all (HYl.out.symm ▸ HMk.out), HO.out, HOut.out⟩
end Go.Proofs.Ytkamlibfcakblaa

/- Slices of logs. -/
namespace Go.Proofs.Ytkamlibfcakblaa
open Go.RowKit

abbrev disksSh : Sh (List Disk) := diskSh.sl 25 (by decide)

end Go.Proofs.Ytkamlibfcakblaa
