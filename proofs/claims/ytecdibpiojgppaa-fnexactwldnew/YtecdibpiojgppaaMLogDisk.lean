/- Marks on LogDisk and on slices of it. By shgen.py. -/
import Derived.Test.YtecdibpiojgppaaMLogNote
import Derived.Test.YtecdibpiojgppaaHLogDisk
namespace Go.Proofs.Ytecdibpiojgppaa
open Go.RowKit

theorem setLogDiskSafe {w : World} {S : Nat → Prop} {cs : List Value} {x : Disk} {g o : Nat} (h : diskSh.own w S cs x) (hg : ¬ S g) (a : Int) : diskSh.own (w.setCell ⟨g, o, none⟩ (.int .i64 a)) S (cs.set 1 (.int .i64 a)) { x with safe := a } := by
  obtain ⟨u0, rfl, ho0⟩ := disk_own.1 h
  exact disk_own.2 ⟨u0, rfl, (ho0.keep fun b hb _ => Below.heap_setCell _ _ _ _ (by rintro rfl; exact hg (hb)))⟩
theorem subLogDiskNotes {w : World} {S : Nat → Prop} {cs : List Value} {x : Disk} (h : diskSh.own w S cs x) : ∃ u Sf, cs[0]? = some u ∧ noteSh.Own 36 w Sf u x.notes ∧ (∀ b, Sf b → S b) ∧ ∀ w' ys, noteSh.Own 36 w' Sf u ys → Outs Sf w w' → diskSh.own w' S cs { x with notes := ys } := by
  obtain ⟨u0, rfl, ho0⟩ := disk_own.1 h
  exact ⟨u0, S, rfl, ho0, fun _ h => h, fun w' ys hy _ => disk_own.2 ⟨u0, rfl, hy⟩⟩
set_option maxRecDepth 100000 in
set_option maxHeartbeats 1000000 in
theorem markLogDiskS_sh (w : World) (S : Nat → Prop) (v : Value) (xs : List Disk) (hv : diskSh.Own 54 w S v xs) (k : Int) (hl : disksSh.wt xs ≤ 1048576) (h0 : 1 ≤ k) (h1 : k + 16 * (disksSh.wt xs : Int) ≤ 1000000000000000) :
    Calls Try.prog 109 #[v, .int .i64 k] w (MarkedSl diskSh 54 S v xs k w) := by
  have hn : xs.length ≤ disksSh.wt xs := wtL_len _ _
  obtain ⟨Ad, c, hvf, hc2, hc1⟩ := hv.row.form
  subst hvf
  unfold maxLen at hc2
  have HV := Lib.hid hv
  clear hv
  go_enter Try.func109, Try.ntmps109
  go_wp2
  go_loopw [1, 5] (fun q i wr => ∃ (m : Nat) (ys : List Disk), m ≤ xs.length ∧ i = .int .i64 m ∧ q = .int .i64 (k + cntL diskSh.cnt (xs.take m)) ∧ ys.length = xs.length ∧ cntL diskSh.cnt (ys.take m) = cntL diskSh.cnt (xs.take m) ∧ (∀ j, m ≤ j → ys[j]? = xs[j]?) ∧ MkTo diskSh.cnt diskSh.mkd k ys m ∧ diskSh.Own 54 wr S (.slice Ad xs.length c) ys ∧ Outs S w wr) (fun _ i _ => xs.length - (intOf i).toNat)
  case atStart => exact ⟨0, xs, Nat.zero_le _, rfl, by simp [cntL], rfl, rfl, fun _ _ => rfl, MkTo.start _ _ _ _, HV.out, Outs.refl _ _⟩
  case round =>
    clear HV
    obtain ⟨m, ys, hm, rfl, rfl, hyl, hcm, hfar, hmk, hown, hout⟩ := hrel
    by_cases hlt : m < xs.length
    · obtain ⟨x, hx⟩ : ∃ x, xs[m]? = some x := ⟨_, List.getElem?_eq_getElem hlt⟩
      have hyx : ys[m]? = some x := (hfar m (Nat.le_refl _)).trans hx
      have hset : ys.set m x = ys := by
        obtain ⟨h', e'⟩ := List.getElem?_eq_some_iff.1 hyx
        rw [← e']; exact List.set_getElem_self h'
      have hb1 : wtL diskSh.wt (xs.take (m + 1)) ≤ disksSh.wt xs := wtL_take_le _ _ _
      rw [wtL_take hx] at hb1
      have hb2 := cntL_le diskSh.cnt diskSh.wt diskSh.base (by decide) diskSh.cntLe (xs.take m)
      have hwx := wtLogDisk x
      rcases hown.form with ⟨hv', -⟩ | ⟨g, cap, hv', hSg, hgw, -, -⟩
      · injection hv' with _ hv' _; omega
      rw [hyl] at hv'
      injection hv' with hv1 hv2 hv3
      subst hv1 hv3
      obtain ⟨K, hK⟩ : ∃ K, k + (cntL diskSh.cnt (xs.take m) : Int) = K := ⟨_, rfl⟩
      rw [hK]
      have hK1 : 1 ≤ K := by omega
      have hK2 : K + 16 * (1 + (diskSh.wt x : Int)) ≤ 1000000000000000 := by omega
      have HK := Lib.hid hK
      have HYl := Lib.hid hyl
      have HCm := Lib.hid hcm
      have HFar := Lib.hid hfar
      have HMk := Lib.hid hmk
      have HOut := Lib.hid hout
      have HX := Lib.hid hx
      have HO : Hid (diskSh.Own 54 wr S (.slice (some ⟨g, 0, none⟩) xs.length c) (ys.set m x)) := Lib.hid (hset.symm ▸ hown)
      have hmy : m < ys.length := by omega
      clear hv2 hK hyl hcm hfar hmk hown hout hx hyx hset
      have hsub0 : notesSh.wt x.notes ≤ 1048576 := by omega
      clear hb1 hb2
      obtain ⟨cs, Sj, ho, hS, -, hc, hf, hkeep, hput⟩ := HO.out.focus hmy
      obtain ⟨y0, rfl, hy0⟩ := disk_rel.1 (diskSh.orel ho)
      obtain ⟨Y0, z0, rfl, -, -⟩ := hy0.form
      have t0 : (wr).cell? ⟨g, m * 2, none⟩ = some _ := hc 0 _ rfl
      obtain ⟨u, Sf, hu, hsf, hss, hback⟩ := subLogDiskNotes ho
      obtain rfl : _ = u := Option.some.inj hu
      have HSf := Lib.hid hsf
      have HBk := Lib.hid fun w' ys' (h1 : noteSh.Own 36 w' Sf _ ys') (h2 : Outs Sf (wr) w') => hkeep w' _ (hback w' ys' h1 h2) (h2.mono fun _ _ h => hss _ h)
      have HSs := Lib.hid fun b (hb : Sf b) => (hS b (hss b hb)).1
      clear HO ho hS hc hf hkeep hput hu hsf hss hback hy0
      go_wp2_with fail
      refine (markLogNoteS_sh _ Sf _ _ HSf.out _ hsub0 (by omega) (by omega)).mono ?_
      rintro e w1 ⟨l0, rfl, hll0, hlc0, hlm0, hlo0, hlout0⟩
      have HO := Lib.hid (HBk.out _ _ hlo0 hlout0)
      replace HOut := Lib.hid (HOut.out.trans (hlout0.mono fun b _ hb => HSs.out b hb))
      have HC0 := Lib.hid hlc0
      have HL0 := Lib.hid hlm0
      have hcb0 : cntL noteSh.cnt x.notes ≤ 0 + 16 * notesSh.wt x.notes := cntL_le noteSh.cnt noteSh.wt noteSh.base (by decide) noteSh.cntLe x.notes
      clear HSf HBk HSs hll0 hlc0 hlm0 hlo0 hlout0
      obtain ⟨cs, Sj, ho, hS, -, hc, hf, hkeep, hput⟩ := HO.out.focus hmy
      obtain ⟨y0, rfl, hy0⟩ := disk_rel.1 (diskSh.orel ho)
      obtain ⟨Y0, z0, rfl, -, -⟩ := hy0.form
      have t1 : (w1).cell? ⟨g, m * 2 + 1, none⟩ = some _ := hc 1 _ rfl
      have f1 : (w1).frozen? ⟨g, m * 2 + 1, none⟩ = false := hf _
      have HO' : Hid (diskSh.Own 54 (w1.setCell ⟨g, m * 2 + 1, none⟩ (.int .i64 (K + (cntL noteSh.cnt x.notes : Int)))) S (.slice (some ⟨g, 0, none⟩) xs.length c) (ys.set m { notes := l0, safe := K + (cntL noteSh.cnt x.notes : Int) })) := Lib.hid (hput 1 (.int .i64 (K + (cntL noteSh.cnt x.notes : Int))) { notes := l0, safe := K + (cntL noteSh.cnt x.notes : Int) } (by decide) (setLogDiskSafe ho (fun h => (hS _ h).2 rfl) (K + (cntL noteSh.cnt x.notes : Int))))
      replace HOut := Lib.hid (HOut.out.trans (Outs.of_set w1 ⟨g, m * 2 + 1, none⟩ (.int .i64 (K + (cntL noteSh.cnt x.notes : Int))) hSg))
      clear HO ho hS hc hf hkeep hput hy0
      have HO := HO'
      clear HO'
      have hcx : diskSh.cnt x = (cntL noteSh.cnt x.notes + 1) := rfl
      have hcy : diskSh.cnt ({ notes := l0, safe := K + (cntL noteSh.cnt x.notes : Int) } : Disk) = diskSh.cnt x := by
        show (cntL noteSh.cnt l0 + 1) = (cntL noteSh.cnt x.notes + 1)
        rw [HC0.out]
      have HCx := Lib.hid hcx
      have HCy := Lib.hid hcy
      have HMd : Hid (diskSh.mkd K ({ notes := l0, safe := K + (cntL noteSh.cnt x.notes : Int) } : Disk)) := Lib.hid ⟨HL0.out, by first | (show K + ((cntL noteSh.cnt x.notes : Nat) : Int) = K + ((cntL noteSh.cnt l0 : Nat) : Int); rw [HC0.out]) | (show K + ((cntL noteSh.cnt l0 : Nat) : Int) = K + ((cntL noteSh.cnt x.notes : Nat) : Int); rw [HC0.out])⟩
      clear hcx hcy
      go_wp2
      go_roundw
      case rel =>
        refine ⟨m + 1, ys.set m { notes := l0, safe := K + (cntL noteSh.cnt x.notes : Int) }, by omega, by go_num, int_eq ?_, by rw [List.length_set]; exact HYl.out, ?_, fun j hj => ?_, ?_, HO.out, HOut.out⟩
        · rw [cntL_take HX.out, HCx.out]; have := HK.out; omega
        · rw [cntL_take (List.getElem?_set_self hmy), cnt_set_take (Nat.le_refl _), HCm.out, cntL_take HX.out, HCy.out]
        · rw [List.getElem?_set_ne (by omega)]; exact HFar.out j (by omega)
        · exact HMk.out.step hmy (by rw [HCm.out, HK.out]; exact HMd.out)
      case measure => simp [intOf]; omega
    · obtain rfl : m = xs.length := by omega
      have HYl := Lib.hid hyl
      have HCm := Lib.hid hcm
      have HMk := Lib.hid hmk
      have HO := Lib.hid hown
      have HOut := Lib.hid hout
      clear hyl hcm hfar hmk hown hout
      go_wp2
      go_ret
      have hty : ys.take xs.length = ys := by rw [← HYl.out]; exact List.take_length
      have hc := HCm.out
      rw [hty, List.take_length] at hc
      exact ⟨ys, ret_int (by rw [List.take_length]), HYl.out, hc, MkTo.all (HYl.out.symm ▸ HMk.out), HO.out, HOut.out⟩
set_option maxRecDepth 100000 in
set_option maxHeartbeats 1000000 in
theorem heldLogDiskS_sh (w : World) (v : Value) (xs : List Disk) (hv : diskSh.Row w w.heap.size v xs) (k : Int) (hl : disksSh.wt xs ≤ 1048576) (h0 : 1 ≤ k) (h1 : k + 16 * (disksSh.wt xs : Int) ≤ 1000000000000000) (hm : mkdL diskSh.cnt diskSh.mkd k xs) :
    Calls Try.prog 114 #[v, .int .i64 k] w fun e w' => e = .returned (.int .i64 (k + cntL diskSh.cnt xs)) ∧ Below w.heap.size w w' := by
  have hn : xs.length ≤ disksSh.wt xs := wtL_len _ _
  obtain ⟨Ad, c, hvf, hc2, hc1⟩ := hv.form
  subst hvf
  unfold maxLen at hc2
  have HM := Lib.hid hm
  clear hm
  go_enter Try.func114, Try.ntmps114
  go_wp2
  go_loopw [1, 5] (fun q i wr => ∃ m : Nat, m ≤ xs.length ∧ i = .int .i64 m ∧ q = .int .i64 (k + cntL diskSh.cnt (xs.take m)) ∧ Below w.heap.size w wr) (fun _ i _ => xs.length - (intOf i).toNat)
  case atStart => exact ⟨0, Nat.zero_le _, rfl, by simp [cntL], Below.refl _ _⟩
  case round =>
    obtain ⟨m, hm, rfl, rfl, hb⟩ := hrel
    by_cases hlt : m < xs.length
    · obtain ⟨b, off, c', x, cs, e1, hx, hB, hr, hcell⟩ := hv.at_ (k := m) hlt
      injection e1 with e1a e1b e1c
      subst e1a
      have hmd := mkdL_at HM.out hx
      have hb1 : wtL diskSh.wt (xs.take (m + 1)) ≤ disksSh.wt xs := wtL_take_le _ _ _
      rw [wtL_take hx] at hb1
      have hb2 := cntL_le diskSh.cnt diskSh.wt diskSh.base (by decide) diskSh.cntLe (xs.take m)
      have hwx := wtLogDisk x
      obtain ⟨K, hK⟩ : ∃ K, k + (cntL diskSh.cnt (xs.take m) : Int) = K := ⟨_, rfl⟩
      rw [hK] at hmd ⊢
      have hK1 : 1 ≤ K := by omega
      have hK2 : K + 16 * (1 + (diskSh.wt x : Int)) ≤ 1000000000000000 := by omega
      have hsub0 : notesSh.wt x.notes ≤ 1048576 := by omega
      have hcb0 : cntL noteSh.cnt x.notes ≤ 0 + 16 * notesSh.wt x.notes := cntL_le noteSh.cnt noteSh.wt noteSh.base (by decide) noteSh.cntLe x.notes
      obtain ⟨md0, md1⟩ := hmd
      obtain ⟨u0, rfl, hu0⟩ := disk_rel.1 hr
      obtain ⟨A0, c0, rfl, -, -⟩ := hu0.form
      have HU0 := Lib.hid fun (y : World) (hy : Below w.heap.size w y) => (hu0.below hy).more hy.size
      have HMd0 : Hid (mkdL noteSh.cnt noteSh.mkd (K) x.notes) := Lib.hid md0
      clear md0
      have md1' : x.safe = K + (cntL noteSh.cnt x.notes : Int) := md1
      clear md1
      have p0 : w.cell? ⟨b, off + m * 2, none⟩ = some _ := hcell 0 _ rfl
      have p1 : w.cell? ⟨b, off + m * 2 + 1, none⟩ = some _ := hcell 1 _ rfl
      rw [md1'] at p1
      have HS := Lib.hid fun (y : World) (hy : Below w.heap.size w y) => And.intro ((hy.cell (p := ⟨b, off + m * 2, none⟩) hB).trans p0) ((hy.cell (p := ⟨b, off + m * 2 + 1, none⟩) hB).trans p1)
      have hcx : diskSh.cnt x = (cntL noteSh.cnt x.notes + 1) := rfl
      have HCx := Lib.hid hcx
      have HX := Lib.hid hx
      have HK := Lib.hid hK
      have HB := Lib.hid hb
      have f3 : (0 : Int) ≤ (m : Int) := by omega
      have f4 : (m : Int) < (xs.length : Int) := by omega
      clear e1b e1c hv hx hr hcell hb1 hb2 hcx hK hu0 md1' p0 p1
      obtain ⟨d0, d1⟩ := HS.out wr hb
      go_wp2_with fail
      refine (heldLogNoteS_sh _ _ x.notes (HU0.out _ hb) _ hsub0 (by omega) (by omega) HMd0.out).mono ?_
      rintro e v1 ⟨rfl, hbv1⟩
      have hn1 := belowNext hb hbv1
      clear hbv1
      obtain ⟨g0_0, g0_1⟩ := HS.out _ hn1
      go_wp2
      go_roundw
      case rel => exact ⟨m + 1, by omega, by go_num, int_eq (by rw [cntL_take HX.out, HCx.out]; have := HK.out; omega), hn1⟩
      case measure => simp [intOf]; omega
    · obtain rfl : m = xs.length := by omega
      clear hv
      go_wp2
      go_ret
      exact ⟨ret_int (by rw [List.take_length]), hb⟩

end Go.Proofs.Ytecdibpiojgppaa
