/- Marks on MsgMsg and on slices of it. By shgen.py. -/
import Derived.Test.YtkamlibfcakblaaXMarkSize
namespace Go.Proofs.Ytkamlibfcakblaa
open Go.RowKit

theorem setMsgMsgKind {w : World} {S : Nat → Prop} {cs : List Value} {x : Msg} {g o : Nat} (h : msgSh.own w S cs x) (_ : ¬ S g) (a : Int) : msgSh.own (w.setCell ⟨g, o, none⟩ (.int .i64 a)) S (cs.set 0 (.int .i64 a)) { x with kind := a } := by
  obtain rfl := msg_own.1 h
  exact msg_own.2 rfl
theorem setMsgMsgTo {w : World} {S : Nat → Prop} {cs : List Value} {x : Msg} {g o : Nat} (h : msgSh.own w S cs x) (_ : ¬ S g) (a : Int) : msgSh.own (w.setCell ⟨g, o, none⟩ (.int .i64 a)) S (cs.set 1 (.int .i64 a)) { x with to_ := a } := by
  obtain rfl := msg_own.1 h
  exact msg_own.2 rfl
theorem setMsgMsgFrom {w : World} {S : Nat → Prop} {cs : List Value} {x : Msg} {g o : Nat} (h : msgSh.own w S cs x) (_ : ¬ S g) (a : Int) : msgSh.own (w.setCell ⟨g, o, none⟩ (.int .i64 a)) S (cs.set 2 (.int .i64 a)) { x with frm := a } := by
  obtain rfl := msg_own.1 h
  exact msg_own.2 rfl
theorem setMsgMsgTx {w : World} {S : Nat → Prop} {cs : List Value} {x : Msg} {g o : Nat} (h : msgSh.own w S cs x) (_ : ¬ S g) (a : Int) : msgSh.own (w.setCell ⟨g, o, none⟩ (.int .i64 a)) S (cs.set 3 (.int .i64 a)) { x with tx := a } := by
  obtain rfl := msg_own.1 h
  exact msg_own.2 rfl
theorem setMsgMsgOpKind {w : World} {S : Nat → Prop} {cs : List Value} {x : Msg} {g o : Nat} (h : msgSh.own w S cs x) (_ : ¬ S g) (a : Int) : msgSh.own (w.setCell ⟨g, o, none⟩ (.int .i64 a)) S (cs.set 4 (.int .i64 a)) { x with op.kind := a } := by
  obtain rfl := msg_own.1 h
  exact msg_own.2 rfl
theorem setMsgMsgOpWho {w : World} {S : Nat → Prop} {cs : List Value} {x : Msg} {g o : Nat} (h : msgSh.own w S cs x) (_ : ¬ S g) (a : Int) : msgSh.own (w.setCell ⟨g, o, none⟩ (.int .i64 a)) S (cs.set 5 (.int .i64 a)) { x with op.who := a } := by
  obtain rfl := msg_own.1 h
  exact msg_own.2 rfl
theorem setMsgMsgOpIn {w : World} {S : Nat → Prop} {cs : List Value} {x : Msg} {g o : Nat} (h : msgSh.own w S cs x) (_ : ¬ S g) (a : Int) : msgSh.own (w.setCell ⟨g, o, none⟩ (.int .i64 a)) S (cs.set 6 (.int .i64 a)) { x with op.inn := a } := by
  obtain rfl := msg_own.1 h
  exact msg_own.2 rfl
theorem setMsgMsgOpCode {w : World} {S : Nat → Prop} {cs : List Value} {x : Msg} {g o : Nat} (h : msgSh.own w S cs x) (_ : ¬ S g) (a : Int) : msgSh.own (w.setCell ⟨g, o, none⟩ (.int .i64 a)) S (cs.set 7 (.int .i64 a)) { x with op.code := a } := by
  obtain rfl := msg_own.1 h
  exact msg_own.2 rfl
theorem setMsgMsgOpSec {w : World} {S : Nat → Prop} {cs : List Value} {x : Msg} {g o : Nat} (h : msgSh.own w S cs x) (_ : ¬ S g) (a : Int) : msgSh.own (w.setCell ⟨g, o, none⟩ (.int .i64 a)) S (cs.set 8 (.int .i64 a)) { x with op.sec := a } := by
  obtain rfl := msg_own.1 h
  exact msg_own.2 rfl
theorem setMsgMsgOpFam {w : World} {S : Nat → Prop} {cs : List Value} {x : Msg} {g o : Nat} (h : msgSh.own w S cs x) (_ : ¬ S g) (a : Int) : msgSh.own (w.setCell ⟨g, o, none⟩ (.int .i64 a)) S (cs.set 9 (.int .i64 a)) { x with op.fam := a } := by
  obtain rfl := msg_own.1 h
  exact msg_own.2 rfl
theorem setMsgMsgOpGen {w : World} {S : Nat → Prop} {cs : List Value} {x : Msg} {g o : Nat} (h : msgSh.own w S cs x) (_ : ¬ S g) (a : Int) : msgSh.own (w.setCell ⟨g, o, none⟩ (.int .i64 a)) S (cs.set 10 (.int .i64 a)) { x with op.gen := a } := by
  obtain rfl := msg_own.1 h
  exact msg_own.2 rfl
set_option maxRecDepth 100000 in
set_option maxHeartbeats 1000000 in
theorem markMsgMsgS_sh (w : World) (S : Nat → Prop) (v : Value) (xs : List Msg) (hv : msgSh.Own 126 w S v xs) (k : Int) (_ : msgsSh.wt xs ≤ 1048576) (h0 : 1 ≤ k) (h1 : k + 16 * (msgsSh.wt xs : Int) ≤ 1000000000000000) :
    Calls Try.prog 55 #[v, .int .i64 k] w (MarkedSl msgSh 126 S v xs k w) := by
  have hn : xs.length ≤ msgsSh.wt xs := wtL_len _ _
  obtain ⟨Ad, c, hvf, hc2, hc1⟩ := hv.row.form
  subst hvf
  unfold maxLen at hc2
  have HV := Lib.hid hv
  clear hv
  go_enter Try.func55, Try.ntmps55
  go_wp2
  go_loopw [1, 5] (fun q i wr => ∃ (m : Nat) (ys : List Msg), m ≤ xs.length ∧ i = .int .i64 m ∧ q = .int .i64 (k + cntL msgSh.cnt (xs.take m)) ∧ ys.length = xs.length ∧ cntL msgSh.cnt (ys.take m) = cntL msgSh.cnt (xs.take m) ∧ (∀ j, m ≤ j → ys[j]? = xs[j]?) ∧ MkTo msgSh.cnt msgSh.mkd k ys m ∧ msgSh.Own 126 wr S (.slice Ad xs.length c) ys ∧ Outs S w wr) (fun _ i _ => xs.length - (intOf i).toNat)
  case atStart => exact ⟨0, xs, Nat.zero_le _, rfl, by simp [cntL], rfl, rfl, fun _ _ => rfl, MkTo.start _ _ _ _, HV.out, Outs.refl _ _⟩
  case round =>
    clear HV
    obtain ⟨m, ys, hm, rfl, rfl, hyl, hcm, hfar, hmk, hown, hout⟩ := hrel
    by_cases hlt : m < xs.length
    · obtain ⟨x, hx⟩ : ∃ x, xs[m]? = some x := ⟨_, List.getElem?_eq_getElem hlt⟩
      have hyx : ys[m]? = some x := (hfar m (Nat.le_refl _)).trans hx
      have hset : ys.set m x = ys := by
        obtain ⟨h', e'⟩ := List.getElem?_eq_some_iff.1 hyx
        rw [← e']; exact List.set_getElem_self h'
      have hb1 : wtL msgSh.wt (xs.take (m + 1)) ≤ msgsSh.wt xs := wtL_take_le _ _ _
      rw [wtL_take hx] at hb1
      have hb2 := cntL_le msgSh.cnt msgSh.wt msgSh.base (by decide) msgSh.cntLe (xs.take m)
      have hwx := wtMsgMsg x
      rcases hown.form with ⟨hv', -⟩ | ⟨g, cap, hv', hSg, hgw, -, -⟩
      · injection hv' with _ hv' _; omega
      rw [hyl] at hv'
      injection hv' with hv1 hv2 hv3
      subst hv1 hv3
      obtain ⟨K, hK⟩ : ∃ K, k + (cntL msgSh.cnt (xs.take m) : Int) = K := ⟨_, rfl⟩
      rw [hK]
      have hK1 : 1 ≤ K := by omega
      have hK2 : K + 16 * (1 + (msgSh.wt x : Int)) ≤ 1000000000000000 := by omega
      have HK := Lib.hid hK
      have HYl := Lib.hid hyl
      have HCm := Lib.hid hcm
      have HFar := Lib.hid hfar
      have HMk := Lib.hid hmk
      have HOut := Lib.hid hout
      have HX := Lib.hid hx
      have HO : Hid (msgSh.Own 126 wr S (.slice (some ⟨g, 0, none⟩) xs.length c) (ys.set m x)) := Lib.hid (hset.symm ▸ hown)
      have hmy : m < ys.length := by omega
      clear hv2 hK hyl hcm hfar hmk hown hout hx hyx hset
      clear hb1 hb2
      obtain ⟨cs, Sj, ho, hS, -, hc, hf, hkeep, hput⟩ := HO.out.focus hmy
      obtain rfl := msg_rel.1 (msgSh.orel ho)
      have t0 : (wr).cell? ⟨g, m * 11, none⟩ = some _ := hc 0 _ rfl
      have f0 : (wr).frozen? ⟨g, m * 11, none⟩ = false := hf _
      have HO' : Hid (msgSh.Own 126 (wr.setCell ⟨g, m * 11, none⟩ (.int .i64 (K))) S (.slice (some ⟨g, 0, none⟩) xs.length c) (ys.set m { kind := K, to_ := x.to_, frm := x.frm, tx := x.tx, op.kind := x.op.kind, op.who := x.op.who, op.inn := x.op.inn, op.code := x.op.code, op.sec := x.op.sec, op.fam := x.op.fam, op.gen := x.op.gen })) := Lib.hid (hput 0 (.int .i64 (K)) { kind := K, to_ := x.to_, frm := x.frm, tx := x.tx, op.kind := x.op.kind, op.who := x.op.who, op.inn := x.op.inn, op.code := x.op.code, op.sec := x.op.sec, op.fam := x.op.fam, op.gen := x.op.gen } (by decide) (setMsgMsgKind ho (fun h => (hS _ h).2 rfl) (K)))
      replace HOut := Lib.hid (HOut.out.trans (Outs.of_set wr ⟨g, m * 11, none⟩ (.int .i64 (K)) hSg))
      clear HO ho hS hc hf hkeep hput 
      have HO := HO'
      clear HO'
      obtain ⟨cs, Sj, ho, hS, -, hc, hf, hkeep, hput⟩ := HO.out.focus hmy
      obtain rfl := msg_rel.1 (msgSh.orel ho)
      have t1 : ((wr.setCell ⟨g, m * 11, none⟩ (.int .i64 (K)))).cell? ⟨g, m * 11 + 1, none⟩ = some _ := hc 1 _ rfl
      have f1 : ((wr.setCell ⟨g, m * 11, none⟩ (.int .i64 (K)))).frozen? ⟨g, m * 11 + 1, none⟩ = false := hf _
      have HO' : Hid (msgSh.Own 126 ((wr.setCell ⟨g, m * 11, none⟩ (.int .i64 (K))).setCell ⟨g, m * 11 + 1, none⟩ (.int .i64 (K + 1))) S (.slice (some ⟨g, 0, none⟩) xs.length c) (ys.set m { kind := K, to_ := K + 1, frm := x.frm, tx := x.tx, op.kind := x.op.kind, op.who := x.op.who, op.inn := x.op.inn, op.code := x.op.code, op.sec := x.op.sec, op.fam := x.op.fam, op.gen := x.op.gen })) := Lib.hid (hput 1 (.int .i64 (K + 1)) { kind := K, to_ := K + 1, frm := x.frm, tx := x.tx, op.kind := x.op.kind, op.who := x.op.who, op.inn := x.op.inn, op.code := x.op.code, op.sec := x.op.sec, op.fam := x.op.fam, op.gen := x.op.gen } (by decide) (setMsgMsgTo ho (fun h => (hS _ h).2 rfl) (K + 1)))
      replace HOut := Lib.hid (HOut.out.trans (Outs.of_set (wr.setCell ⟨g, m * 11, none⟩ (.int .i64 (K))) ⟨g, m * 11 + 1, none⟩ (.int .i64 (K + 1)) hSg))
      clear HO ho hS hc hf hkeep hput 
      have HO := HO'
      clear HO'
      obtain ⟨cs, Sj, ho, hS, -, hc, hf, hkeep, hput⟩ := HO.out.focus hmy
      obtain rfl := msg_rel.1 (msgSh.orel ho)
      have t2 : (((wr.setCell ⟨g, m * 11, none⟩ (.int .i64 (K))).setCell ⟨g, m * 11 + 1, none⟩ (.int .i64 (K + 1)))).cell? ⟨g, m * 11 + 2, none⟩ = some _ := hc 2 _ rfl
      have f2 : (((wr.setCell ⟨g, m * 11, none⟩ (.int .i64 (K))).setCell ⟨g, m * 11 + 1, none⟩ (.int .i64 (K + 1)))).frozen? ⟨g, m * 11 + 2, none⟩ = false := hf _
      have HO' : Hid (msgSh.Own 126 (((wr.setCell ⟨g, m * 11, none⟩ (.int .i64 (K))).setCell ⟨g, m * 11 + 1, none⟩ (.int .i64 (K + 1))).setCell ⟨g, m * 11 + 2, none⟩ (.int .i64 (K + 1 + 1))) S (.slice (some ⟨g, 0, none⟩) xs.length c) (ys.set m { kind := K, to_ := K + 1, frm := K + 1 + 1, tx := x.tx, op.kind := x.op.kind, op.who := x.op.who, op.inn := x.op.inn, op.code := x.op.code, op.sec := x.op.sec, op.fam := x.op.fam, op.gen := x.op.gen })) := Lib.hid (hput 2 (.int .i64 (K + 1 + 1)) { kind := K, to_ := K + 1, frm := K + 1 + 1, tx := x.tx, op.kind := x.op.kind, op.who := x.op.who, op.inn := x.op.inn, op.code := x.op.code, op.sec := x.op.sec, op.fam := x.op.fam, op.gen := x.op.gen } (by decide) (setMsgMsgFrom ho (fun h => (hS _ h).2 rfl) (K + 1 + 1)))
      replace HOut := Lib.hid (HOut.out.trans (Outs.of_set ((wr.setCell ⟨g, m * 11, none⟩ (.int .i64 (K))).setCell ⟨g, m * 11 + 1, none⟩ (.int .i64 (K + 1))) ⟨g, m * 11 + 2, none⟩ (.int .i64 (K + 1 + 1)) hSg))
      clear HO ho hS hc hf hkeep hput 
      have HO := HO'
      clear HO'
      obtain ⟨cs, Sj, ho, hS, -, hc, hf, hkeep, hput⟩ := HO.out.focus hmy
      obtain rfl := msg_rel.1 (msgSh.orel ho)
      have t3 : ((((wr.setCell ⟨g, m * 11, none⟩ (.int .i64 (K))).setCell ⟨g, m * 11 + 1, none⟩ (.int .i64 (K + 1))).setCell ⟨g, m * 11 + 2, none⟩ (.int .i64 (K + 1 + 1)))).cell? ⟨g, m * 11 + 3, none⟩ = some _ := hc 3 _ rfl
      have f3 : ((((wr.setCell ⟨g, m * 11, none⟩ (.int .i64 (K))).setCell ⟨g, m * 11 + 1, none⟩ (.int .i64 (K + 1))).setCell ⟨g, m * 11 + 2, none⟩ (.int .i64 (K + 1 + 1)))).frozen? ⟨g, m * 11 + 3, none⟩ = false := hf _
      have HO' : Hid (msgSh.Own 126 ((((wr.setCell ⟨g, m * 11, none⟩ (.int .i64 (K))).setCell ⟨g, m * 11 + 1, none⟩ (.int .i64 (K + 1))).setCell ⟨g, m * 11 + 2, none⟩ (.int .i64 (K + 1 + 1))).setCell ⟨g, m * 11 + 3, none⟩ (.int .i64 (K + 1 + 1 + 1))) S (.slice (some ⟨g, 0, none⟩) xs.length c) (ys.set m { kind := K, to_ := K + 1, frm := K + 1 + 1, tx := K + 1 + 1 + 1, op.kind := x.op.kind, op.who := x.op.who, op.inn := x.op.inn, op.code := x.op.code, op.sec := x.op.sec, op.fam := x.op.fam, op.gen := x.op.gen })) := Lib.hid (hput 3 (.int .i64 (K + 1 + 1 + 1)) { kind := K, to_ := K + 1, frm := K + 1 + 1, tx := K + 1 + 1 + 1, op.kind := x.op.kind, op.who := x.op.who, op.inn := x.op.inn, op.code := x.op.code, op.sec := x.op.sec, op.fam := x.op.fam, op.gen := x.op.gen } (by decide) (setMsgMsgTx ho (fun h => (hS _ h).2 rfl) (K + 1 + 1 + 1)))
      replace HOut := Lib.hid (HOut.out.trans (Outs.of_set (((wr.setCell ⟨g, m * 11, none⟩ (.int .i64 (K))).setCell ⟨g, m * 11 + 1, none⟩ (.int .i64 (K + 1))).setCell ⟨g, m * 11 + 2, none⟩ (.int .i64 (K + 1 + 1))) ⟨g, m * 11 + 3, none⟩ (.int .i64 (K + 1 + 1 + 1)) hSg))
      clear HO ho hS hc hf hkeep hput 
      have HO := HO'
      clear HO'
      obtain ⟨cs, Sj, ho, hS, -, hc, hf, hkeep, hput⟩ := HO.out.focus hmy
      obtain rfl := msg_rel.1 (msgSh.orel ho)
      have t4 : (((((wr.setCell ⟨g, m * 11, none⟩ (.int .i64 (K))).setCell ⟨g, m * 11 + 1, none⟩ (.int .i64 (K + 1))).setCell ⟨g, m * 11 + 2, none⟩ (.int .i64 (K + 1 + 1))).setCell ⟨g, m * 11 + 3, none⟩ (.int .i64 (K + 1 + 1 + 1)))).cell? ⟨g, m * 11 + 4, none⟩ = some _ := hc 4 _ rfl
      have f4 : (((((wr.setCell ⟨g, m * 11, none⟩ (.int .i64 (K))).setCell ⟨g, m * 11 + 1, none⟩ (.int .i64 (K + 1))).setCell ⟨g, m * 11 + 2, none⟩ (.int .i64 (K + 1 + 1))).setCell ⟨g, m * 11 + 3, none⟩ (.int .i64 (K + 1 + 1 + 1)))).frozen? ⟨g, m * 11 + 4, none⟩ = false := hf _
      have HO' : Hid (msgSh.Own 126 (((((wr.setCell ⟨g, m * 11, none⟩ (.int .i64 (K))).setCell ⟨g, m * 11 + 1, none⟩ (.int .i64 (K + 1))).setCell ⟨g, m * 11 + 2, none⟩ (.int .i64 (K + 1 + 1))).setCell ⟨g, m * 11 + 3, none⟩ (.int .i64 (K + 1 + 1 + 1))).setCell ⟨g, m * 11 + 4, none⟩ (.int .i64 (K + 1 + 1 + 1 + 1))) S (.slice (some ⟨g, 0, none⟩) xs.length c) (ys.set m { kind := K, to_ := K + 1, frm := K + 1 + 1, tx := K + 1 + 1 + 1, op.kind := K + 1 + 1 + 1 + 1, op.who := x.op.who, op.inn := x.op.inn, op.code := x.op.code, op.sec := x.op.sec, op.fam := x.op.fam, op.gen := x.op.gen })) := Lib.hid (hput 4 (.int .i64 (K + 1 + 1 + 1 + 1)) { kind := K, to_ := K + 1, frm := K + 1 + 1, tx := K + 1 + 1 + 1, op.kind := K + 1 + 1 + 1 + 1, op.who := x.op.who, op.inn := x.op.inn, op.code := x.op.code, op.sec := x.op.sec, op.fam := x.op.fam, op.gen := x.op.gen } (by decide) (setMsgMsgOpKind ho (fun h => (hS _ h).2 rfl) (K + 1 + 1 + 1 + 1)))
      replace HOut := Lib.hid (HOut.out.trans (Outs.of_set ((((wr.setCell ⟨g, m * 11, none⟩ (.int .i64 (K))).setCell ⟨g, m * 11 + 1, none⟩ (.int .i64 (K + 1))).setCell ⟨g, m * 11 + 2, none⟩ (.int .i64 (K + 1 + 1))).setCell ⟨g, m * 11 + 3, none⟩ (.int .i64 (K + 1 + 1 + 1))) ⟨g, m * 11 + 4, none⟩ (.int .i64 (K + 1 + 1 + 1 + 1)) hSg))
      clear HO ho hS hc hf hkeep hput 
      have HO := HO'
      clear HO'
      obtain ⟨cs, Sj, ho, hS, -, hc, hf, hkeep, hput⟩ := HO.out.focus hmy
      obtain rfl := msg_rel.1 (msgSh.orel ho)
      have t5 : ((((((wr.setCell ⟨g, m * 11, none⟩ (.int .i64 (K))).setCell ⟨g, m * 11 + 1, none⟩ (.int .i64 (K + 1))).setCell ⟨g, m * 11 + 2, none⟩ (.int .i64 (K + 1 + 1))).setCell ⟨g, m * 11 + 3, none⟩ (.int .i64 (K + 1 + 1 + 1))).setCell ⟨g, m * 11 + 4, none⟩ (.int .i64 (K + 1 + 1 + 1 + 1)))).cell? ⟨g, m * 11 + 5, none⟩ = some _ := hc 5 _ rfl
      have f5 : ((((((wr.setCell ⟨g, m * 11, none⟩ (.int .i64 (K))).setCell ⟨g, m * 11 + 1, none⟩ (.int .i64 (K + 1))).setCell ⟨g, m * 11 + 2, none⟩ (.int .i64 (K + 1 + 1))).setCell ⟨g, m * 11 + 3, none⟩ (.int .i64 (K + 1 + 1 + 1))).setCell ⟨g, m * 11 + 4, none⟩ (.int .i64 (K + 1 + 1 + 1 + 1)))).frozen? ⟨g, m * 11 + 5, none⟩ = false := hf _
      have HO' : Hid (msgSh.Own 126 ((((((wr.setCell ⟨g, m * 11, none⟩ (.int .i64 (K))).setCell ⟨g, m * 11 + 1, none⟩ (.int .i64 (K + 1))).setCell ⟨g, m * 11 + 2, none⟩ (.int .i64 (K + 1 + 1))).setCell ⟨g, m * 11 + 3, none⟩ (.int .i64 (K + 1 + 1 + 1))).setCell ⟨g, m * 11 + 4, none⟩ (.int .i64 (K + 1 + 1 + 1 + 1))).setCell ⟨g, m * 11 + 5, none⟩ (.int .i64 (K + 1 + 1 + 1 + 1 + 1))) S (.slice (some ⟨g, 0, none⟩) xs.length c) (ys.set m { kind := K, to_ := K + 1, frm := K + 1 + 1, tx := K + 1 + 1 + 1, op.kind := K + 1 + 1 + 1 + 1, op.who := K + 1 + 1 + 1 + 1 + 1, op.inn := x.op.inn, op.code := x.op.code, op.sec := x.op.sec, op.fam := x.op.fam, op.gen := x.op.gen })) := Lib.hid (hput 5 (.int .i64 (K + 1 + 1 + 1 + 1 + 1)) { kind := K, to_ := K + 1, frm := K + 1 + 1, tx := K + 1 + 1 + 1, op.kind := K + 1 + 1 + 1 + 1, op.who := K + 1 + 1 + 1 + 1 + 1, op.inn := x.op.inn, op.code := x.op.code, op.sec := x.op.sec, op.fam := x.op.fam, op.gen := x.op.gen } (by decide) (setMsgMsgOpWho ho (fun h => (hS _ h).2 rfl) (K + 1 + 1 + 1 + 1 + 1)))
      replace HOut := Lib.hid (HOut.out.trans (Outs.of_set (((((wr.setCell ⟨g, m * 11, none⟩ (.int .i64 (K))).setCell ⟨g, m * 11 + 1, none⟩ (.int .i64 (K + 1))).setCell ⟨g, m * 11 + 2, none⟩ (.int .i64 (K + 1 + 1))).setCell ⟨g, m * 11 + 3, none⟩ (.int .i64 (K + 1 + 1 + 1))).setCell ⟨g, m * 11 + 4, none⟩ (.int .i64 (K + 1 + 1 + 1 + 1))) ⟨g, m * 11 + 5, none⟩ (.int .i64 (K + 1 + 1 + 1 + 1 + 1)) hSg))
      clear HO ho hS hc hf hkeep hput 
      have HO := HO'
      clear HO'
      obtain ⟨cs, Sj, ho, hS, -, hc, hf, hkeep, hput⟩ := HO.out.focus hmy
      obtain rfl := msg_rel.1 (msgSh.orel ho)
      have t6 : (((((((wr.setCell ⟨g, m * 11, none⟩ (.int .i64 (K))).setCell ⟨g, m * 11 + 1, none⟩ (.int .i64 (K + 1))).setCell ⟨g, m * 11 + 2, none⟩ (.int .i64 (K + 1 + 1))).setCell ⟨g, m * 11 + 3, none⟩ (.int .i64 (K + 1 + 1 + 1))).setCell ⟨g, m * 11 + 4, none⟩ (.int .i64 (K + 1 + 1 + 1 + 1))).setCell ⟨g, m * 11 + 5, none⟩ (.int .i64 (K + 1 + 1 + 1 + 1 + 1)))).cell? ⟨g, m * 11 + 6, none⟩ = some _ := hc 6 _ rfl
      have f6 : (((((((wr.setCell ⟨g, m * 11, none⟩ (.int .i64 (K))).setCell ⟨g, m * 11 + 1, none⟩ (.int .i64 (K + 1))).setCell ⟨g, m * 11 + 2, none⟩ (.int .i64 (K + 1 + 1))).setCell ⟨g, m * 11 + 3, none⟩ (.int .i64 (K + 1 + 1 + 1))).setCell ⟨g, m * 11 + 4, none⟩ (.int .i64 (K + 1 + 1 + 1 + 1))).setCell ⟨g, m * 11 + 5, none⟩ (.int .i64 (K + 1 + 1 + 1 + 1 + 1)))).frozen? ⟨g, m * 11 + 6, none⟩ = false := hf _
      have HO' : Hid (msgSh.Own 126 (((((((wr.setCell ⟨g, m * 11, none⟩ (.int .i64 (K))).setCell ⟨g, m * 11 + 1, none⟩ (.int .i64 (K + 1))).setCell ⟨g, m * 11 + 2, none⟩ (.int .i64 (K + 1 + 1))).setCell ⟨g, m * 11 + 3, none⟩ (.int .i64 (K + 1 + 1 + 1))).setCell ⟨g, m * 11 + 4, none⟩ (.int .i64 (K + 1 + 1 + 1 + 1))).setCell ⟨g, m * 11 + 5, none⟩ (.int .i64 (K + 1 + 1 + 1 + 1 + 1))).setCell ⟨g, m * 11 + 6, none⟩ (.int .i64 (K + 1 + 1 + 1 + 1 + 1 + 1))) S (.slice (some ⟨g, 0, none⟩) xs.length c) (ys.set m { kind := K, to_ := K + 1, frm := K + 1 + 1, tx := K + 1 + 1 + 1, op.kind := K + 1 + 1 + 1 + 1, op.who := K + 1 + 1 + 1 + 1 + 1, op.inn := K + 1 + 1 + 1 + 1 + 1 + 1, op.code := x.op.code, op.sec := x.op.sec, op.fam := x.op.fam, op.gen := x.op.gen })) := Lib.hid (hput 6 (.int .i64 (K + 1 + 1 + 1 + 1 + 1 + 1)) { kind := K, to_ := K + 1, frm := K + 1 + 1, tx := K + 1 + 1 + 1, op.kind := K + 1 + 1 + 1 + 1, op.who := K + 1 + 1 + 1 + 1 + 1, op.inn := K + 1 + 1 + 1 + 1 + 1 + 1, op.code := x.op.code, op.sec := x.op.sec, op.fam := x.op.fam, op.gen := x.op.gen } (by decide) (setMsgMsgOpIn ho (fun h => (hS _ h).2 rfl) (K + 1 + 1 + 1 + 1 + 1 + 1)))
      replace HOut := Lib.hid (HOut.out.trans (Outs.of_set ((((((wr.setCell ⟨g, m * 11, none⟩ (.int .i64 (K))).setCell ⟨g, m * 11 + 1, none⟩ (.int .i64 (K + 1))).setCell ⟨g, m * 11 + 2, none⟩ (.int .i64 (K + 1 + 1))).setCell ⟨g, m * 11 + 3, none⟩ (.int .i64 (K + 1 + 1 + 1))).setCell ⟨g, m * 11 + 4, none⟩ (.int .i64 (K + 1 + 1 + 1 + 1))).setCell ⟨g, m * 11 + 5, none⟩ (.int .i64 (K + 1 + 1 + 1 + 1 + 1))) ⟨g, m * 11 + 6, none⟩ (.int .i64 (K + 1 + 1 + 1 + 1 + 1 + 1)) hSg))
      clear HO ho hS hc hf hkeep hput 
      have HO := HO'
      clear HO'
      obtain ⟨cs, Sj, ho, hS, -, hc, hf, hkeep, hput⟩ := HO.out.focus hmy
      obtain rfl := msg_rel.1 (msgSh.orel ho)
      have t7 : ((((((((wr.setCell ⟨g, m * 11, none⟩ (.int .i64 (K))).setCell ⟨g, m * 11 + 1, none⟩ (.int .i64 (K + 1))).setCell ⟨g, m * 11 + 2, none⟩ (.int .i64 (K + 1 + 1))).setCell ⟨g, m * 11 + 3, none⟩ (.int .i64 (K + 1 + 1 + 1))).setCell ⟨g, m * 11 + 4, none⟩ (.int .i64 (K + 1 + 1 + 1 + 1))).setCell ⟨g, m * 11 + 5, none⟩ (.int .i64 (K + 1 + 1 + 1 + 1 + 1))).setCell ⟨g, m * 11 + 6, none⟩ (.int .i64 (K + 1 + 1 + 1 + 1 + 1 + 1)))).cell? ⟨g, m * 11 + 7, none⟩ = some _ := hc 7 _ rfl
      have f7 : ((((((((wr.setCell ⟨g, m * 11, none⟩ (.int .i64 (K))).setCell ⟨g, m * 11 + 1, none⟩ (.int .i64 (K + 1))).setCell ⟨g, m * 11 + 2, none⟩ (.int .i64 (K + 1 + 1))).setCell ⟨g, m * 11 + 3, none⟩ (.int .i64 (K + 1 + 1 + 1))).setCell ⟨g, m * 11 + 4, none⟩ (.int .i64 (K + 1 + 1 + 1 + 1))).setCell ⟨g, m * 11 + 5, none⟩ (.int .i64 (K + 1 + 1 + 1 + 1 + 1))).setCell ⟨g, m * 11 + 6, none⟩ (.int .i64 (K + 1 + 1 + 1 + 1 + 1 + 1)))).frozen? ⟨g, m * 11 + 7, none⟩ = false := hf _
      have HO' : Hid (msgSh.Own 126 ((((((((wr.setCell ⟨g, m * 11, none⟩ (.int .i64 (K))).setCell ⟨g, m * 11 + 1, none⟩ (.int .i64 (K + 1))).setCell ⟨g, m * 11 + 2, none⟩ (.int .i64 (K + 1 + 1))).setCell ⟨g, m * 11 + 3, none⟩ (.int .i64 (K + 1 + 1 + 1))).setCell ⟨g, m * 11 + 4, none⟩ (.int .i64 (K + 1 + 1 + 1 + 1))).setCell ⟨g, m * 11 + 5, none⟩ (.int .i64 (K + 1 + 1 + 1 + 1 + 1))).setCell ⟨g, m * 11 + 6, none⟩ (.int .i64 (K + 1 + 1 + 1 + 1 + 1 + 1))).setCell ⟨g, m * 11 + 7, none⟩ (.int .i64 (K + 1 + 1 + 1 + 1 + 1 + 1 + 1))) S (.slice (some ⟨g, 0, none⟩) xs.length c) (ys.set m { kind := K, to_ := K + 1, frm := K + 1 + 1, tx := K + 1 + 1 + 1, op.kind := K + 1 + 1 + 1 + 1, op.who := K + 1 + 1 + 1 + 1 + 1, op.inn := K + 1 + 1 + 1 + 1 + 1 + 1, op.code := K + 1 + 1 + 1 + 1 + 1 + 1 + 1, op.sec := x.op.sec, op.fam := x.op.fam, op.gen := x.op.gen })) := Lib.hid (hput 7 (.int .i64 (K + 1 + 1 + 1 + 1 + 1 + 1 + 1)) { kind := K, to_ := K + 1, frm := K + 1 + 1, tx := K + 1 + 1 + 1, op.kind := K + 1 + 1 + 1 + 1, op.who := K + 1 + 1 + 1 + 1 + 1, op.inn := K + 1 + 1 + 1 + 1 + 1 + 1, op.code := K + 1 + 1 + 1 + 1 + 1 + 1 + 1, op.sec := x.op.sec, op.fam := x.op.fam, op.gen := x.op.gen } (by decide) (setMsgMsgOpCode ho (fun h => (hS _ h).2 rfl) (K + 1 + 1 + 1 + 1 + 1 + 1 + 1)))
      replace HOut := Lib.hid (HOut.out.trans (Outs.of_set (((((((wr.setCell ⟨g, m * 11, none⟩ (.int .i64 (K))).setCell ⟨g, m * 11 + 1, none⟩ (.int .i64 (K + 1))).setCell ⟨g, m * 11 + 2, none⟩ (.int .i64 (K + 1 + 1))).setCell ⟨g, m * 11 + 3, none⟩ (.int .i64 (K + 1 + 1 + 1))).setCell ⟨g, m * 11 + 4, none⟩ (.int .i64 (K + 1 + 1 + 1 + 1))).setCell ⟨g, m * 11 + 5, none⟩ (.int .i64 (K + 1 + 1 + 1 + 1 + 1))).setCell ⟨g, m * 11 + 6, none⟩ (.int .i64 (K + 1 + 1 + 1 + 1 + 1 + 1))) ⟨g, m * 11 + 7, none⟩ (.int .i64 (K + 1 + 1 + 1 + 1 + 1 + 1 + 1)) hSg))
      clear HO ho hS hc hf hkeep hput 
      have HO := HO'
      clear HO'
      obtain ⟨cs, Sj, ho, hS, -, hc, hf, hkeep, hput⟩ := HO.out.focus hmy
      obtain rfl := msg_rel.1 (msgSh.orel ho)
      have t8 : (((((((((wr.setCell ⟨g, m * 11, none⟩ (.int .i64 (K))).setCell ⟨g, m * 11 + 1, none⟩ (.int .i64 (K + 1))).setCell ⟨g, m * 11 + 2, none⟩ (.int .i64 (K + 1 + 1))).setCell ⟨g, m * 11 + 3, none⟩ (.int .i64 (K + 1 + 1 + 1))).setCell ⟨g, m * 11 + 4, none⟩ (.int .i64 (K + 1 + 1 + 1 + 1))).setCell ⟨g, m * 11 + 5, none⟩ (.int .i64 (K + 1 + 1 + 1 + 1 + 1))).setCell ⟨g, m * 11 + 6, none⟩ (.int .i64 (K + 1 + 1 + 1 + 1 + 1 + 1))).setCell ⟨g, m * 11 + 7, none⟩ (.int .i64 (K + 1 + 1 + 1 + 1 + 1 + 1 + 1)))).cell? ⟨g, m * 11 + 8, none⟩ = some _ := hc 8 _ rfl
      have f8 : (((((((((wr.setCell ⟨g, m * 11, none⟩ (.int .i64 (K))).setCell ⟨g, m * 11 + 1, none⟩ (.int .i64 (K + 1))).setCell ⟨g, m * 11 + 2, none⟩ (.int .i64 (K + 1 + 1))).setCell ⟨g, m * 11 + 3, none⟩ (.int .i64 (K + 1 + 1 + 1))).setCell ⟨g, m * 11 + 4, none⟩ (.int .i64 (K + 1 + 1 + 1 + 1))).setCell ⟨g, m * 11 + 5, none⟩ (.int .i64 (K + 1 + 1 + 1 + 1 + 1))).setCell ⟨g, m * 11 + 6, none⟩ (.int .i64 (K + 1 + 1 + 1 + 1 + 1 + 1))).setCell ⟨g, m * 11 + 7, none⟩ (.int .i64 (K + 1 + 1 + 1 + 1 + 1 + 1 + 1)))).frozen? ⟨g, m * 11 + 8, none⟩ = false := hf _
      have HO' : Hid (msgSh.Own 126 (((((((((wr.setCell ⟨g, m * 11, none⟩ (.int .i64 (K))).setCell ⟨g, m * 11 + 1, none⟩ (.int .i64 (K + 1))).setCell ⟨g, m * 11 + 2, none⟩ (.int .i64 (K + 1 + 1))).setCell ⟨g, m * 11 + 3, none⟩ (.int .i64 (K + 1 + 1 + 1))).setCell ⟨g, m * 11 + 4, none⟩ (.int .i64 (K + 1 + 1 + 1 + 1))).setCell ⟨g, m * 11 + 5, none⟩ (.int .i64 (K + 1 + 1 + 1 + 1 + 1))).setCell ⟨g, m * 11 + 6, none⟩ (.int .i64 (K + 1 + 1 + 1 + 1 + 1 + 1))).setCell ⟨g, m * 11 + 7, none⟩ (.int .i64 (K + 1 + 1 + 1 + 1 + 1 + 1 + 1))).setCell ⟨g, m * 11 + 8, none⟩ (.int .i64 (K + 1 + 1 + 1 + 1 + 1 + 1 + 1 + 1))) S (.slice (some ⟨g, 0, none⟩) xs.length c) (ys.set m { kind := K, to_ := K + 1, frm := K + 1 + 1, tx := K + 1 + 1 + 1, op.kind := K + 1 + 1 + 1 + 1, op.who := K + 1 + 1 + 1 + 1 + 1, op.inn := K + 1 + 1 + 1 + 1 + 1 + 1, op.code := K + 1 + 1 + 1 + 1 + 1 + 1 + 1, op.sec := K + 1 + 1 + 1 + 1 + 1 + 1 + 1 + 1, op.fam := x.op.fam, op.gen := x.op.gen })) := Lib.hid (hput 8 (.int .i64 (K + 1 + 1 + 1 + 1 + 1 + 1 + 1 + 1)) { kind := K, to_ := K + 1, frm := K + 1 + 1, tx := K + 1 + 1 + 1, op.kind := K + 1 + 1 + 1 + 1, op.who := K + 1 + 1 + 1 + 1 + 1, op.inn := K + 1 + 1 + 1 + 1 + 1 + 1, op.code := K + 1 + 1 + 1 + 1 + 1 + 1 + 1, op.sec := K + 1 + 1 + 1 + 1 + 1 + 1 + 1 + 1, op.fam := x.op.fam, op.gen := x.op.gen } (by decide) (setMsgMsgOpSec ho (fun h => (hS _ h).2 rfl) (K + 1 + 1 + 1 + 1 + 1 + 1 + 1 + 1)))
      replace HOut := Lib.hid (HOut.out.trans (Outs.of_set ((((((((wr.setCell ⟨g, m * 11, none⟩ (.int .i64 (K))).setCell ⟨g, m * 11 + 1, none⟩ (.int .i64 (K + 1))).setCell ⟨g, m * 11 + 2, none⟩ (.int .i64 (K + 1 + 1))).setCell ⟨g, m * 11 + 3, none⟩ (.int .i64 (K + 1 + 1 + 1))).setCell ⟨g, m * 11 + 4, none⟩ (.int .i64 (K + 1 + 1 + 1 + 1))).setCell ⟨g, m * 11 + 5, none⟩ (.int .i64 (K + 1 + 1 + 1 + 1 + 1))).setCell ⟨g, m * 11 + 6, none⟩ (.int .i64 (K + 1 + 1 + 1 + 1 + 1 + 1))).setCell ⟨g, m * 11 + 7, none⟩ (.int .i64 (K + 1 + 1 + 1 + 1 + 1 + 1 + 1))) ⟨g, m * 11 + 8, none⟩ (.int .i64 (K + 1 + 1 + 1 + 1 + 1 + 1 + 1 + 1)) hSg))
      clear HO ho hS hc hf hkeep hput 
      have HO := HO'
      clear HO'
      obtain ⟨cs, Sj, ho, hS, -, hc, hf, hkeep, hput⟩ := HO.out.focus hmy
      obtain rfl := msg_rel.1 (msgSh.orel ho)
      have t9 : ((((((((((wr.setCell ⟨g, m * 11, none⟩ (.int .i64 (K))).setCell ⟨g, m * 11 + 1, none⟩ (.int .i64 (K + 1))).setCell ⟨g, m * 11 + 2, none⟩ (.int .i64 (K + 1 + 1))).setCell ⟨g, m * 11 + 3, none⟩ (.int .i64 (K + 1 + 1 + 1))).setCell ⟨g, m * 11 + 4, none⟩ (.int .i64 (K + 1 + 1 + 1 + 1))).setCell ⟨g, m * 11 + 5, none⟩ (.int .i64 (K + 1 + 1 + 1 + 1 + 1))).setCell ⟨g, m * 11 + 6, none⟩ (.int .i64 (K + 1 + 1 + 1 + 1 + 1 + 1))).setCell ⟨g, m * 11 + 7, none⟩ (.int .i64 (K + 1 + 1 + 1 + 1 + 1 + 1 + 1))).setCell ⟨g, m * 11 + 8, none⟩ (.int .i64 (K + 1 + 1 + 1 + 1 + 1 + 1 + 1 + 1)))).cell? ⟨g, m * 11 + 9, none⟩ = some _ := hc 9 _ rfl
      have f9 : ((((((((((wr.setCell ⟨g, m * 11, none⟩ (.int .i64 (K))).setCell ⟨g, m * 11 + 1, none⟩ (.int .i64 (K + 1))).setCell ⟨g, m * 11 + 2, none⟩ (.int .i64 (K + 1 + 1))).setCell ⟨g, m * 11 + 3, none⟩ (.int .i64 (K + 1 + 1 + 1))).setCell ⟨g, m * 11 + 4, none⟩ (.int .i64 (K + 1 + 1 + 1 + 1))).setCell ⟨g, m * 11 + 5, none⟩ (.int .i64 (K + 1 + 1 + 1 + 1 + 1))).setCell ⟨g, m * 11 + 6, none⟩ (.int .i64 (K + 1 + 1 + 1 + 1 + 1 + 1))).setCell ⟨g, m * 11 + 7, none⟩ (.int .i64 (K + 1 + 1 + 1 + 1 + 1 + 1 + 1))).setCell ⟨g, m * 11 + 8, none⟩ (.int .i64 (K + 1 + 1 + 1 + 1 + 1 + 1 + 1 + 1)))).frozen? ⟨g, m * 11 + 9, none⟩ = false := hf _
      have HO' : Hid (msgSh.Own 126 ((((((((((wr.setCell ⟨g, m * 11, none⟩ (.int .i64 (K))).setCell ⟨g, m * 11 + 1, none⟩ (.int .i64 (K + 1))).setCell ⟨g, m * 11 + 2, none⟩ (.int .i64 (K + 1 + 1))).setCell ⟨g, m * 11 + 3, none⟩ (.int .i64 (K + 1 + 1 + 1))).setCell ⟨g, m * 11 + 4, none⟩ (.int .i64 (K + 1 + 1 + 1 + 1))).setCell ⟨g, m * 11 + 5, none⟩ (.int .i64 (K + 1 + 1 + 1 + 1 + 1))).setCell ⟨g, m * 11 + 6, none⟩ (.int .i64 (K + 1 + 1 + 1 + 1 + 1 + 1))).setCell ⟨g, m * 11 + 7, none⟩ (.int .i64 (K + 1 + 1 + 1 + 1 + 1 + 1 + 1))).setCell ⟨g, m * 11 + 8, none⟩ (.int .i64 (K + 1 + 1 + 1 + 1 + 1 + 1 + 1 + 1))).setCell ⟨g, m * 11 + 9, none⟩ (.int .i64 (K + 1 + 1 + 1 + 1 + 1 + 1 + 1 + 1 + 1))) S (.slice (some ⟨g, 0, none⟩) xs.length c) (ys.set m { kind := K, to_ := K + 1, frm := K + 1 + 1, tx := K + 1 + 1 + 1, op.kind := K + 1 + 1 + 1 + 1, op.who := K + 1 + 1 + 1 + 1 + 1, op.inn := K + 1 + 1 + 1 + 1 + 1 + 1, op.code := K + 1 + 1 + 1 + 1 + 1 + 1 + 1, op.sec := K + 1 + 1 + 1 + 1 + 1 + 1 + 1 + 1, op.fam := K + 1 + 1 + 1 + 1 + 1 + 1 + 1 + 1 + 1, op.gen := x.op.gen })) := Lib.hid (hput 9 (.int .i64 (K + 1 + 1 + 1 + 1 + 1 + 1 + 1 + 1 + 1)) { kind := K, to_ := K + 1, frm := K + 1 + 1, tx := K + 1 + 1 + 1, op.kind := K + 1 + 1 + 1 + 1, op.who := K + 1 + 1 + 1 + 1 + 1, op.inn := K + 1 + 1 + 1 + 1 + 1 + 1, op.code := K + 1 + 1 + 1 + 1 + 1 + 1 + 1, op.sec := K + 1 + 1 + 1 + 1 + 1 + 1 + 1 + 1, op.fam := K + 1 + 1 + 1 + 1 + 1 + 1 + 1 + 1 + 1, op.gen := x.op.gen } (by decide) (setMsgMsgOpFam ho (fun h => (hS _ h).2 rfl) (K + 1 + 1 + 1 + 1 + 1 + 1 + 1 + 1 + 1)))
      replace HOut := Lib.hid (HOut.out.trans (Outs.of_set (((((((((wr.setCell ⟨g, m * 11, none⟩ (.int .i64 (K))).setCell ⟨g, m * 11 + 1, none⟩ (.int .i64 (K + 1))).setCell ⟨g, m * 11 + 2, none⟩ (.int .i64 (K + 1 + 1))).setCell ⟨g, m * 11 + 3, none⟩ (.int .i64 (K + 1 + 1 + 1))).setCell ⟨g, m * 11 + 4, none⟩ (.int .i64 (K + 1 + 1 + 1 + 1))).setCell ⟨g, m * 11 + 5, none⟩ (.int .i64 (K + 1 + 1 + 1 + 1 + 1))).setCell ⟨g, m * 11 + 6, none⟩ (.int .i64 (K + 1 + 1 + 1 + 1 + 1 + 1))).setCell ⟨g, m * 11 + 7, none⟩ (.int .i64 (K + 1 + 1 + 1 + 1 + 1 + 1 + 1))).setCell ⟨g, m * 11 + 8, none⟩ (.int .i64 (K + 1 + 1 + 1 + 1 + 1 + 1 + 1 + 1))) ⟨g, m * 11 + 9, none⟩ (.int .i64 (K + 1 + 1 + 1 + 1 + 1 + 1 + 1 + 1 + 1)) hSg))
      clear HO ho hS hc hf hkeep hput 
      have HO := HO'
      clear HO'
      obtain ⟨cs, Sj, ho, hS, -, hc, hf, hkeep, hput⟩ := HO.out.focus hmy
      obtain rfl := msg_rel.1 (msgSh.orel ho)
      have t10 : (((((((((((wr.setCell ⟨g, m * 11, none⟩ (.int .i64 (K))).setCell ⟨g, m * 11 + 1, none⟩ (.int .i64 (K + 1))).setCell ⟨g, m * 11 + 2, none⟩ (.int .i64 (K + 1 + 1))).setCell ⟨g, m * 11 + 3, none⟩ (.int .i64 (K + 1 + 1 + 1))).setCell ⟨g, m * 11 + 4, none⟩ (.int .i64 (K + 1 + 1 + 1 + 1))).setCell ⟨g, m * 11 + 5, none⟩ (.int .i64 (K + 1 + 1 + 1 + 1 + 1))).setCell ⟨g, m * 11 + 6, none⟩ (.int .i64 (K + 1 + 1 + 1 + 1 + 1 + 1))).setCell ⟨g, m * 11 + 7, none⟩ (.int .i64 (K + 1 + 1 + 1 + 1 + 1 + 1 + 1))).setCell ⟨g, m * 11 + 8, none⟩ (.int .i64 (K + 1 + 1 + 1 + 1 + 1 + 1 + 1 + 1))).setCell ⟨g, m * 11 + 9, none⟩ (.int .i64 (K + 1 + 1 + 1 + 1 + 1 + 1 + 1 + 1 + 1)))).cell? ⟨g, m * 11 + 10, none⟩ = some _ := hc 10 _ rfl
      have f10 : (((((((((((wr.setCell ⟨g, m * 11, none⟩ (.int .i64 (K))).setCell ⟨g, m * 11 + 1, none⟩ (.int .i64 (K + 1))).setCell ⟨g, m * 11 + 2, none⟩ (.int .i64 (K + 1 + 1))).setCell ⟨g, m * 11 + 3, none⟩ (.int .i64 (K + 1 + 1 + 1))).setCell ⟨g, m * 11 + 4, none⟩ (.int .i64 (K + 1 + 1 + 1 + 1))).setCell ⟨g, m * 11 + 5, none⟩ (.int .i64 (K + 1 + 1 + 1 + 1 + 1))).setCell ⟨g, m * 11 + 6, none⟩ (.int .i64 (K + 1 + 1 + 1 + 1 + 1 + 1))).setCell ⟨g, m * 11 + 7, none⟩ (.int .i64 (K + 1 + 1 + 1 + 1 + 1 + 1 + 1))).setCell ⟨g, m * 11 + 8, none⟩ (.int .i64 (K + 1 + 1 + 1 + 1 + 1 + 1 + 1 + 1))).setCell ⟨g, m * 11 + 9, none⟩ (.int .i64 (K + 1 + 1 + 1 + 1 + 1 + 1 + 1 + 1 + 1)))).frozen? ⟨g, m * 11 + 10, none⟩ = false := hf _
      have HO' : Hid (msgSh.Own 126 (((((((((((wr.setCell ⟨g, m * 11, none⟩ (.int .i64 (K))).setCell ⟨g, m * 11 + 1, none⟩ (.int .i64 (K + 1))).setCell ⟨g, m * 11 + 2, none⟩ (.int .i64 (K + 1 + 1))).setCell ⟨g, m * 11 + 3, none⟩ (.int .i64 (K + 1 + 1 + 1))).setCell ⟨g, m * 11 + 4, none⟩ (.int .i64 (K + 1 + 1 + 1 + 1))).setCell ⟨g, m * 11 + 5, none⟩ (.int .i64 (K + 1 + 1 + 1 + 1 + 1))).setCell ⟨g, m * 11 + 6, none⟩ (.int .i64 (K + 1 + 1 + 1 + 1 + 1 + 1))).setCell ⟨g, m * 11 + 7, none⟩ (.int .i64 (K + 1 + 1 + 1 + 1 + 1 + 1 + 1))).setCell ⟨g, m * 11 + 8, none⟩ (.int .i64 (K + 1 + 1 + 1 + 1 + 1 + 1 + 1 + 1))).setCell ⟨g, m * 11 + 9, none⟩ (.int .i64 (K + 1 + 1 + 1 + 1 + 1 + 1 + 1 + 1 + 1))).setCell ⟨g, m * 11 + 10, none⟩ (.int .i64 (K + 1 + 1 + 1 + 1 + 1 + 1 + 1 + 1 + 1 + 1))) S (.slice (some ⟨g, 0, none⟩) xs.length c) (ys.set m { kind := K, to_ := K + 1, frm := K + 1 + 1, tx := K + 1 + 1 + 1, op.kind := K + 1 + 1 + 1 + 1, op.who := K + 1 + 1 + 1 + 1 + 1, op.inn := K + 1 + 1 + 1 + 1 + 1 + 1, op.code := K + 1 + 1 + 1 + 1 + 1 + 1 + 1, op.sec := K + 1 + 1 + 1 + 1 + 1 + 1 + 1 + 1, op.fam := K + 1 + 1 + 1 + 1 + 1 + 1 + 1 + 1 + 1, op.gen := K + 1 + 1 + 1 + 1 + 1 + 1 + 1 + 1 + 1 + 1 })) := Lib.hid (hput 10 (.int .i64 (K + 1 + 1 + 1 + 1 + 1 + 1 + 1 + 1 + 1 + 1)) { kind := K, to_ := K + 1, frm := K + 1 + 1, tx := K + 1 + 1 + 1, op.kind := K + 1 + 1 + 1 + 1, op.who := K + 1 + 1 + 1 + 1 + 1, op.inn := K + 1 + 1 + 1 + 1 + 1 + 1, op.code := K + 1 + 1 + 1 + 1 + 1 + 1 + 1, op.sec := K + 1 + 1 + 1 + 1 + 1 + 1 + 1 + 1, op.fam := K + 1 + 1 + 1 + 1 + 1 + 1 + 1 + 1 + 1, op.gen := K + 1 + 1 + 1 + 1 + 1 + 1 + 1 + 1 + 1 + 1 } (by decide) (setMsgMsgOpGen ho (fun h => (hS _ h).2 rfl) (K + 1 + 1 + 1 + 1 + 1 + 1 + 1 + 1 + 1 + 1)))
      replace HOut := Lib.hid (HOut.out.trans (Outs.of_set ((((((((((wr.setCell ⟨g, m * 11, none⟩ (.int .i64 (K))).setCell ⟨g, m * 11 + 1, none⟩ (.int .i64 (K + 1))).setCell ⟨g, m * 11 + 2, none⟩ (.int .i64 (K + 1 + 1))).setCell ⟨g, m * 11 + 3, none⟩ (.int .i64 (K + 1 + 1 + 1))).setCell ⟨g, m * 11 + 4, none⟩ (.int .i64 (K + 1 + 1 + 1 + 1))).setCell ⟨g, m * 11 + 5, none⟩ (.int .i64 (K + 1 + 1 + 1 + 1 + 1))).setCell ⟨g, m * 11 + 6, none⟩ (.int .i64 (K + 1 + 1 + 1 + 1 + 1 + 1))).setCell ⟨g, m * 11 + 7, none⟩ (.int .i64 (K + 1 + 1 + 1 + 1 + 1 + 1 + 1))).setCell ⟨g, m * 11 + 8, none⟩ (.int .i64 (K + 1 + 1 + 1 + 1 + 1 + 1 + 1 + 1))).setCell ⟨g, m * 11 + 9, none⟩ (.int .i64 (K + 1 + 1 + 1 + 1 + 1 + 1 + 1 + 1 + 1))) ⟨g, m * 11 + 10, none⟩ (.int .i64 (K + 1 + 1 + 1 + 1 + 1 + 1 + 1 + 1 + 1 + 1)) hSg))
      clear HO ho hS hc hf hkeep hput 
      have HO := HO'
      clear HO'
      have hcx : msgSh.cnt x = (1 + (1 + (1 + (1 + (1 + (1 + (1 + (1 + (1 + (1 + 1)))))))))) := rfl
      have hcy : msgSh.cnt ({ kind := K, to_ := K + 1, frm := K + 1 + 1, tx := K + 1 + 1 + 1, op.kind := K + 1 + 1 + 1 + 1, op.who := K + 1 + 1 + 1 + 1 + 1, op.inn := K + 1 + 1 + 1 + 1 + 1 + 1, op.code := K + 1 + 1 + 1 + 1 + 1 + 1 + 1, op.sec := K + 1 + 1 + 1 + 1 + 1 + 1 + 1 + 1, op.fam := K + 1 + 1 + 1 + 1 + 1 + 1 + 1 + 1 + 1, op.gen := K + 1 + 1 + 1 + 1 + 1 + 1 + 1 + 1 + 1 + 1 } : Msg) = msgSh.cnt x := by
        show (1 + (1 + (1 + (1 + (1 + (1 + (1 + (1 + (1 + (1 + 1)))))))))) = (1 + (1 + (1 + (1 + (1 + (1 + (1 + (1 + (1 + (1 + 1))))))))))
        rw []
      have HCx := Lib.hid hcx
      have HCy := Lib.hid hcy
      have HMd : Hid (msgSh.mkd K ({ kind := K, to_ := K + 1, frm := K + 1 + 1, tx := K + 1 + 1 + 1, op.kind := K + 1 + 1 + 1 + 1, op.who := K + 1 + 1 + 1 + 1 + 1, op.inn := K + 1 + 1 + 1 + 1 + 1 + 1, op.code := K + 1 + 1 + 1 + 1 + 1 + 1 + 1, op.sec := K + 1 + 1 + 1 + 1 + 1 + 1 + 1 + 1, op.fam := K + 1 + 1 + 1 + 1 + 1 + 1 + 1 + 1 + 1, op.gen := K + 1 + 1 + 1 + 1 + 1 + 1 + 1 + 1 + 1 + 1 } : Msg)) := Lib.hid ⟨rfl, rfl, rfl, rfl, rfl, rfl, rfl, rfl, rfl, rfl, rfl⟩
      clear hcx hcy
      go_wp2
      go_roundw
      case rel =>
        refine ⟨m + 1, ys.set m { kind := K, to_ := K + 1, frm := K + 1 + 1, tx := K + 1 + 1 + 1, op.kind := K + 1 + 1 + 1 + 1, op.who := K + 1 + 1 + 1 + 1 + 1, op.inn := K + 1 + 1 + 1 + 1 + 1 + 1, op.code := K + 1 + 1 + 1 + 1 + 1 + 1 + 1, op.sec := K + 1 + 1 + 1 + 1 + 1 + 1 + 1 + 1, op.fam := K + 1 + 1 + 1 + 1 + 1 + 1 + 1 + 1 + 1, op.gen := K + 1 + 1 + 1 + 1 + 1 + 1 + 1 + 1 + 1 + 1 }, by omega, by go_num, int_eq ?_, by rw [List.length_set]; exact HYl.out, ?_, fun j hj => ?_, ?_, HO.out, HOut.out⟩
        · rw [cntL_take HX.out, HCx.out]; have := HK.out; omega
        · rw [cntL_take (List.getElem?_set_self hmy), cnt_set_take (Nat.le_refl _), HCm.out, cntL_take HX.out, HCy.out]
        · rw [List.getElem?_set_ne (by omega)]; exact HFar.out j (by omega)
        · exact HMk.out.step hmy (by rw [HCm.out, HK.out]; exact HMd.out)
      case measure => simp [intOf]; omega
    · obtain rfl : m = xs.length := by omega
      have HYl := Lib.hid hyl
      have HCm := Lib.hid hcm
      have HMk := Lib.hid hmk
      have HO := Lib.hid hown
      have HOut := Lib.hid hout
      clear hyl hcm hfar hmk hown hout
      go_wp2
      go_ret
      have hty : ys.take xs.length = ys := by rw [← HYl.out]; exact List.take_length
      have hc := HCm.out
      rw [hty, List.take_length] at hc
      exact ⟨ys, ret_int (by rw [List.take_length]), HYl.out, hc, MkTo.all (HYl.out.symm ▸ HMk.out), HO.out, HOut.out⟩
set_option maxRecDepth 100000 in
set_option maxHeartbeats 1000000 in
theorem heldMsgMsgS_sh (w : World) (v : Value) (xs : List Msg) (hv : msgSh.Row w w.heap.size v xs) (k : Int) (_ : msgsSh.wt xs ≤ 1048576) (h0 : 1 ≤ k) (h1 : k + 16 * (msgsSh.wt xs : Int) ≤ 1000000000000000) (hm : mkdL msgSh.cnt msgSh.mkd k xs) :
    Calls Try.prog 56 #[v, .int .i64 k] w fun e w' => e = .returned (.int .i64 (k + cntL msgSh.cnt xs)) ∧ Below w.heap.size w w' := by
  have hn : xs.length ≤ msgsSh.wt xs := wtL_len _ _
  obtain ⟨Ad, c, hvf, hc2, hc1⟩ := hv.form
  subst hvf
  unfold maxLen at hc2
  have HM := Lib.hid hm
  clear hm
  go_enter Try.func56, Try.ntmps56
  go_wp2
  go_loopw [1, 5] (fun q i wr => ∃ m : Nat, m ≤ xs.length ∧ i = .int .i64 m ∧ q = .int .i64 (k + cntL msgSh.cnt (xs.take m)) ∧ Below w.heap.size w wr) (fun _ i _ => xs.length - (intOf i).toNat)
  case atStart => exact ⟨0, Nat.zero_le _, rfl, by simp [cntL], Below.refl _ _⟩
  case round =>
    obtain ⟨m, hm, rfl, rfl, hb⟩ := hrel
    by_cases hlt : m < xs.length
    · obtain ⟨b, off, c', x, cs, e1, hx, hB, hr, hcell⟩ := hv.at_ (k := m) hlt
      injection e1 with e1a e1b e1c
      subst e1a
      have hmd := mkdL_at HM.out hx
      have hb1 : wtL msgSh.wt (xs.take (m + 1)) ≤ msgsSh.wt xs := wtL_take_le _ _ _
      rw [wtL_take hx] at hb1
      have hb2 := cntL_le msgSh.cnt msgSh.wt msgSh.base (by decide) msgSh.cntLe (xs.take m)
      have hwx := wtMsgMsg x
      obtain ⟨K, hK⟩ : ∃ K, k + (cntL msgSh.cnt (xs.take m) : Int) = K := ⟨_, rfl⟩
      rw [hK] at hmd ⊢
      have hK1 : 1 ≤ K := by omega
      have hK2 : K + 16 * (1 + (msgSh.wt x : Int)) ≤ 1000000000000000 := by omega
      obtain ⟨md0, md1, md2, md3, md4, md5, md6, md7, md8, md9, md10⟩ := hmd
      obtain rfl := msg_rel.1 hr
      have md0' : x.kind = K := md0
      clear md0
      have md1' : x.to_ = K + 1 := md1
      clear md1
      have md2' : x.frm = K + 1 + 1 := md2
      clear md2
      have md3' : x.tx = K + 1 + 1 + 1 := md3
      clear md3
      have md4' : x.op.kind = K + 1 + 1 + 1 + 1 := md4
      clear md4
      have md5' : x.op.who = K + 1 + 1 + 1 + 1 + 1 := md5
      clear md5
      have md6' : x.op.inn = K + 1 + 1 + 1 + 1 + 1 + 1 := md6
      clear md6
      have md7' : x.op.code = K + 1 + 1 + 1 + 1 + 1 + 1 + 1 := md7
      clear md7
      have md8' : x.op.sec = K + 1 + 1 + 1 + 1 + 1 + 1 + 1 + 1 := md8
      clear md8
      have md9' : x.op.fam = K + 1 + 1 + 1 + 1 + 1 + 1 + 1 + 1 + 1 := md9
      clear md9
      have md10' : x.op.gen = K + 1 + 1 + 1 + 1 + 1 + 1 + 1 + 1 + 1 + 1 := md10
      clear md10
      have p0 : w.cell? ⟨b, off + m * 11, none⟩ = some _ := hcell 0 _ rfl
      have p1 : w.cell? ⟨b, off + m * 11 + 1, none⟩ = some _ := hcell 1 _ rfl
      have p2 : w.cell? ⟨b, off + m * 11 + 2, none⟩ = some _ := hcell 2 _ rfl
      have p3 : w.cell? ⟨b, off + m * 11 + 3, none⟩ = some _ := hcell 3 _ rfl
      have p4 : w.cell? ⟨b, off + m * 11 + 4, none⟩ = some _ := hcell 4 _ rfl
      have p5 : w.cell? ⟨b, off + m * 11 + 5, none⟩ = some _ := hcell 5 _ rfl
      have p6 : w.cell? ⟨b, off + m * 11 + 6, none⟩ = some _ := hcell 6 _ rfl
      have p7 : w.cell? ⟨b, off + m * 11 + 7, none⟩ = some _ := hcell 7 _ rfl
      have p8 : w.cell? ⟨b, off + m * 11 + 8, none⟩ = some _ := hcell 8 _ rfl
      have p9 : w.cell? ⟨b, off + m * 11 + 9, none⟩ = some _ := hcell 9 _ rfl
      have p10 : w.cell? ⟨b, off + m * 11 + 10, none⟩ = some _ := hcell 10 _ rfl
      rw [md0'] at p0
      rw [md1'] at p1
      rw [md2'] at p2
      rw [md3'] at p3
      rw [md4'] at p4
      rw [md5'] at p5
      rw [md6'] at p6
      rw [md7'] at p7
      rw [md8'] at p8
      rw [md9'] at p9
      rw [md10'] at p10
      have HS := Lib.hid fun (y : World) (hy : Below w.heap.size w y) => And.intro ((hy.cell (p := ⟨b, off + m * 11, none⟩) hB).trans p0) (And.intro ((hy.cell (p := ⟨b, off + m * 11 + 1, none⟩) hB).trans p1) (And.intro ((hy.cell (p := ⟨b, off + m * 11 + 2, none⟩) hB).trans p2) (And.intro ((hy.cell (p := ⟨b, off + m * 11 + 3, none⟩) hB).trans p3) (And.intro ((hy.cell (p := ⟨b, off + m * 11 + 4, none⟩) hB).trans p4) (And.intro ((hy.cell (p := ⟨b, off + m * 11 + 5, none⟩) hB).trans p5) (And.intro ((hy.cell (p := ⟨b, off + m * 11 + 6, none⟩) hB).trans p6) (And.intro ((hy.cell (p := ⟨b, off + m * 11 + 7, none⟩) hB).trans p7) (And.intro ((hy.cell (p := ⟨b, off + m * 11 + 8, none⟩) hB).trans p8) (And.intro ((hy.cell (p := ⟨b, off + m * 11 + 9, none⟩) hB).trans p9) ((hy.cell (p := ⟨b, off + m * 11 + 10, none⟩) hB).trans p10))))))))))
      have hcx : msgSh.cnt x = (1 + (1 + (1 + (1 + (1 + (1 + (1 + (1 + (1 + (1 + 1)))))))))) := rfl
      have HCx := Lib.hid hcx
      have HX := Lib.hid hx
      have HK := Lib.hid hK
      have HB := Lib.hid hb
      have f3 : (0 : Int) ≤ (m : Int) := by omega
      have f4 : (m : Int) < (xs.length : Int) := by omega
      clear e1b e1c hv hx hr hcell hb1 hb2 hcx hK md0' md1' md2' md3' md4' md5' md6' md7' md8' md9' md10' p0 p1 p2 p3 p4 p5 p6 p7 p8 p9 p10
      obtain ⟨d0, d1, d2, d3, d4, d5, d6, d7, d8, d9, d10⟩ := HS.out wr hb
      go_wp2
      go_roundw
      case rel => exact ⟨m + 1, by omega, by go_num, int_eq (by rw [cntL_take HX.out, HCx.out]; have := HK.out; omega), hb⟩
      case measure => simp [intOf]; omega
    · obtain rfl : m = xs.length := by omega
      clear hv
      go_wp2
      go_ret
      exact ⟨ret_int (by rw [List.take_length]), hb⟩

end Go.Proofs.Ytkamlibfcakblaa
