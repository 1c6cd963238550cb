/- Texts that follow each other, merged: MarkSize, HMark, HMsgMsg. -/
import Derived.Test.YtkamlibfcakblaaXMark
import Derived.Test.YtkamlibfcakblaaXHStr
import Derived.Deep.RegionHeld3
import Derived.Test.YtkamlibfcakblaaXMsgP
import Derived.Test.YtkamlibfcakblaaXRegTake

/- How long a mark's text is. -/
namespace Go.Proofs.Ytkamlibfcakblaa
open Go.RowKit

theorem decs_size : ∀ (n : Nat) (k : Int) (s : ByteArray), k.toNat ≤ n → (decs k s).size ≤ n + s.size
  | n, k, s, h => by
    by_cases hk : 0 < k
    · cases n with
      | zero => omega
      | succ n =>
        rw [← decs_step s hk]
        have := decs_size n (k / 10) (digT (k % 10) ++ s) (by omega)
        rw [ByteArray.size_append, digT_size] at this
        omega
    · rw [decs_end s (by omega)]; omega
theorem markS_size {k : Int} (h : k ≤ 1000000000000000) : (markS k).size ≤ maxLen := by
  unfold markS maxLen
  rw [ByteArray.size_append]
  have h1 := decs_size k.toNat k ⟨#[]⟩ (Nat.le_refl _)
  have h2 : (⟨#[]⟩ : ByteArray).size = 0 := rfl
  have h3 : (⟨#[109]⟩ : ByteArray).size = 1 := rfl
  omega

end Go.Proofs.Ytkamlibfcakblaa

/- Marks on numbers and on texts, by shapes. -/
namespace Go.Proofs.Ytkamlibfcakblaa
open Go.RowKit

theorem int_eq {a b : Int} (h : a = b) : Value.int .i64 a = .int .i64 b := by rw [h]
theorem cntInts (xs : List Int) : cntL Sh.int.cnt xs = xs.length := by
  show cntL (fun _ => 1) xs = xs.length
  induction xs with
  | nil => rfl
  | cons x l ih => simp only [cntL, List.length_cons, ih]; omega
theorem cntStrs (xs : List ByteArray) : cntL strSh.cnt xs = xs.length := by
  show cntL (fun _ => 1) xs = xs.length
  induction xs with
  | nil => rfl
  | cons x l ih => simp only [cntL, List.length_cons, ih]; omega
theorem intsOwn {w : World} {S : Nat → Prop} {v : Value} {xs : List Int} (h : Sh.int.Own 3 w S v xs) : OwnInts w 0 v xs := by
  obtain ⟨C, F, h1, h2, h3, h4⟩ := h
  have hC : flat C xs.length = xs.map (Value.int .i64) := by
    symm
    refine flat_ext (d := 1) (fun j hj => ?_) (by simp) fun j i hj hi => ?_
    · have := (h3 j _ (List.getElem?_eq_getElem hj)).1
      have e : C j = [.int .i64 xs[j]] := this
      rw [e]; rfl
    · have := (h3 j _ (List.getElem?_eq_getElem hj)).1
      have e : C j = [.int .i64 xs[j]] := this
      have hi0 : i = 0 := by omega
      subst hi0
      rw [e, Nat.mul_one, Nat.add_zero, List.getElem?_map, List.getElem?_eq_getElem hj]
      rfl
  unfold OwnInts
  rw [← hC]
  exact h1
theorem ownInts {w : World} {lo : Nat} {S : Nat → Prop} {v : Value} {xs : List Int} (h : OwnInts w lo v xs) (hS : ∀ g, v.ownBlock = some g → S g) : Sh.int.Own 3 w S v xs := by
  refine ⟨fun j => [.int .i64 (nth xs j)], fun _ _ => False, ?_, hS, fun j x hx => ⟨?_, fun _ h => h.elim⟩, fun i j b _ _ h => h.elim⟩
  · have e : flat (fun j => [Value.int .i64 (nth xs j)]) xs.length = xs.map (Value.int .i64) := by
      symm
      refine flat_ext (d := 1) (fun _ _ => rfl) (by simp) fun j i hj hi => ?_
      have hi0 : i = 0 := by omega
      subst hi0
      rw [Nat.mul_one, Nat.add_zero, List.getElem?_map, List.getElem?_eq_getElem hj, nth_get hj]
      rfl
    rw [e]
    exact ⟨h.1, h.2.elim .inl fun ⟨g, cap, cur, a, _, r⟩ => .inr ⟨g, cap, cur, a, Nat.zero_le _, r⟩⟩
  · obtain ⟨hj, rfl⟩ := List.getElem?_eq_some_iff.1 hx
    show [Value.int .i64 (nth xs j)] = [.int .i64 xs[j]]
    rw [nth_get hj]
theorem mkdInts : ∀ {ys : List Int} {k : Int}, Marked ys k ys.length → mkdL Sh.int.cnt Sh.int.mkd k ys
  | [], _, _ => trivial
  | y :: ys, k, h => by
    refine ⟨?_, mkdInts fun j hj => ?_⟩
    · have := h 0 (by simp)
      show y = k
      simpa [nth] using this
    · have := h (j + 1) (by simp; omega)
      have e : nth (y :: ys) (j + 1) = nth ys j := by simp [nth]
      rw [e] at this
      rw [this]
      show k + ((j + 1 : Nat) : Int) = k + ((1 : Nat) : Int) + j
      omega
theorem mkdInts' : ∀ {ys : List Int} {k : Int}, mkdL Sh.int.cnt Sh.int.mkd k ys → Marked ys k ys.length
  | [], _, _ => fun j h => absurd h (by simp)
  | y :: ys, k, h => by
    intro j hj
    cases j with
    | zero =>
      have : y = k := h.1
      simpa [nth] using this
    | succ j =>
      have h2 := mkdInts' h.2 j (by simpa using hj)
      have e : nth (y :: ys) (j + 1) = nth ys j := by simp [nth]
      rw [e, h2]
      show k + ((1 : Nat) : Int) + j = k + ((j + 1 : Nat) : Int)
      omega

theorem markIntS_sh (w : World) (S : Nat → Prop) (v : Value) (xs : List Int) (hv : Sh.int.Own 3 w S v xs) (k : Int) (hl : intsSh.wt xs ≤ 1048576) (h0 : 1 ≤ k) (h1 : k + 16 * (intsSh.wt xs : Int) ≤ 1000000000000000) :
    Calls Try.prog 44 #[v, .int .i64 k] w (MarkedSl Sh.int 3 S v xs k w) := by
  have hw := wtInts xs
  have hS : ∀ g, v.ownBlock = some g → S g := by obtain ⟨_, _, _, h2, _⟩ := hv; exact h2
  refine (markIntS_any w 0 v xs (intsOwn hv) k (by omega) (by omega) (by omega)).mono ?_
  rintro e w' ⟨ys, rfl, hyl, hm, ho, hg, hz⟩
  refine ⟨ys, ?_, hyl, ?_, mkdInts (hyl ▸ hm), ownInts ho hS, Outs.of_grown hg hS⟩
  · rw [cntInts]
  · rw [cntInts, cntInts, hyl]
theorem heldIntS_sh (w : World) (v : Value) (xs : List Int) (hv : Sh.int.Row w w.heap.size v xs) (k : Int) (hl : intsSh.wt xs ≤ 1048576) (h0 : 1 ≤ k) (h1 : k + 16 * (intsSh.wt xs : Int) ≤ 1000000000000000) (hm : mkdL Sh.int.cnt Sh.int.mkd k xs) :
    Calls Try.prog 45 #[v, .int .i64 k] w fun e w' => e = .returned (.int .i64 (k + cntL Sh.int.cnt xs)) ∧ Below w.heap.size w w' := by
  have hw := wtInts xs
  refine (heldIntS_any w _ v xs (ints_row.1 hv) k (by omega) (by omega) (by omega) (mkdInts' hm)).mono ?_
  rintro e w' ⟨rfl, rfl⟩
  exact ⟨by rw [cntInts], Below.refl _ _⟩

/-- One element, the list written with it. -/
theorem Sh.Own.focus {α : Type} {A : Sh α} {e : TypeId} {w : World} {S : Nat → Prop} {g n cap m : Nat} {ys : List α} {x : α} (h : A.Own e w S (.slice (some ⟨g, 0, none⟩) n cap) (ys.set m x)) (hm : m < ys.length) : ∃ cs Sj, A.own w Sj cs x ∧ (∀ b, Sj b → S b ∧ b ≠ g) ∧ S g ∧
    (∀ i u, cs[i]? = some u → w.cell? ⟨g, m * A.wd + i, none⟩ = some u) ∧ (∀ i, w.frozen? ⟨g, i, none⟩ = false) ∧
    (∀ w' x', A.own w' Sj cs x' → Outs Sj w w' → A.Own e w' S (.slice (some ⟨g, 0, none⟩) n cap) (ys.set m x')) ∧
    ∀ i u x', i < A.wd → A.own (w.setCell ⟨g, m * A.wd + i, none⟩ u) Sj (cs.set i u) x' → A.Own e (w.setCell ⟨g, m * A.wd + i, none⟩ u) S (.slice (some ⟨g, 0, none⟩) n cap) (ys.set m x') := by
  obtain ⟨g', cap', x', cs, Sj, e1, hx, hSg, _, ho, hS, hc, hf, hk, hp⟩ := h.at_ (j := m) (by rw [List.length_set]; exact hm)
  injection e1 with e1a e1b e1c
  injection e1a with e1a
  injection e1a with e1a
  subst e1a
  rw [List.getElem?_set_self hm] at hx
  injection hx with hx
  subst hx
  refine ⟨cs, Sj, ho, hS, hSg, hc, hf, fun w' x' h1 h2 => ?_, fun i u x' hi h1 => ?_⟩
  · have := hk w' x' h1 h2
    rwa [List.set_set] at this
  · have := hp i u Sj x' hi h1 (fun _ h => .inl h)
    rw [List.set_set] at this
    exact this.mono fun b hb => hb.elim id (fun h => (hS b h).1)
theorem strsLen (xs : List ByteArray) : xs.length ≤ strsSh.wt xs := wtL_len _ _
set_option maxRecDepth 100000 in
theorem markStringS_sh (w : World) (S : Nat → Prop) (v : Value) (xs : List ByteArray) (hv : strSh.Own 9 w S v xs) (k : Int) (hl : strsSh.wt xs ≤ 1048576) (h0 : 1 ≤ k) (h1 : k + 16 * (strsSh.wt xs : Int) ≤ 1000000000000000) :
    Calls Try.prog 47 #[v, .int .i64 k] w (MarkedSl strSh 9 S v xs k w) := by
  have hn := strsLen xs
  obtain ⟨Ad, c, hvf, hc2, hc1⟩ := hv.row.form
  subst hvf
  unfold maxLen at hc2
  have HV := Lib.hid hv
  have HC := Lib.hid (cntStrs xs)
  clear hv
  go_enter Try.func47, Try.ntmps47
  go_wp2
  go_loopw [1, 5] (fun q i wr => ∃ (m : Nat) (ys : List ByteArray), m ≤ xs.length ∧ i = .int .i64 m ∧ q = .int .i64 (k + m) ∧ ys.length = xs.length ∧ MkTo strSh.cnt strSh.mkd k ys m ∧ strSh.Own 9 wr S (.slice Ad xs.length c) ys ∧ Outs S w wr) (fun _ i _ => xs.length - (intOf i).toNat)
  case atStart => exact ⟨0, xs, Nat.zero_le _, rfl, by go_num, rfl, MkTo.start _ _ _ _, HV.out, Outs.refl _ _⟩
  case round =>
    clear HV
    obtain ⟨m, ys, hm, rfl, rfl, hyl, hmk, hown, hout⟩ := hrel
    by_cases hlt : m < xs.length
    · have HYl := Lib.hid hyl
      have HMk := Lib.hid hmk
      have HO := Lib.hid hown
      have HOut := Lib.hid hout
      obtain ⟨g, cap, y, cs, Sj, e1, -, hSg, hgw, -, -, -, -, -, -⟩ := hown.at_ (j := m) (by omega)
      rw [hyl] at e1
      injection e1 with e1a e1b e1c
      subst e1a e1c
      clear e1b hyl hmk hown hout
      go_wp2_with fail
      refine (markText_any _ _ (by omega) (by omega)).mono ?_
      rintro e w1 ⟨rfl, hb1⟩
      obtain ⟨g', cap', y', cs', Sj', e2, hy', -, -, ⟨rfl, hys⟩, -, hcell, hfr, -, hput⟩ := (HO.out.below hb1).at_ (j := m) (by rw [HYl.out]; exact hlt)
      rw [HYl.out] at e2
      injection e2 with e2a e2b e2c
      injection e2a with e2a
      injection e2a with e2a
      subst e2a
      have hwd : m * strSh.wd + 0 = m := Nat.mul_one m
      have c0 := hcell 0 _ rfl
      rw [hwd] at c0
      have f0 := hfr m
      have hp := hput 0 (.string (markS (k + m))) (fun _ => False) (markS (k + m)) (by decide) ⟨rfl, markS_size (by omega)⟩ (fun _ h => h.elim)
      rw [hwd] at hp
      have hmS : MkTo strSh.cnt strSh.mkd k (ys.set m (markS (k + m))) (m + 1) := HMk.out.step (by rw [HYl.out]; exact hlt) (by
        show markS (k + m) = markS (k + cntL strSh.cnt (ys.take m))
        rw [cntStrs, List.length_take, HYl.out, Nat.min_eq_left (Nat.le_of_lt hlt)])
      have HP := Lib.hid (hp.mono (S' := S) fun b hb => hb.elim id (fun h => h.elim))
      have HM2 := Lib.hid hmS
      have HO2 := Lib.hid ((HOut.out.trans (Outs.of_below hb1)).trans (Outs.of_set w1 ⟨g, m, none⟩ (.string (markS (k + m))) hSg))
      clear hp hmS hput hcell hfr hb1 e2b e2c hy' HO HOut HMk
      go_wp2
      go_roundw
      case rel => exact ⟨m + 1, ys.set m (markS (k + m)), by omega, by go_num, by go_num, by rw [List.length_set]; exact HYl.out, HM2.out, HP.out, HO2.out⟩
      case measure => simp [intOf]; omega
    · obtain rfl : m = xs.length := by omega
      have HYl := Lib.hid hyl
      have HMk := Lib.hid hmk
      have HO := Lib.hid hown
      have HOut := Lib.hid hout
      clear hyl hmk hown hout
      go_wp2
      go_ret
      exact ⟨ys, ret_int (by rw [HC.out]), HYl.out, by rw [cntStrs, cntStrs, HYl.out], MkTo.all (HYl.out.symm ▸ HMk.out), HO.out, HOut.out⟩

set_option maxRecDepth 100000 in
theorem heldStringS_sh (w : World) (v : Value) (xs : List ByteArray) (hv : strSh.Row w w.heap.size v xs) (k : Int) (hl : strsSh.wt xs ≤ 1048576) (h0 : 1 ≤ k) (h1 : k + 16 * (strsSh.wt xs : Int) ≤ 1000000000000000) (hm : mkdL strSh.cnt strSh.mkd k xs) :
    Calls Try.prog 48 #[v, .int .i64 k] w fun e w' => e = .returned (.int .i64 (k + cntL strSh.cnt xs)) ∧ Below w.heap.size w w' := by
  have hn := strsLen xs
  obtain ⟨Ad, c, hvf, hc2, hc1⟩ := hv.form
  subst hvf
  unfold maxLen at hc2
  have HC := Lib.hid (cntStrs xs)
  have HM := Lib.hid hm
  clear hm
  go_enter Try.func48, Try.ntmps48
  go_wp2
  go_loopw [1, 5] (fun q i wr => ∃ m : Nat, m ≤ xs.length ∧ i = .int .i64 m ∧ q = .int .i64 (k + m) ∧ Below w.heap.size w wr) (fun _ i _ => xs.length - (intOf i).toNat)
  case atStart => exact ⟨0, Nat.zero_le _, rfl, by go_num, Below.refl _ _⟩
  case round =>
    obtain ⟨m, hm, rfl, rfl, hb⟩ := hrel
    by_cases hlt : m < xs.length
    · obtain ⟨b, off, c', x, e1, hx, hB, hs, ck⟩ := strs_at hv hlt
      injection e1 with e1a e1b e1c
      subst e1a
      have hxm : x = markS (k + m) := by
        have := mkdL_at HM.out hx
        rw [cntStrs, List.length_take, Nat.min_eq_left (Nat.le_of_lt hlt)] at this
        exact this
      subst hxm
      have HS := Lib.hid fun (y : World) (hy : Below w.heap.size w y) => (hy.cell (p := ⟨b, off + m, none⟩) hB).trans ck
      have d0 := HS.out wr hb
      have hb0 := hb.drew
      have f3 : (0 : Int) ≤ (m : Int) := by omega
      have f4 : (m : Int) < (xs.length : Int) := by omega
      clear e1b e1c hv hx ck
      go_wp2
      go_region_held3 (fun w' => w'.cell? ⟨b, off + m, none⟩ = some (.string (markS (k + m))))
        (first | exact HS.out _ hb0 | exact HS.out _ (by assumption))
        (first | (go_at_call 97; refine (markText_any _ _ (by omega) (by omega)).mono ?_; rintro e w' ⟨rfl, hb'⟩; have hq := belowNext hb0 hb'; clear hb'))
      go_wp2
      go_roundw
      case rel => exact ⟨m + 1, by omega, by go_num, by go_num, by assumption⟩
      case measure => simp [intOf]; omega
    · obtain rfl : m = xs.length := by omega
      clear hv
      go_wp2
      go_ret
      exact ⟨ret_int (by rw [HC.out]), hb⟩

end Go.Proofs.Ytkamlibfcakblaa

/- Comparison of what is sent, and of slices of it. -/
namespace Go.Proofs.Ytkamlibfcakblaa
open Go.RowKit

theorem cellMsg {w w' : World} {b o : Nat} {u : Value} (hb : Below w.heap.size w w') (h : w.cell? ⟨b, o, none⟩ = some u) : w'.cell? ⟨b, o, none⟩ = some u := by
  have hlt : b < w.heap.size := by
    rcases Nat.lt_or_ge b w.heap.size with h' | h'
    · exact h'
    · simp [World.cell?, Array.getElem?_eq_none h'] at h
  exact (World.cell?_of_block (a := ⟨b, o, none⟩) (hb.block b hlt)).trans h
set_option maxRecDepth 100000 in
theorem eqOpOp_one (w : World) (o : Op) : Calls Try.prog 132 #[.agg #[.int .i64 o.kind, .int .i64 o.who, .int .i64 o.inn, .int .i64 o.code, .int .i64 o.sec, .int .i64 o.fam, .int .i64 o.gen], .agg #[.int .i64 o.kind, .int .i64 o.who, .int .i64 o.inn, .int .i64 o.code, .int .i64 o.sec, .int .i64 o.fam, .int .i64 o.gen]] w (Alike w) := by
  have HB := Lib.hid (belowTwo w (.cells #[.int .i64 o.kind, .int .i64 o.who, .int .i64 o.inn, .int .i64 o.code, .int .i64 o.sec, .int .i64 o.fam, .int .i64 o.gen] 124) (.cells #[.int .i64 o.kind, .int .i64 o.who, .int .i64 o.inn, .int .i64 o.code, .int .i64 o.sec, .int .i64 o.fam, .int .i64 o.gen] 124))
  go_enter Try.func132, Try.ntmps132
  go_wp2
  go_ret
  exact ⟨rfl, HB.out⟩
set_option maxRecDepth 100000 in
set_option maxHeartbeats 4000000 in
theorem eqMsgMsg_one (w : World) (x : Msg) : Calls Try.prog 104 #[.agg #[.int .i64 x.kind, .int .i64 x.to_, .int .i64 x.frm, .int .i64 x.tx, .int .i64 x.op.kind, .int .i64 x.op.who, .int .i64 x.op.inn, .int .i64 x.op.code, .int .i64 x.op.sec, .int .i64 x.op.fam, .int .i64 x.op.gen], .agg #[.int .i64 x.kind, .int .i64 x.to_, .int .i64 x.frm, .int .i64 x.tx, .int .i64 x.op.kind, .int .i64 x.op.who, .int .i64 x.op.inn, .int .i64 x.op.code, .int .i64 x.op.sec, .int .i64 x.op.fam, .int .i64 x.op.gen]] w (Alike w) := by
  have HB := Lib.hid (belowTwo w (.cells #[.int .i64 x.kind, .int .i64 x.to_, .int .i64 x.frm, .int .i64 x.tx, .int .i64 x.op.kind, .int .i64 x.op.who, .int .i64 x.op.inn, .int .i64 x.op.code, .int .i64 x.op.sec, .int .i64 x.op.fam, .int .i64 x.op.gen] 126) (.cells #[.int .i64 x.kind, .int .i64 x.to_, .int .i64 x.frm, .int .i64 x.tx, .int .i64 x.op.kind, .int .i64 x.op.who, .int .i64 x.op.inn, .int .i64 x.op.code, .int .i64 x.op.sec, .int .i64 x.op.fam, .int .i64 x.op.gen] 126))
  go_enter Try.func104, Try.ntmps104
  go_wp2_with fail
  refine (eqOpOp_one _ x.op).mono ?_
  rintro e w1 ⟨rfl, hb⟩
  replace HB := Lib.hid (belowNext HB.out hb)
  clear hb
  go_wp2
  go_ret
  exact ⟨rfl, HB.out⟩
set_option maxRecDepth 100000 in
set_option maxHeartbeats 8000000 in
theorem eqMsgMsgS_same (w : World) (B : Nat) (v u : Value) (xs : List Msg) (hv : msgSh.Row w B v xs) (hu : msgSh.Row w B u xs) (hBw : B ≤ w.heap.size) :
    Calls Try.prog 54 #[v, u] w (Alike w) := by
  obtain ⟨A, c, rfl, hc2, hc1⟩ := hv.form
  obtain ⟨A', c', rfl, hc2', hc1'⟩ := hu.form
  unfold maxLen at hc2 hc2'
  go_enter Try.func54, Try.ntmps54
  go_wp2
  go_loopw [5] (fun i wr => ∃ k : Nat, k ≤ xs.length ∧ i = .int .i64 k ∧ Below w.heap.size w wr) (fun i _ => xs.length - (intOf i).toNat)
  case atStart => exact ⟨0, Nat.zero_le _, rfl, Below.refl _ _⟩
  case round =>
    obtain ⟨k, hk, rfl, hb⟩ := hrel
    by_cases hlt : k < xs.length
    · obtain ⟨b, off, d, x, cs, e1, hx, hB, hr, hc⟩ := (hv.below (hb.mono hBw)).at_ hlt
      obtain ⟨b2, off2, d2, x2, cs2, e2, hx2, hB2, hr2, hcc⟩ := (hu.below (hb.mono hBw)).at_ hlt
      rw [hx] at hx2
      injection hx2 with hx2
      subst hx2
      obtain rfl := msg_rel.1 hr
      obtain rfl := msg_rel.1 hr2
      injection e1 with e1a e1b e1c
      injection e2 with e2a e2b e2c
      subst e1a e2a
      have HB := Lib.hid hb
      have k0 : wr.drew.cell? ⟨b, off + k * 11, none⟩ = some (.int .i64 x.kind) ∧ wr.drew.cell? ⟨b, off + k * 11 + 1, none⟩ = some (.int .i64 x.to_) ∧ wr.drew.cell? ⟨b, off + k * 11 + 2, none⟩ = some (.int .i64 x.frm) ∧ wr.drew.cell? ⟨b, off + k * 11 + 3, none⟩ = some (.int .i64 x.tx) ∧ wr.drew.cell? ⟨b, off + k * 11 + 4, none⟩ = some (.int .i64 x.op.kind) ∧ wr.drew.cell? ⟨b, off + k * 11 + 5, none⟩ = some (.int .i64 x.op.who) ∧ wr.drew.cell? ⟨b, off + k * 11 + 6, none⟩ = some (.int .i64 x.op.inn) ∧ wr.drew.cell? ⟨b, off + k * 11 + 7, none⟩ = some (.int .i64 x.op.code) ∧ wr.drew.cell? ⟨b, off + k * 11 + 8, none⟩ = some (.int .i64 x.op.sec) ∧ wr.drew.cell? ⟨b, off + k * 11 + 9, none⟩ = some (.int .i64 x.op.fam) ∧ wr.drew.cell? ⟨b, off + k * 11 + 10, none⟩ = some (.int .i64 x.op.gen) ∧ wr.drew.cell? ⟨b2, off2 + k * 11, none⟩ = some (.int .i64 x.kind) ∧ wr.drew.cell? ⟨b2, off2 + k * 11 + 1, none⟩ = some (.int .i64 x.to_) ∧ wr.drew.cell? ⟨b2, off2 + k * 11 + 2, none⟩ = some (.int .i64 x.frm) ∧ wr.drew.cell? ⟨b2, off2 + k * 11 + 3, none⟩ = some (.int .i64 x.tx) ∧ wr.drew.cell? ⟨b2, off2 + k * 11 + 4, none⟩ = some (.int .i64 x.op.kind) ∧ wr.drew.cell? ⟨b2, off2 + k * 11 + 5, none⟩ = some (.int .i64 x.op.who) ∧ wr.drew.cell? ⟨b2, off2 + k * 11 + 6, none⟩ = some (.int .i64 x.op.inn) ∧ wr.drew.cell? ⟨b2, off2 + k * 11 + 7, none⟩ = some (.int .i64 x.op.code) ∧ wr.drew.cell? ⟨b2, off2 + k * 11 + 8, none⟩ = some (.int .i64 x.op.sec) ∧ wr.drew.cell? ⟨b2, off2 + k * 11 + 9, none⟩ = some (.int .i64 x.op.fam) ∧ wr.drew.cell? ⟨b2, off2 + k * 11 + 10, none⟩ = some (.int .i64 x.op.gen) := ⟨hc 0 _ rfl, hc 1 _ rfl, hc 2 _ rfl, hc 3 _ rfl, hc 4 _ rfl, hc 5 _ rfl, hc 6 _ rfl, hc 7 _ rfl, hc 8 _ rfl, hc 9 _ rfl, hc 10 _ rfl, hcc 0 _ rfl, hcc 1 _ rfl, hcc 2 _ rfl, hcc 3 _ rfl, hcc 4 _ rfl, hcc 5 _ rfl, hcc 6 _ rfl, hcc 7 _ rfl, hcc 8 _ rfl, hcc 9 _ rfl, hcc 10 _ rfl⟩
      have f3 : (0 : Int) ≤ (k : Int) := by omega
      have f4 : (k : Int) < (xs.length : Int) := by omega
      clear e1b e1c e2b e2c hv hu hx hb hc hcc hr hr2
      go_wp2
      refine wp_region_held_drew (S := (fun w' => w'.cell? ⟨b, off + k * 11, none⟩ = some (.int .i64 x.kind) ∧ w'.cell? ⟨b, off + k * 11 + 1, none⟩ = some (.int .i64 x.to_) ∧ w'.cell? ⟨b, off + k * 11 + 2, none⟩ = some (.int .i64 x.frm) ∧ w'.cell? ⟨b, off + k * 11 + 3, none⟩ = some (.int .i64 x.tx) ∧ w'.cell? ⟨b, off + k * 11 + 4, none⟩ = some (.int .i64 x.op.kind) ∧ w'.cell? ⟨b, off + k * 11 + 5, none⟩ = some (.int .i64 x.op.who) ∧ w'.cell? ⟨b, off + k * 11 + 6, none⟩ = some (.int .i64 x.op.inn) ∧ w'.cell? ⟨b, off + k * 11 + 7, none⟩ = some (.int .i64 x.op.code) ∧ w'.cell? ⟨b, off + k * 11 + 8, none⟩ = some (.int .i64 x.op.sec) ∧ w'.cell? ⟨b, off + k * 11 + 9, none⟩ = some (.int .i64 x.op.fam) ∧ w'.cell? ⟨b, off + k * 11 + 10, none⟩ = some (.int .i64 x.op.gen) ∧ w'.cell? ⟨b2, off2 + k * 11, none⟩ = some (.int .i64 x.kind) ∧ w'.cell? ⟨b2, off2 + k * 11 + 1, none⟩ = some (.int .i64 x.to_) ∧ w'.cell? ⟨b2, off2 + k * 11 + 2, none⟩ = some (.int .i64 x.frm) ∧ w'.cell? ⟨b2, off2 + k * 11 + 3, none⟩ = some (.int .i64 x.tx) ∧ w'.cell? ⟨b2, off2 + k * 11 + 4, none⟩ = some (.int .i64 x.op.kind) ∧ w'.cell? ⟨b2, off2 + k * 11 + 5, none⟩ = some (.int .i64 x.op.who) ∧ w'.cell? ⟨b2, off2 + k * 11 + 6, none⟩ = some (.int .i64 x.op.inn) ∧ w'.cell? ⟨b2, off2 + k * 11 + 7, none⟩ = some (.int .i64 x.op.code) ∧ w'.cell? ⟨b2, off2 + k * 11 + 8, none⟩ = some (.int .i64 x.op.sec) ∧ w'.cell? ⟨b2, off2 + k * 11 + 9, none⟩ = some (.int .i64 x.op.fam) ∧ w'.cell? ⟨b2, off2 + k * 11 + 10, none⟩ = some (.int .i64 x.op.gen))) (by kernel_rfl) ?hSr (fun hHeldr => ?str)
      case hSr => (first | (dsimp only; (first | with_reducible exact k1 | exact k0)) | (first | with_reducible exact k1 | exact k0))
      refine take_first 0 17 (v := ?vr_1) rfl rfl (by kernel_rfl) (by kernel_rfl) (by kernel_rfl) (fun _ _ _ h => h) (by rfl) ?yr_1 (by assumption) ?rr_1
      case yr_1 => (intro w hSw; (try dsimp only at hSw); go_simp; (try with_reducible rfl))
      simp only [Act.put, List.setIfInBounds_toArray, List.set_cons_zero, List.set_cons_succ]
      refine take_first 1 18 (v := ?vr_2) rfl rfl (by kernel_rfl) (by kernel_rfl) (by kernel_rfl) (fun _ _ _ h => h) (by rfl) ?yr_2 (by assumption) ?rr_2
      case yr_2 => (intro w hSw; (try dsimp only at hSw); go_simp; (try with_reducible rfl))
      simp only [Act.put, List.setIfInBounds_toArray, List.set_cons_zero, List.set_cons_succ]
      refine take_first 2 19 (v := ?vr_3) rfl rfl (by kernel_rfl) (by kernel_rfl) (by kernel_rfl) (fun _ _ _ h => h) (by rfl) ?yr_3 (by assumption) ?rr_3
      case yr_3 => (intro w hSw; (try dsimp only at hSw); go_simp; (try with_reducible rfl))
      simp only [Act.put, List.setIfInBounds_toArray, List.set_cons_zero, List.set_cons_succ]
      refine take_first 3 20 (v := ?vr_4) rfl rfl (by kernel_rfl) (by kernel_rfl) (by kernel_rfl) (fun _ _ _ h => h) (by rfl) ?yr_4 (by assumption) ?rr_4
      case yr_4 => (intro w hSw; (try dsimp only at hSw); go_simp; (try with_reducible rfl))
      simp only [Act.put, List.setIfInBounds_toArray, List.set_cons_zero, List.set_cons_succ]
      refine take_first 4 21 (v := ?vr_5) rfl rfl (by kernel_rfl) (by kernel_rfl) (by kernel_rfl) (fun _ _ _ h => h) (by rfl) ?yr_5 (by assumption) ?rr_5
      case yr_5 => (intro w hSw; (try dsimp only at hSw); go_simp; (try with_reducible rfl))
      simp only [Act.put, List.setIfInBounds_toArray, List.set_cons_zero, List.set_cons_succ]
      refine take_first 5 22 (v := ?vr_6) rfl rfl (by kernel_rfl) (by kernel_rfl) (by kernel_rfl) (fun _ _ _ h => h) (by rfl) ?yr_6 (by assumption) ?rr_6
      case yr_6 => (intro w hSw; (try dsimp only at hSw); go_simp; (try with_reducible rfl))
      simp only [Act.put, List.setIfInBounds_toArray, List.set_cons_zero, List.set_cons_succ]
      refine take_first 6 23 (v := ?vr_7) rfl rfl (by kernel_rfl) (by kernel_rfl) (by kernel_rfl) (fun _ _ _ h => h) (by rfl) ?yr_7 (by assumption) ?rr_7
      case yr_7 => (intro w hSw; (try dsimp only at hSw); go_simp; (try with_reducible rfl))
      simp only [Act.put, List.setIfInBounds_toArray, List.set_cons_zero, List.set_cons_succ]
      refine take_first 7 24 (v := ?vr_8) rfl rfl (by kernel_rfl) (by kernel_rfl) (by kernel_rfl) (fun _ _ _ h => h) (by rfl) ?yr_8 (by assumption) ?rr_8
      case yr_8 => (intro w hSw; (try dsimp only at hSw); go_simp; (try with_reducible rfl))
      simp only [Act.put, List.setIfInBounds_toArray, List.set_cons_zero, List.set_cons_succ]
      refine wpAnyH_ready (rs := [8]) (by kernel_rfl) (by simp) ?_
      refine AllReadyH.cons (o := _) rfl (fun Kr_9 hKr_9 => ?cr_9) ?mr_9
      case mr_9 => exact AllReadyH.nil
      go_simp
      refine (eqMsgMsg_one _ x).mono ?_; rintro e w1 ⟨rfl, hb1⟩; have k1 := And.intro (cellMsg hb1 k0.1) (And.intro (cellMsg hb1 k0.2.1) (And.intro (cellMsg hb1 k0.2.2.1) (And.intro (cellMsg hb1 k0.2.2.2.1) (And.intro (cellMsg hb1 k0.2.2.2.2.1) (And.intro (cellMsg hb1 k0.2.2.2.2.2.1) (And.intro (cellMsg hb1 k0.2.2.2.2.2.2.1) (And.intro (cellMsg hb1 k0.2.2.2.2.2.2.2.1) (And.intro (cellMsg hb1 k0.2.2.2.2.2.2.2.2.1) (And.intro (cellMsg hb1 k0.2.2.2.2.2.2.2.2.2.1) (And.intro (cellMsg hb1 k0.2.2.2.2.2.2.2.2.2.2.1) (And.intro (cellMsg hb1 k0.2.2.2.2.2.2.2.2.2.2.2.1) (And.intro (cellMsg hb1 k0.2.2.2.2.2.2.2.2.2.2.2.2.1) (And.intro (cellMsg hb1 k0.2.2.2.2.2.2.2.2.2.2.2.2.2.1) (And.intro (cellMsg hb1 k0.2.2.2.2.2.2.2.2.2.2.2.2.2.2.1) (And.intro (cellMsg hb1 k0.2.2.2.2.2.2.2.2.2.2.2.2.2.2.2.1) (And.intro (cellMsg hb1 k0.2.2.2.2.2.2.2.2.2.2.2.2.2.2.2.2.1) (And.intro (cellMsg hb1 k0.2.2.2.2.2.2.2.2.2.2.2.2.2.2.2.2.2.1) (And.intro (cellMsg hb1 k0.2.2.2.2.2.2.2.2.2.2.2.2.2.2.2.2.2.2.1) (And.intro (cellMsg hb1 k0.2.2.2.2.2.2.2.2.2.2.2.2.2.2.2.2.2.2.2.1) (And.intro (cellMsg hb1 k0.2.2.2.2.2.2.2.2.2.2.2.2.2.2.2.2.2.2.2.2.1) (cellMsg hb1 k0.2.2.2.2.2.2.2.2.2.2.2.2.2.2.2.2.2.2.2.2.2))))))))))))))))))))); have HB1 := Lib.hid (HB.out.drew.trans (hb1.mono HB.out.size)); clear hb1
      go_wp2_with fail
      refine hKr_9.out _ _ ?kr_9 (fun hHeldr_9 => ?dr_9)
      case kr_9 => (first | (dsimp only; (first | with_reducible exact k1 | exact k0)) | (first | with_reducible exact k1 | exact k0))
      clear hKr_9 Kr_9
      refine take_first 9 26 (v := ?vr_10) rfl rfl (by kernel_rfl) (by kernel_rfl) (by kernel_rfl) (fun _ _ _ h => h) (by rfl) ?yr_10 (by assumption) ?rr_10
      case yr_10 => (intro w hSw; (try dsimp only at hSw); go_simp; (try with_reducible rfl))
      simp only [Act.put, List.setIfInBounds_toArray, List.set_cons_zero, List.set_cons_succ]
      refine wpAnyH_done (by kernel_rfl) ?er _
      clear k0 k1
      go_wp2
      go_roundw
      case rel => exact ⟨k + 1, by omega, by go_num, HB1.out⟩
      case measure => simp [intOf]; omega
    · go_wp2
      go_ret
      exact ⟨rfl, hb⟩

end Go.Proofs.Ytkamlibfcakblaa
