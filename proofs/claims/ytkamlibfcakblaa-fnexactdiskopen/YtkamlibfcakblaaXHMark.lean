/- Texts that follow each other, merged: HMark, HStoWrite. -/
import Derived.Test.YtkamlibfcakblaaXHStr
import Derived.Test.YtkamlibfcakblaaXIOpen
import Derived.Deep.RegionHeld3
import Derived.Test.YtkamlibfcakblaaXKey

/- Marks on numbers and on texts, by shapes. -/
namespace Go.Proofs.Ytkamlibfcakblaa
open Go.RowKit

theorem int_eq {a b : Int} (h : a = b) : Value.int .i64 a = .int .i64 b := by rw [h]
theorem cntInts (xs : List Int) : cntL Sh.int.cnt xs = xs.length := by
  show cntL (fun _ => 1) xs = xs.length
  induction xs with
  | nil => rfl
  | cons x l ih => simp only [cntL, List.length_cons, ih]; omega
theorem cntStrs (xs : List ByteArray) : cntL strSh.cnt xs = xs.length := by
  show cntL (fun _ => 1) xs = xs.length
  induction xs with
  | nil => rfl
  | cons x l ih => simp only [cntL, List.length_cons, ih]; omega
theorem intsOwn {w : World} {S : Nat → Prop} {v : Value} {xs : List Int} (h : Sh.int.Own 3 w S v xs) : OwnInts w 0 v xs := by
  obtain ⟨C, F, h1, h2, h3, h4⟩ := h
  have hC : flat C xs.length = xs.map (Value.int .i64) := by
    symm
    refine flat_ext (d := 1) (fun j hj => ?_) (by simp) fun j i hj hi => ?_
    · have := (h3 j _ (List.getElem?_eq_getElem hj)).1
      have e : C j = [.int .i64 xs[j]] := this
      rw [e]; rfl
    · have := (h3 j _ (List.getElem?_eq_getElem hj)).1
      have e : C j = [.int .i64 xs[j]] := this
      have hi0 : i = 0 := by omega
      subst hi0
      rw [e, Nat.mul_one, Nat.add_zero, List.getElem?_map, List.getElem?_eq_getElem hj]
      rfl
  unfold OwnInts
  rw [← hC]
  exact h1
theorem ownInts {w : World} {lo : Nat} {S : Nat → Prop} {v : Value} {xs : List Int} (h : OwnInts w lo v xs) (hS : ∀ g, v.ownBlock = some g → S g) : Sh.int.Own 3 w S v xs := by
  refine ⟨fun j => [.int .i64 (nth xs j)], fun _ _ => False, ?_, hS, fun j x hx => ⟨?_, fun _ h => h.elim⟩, fun i j b _ _ h => h.elim⟩
  · have e : flat (fun j => [Value.int .i64 (nth xs j)]) xs.length = xs.map (Value.int .i64) := by
      symm
      refine flat_ext (d := 1) (fun _ _ => rfl) (by simp) fun j i hj hi => ?_
      have hi0 : i = 0 := by omega
      subst hi0
      rw [Nat.mul_one, Nat.add_zero, List.getElem?_map, List.getElem?_eq_getElem hj, nth_get hj]
      rfl
    rw [e]
    exact ⟨h.1, h.2.elim .inl fun ⟨g, cap, cur, a, _, r⟩ => .inr ⟨g, cap, cur, a, Nat.zero_le _, r⟩⟩
  · obtain ⟨hj, rfl⟩ := List.getElem?_eq_some_iff.1 hx
    show [Value.int .i64 (nth xs j)] = [.int .i64 xs[j]]
    rw [nth_get hj]
theorem mkdInts : ∀ {ys : List Int} {k : Int}, Marked ys k ys.length → mkdL Sh.int.cnt Sh.int.mkd k ys
  | [], _, _ => trivial
  | y :: ys, k, h => by
    refine ⟨?_, mkdInts fun j hj => ?_⟩
    · have := h 0 (by simp)
      show y = k
      simpa [nth] using this
    · have := h (j + 1) (by simp; omega)
      have e : nth (y :: ys) (j + 1) = nth ys j := by simp [nth]
      rw [e] at this
      rw [this]
      show k + ((j + 1 : Nat) : Int) = k + ((1 : Nat) : Int) + j
      omega
theorem mkdInts' : ∀ {ys : List Int} {k : Int}, mkdL Sh.int.cnt Sh.int.mkd k ys → Marked ys k ys.length
  | [], _, _ => fun j h => absurd h (by simp)
  | y :: ys, k, h => by
    intro j hj
    cases j with
    | zero =>
      have : y = k := h.1
      simpa [nth] using this
    | succ j =>
      have h2 := mkdInts' h.2 j (by simpa using hj)
      have e : nth (y :: ys) (j + 1) = nth ys j := by simp [nth]
      rw [e, h2]
      show k + ((1 : Nat) : Int) + j = k + ((j + 1 : Nat) : Int)
      omega

theorem markIntS_sh (w : World) (S : Nat → Prop) (v : Value) (xs : List Int) (hv : Sh.int.Own 3 w S v xs) (k : Int) (hl : intsSh.wt xs ≤ 1048576) (h0 : 1 ≤ k) (h1 : k + 16 * (intsSh.wt xs : Int) ≤ 1000000000000000) :
    Calls Try.prog 44 #[v, .int .i64 k] w (MarkedSl Sh.int 3 S v xs k w) := by
  have hw := wtInts xs
  have hS : ∀ g, v.ownBlock = some g → S g := by obtain ⟨_, _, _, h2, _⟩ := hv; exact h2
  refine (markIntS_any w 0 v xs (intsOwn hv) k (by omega) (by omega) (by omega)).mono ?_
  rintro e w' ⟨ys, rfl, hyl, hm, ho, hg, hz⟩
  refine ⟨ys, ?_, hyl, ?_, mkdInts (hyl ▸ hm), ownInts ho hS, Outs.of_grown hg hS⟩
  · rw [cntInts]
  · rw [cntInts, cntInts, hyl]
theorem heldIntS_sh (w : World) (v : Value) (xs : List Int) (hv : Sh.int.Row w w.heap.size v xs) (k : Int) (hl : intsSh.wt xs ≤ 1048576) (h0 : 1 ≤ k) (h1 : k + 16 * (intsSh.wt xs : Int) ≤ 1000000000000000) (hm : mkdL Sh.int.cnt Sh.int.mkd k xs) :
    Calls Try.prog 45 #[v, .int .i64 k] w fun e w' => e = .returned (.int .i64 (k + cntL Sh.int.cnt xs)) ∧ Below w.heap.size w w' := by
  have hw := wtInts xs
  refine (heldIntS_any w _ v xs (ints_row.1 hv) k (by omega) (by omega) (by omega) (mkdInts' hm)).mono ?_
  rintro e w' ⟨rfl, rfl⟩
  exact ⟨by rw [cntInts], Below.refl _ _⟩

/-- One element, the list written with it. -/
theorem Sh.Own.focus {α : Type} {A : Sh α} {e : TypeId} {w : World} {S : Nat → Prop} {g n cap m : Nat} {ys : List α} {x : α} (h : A.Own e w S (.slice (some ⟨g, 0, none⟩) n cap) (ys.set m x)) (hm : m < ys.length) : ∃ cs Sj, A.own w Sj cs x ∧ (∀ b, Sj b → S b ∧ b ≠ g) ∧ S g ∧
    (∀ i u, cs[i]? = some u → w.cell? ⟨g, m * A.wd + i, none⟩ = some u) ∧ (∀ i, w.frozen? ⟨g, i, none⟩ = false) ∧
    (∀ w' x', A.own w' Sj cs x' → Outs Sj w w' → A.Own e w' S (.slice (some ⟨g, 0, none⟩) n cap) (ys.set m x')) ∧
    ∀ i u x', i < A.wd → A.own (w.setCell ⟨g, m * A.wd + i, none⟩ u) Sj (cs.set i u) x' → A.Own e (w.setCell ⟨g, m * A.wd + i, none⟩ u) S (.slice (some ⟨g, 0, none⟩) n cap) (ys.set m x') := by
  obtain ⟨g', cap', x', cs, Sj, e1, hx, hSg, _, ho, hS, hc, hf, hk, hp⟩ := h.at_ (j := m) (by rw [List.length_set]; exact hm)
  injection e1 with e1a e1b e1c
  injection e1a with e1a
  injection e1a with e1a
  subst e1a
  rw [List.getElem?_set_self hm] at hx
  injection hx with hx
  subst hx
  refine ⟨cs, Sj, ho, hS, hSg, hc, hf, fun w' x' h1 h2 => ?_, fun i u x' hi h1 => ?_⟩
  · have := hk w' x' h1 h2
    rwa [List.set_set] at this
  · have := hp i u Sj x' hi h1 (fun _ h => .inl h)
    rw [List.set_set] at this
    exact this.mono fun b hb => hb.elim id (fun h => (hS b h).1)
theorem strsLen (xs : List ByteArray) : xs.length ≤ strsSh.wt xs := wtL_len _ _
set_option maxRecDepth 100000 in
theorem markStringS_sh (w : World) (S : Nat → Prop) (v : Value) (xs : List ByteArray) (hv : strSh.Own 9 w S v xs) (k : Int) (hl : strsSh.wt xs ≤ 1048576) (h0 : 1 ≤ k) (h1 : k + 16 * (strsSh.wt xs : Int) ≤ 1000000000000000) :
    Calls Try.prog 47 #[v, .int .i64 k] w (MarkedSl strSh 9 S v xs k w) := by
  have hn := strsLen xs
  obtain ⟨Ad, c, hvf, hc2, hc1⟩ := hv.row.form
  subst hvf
  unfold maxLen at hc2
  have HV := Lib.hid hv
  have HC := Lib.hid (cntStrs xs)
  clear hv
  go_enter Try.func47, Try.ntmps47
  go_wp2
  go_loopw [1, 5] (fun q i wr => ∃ (m : Nat) (ys : List ByteArray), m ≤ xs.length ∧ i = .int .i64 m ∧ q = .int .i64 (k + m) ∧ ys.length = xs.length ∧ MkTo strSh.cnt strSh.mkd k ys m ∧ strSh.Own 9 wr S (.slice Ad xs.length c) ys ∧ Outs S w wr) (fun _ i _ => xs.length - (intOf i).toNat)
  case atStart => exact ⟨0, xs, Nat.zero_le _, rfl, by go_num, rfl, MkTo.start _ _ _ _, HV.out, Outs.refl _ _⟩
  case round =>
    clear HV
    obtain ⟨m, ys, hm, rfl, rfl, hyl, hmk, hown, hout⟩ := hrel
    by_cases hlt : m < xs.length
    · have HYl := Lib.hid hyl
      have HMk := Lib.hid hmk
      have HO := Lib.hid hown
      have HOut := Lib.hid hout
      obtain ⟨g, cap, y, cs, Sj, e1, -, hSg, hgw, -, -, -, -, -, -⟩ := hown.at_ (j := m) (by omega)
      rw [hyl] at e1
      injection e1 with e1a e1b e1c
      subst e1a e1c
      clear e1b hyl hmk hown hout
      go_wp2_with fail
      refine (markText_any _ _ (by omega) (by omega)).mono ?_
      rintro e w1 ⟨rfl, hb1⟩
      obtain ⟨g', cap', y', cs', Sj', e2, hy', -, -, ⟨rfl, hys⟩, -, hcell, hfr, -, hput⟩ := (HO.out.below hb1).at_ (j := m) (by rw [HYl.out]; exact hlt)
      rw [HYl.out] at e2
      injection e2 with e2a e2b e2c
      injection e2a with e2a
      injection e2a with e2a
      subst e2a
      have hwd : m * strSh.wd + 0 = m := Nat.mul_one m
      have c0 := hcell 0 _ rfl
      rw [hwd] at c0
      have f0 := hfr m
      have hp := hput 0 (.string (markS (k + m))) (fun _ => False) (markS (k + m)) (by decide) ⟨rfl, markS_size (by omega)⟩ (fun _ h => h.elim)
      rw [hwd] at hp
      have hmS : MkTo strSh.cnt strSh.mkd k (ys.set m (markS (k + m))) (m + 1) := HMk.out.step (by rw [HYl.out]; exact hlt) (by
        show markS (k + m) = markS (k + cntL strSh.cnt (ys.take m))
        rw [cntStrs, List.length_take, HYl.out, Nat.min_eq_left (Nat.le_of_lt hlt)])
      have HP := Lib.hid (hp.mono (S' := S) fun b hb => hb.elim id (fun h => h.elim))
      have HM2 := Lib.hid hmS
      have HO2 := Lib.hid ((HOut.out.trans (Outs.of_below hb1)).trans (Outs.of_set w1 ⟨g, m, none⟩ (.string (markS (k + m))) hSg))
      clear hp hmS hput hcell hfr hb1 e2b e2c hy' HO HOut HMk
      go_wp2
      go_roundw
      case rel => exact ⟨m + 1, ys.set m (markS (k + m)), by omega, by go_num, by go_num, by rw [List.length_set]; exact HYl.out, HM2.out, HP.out, HO2.out⟩
      case measure => simp [intOf]; omega
    · obtain rfl : m = xs.length := by omega
      have HYl := Lib.hid hyl
      have HMk := Lib.hid hmk
      have HO := Lib.hid hown
      have HOut := Lib.hid hout
      clear hyl hmk hown hout
      go_wp2
      go_ret
      exact ⟨ys, ret_int (by rw [HC.out]), HYl.out, by rw [cntStrs, cntStrs, HYl.out], MkTo.all (HYl.out.symm ▸ HMk.out), HO.out, HOut.out⟩

set_option maxRecDepth 100000 in
theorem heldStringS_sh (w : World) (v : Value) (xs : List ByteArray) (hv : strSh.Row w w.heap.size v xs) (k : Int) (hl : strsSh.wt xs ≤ 1048576) (h0 : 1 ≤ k) (h1 : k + 16 * (strsSh.wt xs : Int) ≤ 1000000000000000) (hm : mkdL strSh.cnt strSh.mkd k xs) :
    Calls Try.prog 48 #[v, .int .i64 k] w fun e w' => e = .returned (.int .i64 (k + cntL strSh.cnt xs)) ∧ Below w.heap.size w w' := by
  have hn := strsLen xs
  obtain ⟨Ad, c, hvf, hc2, hc1⟩ := hv.form
  subst hvf
  unfold maxLen at hc2
  have HC := Lib.hid (cntStrs xs)
  have HM := Lib.hid hm
  clear hm
  go_enter Try.func48, Try.ntmps48
  go_wp2
  go_loopw [1, 5] (fun q i wr => ∃ m : Nat, m ≤ xs.length ∧ i = .int .i64 m ∧ q = .int .i64 (k + m) ∧ Below w.heap.size w wr) (fun _ i _ => xs.length - (intOf i).toNat)
  case atStart => exact ⟨0, Nat.zero_le _, rfl, by go_num, Below.refl _ _⟩
  case round =>
    obtain ⟨m, hm, rfl, rfl, hb⟩ := hrel
    by_cases hlt : m < xs.length
    · obtain ⟨b, off, c', x, e1, hx, hB, hs, ck⟩ := strs_at hv hlt
      injection e1 with e1a e1b e1c
      subst e1a
      have hxm : x = markS (k + m) := by
        have := mkdL_at HM.out hx
        rw [cntStrs, List.length_take, Nat.min_eq_left (Nat.le_of_lt hlt)] at this
        exact this
      subst hxm
      have HS := Lib.hid fun (y : World) (hy : Below w.heap.size w y) => (hy.cell (p := ⟨b, off + m, none⟩) hB).trans ck
      have d0 := HS.out wr hb
      have hb0 := hb.drew
      have f3 : (0 : Int) ≤ (m : Int) := by omega
      have f4 : (m : Int) < (xs.length : Int) := by omega
      clear e1b e1c hv hx ck
      go_wp2
      go_region_held3 (fun w' => w'.cell? ⟨b, off + m, none⟩ = some (.string (markS (k + m))))
        (first | exact HS.out _ hb0 | exact HS.out _ (by assumption))
        (first | (go_at_call 97; refine (markText_any _ _ (by omega) (by omega)).mono ?_; rintro e w' ⟨rfl, hb'⟩; have hq := belowNext hb0 hb'; clear hb'))
      go_wp2
      go_roundw
      case rel => exact ⟨m + 1, by omega, by go_num, by go_num, by assumption⟩
      case measure => simp [intOf]; omega
    · obtain rfl : m = xs.length := by omega
      clear hv
      go_wp2
      go_ret
      exact ⟨ret_int (by rw [HC.out]), hb⟩

end Go.Proofs.Ytkamlibfcakblaa

/- The helpers of the exact laws over StoWrite: a count, a copy, a comparison, marks. By shgen.py. -/
namespace Go.Proofs.Ytkamlibfcakblaa
open Go.RowKit

theorem wtStoWrite (x : Wr) : (wrSh.wt x : Int) = (x.key.size : Int) + (intsSh.wt x.val : Int) := by
  show (((x.key.size + (0 + intsSh.wt x.val)) : Nat) : Int) = _
  omega
theorem szStoWrite_any (w : World) (cs : List Value) (x : Wr) (h : wrSh.rel w w.heap.size cs x) (left : Int) (h0 : 0 ≤ left) (h1 : left ≤ 1048576) :
    Calls Try.prog 151 #[.agg cs.toArray, .int .i64 left] w (Sized left (wrSh.wt x) w) := by
  obtain ⟨u2, rfl, hs_key, hu2⟩ := wr_rel.1 h
  obtain ⟨A2, c2, rfl, hc2, hd2⟩ := hu2.form
  unfold maxLen at hc2
  have HU2 := Lib.hid fun W (hb : Below w.heap.size w W) => (hu2.below hb).more hb.size
  unfold maxLen at hs_key
  clear h hu2
  have HT := Lib.hid (wtStoWrite x)
  have HB0 := Lib.hid (belowOne w (.cells #[.string x.key, .bool x.del, .slice A2 x.val.length c2] 165))
  have HX0 := Lib.hid (Held.new w #[.string x.key, .bool x.del, .slice A2 x.val.length c2] 165)
  go_enter Try.func151, Try.ntmps151
  by_cases hq0 : left < (x.key.size : Int)
  · go_wp2
    go_ret
    exact ⟨ret_int (by rw [less_no (by rw [HT.out]; omega)]), HB0.out⟩
  · have hq0' : (x.key.size : Int) ≤ left := by omega
    clear hq0
    by_cases hq1 : left - (x.key.size : Int) < (intsSh.wt x.val : Int)
    · have hl := less_no hq1
      go_wp2_with fail
      refine (szIntS_sh _ _ _ _ (HU2.out _ HB0.out) _ (by omega) (by omega)).mono ?_
      rintro e w1 ⟨rfl, hb⟩
      rw [hl]
      have HB1 := Lib.hid (belowNext HB0.out hb)
      have HX1 := Lib.hid (HX0.out.below hb HX0.out.1)
      clear hb
      clear hl HB0 HX0
      have x0 := HX1.out.of 0 _ rfl
      have x1 := HX1.out.of 1 _ rfl
      have x2 := HX1.out.of 2 _ rfl
      go_wp2
      go_ret
      exact ⟨ret_int (by rw [less_no (by rw [HT.out]; omega)]), HB1.out⟩
    · have hl := less_yes (show (intsSh.wt x.val : Int) ≤ left - (x.key.size : Int) by omega)
      have hq1' : (intsSh.wt x.val : Int) ≤ left - (x.key.size : Int) := by omega
      clear hq1
      go_wp2_with fail
      refine (szIntS_sh _ _ _ _ (HU2.out _ HB0.out) _ (by omega) (by omega)).mono ?_
      rintro e w1 ⟨rfl, hb⟩
      rw [hl]
      have HB1 := Lib.hid (belowNext HB0.out hb)
      have HX1 := Lib.hid (HX0.out.below hb HX0.out.1)
      clear hb
      clear hl HB0 HX0
      have x0 := HX1.out.of 0 _ rfl
      have x1 := HX1.out.of 1 _ rfl
      have x2 := HX1.out.of 2 _ rfl
      go_wp2
      go_ret
      exact ⟨ret_int (by rw [less_yes (by rw [HT.out]; omega), HT.out] <;> omega), HB1.out⟩
set_option maxRecDepth 100000 in
theorem szStoWriteS_sh (w : World) (v : Value) (xs : List Wr) (hv : wrSh.Row w w.heap.size v xs) (left : Int) (h0 : 0 ≤ left) (h1 : left ≤ 1048576) :
    Calls Try.prog 144 #[v, .int .i64 left] w (Sized left (wrsSh.wt xs) w) := by
  obtain ⟨A, c, rfl, hc2, hc1⟩ := hv.form
  unfold maxLen at hc2
  have HW := Lib.hid (show wrsSh.wt xs = xs.length + cntL wrSh.wt xs from wtL_eq _ _)
  by_cases h : left < (xs.length : Int)
  · have HL := Lib.hid (less_no (left := left) (n := (wrsSh.wt xs : Int)) (by rw [HW.out]; omega))
    clear hv
    go_enter Try.func144, Try.ntmps144
    go_wp2
    go_ret
    exact ⟨ret_int HL.out.symm, Below.refl _ _⟩
  · have h2 : (xs.length : Int) ≤ left := by omega
    clear h
    go_enter Try.func144, Try.ntmps144
    go_wp2
    go_loopw [1, 5] (fun l i wr => ∃ (k : Nat) (r : Int), k ≤ xs.length ∧ i = .int .i64 k ∧ l = .int .i64 r ∧ 0 ≤ r ∧ r = left - xs.length - cntL wrSh.wt (xs.take k) ∧ Below w.heap.size w wr) (fun _ i _ => xs.length - (intOf i).toNat)
    case atStart => exact ⟨0, _, Nat.zero_le _, rfl, rfl, by omega, by simp [cntL], Below.refl _ _⟩
    case round =>
      obtain ⟨k, r, hk, rfl, rfl, hr0, hr, hb⟩ := hrel
      have HR := Lib.hid hr
      have hrl : r ≤ left := by omega
      have HB := Lib.hid hb
      clear hr hb
      by_cases hlt : k < xs.length
      · obtain ⟨b, off, c', x, cs, e1, hx, hB, hrel, hcell⟩ := (hv.below HB.out).at_ (k := k) hlt
        injection e1 with e1a e1b e1c
        subst e1a
        have HV := Lib.hid (wrSh.rmore hrel HB.out.size)
        obtain ⟨u2, rfl, hs_key, hu2⟩ := wr_rel.1 hrel
        obtain ⟨A2, c2, rfl, -, -⟩ := hu2.form
        have d0 := hcell 0 _ rfl
        have d1 := hcell 1 _ rfl
        have d2 := hcell 2 _ rfl
        have hwd : wrSh.wd = 3 := rfl
        rw [hwd] at d0 d1 d2
        simp only [Nat.add_zero] at d0
        have HC := Lib.hid (cntL_take (f := wrSh.wt) hx)
        have HT := Lib.hid (cntL_take_le wrSh.wt xs (k + 1))
        clear e1b e1c hv hx hcell hrel hwd hu2
        by_cases hneg : r < (wrSh.wt x : Int)
        · have HL := Lib.hid (less_no (left := left) (n := (wrsSh.wt xs : Int)) (by rw [HW.out]; have := HR.out; have := HC.out; have := HT.out; omega))
          have hl := less_no hneg
          go_wp2_with fail
          refine (szStoWrite_any _ _ x HV.out _ hr0 (by omega)).mono ?_
          rintro e w1 ⟨rfl, hb1⟩
          rw [hl]
          clear hl
          go_wp2
          go_ret
          exact ⟨ret_int HL.out.symm, belowNext HB.out hb1⟩
        · have hge : (wrSh.wt x : Int) ≤ r := by omega
          have hl := less_yes hge
          go_wp2_with fail
          refine (szStoWrite_any _ _ x HV.out _ hr0 (by omega)).mono ?_
          rintro e w1 ⟨rfl, hb1⟩
          rw [hl]
          clear hl
          go_wp2
          go_roundw
          case rel => exact ⟨k + 1, _, by omega, by go_num, rfl, by omega, by rw [HR.out, HC.out]; omega, belowNext HB.out hb1⟩
          case measure => simp [intOf]; omega
      · have hks : k = xs.length := by omega
        have HL := Lib.hid (less_yes (left := left) (n := (wrsSh.wt xs : Int)) (by have h1 := HR.out; rw [HW.out]; rw [hks, List.take_length] at h1; omega))
        have HE := Lib.hid (show r = left - (wrsSh.wt xs : Int) by have h1 := HR.out; rw [HW.out]; rw [hks, List.take_length] at h1; omega)
        clear hks hv
        go_wp2
        go_ret
        exact ⟨ret_int (by rw [HL.out]; exact HE.out), HB.out⟩

set_option maxRecDepth 100000 in
theorem toStoWrite_any (w : World) (cs : List Value) (x : Wr) (h : wrSh.rel w w.heap.size cs x) (hl : wrSh.wt x ≤ 1048576) :
    Calls Try.prog 152 #[.agg cs.toArray] w (CopiedAg wrSh x w) := by
  have hwt := wtStoWrite x
  obtain ⟨u2, rfl, hs_key, hu2⟩ := wr_rel.1 h
  have hn2 : x.val.length ≤ intsSh.wt x.val := wtL_len _ _
  obtain ⟨A2, c2, rfl, hc2, hd2⟩ := hu2.form
  have HU2 := Lib.hid fun W (hb : Below w.heap.size w W) => (hu2.below hb).more hb.size
  have hm2 : intsSh.wt x.val ≤ 1048576 := by omega
  have hp2 : x.val.length ≤ 1048576 := by omega
  clear h hwt hu2
  have HI := Lib.hid (ToInv.start w #[.string x.key, .bool x.del, .slice A2 x.val.length c2] #[.string ByteArray.empty, .bool false, .slice none 0 0] #[.string x.key, .bool x.del, .slice none 0 0] 165 86 86)
  go_enter Try.func152, Try.ntmps152
  go_wp2_with fail
  refine (toIntS_sh _ _ x.val (HU2.out _ HI.out.bel) hp2).mono ?_
  rintro e w1 ⟨v2, rfl, ho, hb⟩
  obtain ⟨B2, e2, rfl, -, -⟩ := ho.row.form
  have hz := HI.out.size
  have HJ := Lib.hid (HI.out.call hb)
  have HS2 : Hid (CopFrom Sh.int 3 (w.heap.size + 1 + 1 + 1) (w1.heap.size) (.slice B2 x.val.length e2) x.val w1) := Lib.hid (Sh.Own.mono ho fun b hb => ⟨by have := hb.1; simp at this; omega, hb.2⟩)
  have hzw : w.heap.size + 1 + 1 + 1 ≤ w1.heap.size := by have := hb.size; simp at this; omega
  have x0 := HJ.out.box.of 0 _ rfl
  have x1 := HJ.out.box.of 1 _ rfl
  have x2 := HJ.out.box.of 2 _ rfl
  have o0 := HJ.out.out.of 0 _ rfl
  have o1 := HJ.out.out.of 1 _ rfl
  have o2 := HJ.out.out.of 2 _ rfl
  have of := HJ.out.out.2.1
  replace HJ := Lib.hid (HJ.out.putOut 2 (.slice B2 x.val.length e2))
  replace HS2 := Lib.hid (HS2.out.set (p := ⟨w.heap.size + 1 + 1, 2, none⟩) (by show w.heap.size + 1 + 1 < _; omega) (.slice B2 x.val.length e2))
  clear HI hb ho hz
  have HI := HJ
  clear HJ
  have r0 := HI.out.res.of 0 _ rfl
  have r1 := HI.out.res.of 1 _ rfl
  have r2 := HI.out.res.of 2 _ rfl
  have rf := HI.out.res.2.1
  go_wp2
  replace HI := Lib.hid (HI.out.putRes 0 (.string x.key))
  replace HS2 := Lib.hid (HS2.out.set (p := ⟨w.heap.size + 1, 0, none⟩) (by show w.heap.size + 1 < _; omega) (.string x.key))
  replace HI := Lib.hid (HI.out.putRes 1 (.bool x.del))
  replace HS2 := Lib.hid (HS2.out.set (p := ⟨w.heap.size + 1, 1, none⟩) (by show w.heap.size + 1 < _; omega) (.bool x.del))
  replace HI := Lib.hid (HI.out.putRes 2 (.slice B2 x.val.length e2))
  replace HS2 := Lib.hid (HS2.out.set (p := ⟨w.heap.size + 1, 2, none⟩) (by show w.heap.size + 1 < _; omega) (.slice B2 x.val.length e2))
  have q0 := HI.out.res.of 0 _ rfl
  have q1 := HI.out.res.of 1 _ rfl
  have q2 := HI.out.res.of 2 _ rfl
  refine bodyPost_ret (v := .agg #[.string x.key, .bool x.del, .slice B2 x.val.length e2]) (by simp [results, Try.results152, go_sem, q0, q1, q2]) rfl ⟨[.string x.key, .bool x.del, .slice B2 x.val.length e2], rfl, ?_, HI.out.bel⟩
  exact wr_own.2 ⟨_, rfl, hs_key, Sh.Own.mono HS2.out fun b hb => ⟨by have := hb.1; omega, by simp [World.setCell]; exact hb.2⟩⟩

theorem infoStoWriteH : (Try.prog.info? 86).map (fun i => (i.zero, i.size, i.bytes)) = some (some (.agg #[.string ByteArray.empty, .bool false, .slice none 0 0]), 3, 48) := by kernel_rfl
theorem madeStoWrite (n : Nat) (hbytes : 48 * n ≤ 281474976710656) (w : World) :
    (Instr.makeSlice 34 (.int .i64 (n : Int)) (.int .i64 (n : Int))).run Try.prog w = .ok (.slice (some ⟨w.heap.size, 0, none⟩) n n) (w.alloc (.cells (madeCells #[.string ByteArray.empty, .bool false, .slice none 0 0] (n * 3)) 86)) := by
  obtain ⟨i, hi, hzz⟩ := Option.map_eq_some_iff.1 infoStoWriteH
  simp only [Prod.mk.injEq] at hzz
  obtain ⟨hz, hs, hb⟩ := hzz
  have hb' : (i.bytes : Int) * (n : Int) ≤ 281474976710656 := by
    have h : ((i.bytes * n : Nat) : Int) ≤ 281474976710656 := by rw [hb]; omega
    rwa [Int.natCast_mul] at h
  have hr := run_make (P := Try.prog) w 34 86 i _ Try.underlying34 hi hz .i64 .i64 n n (by omega) (Int.le_refl _) hb' (by omega)
  simp only [Int.toNat_natCast, hs] at hr
  exact hr
set_option maxRecDepth 100000 in
theorem toStoWriteS_sh (w : World) (v : Value) (xs : List Wr) (hv : wrSh.Row w w.heap.size v xs) (hl : wrsSh.wt xs ≤ 1048576) :
    Calls Try.prog 146 #[v] w (CopiedSl wrSh 86 xs w) := by
  obtain ⟨A, c, rfl, hc2, hc1⟩ := hv.form
  unfold maxLen at hc2
  have hlen : xs.length ≤ 1048576 := Nat.le_trans (wtL_len wrSh.wt xs) hl
  have hmk := fun W => madeStoWrite xs.length (by omega) W
  have HM : Hid (wrSh.Own 86 (w.alloc (.cells (madeCells #[.string ByteArray.empty, .bool false, .slice none 0 0] (xs.length * 3)) 86)) (fun b => b = w.heap.size) (.slice (some ⟨w.heap.size, 0, none⟩) xs.length xs.length) (xs.take 0 ++ List.replicate (xs.length - 0) wrSh.z)) :=
    Lib.hid (Sh.Own.made wrSh 86 w xs.length (by unfold maxLen; omega))
  have HW := Lib.hid (belowOne w (.cells (madeCells #[.string ByteArray.empty, .bool false, .slice none 0 0] (xs.length * 3)) 86))
  go_enter Try.func146, Try.ntmps146
  go_wp2
  clear hmk
  go_loopw [4] (fun i wr => ∃ k : Nat, k ≤ xs.length ∧ i = .int .i64 k ∧ wrSh.Own 86 wr (fun b => w.heap.size ≤ b ∧ b < wr.heap.size) (.slice (some ⟨w.heap.size, 0, none⟩) xs.length xs.length) (xs.take k ++ List.replicate (xs.length - k) wrSh.z) ∧ Below w.heap.size w wr) (fun i _ => xs.length - (intOf i).toNat)
  case atStart => exact ⟨0, Nat.zero_le _, rfl, HM.out.mono fun b hb => ⟨by omega, by simp; omega⟩, HW.out⟩
  case round =>
    clear HM HW
    obtain ⟨k, hk, rfl, ho, hb⟩ := hrel
    by_cases hlt : k < xs.length
    · obtain ⟨b, off, c', x, cs, e1, hx, hB, hrel, hcell⟩ := (hv.below hb).at_ (k := k) hlt
      injection e1 with e1a e1b e1c
      subst e1a
      have HV := Lib.hid (wrSh.rmore hrel hb.size)
      have hxl : wrSh.wt x ≤ 1048576 := by have := wtL_at_le (f := wrSh.wt) hx; have h2 : wtL wrSh.wt xs ≤ 1048576 := hl; omega
      obtain ⟨u2, rfl, hs_key, hu2⟩ := wr_rel.1 hrel
      obtain ⟨A2, c2, rfl, -, -⟩ := hu2.form
      have d0 := hcell 0 _ rfl
      have d1 := hcell 1 _ rfl
      have d2 := hcell 2 _ rfl
      have hwd : wrSh.wd = 3 := rfl
      rw [hwd] at d0 d1 d2
      simp only [Nat.add_zero] at d0
      clear e1b e1c hv hcell hrel hu2
      have HO := Lib.hid ho
      have HB := Lib.hid hb
      have HX := Lib.hid hx
      clear ho hb hx
      go_wp2_with fail
      refine (toStoWrite_any _ _ x HV.out hxl).mono ?_
      rintro e w1 ⟨cs, rfl, hc, hb1⟩
      obtain ⟨g, cap, y, ds, Sj, e2, -, hSg, -, hds, -, hcell, hfr, -, -⟩ := (HO.out.below hb1).at_ (j := k) (by simp; omega)
      have HLn : Hid (xs.length = (xs.take k ++ List.replicate (xs.length - k) wrSh.z).length) := Lib.hid (by simp; omega)
      injection e2 with e2a e2b e2c
      injection e2a with e2a
      injection e2a with e2a
      subst e2a
      obtain ⟨y2, rfl, -, -⟩ := wr_rel.1 (wrSh.orel hds)
      have r0 := hcell 0 _ rfl
      have r1 := hcell 1 _ rfl
      have r2 := hcell 2 _ rfl
      rw [hwd] at r0 r1 r2
      simp only [Nat.add_zero] at r0
      have hput := Sh.Own.put (HO.out) (j := k) (g := w.heap.size) (cap := xs.length) (by rw [← HLn.out]; exact hlt) (by rw [← HLn.out]) (w1 := w1) (fun b _ hlt => hb1.block b hlt) hc (fun b hb hb2 => by have := hb.1; have := hb2.2; omega)
      rw [repl_take HX.out] at hput
      obtain ⟨v2, rfl, -, hv2⟩ := wr_rel.1 (wrSh.orel hc)
      obtain ⟨B2, e2, rfl, -, -⟩ := hv2.form
      have HP := Lib.hid hput
      have HS := Lib.hid (Nat.le_trans HB.out.size hb1.size)
      have HN := Lib.hid (belowNext HB.out hb1)
      have hsz := hb1.size
      clear hput hcell hds hc hb1 hSg e2b e2c HV HLn hwd hv2
      go_wp2
      go_roundw
      case rel =>
        refine ⟨k + 1, by omega, by go_num, Sh.Own.mono HP.out (fun b hb => ?_), (((HN.out.setCell (Nat.le_refl _) _).setCell (Nat.le_refl _) _).setCell (Nat.le_refl _) _)⟩
        have h0 := HS.out
        simp only [World.setCell, Array.size_modify]
        rcases hb with hb | hb
        · have h1 := hb.1; have h2 := hb.2; exact ⟨h1, by omega⟩
        · have h1 := hb.1; have h2 := hb.2; exact ⟨by have := HB.out.size; omega, h2⟩
      case measure => simp [intOf]; omega
    · have hks : k = xs.length := by omega
      have HO : Hid (wrSh.Own 86 wr (fun b => w.heap.size ≤ b ∧ b < wr.heap.size) (.slice (some ⟨w.heap.size, 0, none⟩) xs.length xs.length) xs) := by
        subst hks; exact Lib.hid (by simpa using ho)
      clear hks hv ho
      go_wp2
      go_ret
      exact ⟨_, rfl, HO.out, hb⟩

set_option maxRecDepth 100000 in
theorem eqStoWrite_same (w : World) (cs ds : List Value) (x : Wr) (h : wrSh.rel w w.heap.size cs x) (h2 : wrSh.rel w w.heap.size ds x) :
    Calls Try.prog 153 #[.agg cs.toArray, .agg ds.toArray] w (Alike w) := by
  obtain ⟨u2, rfl, hs_key, hu2⟩ := wr_rel.1 h
  obtain ⟨v2, rfl, -, hv2⟩ := wr_rel.1 h2
  obtain ⟨A2, c2, rfl, hc2, hd2⟩ := hu2.form
  obtain ⟨B2, e2, rfl, hc2', hd2'⟩ := hv2.form
  have HU2 := Lib.hid fun W (hb : Below w.heap.size w W) => (hu2.below hb).more hb.size
  have HV2 := Lib.hid fun W (hb : Below w.heap.size w W) => (hv2.below hb).more hb.size
  clear h h2 hu2 hv2
  have HI := Lib.hid (TwoInv.start w #[.string x.key, .bool x.del, .slice A2 x.val.length c2] #[.string x.key, .bool x.del, .slice B2 x.val.length e2] 86 86)
  go_enter Try.func153, Try.ntmps153
  go_wp2_with fail
  refine (eqIntS_same _ _ _ _ x.val (HU2.out _ HI.out.bel) (HV2.out _ HI.out.bel)).mono ?_
  rintro e w1 ⟨rfl, hb⟩
  replace HI := Lib.hid (HI.out.call hb)
  clear hb
  have x0_0 := HI.out.one.of 0 _ rfl
  have x0_1 := HI.out.one.of 1 _ rfl
  have x0_2 := HI.out.one.of 2 _ rfl
  have y0_0 := HI.out.two.of 0 _ rfl
  have y0_1 := HI.out.two.of 1 _ rfl
  have y0_2 := HI.out.two.of 2 _ rfl
  go_wp2
  go_ret
  exact ⟨rfl, HI.out.bel⟩

set_option maxRecDepth 100000 in
theorem eqStoWriteS_same (w : World) (v u : Value) (xs : List Wr) (hv : wrSh.Row w w.heap.size v xs) (hu : wrSh.Row w w.heap.size u xs) :
    Calls Try.prog 147 #[v, u] w (Alike w) := by
  obtain ⟨A, c, rfl, hc2, hc1⟩ := hv.form
  obtain ⟨A', c', rfl, hc2', hc1'⟩ := hu.form
  unfold maxLen at hc2 hc2'
  go_enter Try.func147, Try.ntmps147
  go_wp2
  go_loopw [5] (fun i wr => ∃ k : Nat, k ≤ xs.length ∧ i = .int .i64 k ∧ Below w.heap.size w wr) (fun i _ => xs.length - (intOf i).toNat)
  case atStart => exact ⟨0, Nat.zero_le _, rfl, Below.refl _ _⟩
  case round =>
    obtain ⟨k, hk, rfl, hb⟩ := hrel
    by_cases hlt : k < xs.length
    · obtain ⟨b, off, d, x, cs, e1, hx, hB, hr, hcell⟩ := hv.at_ (k := k) hlt
      obtain ⟨b2, off2, d2, x2, cs2, e2, hx2, hB2, hr2, hcell2⟩ := hu.at_ (k := k) hlt
      rw [hx] at hx2
      injection hx2 with hx2
      subst hx2
      injection e1 with e1a e1b e1c
      injection e2 with e2a e2b e2c
      subst e1a e2a
      have HR := Lib.hid fun (y : World) (hy : Below w.heap.size w y) => wrSh.rmore (wrSh.rbelow hr hy) hy.size
      have HR2 := Lib.hid fun (y : World) (hy : Below w.heap.size w y) => wrSh.rmore (wrSh.rbelow hr2 hy) hy.size
      obtain ⟨u2, rfl, hs_key, hu2⟩ := wr_rel.1 hr
      obtain ⟨v2, rfl, -, hv2⟩ := wr_rel.1 hr2
      obtain ⟨A2, c2, rfl, -, -⟩ := hu2.form
      obtain ⟨B2, e2, rfl, -, -⟩ := hv2.form
      have p0 := hcell 0 _ rfl
      have p1 := hcell 1 _ rfl
      have p2 := hcell 2 _ rfl
      have q0 := hcell2 0 _ rfl
      have q1 := hcell2 1 _ rfl
      have q2 := hcell2 2 _ rfl
      have hwd : wrSh.wd = 3 := rfl
      rw [hwd] at p0 q0 p1 q1 p2 q2
      simp only [Nat.add_zero] at p0 q0
      have HS := Lib.hid fun (y : World) (hy : Below w.heap.size w y) => And.intro ((hy.cell (p := ⟨b, off + k * 3, none⟩) hB).trans p0) (And.intro ((hy.cell (p := ⟨b, off + k * 3 + 1, none⟩) hB).trans p1) (And.intro ((hy.cell (p := ⟨b, off + k * 3 + 2, none⟩) hB).trans p2) (And.intro ((hy.cell (p := ⟨b2, off2 + k * 3, none⟩) hB2).trans q0) (And.intro ((hy.cell (p := ⟨b2, off2 + k * 3 + 1, none⟩) hB2).trans q1) ((hy.cell (p := ⟨b2, off2 + k * 3 + 2, none⟩) hB2).trans q2)))))
      obtain ⟨d0', d1', d2', d3', d4', d5'⟩ := HS.out wr hb
      have hb0 := hb.drew
      have f3 : (0 : Int) ≤ (k : Int) := by omega
      have f4 : (k : Int) < (xs.length : Int) := by omega
      clear e1b e1c e2b e2c hv hu hx hr hr2 hcell hcell2 hwd p0 q0 p1 q1 p2 q2 hu2 hv2
      go_wp2
      go_region_held3 (fun w' => w'.cell? ⟨b, off + k * 3, none⟩ = some (.string x.key) ∧ w'.cell? ⟨b, off + k * 3 + 1, none⟩ = some (.bool x.del) ∧ w'.cell? ⟨b, off + k * 3 + 2, none⟩ = some (.slice A2 x.val.length c2) ∧ w'.cell? ⟨b2, off2 + k * 3, none⟩ = some (.string x.key) ∧ w'.cell? ⟨b2, off2 + k * 3 + 1, none⟩ = some (.bool x.del) ∧ w'.cell? ⟨b2, off2 + k * 3 + 2, none⟩ = some (.slice B2 x.val.length e2))
        (first | exact HS.out _ hb0 | exact HS.out _ (by assumption))
        (first | (go_at_call 153; refine (eqStoWrite_same _ _ _ x (HR.out _ hb0) (HR2.out _ hb0)).mono ?_; rintro e w' ⟨rfl, hb'⟩; have hq := belowNext hb0 hb'; clear hb'))
      go_wp2
      go_roundw
      case rel => exact ⟨k + 1, by omega, by go_num, by assumption⟩
      case measure => simp [intOf]; omega
    · clear hv hu
      go_wp2
      go_ret
      exact ⟨rfl, hb⟩

end Go.Proofs.Ytkamlibfcakblaa
