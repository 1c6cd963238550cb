/- Marks on numbers and on texts, by shapes. -/
import Derived.Test.YtecdibpiojgppaaHTo
import Derived.Test.YtecdibpiojgppaaMarkSize
import Derived.Deep.RegionHeld3
namespace Go.Proofs.Ytecdibpiojgppaa
open Go.RowKit

theorem int_eq {a b : Int} (h : a = b) : Value.int .i64 a = .int .i64 b := by rw [h]
theorem cntInts (xs : List Int) : cntL Sh.int.cnt xs = xs.length := by
  show cntL (fun _ => 1) xs = xs.length
  induction xs with
  | nil => rfl
  | cons x l ih => simp only [cntL, List.length_cons, ih]; omega
theorem cntStrs (xs : List ByteArray) : cntL strSh.cnt xs = xs.length := by
  show cntL (fun _ => 1) xs = xs.length
  induction xs with
  | nil => rfl
  | cons x l ih => simp only [cntL, List.length_cons, ih]; omega
theorem intsOwn {w : World} {S : Nat → Prop} {v : Value} {xs : List Int} (h : Sh.int.Own 3 w S v xs) : OwnInts w 0 v xs := by
  obtain ⟨C, F, h1, h2, h3, h4⟩ := h
  have hC : flat C xs.length = xs.map (Value.int .i64) := by
    symm
    refine flat_ext (d := 1) (fun j hj => ?_) (by simp) fun j i hj hi => ?_
    · have := (h3 j _ (List.getElem?_eq_getElem hj)).1
      have e : C j = [.int .i64 xs[j]] := this
      rw [e]; rfl
    · have := (h3 j _ (List.getElem?_eq_getElem hj)).1
      have e : C j = [.int .i64 xs[j]] := this
      have hi0 : i = 0 := by omega
      subst hi0
      rw [e, Nat.mul_one, Nat.add_zero, List.getElem?_map, List.getElem?_eq_getElem hj]
      rfl
  unfold OwnInts
  rw [← hC]
  exact h1
theorem ownInts {w : World} {lo : Nat} {S : Nat → Prop} {v : Value} {xs : List Int} (h : OwnInts w lo v xs) (hS : ∀ g, v.ownBlock = some g → S g) : Sh.int.Own 3 w S v xs := by
  refine ⟨fun j => [.int .i64 (nth xs j)], fun _ _ => False, ?_, hS, fun j x hx => ⟨?_, fun _ h => h.elim⟩, fun i j b _ _ h => h.elim⟩
  · have e : flat (fun j => [Value.int .i64 (nth xs j)]) xs.length = xs.map (Value.int .i64) := by
      symm
      refine flat_ext (d := 1) (fun _ _ => rfl) (by simp) fun j i hj hi => ?_
      have hi0 : i = 0 := by omega
      subst hi0
      rw [Nat.mul_one, Nat.add_zero, List.getElem?_map, List.getElem?_eq_getElem hj, nth_get hj]
      rfl
    rw [e]
    exact ⟨h.1, h.2.elim .inl fun ⟨g, cap, cur, a, _, r⟩ => .inr ⟨g, cap, cur, a, Nat.zero_le _, r⟩⟩
  · obtain ⟨hj, rfl⟩ := List.getElem?_eq_some_iff.1 hx
    show [Value.int .i64 (nth xs j)] = [.int .i64 xs[j]]
    rw [nth_get hj]
theorem mkdInts : ∀ {ys : List Int} {k : Int}, Marked ys k ys.length → mkdL Sh.int.cnt Sh.int.mkd k ys
  | [], _, _ => trivial
  | y :: ys, k, h => by
    refine ⟨?_, mkdInts fun j hj => ?_⟩
    · have := h 0 (by simp)
      show y = k
      simpa [nth] using this
    · have := h (j + 1) (by simp; omega)
      have e : nth (y :: ys) (j + 1) = nth ys j := by simp [nth]
      rw [e] at this
      rw [this]
      show k + ((j + 1 : Nat) : Int) = k + ((1 : Nat) : Int) + j
      omega
theorem mkdInts' : ∀ {ys : List Int} {k : Int}, mkdL Sh.int.cnt Sh.int.mkd k ys → Marked ys k ys.length
  | [], _, _ => fun j h => absurd h (by simp)
  | y :: ys, k, h => by
    intro j hj
    cases j with
    | zero =>
      have : y = k := h.1
      simpa [nth] using this
    | succ j =>
      have h2 := mkdInts' h.2 j (by simpa using hj)
      have e : nth (y :: ys) (j + 1) = nth ys j := by simp [nth]
      rw [e, h2]
      show k + ((1 : Nat) : Int) + j = k + ((j + 1 : Nat) : Int)
      omega

theorem markIntS_sh (w : World) (S : Nat → Prop) (v : Value) (xs : List Int) (hv : Sh.int.Own 3 w S v xs) (k : Int) (hl : intsSh.wt xs ≤ 1048576) (h0 : 1 ≤ k) (h1 : k + 16 * (intsSh.wt xs : Int) ≤ 1000000000000000) :
    Calls Try.prog 52 #[v, .int .i64 k] w (MarkedSl Sh.int 3 S v xs k w) := by
  have hw := wtInts xs
  have hS : ∀ g, v.ownBlock = some g → S g := by obtain ⟨_, _, _, h2, _⟩ := hv; exact h2
  refine (markIntS_any w 0 v xs (intsOwn hv) k (by omega) (by omega) (by omega)).mono ?_
  rintro e w' ⟨ys, rfl, hyl, hm, ho, hg, hz⟩
  refine ⟨ys, ?_, hyl, ?_, mkdInts (hyl ▸ hm), ownInts ho hS, Outs.of_grown hg hS⟩
  · rw [cntInts]
  · rw [cntInts, cntInts, hyl]
theorem heldIntS_sh (w : World) (v : Value) (xs : List Int) (hv : Sh.int.Row w w.heap.size v xs) (k : Int) (hl : intsSh.wt xs ≤ 1048576) (h0 : 1 ≤ k) (h1 : k + 16 * (intsSh.wt xs : Int) ≤ 1000000000000000) (hm : mkdL Sh.int.cnt Sh.int.mkd k xs) :
    Calls Try.prog 53 #[v, .int .i64 k] w fun e w' => e = .returned (.int .i64 (k + cntL Sh.int.cnt xs)) ∧ Below w.heap.size w w' := by
  have hw := wtInts xs
  refine (heldIntS_any w _ v xs (ints_row.1 hv) k (by omega) (by omega) (by omega) (mkdInts' hm)).mono ?_
  rintro e w' ⟨rfl, rfl⟩
  exact ⟨by rw [cntInts], Below.refl _ _⟩

/-- One element, the list written with it. -/
theorem Sh.Own.focus {α : Type} {A : Sh α} {e : TypeId} {w : World} {S : Nat → Prop} {g n cap m : Nat} {ys : List α} {x : α} (h : A.Own e w S (.slice (some ⟨g, 0, none⟩) n cap) (ys.set m x)) (hm : m < ys.length) : ∃ cs Sj, A.own w Sj cs x ∧ (∀ b, Sj b → S b ∧ b ≠ g) ∧ S g ∧
    (∀ i u, cs[i]? = some u → w.cell? ⟨g, m * A.wd + i, none⟩ = some u) ∧ (∀ i, w.frozen? ⟨g, i, none⟩ = false) ∧
    (∀ w' x', A.own w' Sj cs x' → Outs Sj w w' → A.Own e w' S (.slice (some ⟨g, 0, none⟩) n cap) (ys.set m x')) ∧
    ∀ i u x', i < A.wd → A.own (w.setCell ⟨g, m * A.wd + i, none⟩ u) Sj (cs.set i u) x' → A.Own e (w.setCell ⟨g, m * A.wd + i, none⟩ u) S (.slice (some ⟨g, 0, none⟩) n cap) (ys.set m x') := by
  obtain ⟨g', cap', x', cs, Sj, e1, hx, hSg, _, ho, hS, hc, hf, hk, hp⟩ := h.at_ (j := m) (by rw [List.length_set]; exact hm)
  injection e1 with e1a e1b e1c
  injection e1a with e1a
  injection e1a with e1a
  subst e1a
  rw [List.getElem?_set_self hm] at hx
  injection hx with hx
  subst hx
  refine ⟨cs, Sj, ho, hS, hSg, hc, hf, fun w' x' h1 h2 => ?_, fun i u x' hi h1 => ?_⟩
  · have := hk w' x' h1 h2
    rwa [List.set_set] at this
  · have := hp i u Sj x' hi h1 (fun _ h => .inl h)
    rw [List.set_set] at this
    exact this.mono fun b hb => hb.elim id (fun h => (hS b h).1)
theorem strsLen (xs : List ByteArray) : xs.length ≤ strsSh.wt xs := wtL_len _ _
set_option maxRecDepth 100000 in
theorem markStringS_sh (w : World) (S : Nat → Prop) (v : Value) (xs : List ByteArray) (hv : strSh.Own 9 w S v xs) (k : Int) (hl : strsSh.wt xs ≤ 1048576) (h0 : 1 ≤ k) (h1 : k + 16 * (strsSh.wt xs : Int) ≤ 1000000000000000) :
    Calls Try.prog 100 #[v, .int .i64 k] w (MarkedSl strSh 9 S v xs k w) := by
  have hn := strsLen xs
  obtain ⟨Ad, c, hvf, hc2, hc1⟩ := hv.row.form
  subst hvf
  unfold maxLen at hc2
  have HV := Lib.hid hv
  have HC := Lib.hid (cntStrs xs)
  clear hv
  go_enter Try.func100, Try.ntmps100
  go_wp2
  go_loopw [1, 5] (fun q i wr => ∃ (m : Nat) (ys : List ByteArray), m ≤ xs.length ∧ i = .int .i64 m ∧ q = .int .i64 (k + m) ∧ ys.length = xs.length ∧ MkTo strSh.cnt strSh.mkd k ys m ∧ strSh.Own 9 wr S (.slice Ad xs.length c) ys ∧ Outs S w wr) (fun _ i _ => xs.length - (intOf i).toNat)
  case atStart => exact ⟨0, xs, Nat.zero_le _, rfl, by go_num, rfl, MkTo.start _ _ _ _, HV.out, Outs.refl _ _⟩
  case round =>
    clear HV
    obtain ⟨m, ys, hm, rfl, rfl, hyl, hmk, hown, hout⟩ := hrel
    by_cases hlt : m < xs.length
    · have HYl := Lib.hid hyl
      have HMk := Lib.hid hmk
      have HO := Lib.hid hown
      have HOut := Lib.hid hout
      obtain ⟨g, cap, y, cs, Sj, e1, -, hSg, hgw, -, -, -, -, -, -⟩ := hown.at_ (j := m) (by omega)
      rw [hyl] at e1
      injection e1 with e1a e1b e1c
      subst e1a e1c
      clear e1b hyl hmk hown hout
      go_wp2_with fail
      refine (markText_any _ _ (by omega) (by omega)).mono ?_
      rintro e w1 ⟨rfl, hb1⟩
      obtain ⟨g', cap', y', cs', Sj', e2, hy', -, -, ⟨rfl, hys⟩, -, hcell, hfr, -, hput⟩ := (HO.out.below hb1).at_ (j := m) (by rw [HYl.out]; exact hlt)
      rw [HYl.out] at e2
      injection e2 with e2a e2b e2c
      injection e2a with e2a
      injection e2a with e2a
      subst e2a
      have hwd : m * strSh.wd + 0 = m := Nat.mul_one m
      have c0 := hcell 0 _ rfl
      rw [hwd] at c0
      have f0 := hfr m
      have hp := hput 0 (.string (markS (k + m))) (fun _ => False) (markS (k + m)) (by decide) ⟨rfl, markS_size (by omega)⟩ (fun _ h => h.elim)
      rw [hwd] at hp
      have hmS : MkTo strSh.cnt strSh.mkd k (ys.set m (markS (k + m))) (m + 1) := HMk.out.step (by rw [HYl.out]; exact hlt) (by
        show markS (k + m) = markS (k + cntL strSh.cnt (ys.take m))
        rw [cntStrs, List.length_take, HYl.out, Nat.min_eq_left (Nat.le_of_lt hlt)])
      have HP := Lib.hid (hp.mono (S' := S) fun b hb => hb.elim id (fun h => h.elim))
      have HM2 := Lib.hid hmS
      have HO2 := Lib.hid ((HOut.out.trans (Outs.of_below hb1)).trans (Outs.of_set w1 ⟨g, m, none⟩ (.string (markS (k + m))) hSg))
      clear hp hmS hput hcell hfr hb1 e2b e2c hy' HO HOut HMk
      go_wp2
      go_roundw
      case rel => exact ⟨m + 1, ys.set m (markS (k + m)), by omega, by go_num, by go_num, by rw [List.length_set]; exact HYl.out, HM2.out, HP.out, HO2.out⟩
      case measure => simp [intOf]; omega
    · obtain rfl : m = xs.length := by omega
      have HYl := Lib.hid hyl
      have HMk := Lib.hid hmk
      have HO := Lib.hid hown
      have HOut := Lib.hid hout
      clear hyl hmk hown hout
      go_wp2
      go_ret
      exact ⟨ys, ret_int (by rw [HC.out]), HYl.out, by rw [cntStrs, cntStrs, HYl.out], MkTo.all (HYl.out.symm ▸ HMk.out), HO.out, HOut.out⟩

set_option maxRecDepth 100000 in
theorem heldStringS_sh (w : World) (v : Value) (xs : List ByteArray) (hv : strSh.Row w w.heap.size v xs) (k : Int) (hl : strsSh.wt xs ≤ 1048576) (h0 : 1 ≤ k) (h1 : k + 16 * (strsSh.wt xs : Int) ≤ 1000000000000000) (hm : mkdL strSh.cnt strSh.mkd k xs) :
    Calls Try.prog 151 #[v, .int .i64 k] w fun e w' => e = .returned (.int .i64 (k + cntL strSh.cnt xs)) ∧ Below w.heap.size w w' := by
  have hn := strsLen xs
  obtain ⟨Ad, c, hvf, hc2, hc1⟩ := hv.form
  subst hvf
  unfold maxLen at hc2
  have HC := Lib.hid (cntStrs xs)
  have HM := Lib.hid hm
  clear hm
  go_enter Try.func151, Try.ntmps151
  go_wp2
  go_loopw [1, 5] (fun q i wr => ∃ m : Nat, m ≤ xs.length ∧ i = .int .i64 m ∧ q = .int .i64 (k + m) ∧ Below w.heap.size w wr) (fun _ i _ => xs.length - (intOf i).toNat)
  case atStart => exact ⟨0, Nat.zero_le _, rfl, by go_num, Below.refl _ _⟩
  case round =>
    obtain ⟨m, hm, rfl, rfl, hb⟩ := hrel
    by_cases hlt : m < xs.length
    · obtain ⟨b, off, c', x, e1, hx, hB, hs, ck⟩ := strs_at hv hlt
      injection e1 with e1a e1b e1c
      subst e1a
      have hxm : x = markS (k + m) := by
        have := mkdL_at HM.out hx
        rw [cntStrs, List.length_take, Nat.min_eq_left (Nat.le_of_lt hlt)] at this
        exact this
      subst hxm
      have HS := Lib.hid fun (y : World) (hy : Below w.heap.size w y) => (hy.cell (p := ⟨b, off + m, none⟩) hB).trans ck
      have d0 := HS.out wr hb
      have hb0 := hb.drew
      have f3 : (0 : Int) ≤ (m : Int) := by omega
      have f4 : (m : Int) < (xs.length : Int) := by omega
      clear e1b e1c hv hx ck
      go_wp2
      go_region_held3 (fun w' => w'.cell? ⟨b, off + m, none⟩ = some (.string (markS (k + m))))
        (first | exact HS.out _ hb0 | exact HS.out _ (by assumption))
        (first | (go_at_call 150; refine (markText_any _ _ (by omega) (by omega)).mono ?_; rintro e w' ⟨rfl, hb'⟩; have hq := belowNext hb0 hb'; clear hb'))
      go_wp2
      go_roundw
      case rel => exact ⟨m + 1, by omega, by go_num, by go_num, by assumption⟩
      case measure => simp [intOf]; omega
    · obtain rfl : m = xs.length := by omega
      clear hv
      go_wp2
      go_ret
      exact ⟨ret_int (by rw [HC.out]), hb⟩

end Go.Proofs.Ytecdibpiojgppaa
