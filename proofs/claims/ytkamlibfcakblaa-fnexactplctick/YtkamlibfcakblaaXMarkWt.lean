/- Texts that follow each other, merged: MarkWt, MarkWt2, HStoWrite. -/
import Derived.Test.YtkamlibfcakblaaXMark
import Derived.Test.YtkamlibfcakblaaXMarkSize
import Derived.Test.YtkamlibfcakblaaXFrameRow
import Derived.Test.YtkamlibfcakblaaXStoMap
import Derived.Test.YtkamlibfcakblaaXHStr
import Derived.Test.YtkamlibfcakblaaXKey
import Derived.Deep.RegionHeld3

/- How much weighs what bears marks. -/
namespace Go.Proofs.Ytkamlibfcakblaa
open Go.RowKit

theorem markS_small {k : Int} : (markS k).size ≤ k.toNat + 1 := by
  unfold markS
  rw [ByteArray.size_append]
  have h1 := decs_size k.toNat k ⟨#[]⟩ (Nat.le_refl _)
  have h2 : (⟨#[]⟩ : ByteArray).size = 0 := rfl
  have h3 : (⟨#[109]⟩ : ByteArray).size = 1 := rfl
  omega
/-- What bears marks up to M weighs at most so much a mark. -/
def WtLe {α : Type} (A : Sh α) (M c : Nat) : Prop := ∀ (k : Int) (x : α), A.mkd k x → 0 ≤ k → k + A.cnt x ≤ M → A.wt x ≤ A.cnt x * c
section
variable {α β : Type} {A : Sh α} {B : Sh β} {M c : Nat}
theorem WtLe.int : WtLe Sh.int M c := fun _ _ _ _ _ => Nat.zero_le _
theorem WtLe.bool : WtLe Sh.bool M c := fun _ _ _ _ _ => Nat.zero_le _
theorem WtLe.str (hMc : M + 2 ≤ c) : WtLe strSh M c := fun k x h h0 hM => by
  have e : x = markS k := h
  have hc : strSh.cnt x = 1 := rfl
  rw [hc] at hM ⊢
  have hw : strSh.wt x = x.size := rfl
  rw [hw, e]
  have := markS_small (k := k)
  omega
theorem WtLe.pair (hA : WtLe A M c) (hB : WtLe B M c) : WtLe (A.pair B) M c := fun k x h h0 hM => by
  obtain ⟨h1, h2⟩ := h
  have hc : (A.pair B).cnt x = A.cnt x.1 + B.cnt x.2 := rfl
  have hw : (A.pair B).wt x = A.wt x.1 + B.wt x.2 := rfl
  rw [hc] at hM ⊢
  rw [hw, Nat.add_mul]
  have a := hA k x.1 h1 h0 (by omega)
  have b := hB _ x.2 h2 (by omega) (by omega)
  omega
theorem WtLe.conv {f : β → α} {g : α → β} {hg : f (g A.z) = A.z} (hA : WtLe A M c) : WtLe (A.conv f g hg) M c := fun k x h h0 hM => hA k (f x) h h0 hM
theorem WtLe.rows (hA : WtLe A M c) : ∀ (l : List α) (k : Int), mkdL A.cnt A.mkd k l → 0 ≤ k → k + cntL A.cnt l ≤ M → wtL A.wt l ≤ l.length + cntL A.cnt l * c
  | [], _, _, _, _ => by simp [wtL, cntL]
  | x :: l, k, h, h0, hM => by
    obtain ⟨h1, h2⟩ := h
    have hc : cntL A.cnt (x :: l) = A.cnt x + cntL A.cnt l := rfl
    have hw : wtL A.wt (x :: l) = 1 + A.wt x + wtL A.wt l := rfl
    rw [hc] at hM ⊢
    rw [hw, Nat.add_mul, List.length_cons]
    have a := hA k x h1 h0 (by omega)
    have b := WtLe.rows hA l _ h2 (by omega) (by omega)
    omega
theorem ints_wt (x : List Int) : intsSh.wt x = x.length := by
  show wtL (fun _ => 0) x = x.length
  induction x with
  | nil => rfl
  | cons a l ih => simp only [wtL, List.length_cons]; omega
theorem ints_cnt (x : List Int) : intsSh.cnt x = x.length := by
  show cntL (fun _ => 1) x = x.length
  induction x with
  | nil => rfl
  | cons a l ih => simp only [cntL, List.length_cons]; omega
theorem WtLe.ints (hc : 1 ≤ c) : WtLe intsSh M c := fun k x _ _ _ => by
  rw [ints_wt, ints_cnt]
  exact Nat.le_mul_of_pos_right _ (by omega)
theorem WtLe.it (h : M + 2 ≤ c) : WtLe itSh M c := WtLe.conv (WtLe.pair (WtLe.str h) (WtLe.ints (by omega)))
theorem WtLe.wr (h : M + 2 ≤ c) : WtLe wrSh M c := WtLe.conv (WtLe.pair (WtLe.str h) (WtLe.pair WtLe.bool (WtLe.ints (by omega))))
/-- Things, as many as they are: each bears a mark. -/
theorem its_len (l : List Item) : l.length ≤ cntL itSh.cnt l := by
  induction l with
  | nil => simp
  | cons a l ih =>
    have : itSh.cnt a = 1 + intsSh.cnt a.val := rfl
    simp only [cntL, List.length_cons]; omega
theorem its_wt {M : Nat} {l : List Item} {k : Int} (h : mkdL itSh.cnt itSh.mkd k l) (h0 : 0 ≤ k) (hM : k + cntL itSh.cnt l ≤ M) : wtL itSh.wt l ≤ cntL itSh.cnt l * (M + 3) := by
  have h1 := WtLe.rows (WtLe.it (Nat.le_refl (M + 2))) l k h h0 hM
  have h2 := its_len l
  have h3 : cntL itSh.cnt l * (M + 3) = cntL itSh.cnt l * (M + 2) + cntL itSh.cnt l := by rw [show M + 3 = M + 2 + 1 by omega, Nat.mul_succ]
  omega
end
/-- How many marks things bear that are short. -/
theorem its_cnt {its : List Item} (h : ∀ it ∈ its, it.val.length ≤ 3) : cntL itSh.cnt its ≤ 4 * its.length := by
  induction its with
  | nil => simp [cntL]
  | cons x l ih =>
    have h1 := h x (List.mem_cons_self ..)
    have h2 := ih fun y hy => h y (List.mem_cons_of_mem _ hy)
    have hc : itSh.cnt x = 1 + intsSh.cnt x.val := rfl
    have hc2 := ints_cnt x.val
    simp only [cntL, List.length_cons]
    omega

end Go.Proofs.Ytkamlibfcakblaa

/- How much weighs what bears marks, by the digits of the marks. -/
namespace Go.Proofs.Ytkamlibfcakblaa
open Go.RowKit

theorem decs_digits : ∀ (d : Nat) (k : Int) (s : ByteArray), k < (10 : Int) ^ d → (decs k s).size ≤ d + s.size
  | 0, k, s, h => by rw [decs_end s (by simp at h; omega)]; omega
  | d + 1, k, s, h => by
    by_cases hk : 0 < k
    · rw [← decs_step s hk]
      have hd : k / 10 < (10 : Int) ^ d := by
        rw [Int.pow_succ] at h
        omega
      have := decs_digits d (k / 10) (digT (k % 10) ++ s) hd
      rw [ByteArray.size_append, digT_size] at this
      omega
    · rw [decs_end s (by omega)]; omega
theorem markS_digits {k : Int} (h : k ≤ 99999) : (markS k).size ≤ 6 := by
  unfold markS
  rw [ByteArray.size_append]
  have h1 := decs_digits 5 k ⟨#[]⟩ (by omega)
  have h2 : (⟨#[]⟩ : ByteArray).size = 0 := rfl
  have h3 : (⟨#[109]⟩ : ByteArray).size = 1 := rfl
  omega
section
variable {α : Type} {A : Sh α} {M c : Nat}
theorem WtLe.strD : WtLe strSh 99999 6 := fun k x h h0 hM => by
  have e : x = markS k := h
  have hc : strSh.cnt x = 1 := rfl
  rw [hc] at hM ⊢
  have hw : strSh.wt x = x.size := rfl
  rw [hw, e]
  have := markS_digits (k := k) (by omega)
  omega
theorem WtLe.more {c' : Nat} (h : WtLe A M c) (hc : c ≤ c') : WtLe A M c' := fun k x hm h0 hM => Nat.le_trans (h k x hm h0 hM) (Nat.mul_le_mul_left _ hc)
theorem len_cnt (hA : ∀ x, 1 ≤ A.cnt x) : ∀ l : List α, l.length ≤ cntL A.cnt l
  | [] => Nat.zero_le _
  | x :: l => by
    have h1 := hA x
    have h2 := len_cnt hA l
    simp only [cntL, List.length_cons]; omega
theorem WtLe.sl (h : WtLe A M c) (hA : ∀ x, 1 ≤ A.cnt x) (e : TypeId) (hb : A.base ≤ 16) : WtLe (A.sl e hb) M (c + 1) := fun k l hm h0 hM => by
  have h1 := WtLe.rows h l k hm h0 hM
  have h2 := len_cnt hA l
  show wtL A.wt l ≤ cntL A.cnt l * (c + 1)
  rw [Nat.mul_succ]; omega
end
theorem wtNoteM : WtLe noteSh 99999 7 := WtLe.conv (WtLe.pair (WtLe.int) (WtLe.pair (WtLe.int) (WtLe.pair ((WtLe.strD.sl (fun _ => Nat.le_refl _) _ _)) (WtLe.sl (A := wrSh) (WtLe.conv (WtLe.pair WtLe.strD (WtLe.pair WtLe.bool (WtLe.ints (by omega))))) (fun x => by show 1 ≤ 1 + _; omega) _ _))))
theorem wtNotesM : WtLe notesSh 99999 8 := wtNoteM.sl (fun x => by show 1 ≤ 1 + _; omega) _ _
/-- How many marks a place's notes bear, and a note. -/
def dCnt (x : Disk) : Nat := cntL noteSh.cnt x.notes
def dMk (k : Int) (x : Disk) : Prop := mkdL noteSh.cnt noteSh.mkd k x.notes
def nCnt (x : Note) : Nat := cntL strSh.cnt x.locks + cntL wrSh.cnt x.writes
def nMk (k : Int) (x : Note) : Prop := mkdL strSh.cnt strSh.mkd k x.locks ∧ mkdL wrSh.cnt wrSh.mkd (k + cntL strSh.cnt x.locks) x.writes
theorem strs_cntE : ∀ (l : List ByteArray), cntL strSh.cnt l = l.length
  | [] => rfl
  | x :: l => by
    have e : cntL strSh.cnt (x :: l) = 1 + cntL strSh.cnt l := rfl
    rw [e, strs_cntE l, List.length_cons]; omega
theorem wrs_cntE : ∀ {l : List Wr}, (∀ x ∈ l, x.val.length ≤ 3 ∧ x.key.size ≤ 3) → cntL wrSh.cnt l ≤ 5 * l.length ∧ wtL wrSh.wt l ≤ 7 * l.length
  | [], _ => ⟨Nat.zero_le _, Nat.zero_le _⟩
  | x :: l, h => by
    have h1 := h x (List.mem_cons_self ..)
    obtain ⟨h2, h3⟩ := wrs_cntE (l := l) fun y hy => h y (List.mem_cons_of_mem _ hy)
    have e2 : cntL wrSh.cnt (x :: l) = (1 + (1 + intsSh.cnt x.val)) + cntL wrSh.cnt l := rfl
    have e3 : wtL wrSh.wt (x :: l) = 1 + (x.key.size + (0 + intsSh.wt x.val)) + wtL wrSh.wt l := rfl
    have e4 := ints_cnt x.val
    have e5 := ints_wt x.val
    rw [e2, e3, List.length_cons]; omega
theorem strs_wtE : ∀ {l : List ByteArray}, (∀ k ∈ l, k.size ≤ 3) → wtL strSh.wt l ≤ 4 * l.length
  | [], _ => Nat.zero_le _
  | x :: l, h => by
    have h1 := h x (List.mem_cons_self ..)
    have h2 := strs_wtE (l := l) fun y hy => h y (List.mem_cons_of_mem _ hy)
    have e : wtL strSh.wt (x :: l) = 1 + x.size + wtL strSh.wt l := rfl
    rw [e, List.length_cons]; omega
theorem note_cnt {n : Note} (h : noteB n = true) : noteSh.cnt n ≤ 74 ∧ noteSh.wt n ≤ 132 := by
  obtain ⟨h1, h2, h3, h4⟩ := noteB_small h
  have e1 := strs_cntE n.locks
  obtain ⟨e2, e3⟩ := wrs_cntE h3
  have e4 := strs_wtE h4
  have e5 : noteSh.cnt n = 1 + (1 + (cntL strSh.cnt n.locks + cntL wrSh.cnt n.writes)) := rfl
  have e6 : noteSh.wt n = 0 + (0 + (wtL strSh.wt n.locks + wtL wrSh.wt n.writes)) := rfl
  omega
theorem notes_cnt : ∀ {l : List Note}, (∀ n ∈ l, noteB n = true) → cntL noteSh.cnt l ≤ 74 * l.length ∧ wtL noteSh.wt l ≤ 133 * l.length
  | [], _ => ⟨Nat.zero_le _, Nat.zero_le _⟩
  | x :: l, h => by
    have h1 := note_cnt (h x (List.mem_cons_self ..))
    have h2 := notes_cnt (l := l) fun y hy => h y (List.mem_cons_of_mem _ hy)
    simp only [cntL, wtL, List.length_cons]; omega
/-- How much is what is ok, and how much when it bears marks. -/
theorem disk_small {x : Disk} (h : diskB x = true) : dCnt x ≤ 8880 ∧ diskSh.wt x ≤ 16000 := by
  obtain ⟨h1, h2⟩ := diskB_small h
  obtain ⟨h3, h4⟩ := notes_cnt h2
  have e : diskSh.wt x = wtL noteSh.wt x.notes + 0 := rfl
  unfold dCnt
  omega
theorem disk_marked {y : Disk} {k : Int} {c : Nat} (h : dMk k y) (h0 : 0 ≤ k) (hc : dCnt y = c) (hk : k + c ≤ 99999) : diskSh.wt y ≤ 1048576 := by
  have h1 := wtNotesM k y.notes h h0 (by show k + (cntL noteSh.cnt y.notes : Int) ≤ _; unfold dCnt at hc; omega)
  have e : diskSh.wt y = notesSh.wt y.notes + 0 := rfl
  have e2 : notesSh.cnt y.notes = c := hc
  rw [e2] at h1
  have : c ≤ 99999 := by omega
  omega

end Go.Proofs.Ytkamlibfcakblaa

/- The helpers of the exact laws over StoWrite: a count, a copy, a comparison, marks. By shgen.py. -/
namespace Go.Proofs.Ytkamlibfcakblaa
open Go.RowKit

theorem wtStoWrite (x : Wr) : (wrSh.wt x : Int) = (x.key.size : Int) + (intsSh.wt x.val : Int) := by
  show (((x.key.size + (0 + intsSh.wt x.val)) : Nat) : Int) = _
  omega
theorem szStoWrite_any (w : World) (cs : List Value) (x : Wr) (h : wrSh.rel w w.heap.size cs x) (left : Int) (h0 : 0 ≤ left) (h1 : left ≤ 1048576) :
    Calls Try.prog 151 #[.agg cs.toArray, .int .i64 left] w (Sized left (wrSh.wt x) w) := by
  obtain ⟨u2, rfl, hs_key, hu2⟩ := wr_rel.1 h
  obtain ⟨A2, c2, rfl, hc2, hd2⟩ := hu2.form
  unfold maxLen at hc2
  have HU2 := Lib.hid fun W (hb : Below w.heap.size w W) => (hu2.below hb).more hb.size
  unfold maxLen at hs_key
  clear h hu2
  have HT := Lib.hid (wtStoWrite x)
  have HB0 := Lib.hid (belowOne w (.cells #[.string x.key, .bool x.del, .slice A2 x.val.length c2] 165))
  have HX0 := Lib.hid (Held.new w #[.string x.key, .bool x.del, .slice A2 x.val.length c2] 165)
  go_enter Try.func151, Try.ntmps151
  by_cases hq0 : left < (x.key.size : Int)
  · go_wp2
    go_ret
    exact ⟨ret_int (by rw [less_no (by rw [HT.out]; omega)]), HB0.out⟩
  · have hq0' : (x.key.size : Int) ≤ left := by omega
    clear hq0
    by_cases hq1 : left - (x.key.size : Int) < (intsSh.wt x.val : Int)
    · have hl := less_no hq1
      go_wp2_with fail
      refine (szIntS_sh _ _ _ _ (HU2.out _ HB0.out) _ (by omega) (by omega)).mono ?_
      rintro e w1 ⟨rfl, hb⟩
      rw [hl]
      have HB1 := Lib.hid (belowNext HB0.out hb)
      have HX1 := Lib.hid (HX0.out.below hb HX0.out.1)
      clear hb
      clear hl HB0 HX0
      have x0 := HX1.out.of 0 _ rfl
      have x1 := HX1.out.of 1 _ rfl
      have x2 := HX1.out.of 2 _ rfl
      go_wp2
      go_ret
      exact ⟨ret_int (by rw [less_no (by rw [HT.out]; omega)]), HB1.out⟩
    · have hl := less_yes (show (intsSh.wt x.val : Int) ≤ left - (x.key.size : Int) by omega)
      have hq1' : (intsSh.wt x.val : Int) ≤ left - (x.key.size : Int) := by omega
      clear hq1
      go_wp2_with fail
      refine (szIntS_sh _ _ _ _ (HU2.out _ HB0.out) _ (by omega) (by omega)).mono ?_
      rintro e w1 ⟨rfl, hb⟩
      rw [hl]
      have HB1 := Lib.hid (belowNext HB0.out hb)
      have HX1 := Lib.hid (HX0.out.below hb HX0.out.1)
      clear hb
      clear hl HB0 HX0
      have x0 := HX1.out.of 0 _ rfl
      have x1 := HX1.out.of 1 _ rfl
      have x2 := HX1.out.of 2 _ rfl
      go_wp2
      go_ret
      exact ⟨ret_int (by rw [less_yes (by rw [HT.out]; omega), HT.out] <;> omega), HB1.out⟩
set_option maxRecDepth 100000 in
theorem szStoWriteS_sh (w : World) (v : Value) (xs : List Wr) (hv : wrSh.Row w w.heap.size v xs) (left : Int) (h0 : 0 ≤ left) (h1 : left ≤ 1048576) :
    Calls Try.prog 144 #[v, .int .i64 left] w (Sized left (wrsSh.wt xs) w) := by
  obtain ⟨A, c, rfl, hc2, hc1⟩ := hv.form
  unfold maxLen at hc2
  have HW := Lib.hid (show wrsSh.wt xs = xs.length + cntL wrSh.wt xs from wtL_eq _ _)
  by_cases h : left < (xs.length : Int)
  · have HL := Lib.hid (less_no (left := left) (n := (wrsSh.wt xs : Int)) (by rw [HW.out]; omega))
    clear hv
    go_enter Try.func144, Try.ntmps144
    go_wp2
    go_ret
    exact ⟨ret_int HL.out.symm, Below.refl _ _⟩
  · have h2 : (xs.length : Int) ≤ left := by omega
    clear h
    go_enter Try.func144, Try.ntmps144
    go_wp2
    go_loopw [1, 5] (fun l i wr => ∃ (k : Nat) (r : Int), k ≤ xs.length ∧ i = .int .i64 k ∧ l = .int .i64 r ∧ 0 ≤ r ∧ r = left - xs.length - cntL wrSh.wt (xs.take k) ∧ Below w.heap.size w wr) (fun _ i _ => xs.length - (intOf i).toNat)
    case atStart => exact ⟨0, _, Nat.zero_le _, rfl, rfl, by omega, by simp [cntL], Below.refl _ _⟩
    case round =>
      obtain ⟨k, r, hk, rfl, rfl, hr0, hr, hb⟩ := hrel
      have HR := Lib.hid hr
      have hrl : r ≤ left := by omega
      have HB := Lib.hid hb
      clear hr hb
      by_cases hlt : k < xs.length
      · obtain ⟨b, off, c', x, cs, e1, hx, hB, hrel, hcell⟩ := (hv.below HB.out).at_ (k := k) hlt
        injection e1 with e1a e1b e1c
        subst e1a
        have HV := Lib.hid (wrSh.rmore hrel HB.out.size)
        obtain ⟨u2, rfl, hs_key, hu2⟩ := wr_rel.1 hrel
        obtain ⟨A2, c2, rfl, -, -⟩ := hu2.form
        have d0 := hcell 0 _ rfl
        have d1 := hcell 1 _ rfl
        have d2 := hcell 2 _ rfl
        have hwd : wrSh.wd = 3 := rfl
        rw [hwd] at d0 d1 d2
        simp only [Nat.add_zero] at d0
        have HC := Lib.hid (cntL_take (f := wrSh.wt) hx)
        have HT := Lib.hid (cntL_take_le wrSh.wt xs (k + 1))
        clear e1b e1c hv hx hcell hrel hwd hu2
        by_cases hneg : r < (wrSh.wt x : Int)
        · have HL := Lib.hid (less_no (left := left) (n := (wrsSh.wt xs : Int)) (by rw [HW.out]; have := HR.out; have := HC.out; have := HT.out; omega))
          have hl := less_no hneg
          go_wp2_with fail
          refine (szStoWrite_any _ _ x HV.out _ hr0 (by omega)).mono ?_
          rintro e w1 ⟨rfl, hb1⟩
          rw [hl]
          clear hl
          go_wp2
          go_ret
          exact ⟨ret_int HL.out.symm, belowNext HB.out hb1⟩
        · have hge : (wrSh.wt x : Int) ≤ r := by omega
          have hl := less_yes hge
          go_wp2_with fail
          refine (szStoWrite_any _ _ x HV.out _ hr0 (by omega)).mono ?_
          rintro e w1 ⟨rfl, hb1⟩
          rw [hl]
          clear hl
          go_wp2
          go_roundw
          case rel => exact ⟨k + 1, _, by omega, by go_num, rfl, by omega, by rw [HR.out, HC.out]; omega, belowNext HB.out hb1⟩
          case measure => simp [intOf]; omega
      · have hks : k = xs.length := by omega
        have HL := Lib.hid (less_yes (left := left) (n := (wrsSh.wt xs : Int)) (by have h1 := HR.out; rw [HW.out]; rw [hks, List.take_length] at h1; omega))
        have HE := Lib.hid (show r = left - (wrsSh.wt xs : Int) by have h1 := HR.out; rw [HW.out]; rw [hks, List.take_length] at h1; omega)
        clear hks hv
        go_wp2
        go_ret
        exact ⟨ret_int (by rw [HL.out]; exact HE.out), HB.out⟩

set_option maxRecDepth 100000 in
theorem toStoWrite_any (w : World) (cs : List Value) (x : Wr) (h : wrSh.rel w w.heap.size cs x) (hl : wrSh.wt x ≤ 1048576) :
    Calls Try.prog 152 #[.agg cs.toArray] w (CopiedAg wrSh x w) := by
  have hwt := wtStoWrite x
  obtain ⟨u2, rfl, hs_key, hu2⟩ := wr_rel.1 h
  have hn2 : x.val.length ≤ intsSh.wt x.val := wtL_len _ _
  obtain ⟨A2, c2, rfl, hc2, hd2⟩ := hu2.form
  have HU2 := Lib.hid fun W (hb : Below w.heap.size w W) => (hu2.below hb).more hb.size
  have hm2 : intsSh.wt x.val ≤ 1048576 := by omega
  have hp2 : x.val.length ≤ 1048576 := by omega
  clear h hwt hu2
  have HI := Lib.hid (ToInv.start w #[.string x.key, .bool x.del, .slice A2 x.val.length c2] #[.string ByteArray.empty, .bool false, .slice none 0 0] #[.string x.key, .bool x.del, .slice none 0 0] 165 86 86)
  go_enter Try.func152, Try.ntmps152
  go_wp2_with fail
  refine (toIntS_sh _ _ x.val (HU2.out _ HI.out.bel) hp2).mono ?_
  rintro e w1 ⟨v2, rfl, ho, hb⟩
  obtain ⟨B2, e2, rfl, -, -⟩ := ho.row.form
  have hz := HI.out.size
  have HJ := Lib.hid (HI.out.call hb)
  have HS2 : Hid (CopFrom Sh.int 3 (w.heap.size + 1 + 1 + 1) (w1.heap.size) (.slice B2 x.val.length e2) x.val w1) := Lib.hid (Sh.Own.mono ho fun b hb => ⟨by have := hb.1; simp at this; omega, hb.2⟩)
  have hzw : w.heap.size + 1 + 1 + 1 ≤ w1.heap.size := by have := hb.size; simp at this; omega
  have x0 := HJ.out.box.of 0 _ rfl
  have x1 := HJ.out.box.of 1 _ rfl
  have x2 := HJ.out.box.of 2 _ rfl
  have o0 := HJ.out.out.of 0 _ rfl
  have o1 := HJ.out.out.of 1 _ rfl
  have o2 := HJ.out.out.of 2 _ rfl
  have of := HJ.out.out.2.1
  replace HJ := Lib.hid (HJ.out.putOut 2 (.slice B2 x.val.length e2))
  replace HS2 := Lib.hid (HS2.out.set (p := ⟨w.heap.size + 1 + 1, 2, none⟩) (by show w.heap.size + 1 + 1 < _; omega) (.slice B2 x.val.length e2))
  clear HI hb ho hz
  have HI := HJ
  clear HJ
  have r0 := HI.out.res.of 0 _ rfl
  have r1 := HI.out.res.of 1 _ rfl
  have r2 := HI.out.res.of 2 _ rfl
  have rf := HI.out.res.2.1
  go_wp2
  replace HI := Lib.hid (HI.out.putRes 0 (.string x.key))
  replace HS2 := Lib.hid (HS2.out.set (p := ⟨w.heap.size + 1, 0, none⟩) (by show w.heap.size + 1 < _; omega) (.string x.key))
  replace HI := Lib.hid (HI.out.putRes 1 (.bool x.del))
  replace HS2 := Lib.hid (HS2.out.set (p := ⟨w.heap.size + 1, 1, none⟩) (by show w.heap.size + 1 < _; omega) (.bool x.del))
  replace HI := Lib.hid (HI.out.putRes 2 (.slice B2 x.val.length e2))
  replace HS2 := Lib.hid (HS2.out.set (p := ⟨w.heap.size + 1, 2, none⟩) (by show w.heap.size + 1 < _; omega) (.slice B2 x.val.length e2))
  have q0 := HI.out.res.of 0 _ rfl
  have q1 := HI.out.res.of 1 _ rfl
  have q2 := HI.out.res.of 2 _ rfl
  refine bodyPost_ret (v := .agg #[.string x.key, .bool x.del, .slice B2 x.val.length e2]) (by simp [results, Try.results152, go_sem, q0, q1, q2]) rfl ⟨[.string x.key, .bool x.del, .slice B2 x.val.length e2], rfl, ?_, HI.out.bel⟩
  exact wr_own.2 ⟨_, rfl, hs_key, Sh.Own.mono HS2.out fun b hb => ⟨by have := hb.1; omega, by simp [World.setCell]; exact hb.2⟩⟩

theorem infoStoWriteH : (Try.prog.info? 86).map (fun i => (i.zero, i.size, i.bytes)) = some (some (.agg #[.string ByteArray.empty, .bool false, .slice none 0 0]), 3, 48) := by kernel_rfl
theorem madeStoWrite (n : Nat) (hbytes : 48 * n ≤ 281474976710656) (w : World) :
    (Instr.makeSlice 34 (.int .i64 (n : Int)) (.int .i64 (n : Int))).run Try.prog w = .ok (.slice (some ⟨w.heap.size, 0, none⟩) n n) (w.alloc (.cells (madeCells #[.string ByteArray.empty, .bool false, .slice none 0 0] (n * 3)) 86)) := by
  obtain ⟨i, hi, hzz⟩ := Option.map_eq_some_iff.1 infoStoWriteH
  simp only [Prod.mk.injEq] at hzz
  obtain ⟨hz, hs, hb⟩ := hzz
  have hb' : (i.bytes : Int) * (n : Int) ≤ 281474976710656 := by
    have h : ((i.bytes * n : Nat) : Int) ≤ 281474976710656 := by rw [hb]; omega
    rwa [Int.natCast_mul] at h
  have hr := run_make (P := Try.prog) w 34 86 i _ Try.underlying34 hi hz .i64 .i64 n n (by omega) (Int.le_refl _) hb' (by omega)
  simp only [Int.toNat_natCast, hs] at hr
  exact hr
set_option maxRecDepth 100000 in
theorem toStoWriteS_sh (w : World) (v : Value) (xs : List Wr) (hv : wrSh.Row w w.heap.size v xs) (hl : wrsSh.wt xs ≤ 1048576) :
    Calls Try.prog 146 #[v] w (CopiedSl wrSh 86 xs w) := by
  obtain ⟨A, c, rfl, hc2, hc1⟩ := hv.form
  unfold maxLen at hc2
  have hlen : xs.length ≤ 1048576 := Nat.le_trans (wtL_len wrSh.wt xs) hl
  have hmk := fun W => madeStoWrite xs.length (by omega) W
  have HM : Hid (wrSh.Own 86 (w.alloc (.cells (madeCells #[.string ByteArray.empty, .bool false, .slice none 0 0] (xs.length * 3)) 86)) (fun b => b = w.heap.size) (.slice (some ⟨w.heap.size, 0, none⟩) xs.length xs.length) (xs.take 0 ++ List.replicate (xs.length - 0) wrSh.z)) :=
    Lib.hid (Sh.Own.made wrSh 86 w xs.length (by unfold maxLen; omega))
  have HW := Lib.hid (belowOne w (.cells (madeCells #[.string ByteArray.empty, .bool false, .slice none 0 0] (xs.length * 3)) 86))
  go_enter Try.func146, Try.ntmps146
  go_wp2
  clear hmk
  go_loopw [4] (fun i wr => ∃ k : Nat, k ≤ xs.length ∧ i = .int .i64 k ∧ wrSh.Own 86 wr (fun b => w.heap.size ≤ b ∧ b < wr.heap.size) (.slice (some ⟨w.heap.size, 0, none⟩) xs.length xs.length) (xs.take k ++ List.replicate (xs.length - k) wrSh.z) ∧ Below w.heap.size w wr) (fun i _ => xs.length - (intOf i).toNat)
  case atStart => exact ⟨0, Nat.zero_le _, rfl, HM.out.mono fun b hb => ⟨by omega, by simp; omega⟩, HW.out⟩
  case round =>
    clear HM HW
    obtain ⟨k, hk, rfl, ho, hb⟩ := hrel
    by_cases hlt : k < xs.length
    · obtain ⟨b, off, c', x, cs, e1, hx, hB, hrel, hcell⟩ := (hv.below hb).at_ (k := k) hlt
      injection e1 with e1a e1b e1c
      subst e1a
      have HV := Lib.hid (wrSh.rmore hrel hb.size)
      have hxl : wrSh.wt x ≤ 1048576 := by have := wtL_at_le (f := wrSh.wt) hx; have h2 : wtL wrSh.wt xs ≤ 1048576 := hl; omega
      obtain ⟨u2, rfl, hs_key, hu2⟩ := wr_rel.1 hrel
      obtain ⟨A2, c2, rfl, -, -⟩ := hu2.form
      have d0 := hcell 0 _ rfl
      have d1 := hcell 1 _ rfl
      have d2 := hcell 2 _ rfl
      have hwd : wrSh.wd = 3 := rfl
      rw [hwd] at d0 d1 d2
      simp only [Nat.add_zero] at d0
      clear e1b e1c hv hcell hrel hu2
      have HO := Lib.hid ho
      have HB := Lib.hid hb
      have HX := Lib.hid hx
      clear ho hb hx
      go_wp2_with fail
      refine (toStoWrite_any _ _ x HV.out hxl).mono ?_
      rintro e w1 ⟨cs, rfl, hc, hb1⟩
      obtain ⟨g, cap, y, ds, Sj, e2, -, hSg, -, hds, -, hcell, hfr, -, -⟩ := (HO.out.below hb1).at_ (j := k) (by simp; omega)
      have HLn : Hid (xs.length = (xs.take k ++ List.replicate (xs.length - k) wrSh.z).length) := Lib.hid (by simp; omega)
      injection e2 with e2a e2b e2c
      injection e2a with e2a
      injection e2a with e2a
      subst e2a
      obtain ⟨y2, rfl, -, -⟩ := wr_rel.1 (wrSh.orel hds)
      have r0 := hcell 0 _ rfl
      have r1 := hcell 1 _ rfl
      have r2 := hcell 2 _ rfl
      rw [hwd] at r0 r1 r2
      simp only [Nat.add_zero] at r0
      have hput := Sh.Own.put (HO.out) (j := k) (g := w.heap.size) (cap := xs.length) (by rw [← HLn.out]; exact hlt) (by rw [← HLn.out]) (w1 := w1) (fun b _ hlt => hb1.block b hlt) hc (fun b hb hb2 => by have := hb.1; have := hb2.2; omega)
      rw [repl_take HX.out] at hput
      obtain ⟨v2, rfl, -, hv2⟩ := wr_rel.1 (wrSh.orel hc)
      obtain ⟨B2, e2, rfl, -, -⟩ := hv2.form
      have HP := Lib.hid hput
      have HS := Lib.hid (Nat.le_trans HB.out.size hb1.size)
      have HN := Lib.hid (belowNext HB.out hb1)
      have hsz := hb1.size
      clear hput hcell hds hc hb1 hSg e2b e2c HV HLn hwd hv2
      go_wp2
      go_roundw
      case rel =>
        refine ⟨k + 1, by omega, by go_num, Sh.Own.mono HP.out (fun b hb => ?_), (((HN.out.setCell (Nat.le_refl _) _).setCell (Nat.le_refl _) _).setCell (Nat.le_refl _) _)⟩
        have h0 := HS.out
        simp only [World.setCell, Array.size_modify]
        rcases hb with hb | hb
        · have h1 := hb.1; have h2 := hb.2; exact ⟨h1, by omega⟩
        · have h1 := hb.1; have h2 := hb.2; exact ⟨by have := HB.out.size; omega, h2⟩
      case measure => simp [intOf]; omega
    · have hks : k = xs.length := by omega
      have HO : Hid (wrSh.Own 86 wr (fun b => w.heap.size ≤ b ∧ b < wr.heap.size) (.slice (some ⟨w.heap.size, 0, none⟩) xs.length xs.length) xs) := by
        subst hks; exact Lib.hid (by simpa using ho)
      clear hks hv ho
      go_wp2
      go_ret
      exact ⟨_, rfl, HO.out, hb⟩

set_option maxRecDepth 100000 in
theorem eqStoWrite_same (w : World) (cs ds : List Value) (x : Wr) (h : wrSh.rel w w.heap.size cs x) (h2 : wrSh.rel w w.heap.size ds x) :
    Calls Try.prog 153 #[.agg cs.toArray, .agg ds.toArray] w (Alike w) := by
  obtain ⟨u2, rfl, hs_key, hu2⟩ := wr_rel.1 h
  obtain ⟨v2, rfl, -, hv2⟩ := wr_rel.1 h2
  obtain ⟨A2, c2, rfl, hc2, hd2⟩ := hu2.form
  obtain ⟨B2, e2, rfl, hc2', hd2'⟩ := hv2.form
  have HU2 := Lib.hid fun W (hb : Below w.heap.size w W) => (hu2.below hb).more hb.size
  have HV2 := Lib.hid fun W (hb : Below w.heap.size w W) => (hv2.below hb).more hb.size
  clear h h2 hu2 hv2
  have HI := Lib.hid (TwoInv.start w #[.string x.key, .bool x.del, .slice A2 x.val.length c2] #[.string x.key, .bool x.del, .slice B2 x.val.length e2] 86 86)
  go_enter Try.func153, Try.ntmps153
  go_wp2_with fail
  refine (eqIntS_same _ _ _ _ x.val (HU2.out _ HI.out.bel) (HV2.out _ HI.out.bel)).mono ?_
  rintro e w1 ⟨rfl, hb⟩
  replace HI := Lib.hid (HI.out.call hb)
  clear hb
  have x0_0 := HI.out.one.of 0 _ rfl
  have x0_1 := HI.out.one.of 1 _ rfl
  have x0_2 := HI.out.one.of 2 _ rfl
  have y0_0 := HI.out.two.of 0 _ rfl
  have y0_1 := HI.out.two.of 1 _ rfl
  have y0_2 := HI.out.two.of 2 _ rfl
  go_wp2
  go_ret
  exact ⟨rfl, HI.out.bel⟩

set_option maxRecDepth 100000 in
theorem eqStoWriteS_same (w : World) (v u : Value) (xs : List Wr) (hv : wrSh.Row w w.heap.size v xs) (hu : wrSh.Row w w.heap.size u xs) :
    Calls Try.prog 147 #[v, u] w (Alike w) := by
  obtain ⟨A, c, rfl, hc2, hc1⟩ := hv.form
  obtain ⟨A', c', rfl, hc2', hc1'⟩ := hu.form
  unfold maxLen at hc2 hc2'
  go_enter Try.func147, Try.ntmps147
  go_wp2
  go_loopw [5] (fun i wr => ∃ k : Nat, k ≤ xs.length ∧ i = .int .i64 k ∧ Below w.heap.size w wr) (fun i _ => xs.length - (intOf i).toNat)
  case atStart => exact ⟨0, Nat.zero_le _, rfl, Below.refl _ _⟩
  case round =>
    obtain ⟨k, hk, rfl, hb⟩ := hrel
    by_cases hlt : k < xs.length
    · obtain ⟨b, off, d, x, cs, e1, hx, hB, hr, hcell⟩ := hv.at_ (k := k) hlt
      obtain ⟨b2, off2, d2, x2, cs2, e2, hx2, hB2, hr2, hcell2⟩ := hu.at_ (k := k) hlt
      rw [hx] at hx2
      injection hx2 with hx2
      subst hx2
      injection e1 with e1a e1b e1c
      injection e2 with e2a e2b e2c
      subst e1a e2a
      have HR := Lib.hid fun (y : World) (hy : Below w.heap.size w y) => wrSh.rmore (wrSh.rbelow hr hy) hy.size
      have HR2 := Lib.hid fun (y : World) (hy : Below w.heap.size w y) => wrSh.rmore (wrSh.rbelow hr2 hy) hy.size
      obtain ⟨u2, rfl, hs_key, hu2⟩ := wr_rel.1 hr
      obtain ⟨v2, rfl, -, hv2⟩ := wr_rel.1 hr2
      obtain ⟨A2, c2, rfl, -, -⟩ := hu2.form
      obtain ⟨B2, e2, rfl, -, -⟩ := hv2.form
      have p0 := hcell 0 _ rfl
      have p1 := hcell 1 _ rfl
      have p2 := hcell 2 _ rfl
      have q0 := hcell2 0 _ rfl
      have q1 := hcell2 1 _ rfl
      have q2 := hcell2 2 _ rfl
      have hwd : wrSh.wd = 3 := rfl
      rw [hwd] at p0 q0 p1 q1 p2 q2
      simp only [Nat.add_zero] at p0 q0
      have HS := Lib.hid fun (y : World) (hy : Below w.heap.size w y) => And.intro ((hy.cell (p := ⟨b, off + k * 3, none⟩) hB).trans p0) (And.intro ((hy.cell (p := ⟨b, off + k * 3 + 1, none⟩) hB).trans p1) (And.intro ((hy.cell (p := ⟨b, off + k * 3 + 2, none⟩) hB).trans p2) (And.intro ((hy.cell (p := ⟨b2, off2 + k * 3, none⟩) hB2).trans q0) (And.intro ((hy.cell (p := ⟨b2, off2 + k * 3 + 1, none⟩) hB2).trans q1) ((hy.cell (p := ⟨b2, off2 + k * 3 + 2, none⟩) hB2).trans q2)))))
      obtain ⟨d0', d1', d2', d3', d4', d5'⟩ := HS.out wr hb
      have hb0 := hb.drew
      have f3 : (0 : Int) ≤ (k : Int) := by omega
      have f4 : (k : Int) < (xs.length : Int) := by omega
      clear e1b e1c e2b e2c hv hu hx hr hr2 hcell hcell2 hwd p0 q0 p1 q1 p2 q2 hu2 hv2
      go_wp2
      go_region_held3 (fun w' => w'.cell? ⟨b, off + k * 3, none⟩ = some (.string x.key) ∧ w'.cell? ⟨b, off + k * 3 + 1, none⟩ = some (.bool x.del) ∧ w'.cell? ⟨b, off + k * 3 + 2, none⟩ = some (.slice A2 x.val.length c2) ∧ w'.cell? ⟨b2, off2 + k * 3, none⟩ = some (.string x.key) ∧ w'.cell? ⟨b2, off2 + k * 3 + 1, none⟩ = some (.bool x.del) ∧ w'.cell? ⟨b2, off2 + k * 3 + 2, none⟩ = some (.slice B2 x.val.length e2))
        (first | exact HS.out _ hb0 | exact HS.out _ (by assumption))
        (first | (go_at_call 153; refine (eqStoWrite_same _ _ _ x (HR.out _ hb0) (HR2.out _ hb0)).mono ?_; rintro e w' ⟨rfl, hb'⟩; have hq := belowNext hb0 hb'; clear hb'))
      go_wp2
      go_roundw
      case rel => exact ⟨k + 1, by omega, by go_num, by assumption⟩
      case measure => simp [intOf]; omega
    · clear hv hu
      go_wp2
      go_ret
      exact ⟨rfl, hb⟩

end Go.Proofs.Ytkamlibfcakblaa
