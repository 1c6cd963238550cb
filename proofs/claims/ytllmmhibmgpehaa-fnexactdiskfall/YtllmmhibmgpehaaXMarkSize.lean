/- Texts that follow each other, merged: MarkSize, MarkWt, MarkWt2, HMark. -/
import Derived.Test.YtllmmhibmgpehaaXMark
import Derived.Test.YtllmmhibmgpehaaXFrameRow
import Derived.Test.YtllmmhibmgpehaaXStoMap
import Derived.Test.YtllmmhibmgpehaaXHTo
import Derived.Deep.RegionHeld3

/- How long a mark's text is. -/
namespace Go.Proofs.Ytllmmhibmgpehaa
open Go.RowKit

theorem decs_size : ∀ (n : Nat) (k : Int) (s : ByteArray), k.toNat ≤ n → (decs k s).size ≤ n + s.size
  | n, k, s, h => by
    by_cases hk : 0 < k
    · cases n with
      | zero => omega
      | succ n =>
        rw [← decs_step s hk]
        have := decs_size n (k / 10) (digT (k % 10) ++ s) (by omega)
        rw [ByteArray.size_append, digT_size] at this
        omega
    · rw [decs_end s (by omega)]; omega
theorem markS_size {k : Int} (h : k ≤ 1000000000000000) : (markS k).size ≤ maxLen := by
  unfold markS maxLen
  rw [ByteArray.size_append]
  have h1 := decs_size k.toNat k ⟨#[]⟩ (Nat.le_refl _)
  have h2 : (⟨#[]⟩ : ByteArray).size = 0 := rfl
  have h3 : (⟨#[109]⟩ : ByteArray).size = 1 := rfl
  omega

end Go.Proofs.Ytllmmhibmgpehaa

/- How much weighs what bears marks. -/
namespace Go.Proofs.Ytllmmhibmgpehaa
open Go.RowKit

theorem markS_small {k : Int} : (markS k).size ≤ k.toNat + 1 := by
  unfold markS
  rw [ByteArray.size_append]
  have h1 := decs_size k.toNat k ⟨#[]⟩ (Nat.le_refl _)
  have h2 : (⟨#[]⟩ : ByteArray).size = 0 := rfl
  have h3 : (⟨#[109]⟩ : ByteArray).size = 1 := rfl
  omega
/-- What bears marks up to M weighs at most so much a mark. -/
def WtLe {α : Type} (A : Sh α) (M c : Nat) : Prop := ∀ (k : Int) (x : α), A.mkd k x → 0 ≤ k → k + A.cnt x ≤ M → A.wt x ≤ A.cnt x * c
section
variable {α β : Type} {A : Sh α} {B : Sh β} {M c : Nat}
theorem WtLe.int : WtLe Sh.int M c := fun _ _ _ _ _ => Nat.zero_le _
theorem WtLe.bool : WtLe Sh.bool M c := fun _ _ _ _ _ => Nat.zero_le _
theorem WtLe.str (hMc : M + 2 ≤ c) : WtLe strSh M c := fun k x h h0 hM => by
  have e : x = markS k := h
  have hc : strSh.cnt x = 1 := rfl
  rw [hc] at hM ⊢
  have hw : strSh.wt x = x.size := rfl
  rw [hw, e]
  have := markS_small (k := k)
  omega
theorem WtLe.pair (hA : WtLe A M c) (hB : WtLe B M c) : WtLe (A.pair B) M c := fun k x h h0 hM => by
  obtain ⟨h1, h2⟩ := h
  have hc : (A.pair B).cnt x = A.cnt x.1 + B.cnt x.2 := rfl
  have hw : (A.pair B).wt x = A.wt x.1 + B.wt x.2 := rfl
  rw [hc] at hM ⊢
  rw [hw, Nat.add_mul]
  have a := hA k x.1 h1 h0 (by omega)
  have b := hB _ x.2 h2 (by omega) (by omega)
  omega
theorem WtLe.conv {f : β → α} {g : α → β} {hg : f (g A.z) = A.z} (hA : WtLe A M c) : WtLe (A.conv f g hg) M c := fun k x h h0 hM => hA k (f x) h h0 hM
theorem WtLe.rows (hA : WtLe A M c) : ∀ (l : List α) (k : Int), mkdL A.cnt A.mkd k l → 0 ≤ k → k + cntL A.cnt l ≤ M → wtL A.wt l ≤ l.length + cntL A.cnt l * c
  | [], _, _, _, _ => by simp [wtL, cntL]
  | x :: l, k, h, h0, hM => by
    obtain ⟨h1, h2⟩ := h
    have hc : cntL A.cnt (x :: l) = A.cnt x + cntL A.cnt l := rfl
    have hw : wtL A.wt (x :: l) = 1 + A.wt x + wtL A.wt l := rfl
    rw [hc] at hM ⊢
    rw [hw, Nat.add_mul, List.length_cons]
    have a := hA k x h1 h0 (by omega)
    have b := WtLe.rows hA l _ h2 (by omega) (by omega)
    omega
theorem ints_wt (x : List Int) : intsSh.wt x = x.length := by
  show wtL (fun _ => 0) x = x.length
  induction x with
  | nil => rfl
  | cons a l ih => simp only [wtL, List.length_cons]; omega
theorem ints_cnt (x : List Int) : intsSh.cnt x = x.length := by
  show cntL (fun _ => 1) x = x.length
  induction x with
  | nil => rfl
  | cons a l ih => simp only [cntL, List.length_cons]; omega
theorem WtLe.ints (hc : 1 ≤ c) : WtLe intsSh M c := fun k x _ _ _ => by
  rw [ints_wt, ints_cnt]
  exact Nat.le_mul_of_pos_right _ (by omega)
theorem WtLe.it (h : M + 2 ≤ c) : WtLe itSh M c := WtLe.conv (WtLe.pair (WtLe.str h) (WtLe.ints (by omega)))
theorem WtLe.wr (h : M + 2 ≤ c) : WtLe wrSh M c := WtLe.conv (WtLe.pair (WtLe.str h) (WtLe.pair WtLe.bool (WtLe.ints (by omega))))
/-- Things, as many as they are: each bears a mark. -/
theorem its_len (l : List Item) : l.length ≤ cntL itSh.cnt l := by
  induction l with
  | nil => simp
  | cons a l ih =>
    have : itSh.cnt a = 1 + intsSh.cnt a.val := rfl
    simp only [cntL, List.length_cons]; omega
theorem its_wt {M : Nat} {l : List Item} {k : Int} (h : mkdL itSh.cnt itSh.mkd k l) (h0 : 0 ≤ k) (hM : k + cntL itSh.cnt l ≤ M) : wtL itSh.wt l ≤ cntL itSh.cnt l * (M + 3) := by
  have h1 := WtLe.rows (WtLe.it (Nat.le_refl (M + 2))) l k h h0 hM
  have h2 := its_len l
  have h3 : cntL itSh.cnt l * (M + 3) = cntL itSh.cnt l * (M + 2) + cntL itSh.cnt l := by rw [show M + 3 = M + 2 + 1 by omega, Nat.mul_succ]
  omega
end
/-- How many marks things bear that are short. -/
theorem its_cnt {its : List Item} (h : ∀ it ∈ its, it.val.length ≤ 3) : cntL itSh.cnt its ≤ 4 * its.length := by
  induction its with
  | nil => simp [cntL]
  | cons x l ih =>
    have h1 := h x (List.mem_cons_self ..)
    have h2 := ih fun y hy => h y (List.mem_cons_of_mem _ hy)
    have hc : itSh.cnt x = 1 + intsSh.cnt x.val := rfl
    have hc2 := ints_cnt x.val
    simp only [cntL, List.length_cons]
    omega

end Go.Proofs.Ytllmmhibmgpehaa

/- How much weighs what bears marks, by the digits of the marks. -/
namespace Go.Proofs.Ytllmmhibmgpehaa
open Go.RowKit

theorem decs_digits : ∀ (d : Nat) (k : Int) (s : ByteArray), k < (10 : Int) ^ d → (decs k s).size ≤ d + s.size
  | 0, k, s, h => by rw [decs_end s (by simp at h; omega)]; omega
  | d + 1, k, s, h => by
    by_cases hk : 0 < k
    · rw [← decs_step s hk]
      have hd : k / 10 < (10 : Int) ^ d := by
        rw [Int.pow_succ] at h
        omega
      have := decs_digits d (k / 10) (digT (k % 10) ++ s) hd
      rw [ByteArray.size_append, digT_size] at this
      omega
    · rw [decs_end s (by omega)]; omega
theorem markS_digits {k : Int} (h : k ≤ 99999) : (markS k).size ≤ 6 := by
  unfold markS
  rw [ByteArray.size_append]
  have h1 := decs_digits 5 k ⟨#[]⟩ (by omega)
  have h2 : (⟨#[]⟩ : ByteArray).size = 0 := rfl
  have h3 : (⟨#[109]⟩ : ByteArray).size = 1 := rfl
  omega
section
variable {α : Type} {A : Sh α} {M c : Nat}
theorem WtLe.strD : WtLe strSh 99999 6 := fun k x h h0 hM => by
  have e : x = markS k := h
  have hc : strSh.cnt x = 1 := rfl
  rw [hc] at hM ⊢
  have hw : strSh.wt x = x.size := rfl
  rw [hw, e]
  have := markS_digits (k := k) (by omega)
  omega
theorem WtLe.more {c' : Nat} (h : WtLe A M c) (hc : c ≤ c') : WtLe A M c' := fun k x hm h0 hM => Nat.le_trans (h k x hm h0 hM) (Nat.mul_le_mul_left _ hc)
theorem len_cnt (hA : ∀ x, 1 ≤ A.cnt x) : ∀ l : List α, l.length ≤ cntL A.cnt l
  | [] => Nat.zero_le _
  | x :: l => by
    have h1 := hA x
    have h2 := len_cnt hA l
    simp only [cntL, List.length_cons]; omega
theorem WtLe.sl (h : WtLe A M c) (hA : ∀ x, 1 ≤ A.cnt x) (e : TypeId) (hb : A.base ≤ 16) : WtLe (A.sl e hb) M (c + 1) := fun k l hm h0 hM => by
  have h1 := WtLe.rows h l k hm h0 hM
  have h2 := len_cnt hA l
  show wtL A.wt l ≤ cntL A.cnt l * (c + 1)
  rw [Nat.mul_succ]; omega
end
theorem wtNoteM : WtLe noteSh 99999 7 := WtLe.conv (WtLe.pair (WtLe.int) (WtLe.pair (WtLe.int) (WtLe.pair ((WtLe.strD.sl (fun _ => Nat.le_refl _) _ _)) (WtLe.sl (A := wrSh) (WtLe.conv (WtLe.pair WtLe.strD (WtLe.pair WtLe.bool (WtLe.ints (by omega))))) (fun x => by show 1 ≤ 1 + _; omega) _ _))))
theorem wtNotesM : WtLe notesSh 99999 8 := wtNoteM.sl (fun x => by show 1 ≤ 1 + _; omega) _ _
/-- How many marks a place's notes bear, and a note. -/
def dCnt (x : Disk) : Nat := cntL noteSh.cnt x.notes
def dMk (k : Int) (x : Disk) : Prop := mkdL noteSh.cnt noteSh.mkd k x.notes
def nCnt (x : Note) : Nat := cntL strSh.cnt x.locks + cntL wrSh.cnt x.writes
def nMk (k : Int) (x : Note) : Prop := mkdL strSh.cnt strSh.mkd k x.locks ∧ mkdL wrSh.cnt wrSh.mkd (k + cntL strSh.cnt x.locks) x.writes
theorem strs_cntE : ∀ (l : List ByteArray), cntL strSh.cnt l = l.length
  | [] => rfl
  | x :: l => by
    have e : cntL strSh.cnt (x :: l) = 1 + cntL strSh.cnt l := rfl
    rw [e, strs_cntE l, List.length_cons]; omega
theorem wrs_cntE : ∀ {l : List Wr}, (∀ x ∈ l, x.val.length ≤ 3 ∧ x.key.size ≤ 3) → cntL wrSh.cnt l ≤ 5 * l.length ∧ wtL wrSh.wt l ≤ 7 * l.length
  | [], _ => ⟨Nat.zero_le _, Nat.zero_le _⟩
  | x :: l, h => by
    have h1 := h x (List.mem_cons_self ..)
    obtain ⟨h2, h3⟩ := wrs_cntE (l := l) fun y hy => h y (List.mem_cons_of_mem _ hy)
    have e2 : cntL wrSh.cnt (x :: l) = (1 + (1 + intsSh.cnt x.val)) + cntL wrSh.cnt l := rfl
    have e3 : wtL wrSh.wt (x :: l) = 1 + (x.key.size + (0 + intsSh.wt x.val)) + wtL wrSh.wt l := rfl
    have e4 := ints_cnt x.val
    have e5 := ints_wt x.val
    rw [e2, e3, List.length_cons]; omega
theorem strs_wtE : ∀ {l : List ByteArray}, (∀ k ∈ l, k.size ≤ 3) → wtL strSh.wt l ≤ 4 * l.length
  | [], _ => Nat.zero_le _
  | x :: l, h => by
    have h1 := h x (List.mem_cons_self ..)
    have h2 := strs_wtE (l := l) fun y hy => h y (List.mem_cons_of_mem _ hy)
    have e : wtL strSh.wt (x :: l) = 1 + x.size + wtL strSh.wt l := rfl
    rw [e, List.length_cons]; omega
theorem note_cnt {n : Note} (h : noteB n = true) : noteSh.cnt n ≤ 74 ∧ noteSh.wt n ≤ 132 := by
  obtain ⟨h1, h2, h3, h4⟩ := noteB_small h
  have e1 := strs_cntE n.locks
  obtain ⟨e2, e3⟩ := wrs_cntE h3
  have e4 := strs_wtE h4
  have e5 : noteSh.cnt n = 1 + (1 + (cntL strSh.cnt n.locks + cntL wrSh.cnt n.writes)) := rfl
  have e6 : noteSh.wt n = 0 + (0 + (wtL strSh.wt n.locks + wtL wrSh.wt n.writes)) := rfl
  omega
theorem notes_cnt : ∀ {l : List Note}, (∀ n ∈ l, noteB n = true) → cntL noteSh.cnt l ≤ 74 * l.length ∧ wtL noteSh.wt l ≤ 133 * l.length
  | [], _ => ⟨Nat.zero_le _, Nat.zero_le _⟩
  | x :: l, h => by
    have h1 := note_cnt (h x (List.mem_cons_self ..))
    have h2 := notes_cnt (l := l) fun y hy => h y (List.mem_cons_of_mem _ hy)
    simp only [cntL, wtL, List.length_cons]; omega
/-- How much is what is ok, and how much when it bears marks. -/
theorem disk_small {x : Disk} (h : diskB x = true) : dCnt x ≤ 8880 ∧ diskSh.wt x ≤ 16000 := by
  obtain ⟨h1, h2⟩ := diskB_small h
  obtain ⟨h3, h4⟩ := notes_cnt h2
  have e : diskSh.wt x = wtL noteSh.wt x.notes + 0 := rfl
  unfold dCnt
  omega
theorem disk_marked {y : Disk} {k : Int} {c : Nat} (h : dMk k y) (h0 : 0 ≤ k) (hc : dCnt y = c) (hk : k + c ≤ 99999) : diskSh.wt y ≤ 1048576 := by
  have h1 := wtNotesM k y.notes h h0 (by show k + (cntL noteSh.cnt y.notes : Int) ≤ _; unfold dCnt at hc; omega)
  have e : diskSh.wt y = notesSh.wt y.notes + 0 := rfl
  have e2 : notesSh.cnt y.notes = c := hc
  rw [e2] at h1
  have : c ≤ 99999 := by omega
  omega

end Go.Proofs.Ytllmmhibmgpehaa

/- Marks on numbers and on texts, by shapes. -/
namespace Go.Proofs.Ytllmmhibmgpehaa
open Go.RowKit

theorem int_eq {a b : Int} (h : a = b) : Value.int .i64 a = .int .i64 b := by rw [h]
theorem cntInts (xs : List Int) : cntL Sh.int.cnt xs = xs.length := by
  show cntL (fun _ => 1) xs = xs.length
  induction xs with
  | nil => rfl
  | cons x l ih => simp only [cntL, List.length_cons, ih]; omega
theorem cntStrs (xs : List ByteArray) : cntL strSh.cnt xs = xs.length := by
  show cntL (fun _ => 1) xs = xs.length
  induction xs with
  | nil => rfl
  | cons x l ih => simp only [cntL, List.length_cons, ih]; omega
theorem intsOwn {w : World} {S : Nat → Prop} {v : Value} {xs : List Int} (h : Sh.int.Own 3 w S v xs) : OwnInts w 0 v xs := by
  obtain ⟨C, F, h1, h2, h3, h4⟩ := h
  have hC : flat C xs.length = xs.map (Value.int .i64) := by
    symm
    refine flat_ext (d := 1) (fun j hj => ?_) (by simp) fun j i hj hi => ?_
    · have := (h3 j _ (List.getElem?_eq_getElem hj)).1
      have e : C j = [.int .i64 xs[j]] := this
      rw [e]; rfl
    · have := (h3 j _ (List.getElem?_eq_getElem hj)).1
      have e : C j = [.int .i64 xs[j]] := this
      have hi0 : i = 0 := by omega
      subst hi0
      rw [e, Nat.mul_one, Nat.add_zero, List.getElem?_map, List.getElem?_eq_getElem hj]
      rfl
  unfold OwnInts
  rw [← hC]
  exact h1
theorem ownInts {w : World} {lo : Nat} {S : Nat → Prop} {v : Value} {xs : List Int} (h : OwnInts w lo v xs) (hS : ∀ g, v.ownBlock = some g → S g) : Sh.int.Own 3 w S v xs := by
  refine ⟨fun j => [.int .i64 (nth xs j)], fun _ _ => False, ?_, hS, fun j x hx => ⟨?_, fun _ h => h.elim⟩, fun i j b _ _ h => h.elim⟩
  · have e : flat (fun j => [Value.int .i64 (nth xs j)]) xs.length = xs.map (Value.int .i64) := by
      symm
      refine flat_ext (d := 1) (fun _ _ => rfl) (by simp) fun j i hj hi => ?_
      have hi0 : i = 0 := by omega
      subst hi0
      rw [Nat.mul_one, Nat.add_zero, List.getElem?_map, List.getElem?_eq_getElem hj, nth_get hj]
      rfl
    rw [e]
    exact ⟨h.1, h.2.elim .inl fun ⟨g, cap, cur, a, _, r⟩ => .inr ⟨g, cap, cur, a, Nat.zero_le _, r⟩⟩
  · obtain ⟨hj, rfl⟩ := List.getElem?_eq_some_iff.1 hx
    show [Value.int .i64 (nth xs j)] = [.int .i64 xs[j]]
    rw [nth_get hj]
theorem mkdInts : ∀ {ys : List Int} {k : Int}, Marked ys k ys.length → mkdL Sh.int.cnt Sh.int.mkd k ys
  | [], _, _ => trivial
  | y :: ys, k, h => by
    refine ⟨?_, mkdInts fun j hj => ?_⟩
    · have := h 0 (by simp)
      show y = k
      simpa [nth] using this
    · have := h (j + 1) (by simp; omega)
      have e : nth (y :: ys) (j + 1) = nth ys j := by simp [nth]
      rw [e] at this
      rw [this]
      show k + ((j + 1 : Nat) : Int) = k + ((1 : Nat) : Int) + j
      omega
theorem mkdInts' : ∀ {ys : List Int} {k : Int}, mkdL Sh.int.cnt Sh.int.mkd k ys → Marked ys k ys.length
  | [], _, _ => fun j h => absurd h (by simp)
  | y :: ys, k, h => by
    intro j hj
    cases j with
    | zero =>
      have : y = k := h.1
      simpa [nth] using this
    | succ j =>
      have h2 := mkdInts' h.2 j (by simpa using hj)
      have e : nth (y :: ys) (j + 1) = nth ys j := by simp [nth]
      rw [e, h2]
      show k + ((1 : Nat) : Int) + j = k + ((j + 1 : Nat) : Int)
      omega

theorem markIntS_sh (w : World) (S : Nat → Prop) (v : Value) (xs : List Int) (hv : Sh.int.Own 3 w S v xs) (k : Int) (hl : intsSh.wt xs ≤ 1048576) (h0 : 1 ≤ k) (h1 : k + 16 * (intsSh.wt xs : Int) ≤ 1000000000000000) :
    Calls Try.prog 40 #[v, .int .i64 k] w (MarkedSl Sh.int 3 S v xs k w) := by
  have hw := wtInts xs
  have hS : ∀ g, v.ownBlock = some g → S g := by obtain ⟨_, _, _, h2, _⟩ := hv; exact h2
  refine (markIntS_any w 0 v xs (intsOwn hv) k (by omega) (by omega) (by omega)).mono ?_
  rintro e w' ⟨ys, rfl, hyl, hm, ho, hg, hz⟩
  refine ⟨ys, ?_, hyl, ?_, mkdInts (hyl ▸ hm), ownInts ho hS, Outs.of_grown hg hS⟩
  · rw [cntInts]
  · rw [cntInts, cntInts, hyl]
theorem heldIntS_sh (w : World) (v : Value) (xs : List Int) (hv : Sh.int.Row w w.heap.size v xs) (k : Int) (hl : intsSh.wt xs ≤ 1048576) (h0 : 1 ≤ k) (h1 : k + 16 * (intsSh.wt xs : Int) ≤ 1000000000000000) (hm : mkdL Sh.int.cnt Sh.int.mkd k xs) :
    Calls Try.prog 41 #[v, .int .i64 k] w fun e w' => e = .returned (.int .i64 (k + cntL Sh.int.cnt xs)) ∧ Below w.heap.size w w' := by
  have hw := wtInts xs
  refine (heldIntS_any w _ v xs (ints_row.1 hv) k (by omega) (by omega) (by omega) (mkdInts' hm)).mono ?_
  rintro e w' ⟨rfl, rfl⟩
  exact ⟨by rw [cntInts], Below.refl _ _⟩

/-- One element, the list written with it. -/
theorem Sh.Own.focus {α : Type} {A : Sh α} {e : TypeId} {w : World} {S : Nat → Prop} {g n cap m : Nat} {ys : List α} {x : α} (h : A.Own e w S (.slice (some ⟨g, 0, none⟩) n cap) (ys.set m x)) (hm : m < ys.length) : ∃ cs Sj, A.own w Sj cs x ∧ (∀ b, Sj b → S b ∧ b ≠ g) ∧ S g ∧
    (∀ i u, cs[i]? = some u → w.cell? ⟨g, m * A.wd + i, none⟩ = some u) ∧ (∀ i, w.frozen? ⟨g, i, none⟩ = false) ∧
    (∀ w' x', A.own w' Sj cs x' → Outs Sj w w' → A.Own e w' S (.slice (some ⟨g, 0, none⟩) n cap) (ys.set m x')) ∧
    ∀ i u x', i < A.wd → A.own (w.setCell ⟨g, m * A.wd + i, none⟩ u) Sj (cs.set i u) x' → A.Own e (w.setCell ⟨g, m * A.wd + i, none⟩ u) S (.slice (some ⟨g, 0, none⟩) n cap) (ys.set m x') := by
  obtain ⟨g', cap', x', cs, Sj, e1, hx, hSg, _, ho, hS, hc, hf, hk, hp⟩ := h.at_ (j := m) (by rw [List.length_set]; exact hm)
  injection e1 with e1a e1b e1c
  injection e1a with e1a
  injection e1a with e1a
  subst e1a
  rw [List.getElem?_set_self hm] at hx
  injection hx with hx
  subst hx
  refine ⟨cs, Sj, ho, hS, hSg, hc, hf, fun w' x' h1 h2 => ?_, fun i u x' hi h1 => ?_⟩
  · have := hk w' x' h1 h2
    rwa [List.set_set] at this
  · have := hp i u Sj x' hi h1 (fun _ h => .inl h)
    rw [List.set_set] at this
    exact this.mono fun b hb => hb.elim id (fun h => (hS b h).1)
theorem strsLen (xs : List ByteArray) : xs.length ≤ strsSh.wt xs := wtL_len _ _
set_option maxRecDepth 100000 in
theorem markStringS_sh (w : World) (S : Nat → Prop) (v : Value) (xs : List ByteArray) (hv : strSh.Own 9 w S v xs) (k : Int) (hl : strsSh.wt xs ≤ 1048576) (h0 : 1 ≤ k) (h1 : k + 16 * (strsSh.wt xs : Int) ≤ 1000000000000000) :
    Calls Try.prog 45 #[v, .int .i64 k] w (MarkedSl strSh 9 S v xs k w) := by
  have hn := strsLen xs
  obtain ⟨Ad, c, hvf, hc2, hc1⟩ := hv.row.form
  subst hvf
  unfold maxLen at hc2
  have HV := Lib.hid hv
  have HC := Lib.hid (cntStrs xs)
  clear hv
  go_enter Try.func45, Try.ntmps45
  go_wp2
  go_loopw [1, 5] (fun q i wr => ∃ (m : Nat) (ys : List ByteArray), m ≤ xs.length ∧ i = .int .i64 m ∧ q = .int .i64 (k + m) ∧ ys.length = xs.length ∧ MkTo strSh.cnt strSh.mkd k ys m ∧ strSh.Own 9 wr S (.slice Ad xs.length c) ys ∧ Outs S w wr) (fun _ i _ => xs.length - (intOf i).toNat)
  case atStart => exact ⟨0, xs, Nat.zero_le _, rfl, by go_num, rfl, MkTo.start _ _ _ _, HV.out, Outs.refl _ _⟩
  case round =>
    clear HV
    obtain ⟨m, ys, hm, rfl, rfl, hyl, hmk, hown, hout⟩ := hrel
    by_cases hlt : m < xs.length
    · have HYl := Lib.hid hyl
      have HMk := Lib.hid hmk
      have HO := Lib.hid hown
      have HOut := Lib.hid hout
      obtain ⟨g, cap, y, cs, Sj, e1, -, hSg, hgw, -, -, -, -, -, -⟩ := hown.at_ (j := m) (by omega)
      rw [hyl] at e1
      injection e1 with e1a e1b e1c
      subst e1a e1c
      clear e1b hyl hmk hown hout
      go_wp2_with fail
      refine (markText_any _ _ (by omega) (by omega)).mono ?_
      rintro e w1 ⟨rfl, hb1⟩
      obtain ⟨g', cap', y', cs', Sj', e2, hy', -, -, ⟨rfl, hys⟩, -, hcell, hfr, -, hput⟩ := (HO.out.below hb1).at_ (j := m) (by rw [HYl.out]; exact hlt)
      rw [HYl.out] at e2
      injection e2 with e2a e2b e2c
      injection e2a with e2a
      injection e2a with e2a
      subst e2a
      have hwd : m * strSh.wd + 0 = m := Nat.mul_one m
      have c0 := hcell 0 _ rfl
      rw [hwd] at c0
      have f0 := hfr m
      have hp := hput 0 (.string (markS (k + m))) (fun _ => False) (markS (k + m)) (by decide) ⟨rfl, markS_size (by omega)⟩ (fun _ h => h.elim)
      rw [hwd] at hp
      have hmS : MkTo strSh.cnt strSh.mkd k (ys.set m (markS (k + m))) (m + 1) := HMk.out.step (by rw [HYl.out]; exact hlt) (by
        show markS (k + m) = markS (k + cntL strSh.cnt (ys.take m))
        rw [cntStrs, List.length_take, HYl.out, Nat.min_eq_left (Nat.le_of_lt hlt)])
      have HP := Lib.hid (hp.mono (S' := S) fun b hb => hb.elim id (fun h => h.elim))
      have HM2 := Lib.hid hmS
      have HO2 := Lib.hid ((HOut.out.trans (Outs.of_below hb1)).trans (Outs.of_set w1 ⟨g, m, none⟩ (.string (markS (k + m))) hSg))
      clear hp hmS hput hcell hfr hb1 e2b e2c hy' HO HOut HMk
      go_wp2
      go_roundw
      case rel => exact ⟨m + 1, ys.set m (markS (k + m)), by omega, by go_num, by go_num, by rw [List.length_set]; exact HYl.out, HM2.out, HP.out, HO2.out⟩
      case measure => simp [intOf]; omega
    · obtain rfl : m = xs.length := by omega
      have HYl := Lib.hid hyl
      have HMk := Lib.hid hmk
      have HO := Lib.hid hown
      have HOut := Lib.hid hout
      clear hyl hmk hown hout
      go_wp2
      go_ret
      exact ⟨ys, ret_int (by rw [HC.out]), HYl.out, by rw [cntStrs, cntStrs, HYl.out], MkTo.all (HYl.out.symm ▸ HMk.out), HO.out, HOut.out⟩

set_option maxRecDepth 100000 in
theorem heldStringS_sh (w : World) (v : Value) (xs : List ByteArray) (hv : strSh.Row w w.heap.size v xs) (k : Int) (hl : strsSh.wt xs ≤ 1048576) (h0 : 1 ≤ k) (h1 : k + 16 * (strsSh.wt xs : Int) ≤ 1000000000000000) (hm : mkdL strSh.cnt strSh.mkd k xs) :
    Calls Try.prog 46 #[v, .int .i64 k] w fun e w' => e = .returned (.int .i64 (k + cntL strSh.cnt xs)) ∧ Below w.heap.size w w' := by
  have hn := strsLen xs
  obtain ⟨Ad, c, hvf, hc2, hc1⟩ := hv.form
  subst hvf
  unfold maxLen at hc2
  have HC := Lib.hid (cntStrs xs)
  have HM := Lib.hid hm
  clear hm
  go_enter Try.func46, Try.ntmps46
  go_wp2
  go_loopw [1, 5] (fun q i wr => ∃ m : Nat, m ≤ xs.length ∧ i = .int .i64 m ∧ q = .int .i64 (k + m) ∧ Below w.heap.size w wr) (fun _ i _ => xs.length - (intOf i).toNat)
  case atStart => exact ⟨0, Nat.zero_le _, rfl, by go_num, Below.refl _ _⟩
  case round =>
    obtain ⟨m, hm, rfl, rfl, hb⟩ := hrel
    by_cases hlt : m < xs.length
    · obtain ⟨b, off, c', x, e1, hx, hB, hs, ck⟩ := strs_at hv hlt
      injection e1 with e1a e1b e1c
      subst e1a
      have hxm : x = markS (k + m) := by
        have := mkdL_at HM.out hx
        rw [cntStrs, List.length_take, Nat.min_eq_left (Nat.le_of_lt hlt)] at this
        exact this
      subst hxm
      have HS := Lib.hid fun (y : World) (hy : Below w.heap.size w y) => (hy.cell (p := ⟨b, off + m, none⟩) hB).trans ck
      have d0 := HS.out wr hb
      have hb0 := hb.drew
      have f3 : (0 : Int) ≤ (m : Int) := by omega
      have f4 : (m : Int) < (xs.length : Int) := by omega
      clear e1b e1c hv hx ck
      go_wp2
      go_region_held3 (fun w' => w'.cell? ⟨b, off + m, none⟩ = some (.string (markS (k + m))))
        (first | exact HS.out _ hb0 | exact HS.out _ (by assumption))
        (first | (go_at_call 101; refine (markText_any _ _ (by omega) (by omega)).mono ?_; rintro e w' ⟨rfl, hb'⟩; have hq := belowNext hb0 hb'; clear hb'))
      go_wp2
      go_roundw
      case rel => exact ⟨m + 1, by omega, by go_num, by go_num, by assumption⟩
      case measure => simp [intOf]; omega
    · obtain rfl : m = xs.length := by omega
      clear hv
      go_wp2
      go_ret
      exact ⟨ret_int (by rw [HC.out]), hb⟩

end Go.Proofs.Ytllmmhibmgpehaa
