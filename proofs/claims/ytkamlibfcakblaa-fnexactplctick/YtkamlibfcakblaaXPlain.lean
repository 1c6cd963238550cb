/- Texts that follow each other, merged: Plain, Mem, Frame, Items, FrameSto, FrameInt. -/
import Derived.Below
import Derived.Deep.Draws
import Derived.Deep.OwnRows
import Derived.Test.YtkamlibfcakblaaRows
import Derived.WalkKit
import Derived.ProofKit
import Derived.OpenShut
import Derived.ShutString
import Derived.ChangeOld
import Derived.Lib.SmallJoins
import GoSem.Op.String
import Derived.Deep.Slices
import Derived.Deep.Fields

/- The plain functions of the store, over bytes and integers: nothing of the program. -/
namespace Go.Proofs.Ytkamlibfcakblaa

/-- The bytes from place 1 up to k are digits. -/
def Digs (s : ByteArray) (k : Nat) : Prop := ∀ j, ∀ h : j < s.size, 1 ≤ j → j < k → 48 ≤ (s[j]'h).toNat ∧ (s[j]'h).toNat ≤ 57

/-- A name: a small letter, and one or two digits. -/
def keyB (s : ByteArray) : Bool :=
  decide (2 ≤ s.size ∧ s.size ≤ 3 ∧ (∀ h : 0 < s.size, 97 ≤ (s[0]'h).toNat ∧ (s[0]'h).toNat ≤ 122) ∧ ∀ j, ∀ h : j < s.size, 1 ≤ j → 48 ≤ (s[j]'h).toNat ∧ (s[j]'h).toNat ≤ 57)

theorem keyB_size {s : ByteArray} (h : (s.size : Int) < 2 ∨ 3 < (s.size : Int)) : keyB s = false := by
  unfold keyB; rw [decide_eq_false_iff_not]; rintro ⟨a, b, _⟩; omega
theorem keyB_head {s : ByteArray} (h0 : 0 < s.size) (h : ((s[0]'h0).toNat : Int) < 97 ∨ 122 < ((s[0]'h0).toNat : Int)) : keyB s = false := by
  unfold keyB; rw [decide_eq_false_iff_not]; rintro ⟨_, _, c, _⟩; have := c h0; omega
theorem keyB_digit {s : ByteArray} {k : Nat} (hk : k < s.size) (h1 : 1 ≤ k) (h : ((s[k]'hk).toNat : Int) < 48 ∨ 57 < ((s[k]'hk).toNat : Int)) : keyB s = false := by
  unfold keyB; rw [decide_eq_false_iff_not]; rintro ⟨_, _, _, d⟩; have := d k hk h1; omega
theorem keyB_yes {s : ByteArray} (h2 : 2 ≤ (s.size : Int)) (h3 : (s.size : Int) ≤ 3) (h0 : 0 < s.size) (ha : 97 ≤ ((s[0]'h0).toNat : Int)) (hz : ((s[0]'h0).toNat : Int) ≤ 122) (hd : Digs s s.size) : keyB s = true := by
  unfold keyB; rw [decide_eq_true_iff]; exact ⟨by omega, by omega, fun _ => ⟨by omega, by omega⟩, fun j h h1 => hd j h h1 h⟩
theorem Digs.start (s : ByteArray) : Digs s 1 := fun j _ h1 h => absurd h (by omega)
theorem Digs.step {s : ByteArray} {k : Nat} (h : Digs s k) (hk : k < s.size) (ha : 48 ≤ ((s[k]'hk).toNat : Int)) (hz : ((s[k]'hk).toNat : Int) ≤ 57) : Digs s (k + 1) := by
  intro j hj h1 hjk
  rcases Nat.lt_or_ge j k with hlt | hge
  · exact h j hj h1 hlt
  · have : j = k := by omega
    subst this
    exact ⟨by omega, by omega⟩
theorem keyB_le {s : ByteArray} (h : keyB s = true) : s.size ≤ 3 := by
  unfold keyB at h; rw [decide_eq_true_iff] at h; exact h.2.1

/-- Whether a number is in bounds. -/
def inB (n lo hi : Int) : Bool := decide (lo ≤ n ∧ n ≤ hi)
theorem inB_yes {n lo hi : Int} (h : lo ≤ n) (h' : n ≤ hi) : inB n lo hi = true := by unfold inB; rw [decide_eq_true_iff]; exact ⟨h, h'⟩
theorem inB_no {n lo hi : Int} (h : n < lo ∨ hi < n) : inB n lo hi = false := by unfold inB; rw [decide_eq_false_iff_not]; omega
/-- The number at a place. -/
def nth (l : List Int) (j : Nat) : Int := l[j]?.getD 0
theorem nth_get {l : List Int} {j : Nat} (h : j < l.length) : nth l j = l[j] := by unfold nth; rw [List.getElem?_eq_getElem h]; rfl

/-- The numbers of a thing: one to three, each from 0 to 9999. -/
def valB (l : List Int) : Bool :=
  decide (1 ≤ l.length ∧ l.length ≤ 3) && l.all fun n => decide (0 ≤ n ∧ n ≤ 9999)
/-- The first k numbers are ones. -/
def Nums (l : List Int) (k : Nat) : Prop := ∀ j, j < k → j < l.length → 0 ≤ nth l j ∧ nth l j ≤ 9999
theorem Nums.start (l : List Int) : Nums l 0 := fun j h => absurd h (by omega)
theorem Nums.step {l : List Int} {k : Nat} (h : Nums l k) (h0 : 0 ≤ nth l k) (h1 : nth l k ≤ 9999) : Nums l (k + 1) := by
  intro j hj hl
  rcases Nat.lt_or_ge j k with hlt | hge
  · exact h j hlt hl
  · have : j = k := by omega
    subst this; exact ⟨h0, h1⟩
theorem valB_size {l : List Int} (h : l.length < 1 ∨ 3 < l.length) : valB l = false := by
  unfold valB; rw [Bool.and_eq_false_iff]; left; rw [decide_eq_false_iff_not]; omega
theorem valB_bad {l : List Int} {k : Nat} (hk : k < l.length) (h : nth l k < 0 ∨ 9999 < nth l k) : valB l = false := by
  unfold valB; rw [Bool.and_eq_false_iff]; right; rw [List.all_eq_false]
  refine ⟨l[k], List.getElem_mem hk, ?_⟩
  rw [nth_get hk] at h
  simp only [decide_eq_true_eq]; omega
theorem valB_nums {l : List Int} (h : Nums l l.length) : valB l = decide (1 ≤ l.length ∧ l.length ≤ 3) := by
  unfold valB
  have : (l.all fun n => decide (0 ≤ n ∧ n ≤ 9999)) = true := by
    rw [List.all_eq_true]
    intro x hx
    obtain ⟨j, hj, rfl⟩ := List.getElem_of_mem hx
    have := h j hj hj
    rw [nth_get hj] at this
    simpa using this
  rw [this, Bool.and_true]
theorem valB_in {l : List Int} (h : Nums l l.length) : valB l = inB (l.length : Int) 1 3 := by
  rw [valB_nums h]; unfold inB; rw [Bool.eq_iff_iff]; simp only [decide_eq_true_iff]; omega
theorem valB_yes {l : List Int} (h : Nums l l.length) (h1 : 1 ≤ l.length) (h3 : l.length ≤ 3) : valB l = true := by
  rw [valB_nums h]; simp; omega

/-- The first k numbers of two lists are the same. -/
def Same (xs ys : List Int) (k : Nat) : Prop := ∀ j, j < k → nth xs j = nth ys j
theorem Same.start (xs ys : List Int) : Same xs ys 0 := fun j h => absurd h (by omega)
theorem Same.step {xs ys : List Int} {k : Nat} (h : Same xs ys k) (e : nth xs k = nth ys k) : Same xs ys (k + 1) := by
  intro j hj
  rcases Nat.lt_or_ge j k with hlt | hge
  · exact h j hlt
  · have : j = k := by omega
    subst this; exact e
theorem Same.eq {xs ys : List Int} (h : Same xs ys xs.length) (hl : xs.length = ys.length) : xs = ys := by
  apply List.ext_getElem hl
  intro j h1 h2
  have := h j h1
  rw [nth_get h1, nth_get h2] at this
  exact this
theorem nth_ne {xs ys : List Int} {k : Nat} (h : nth xs k ≠ nth ys k) : xs ≠ ys := fun e => h (by rw [e])
theorem len_ne {xs ys : List Int} (h : xs.length ≠ ys.length) : xs ≠ ys := fun e => h (by rw [e])

/-- What is left behind n more; -1 where that is less than none. -/
def less (left n : Int) : Int := if left < n then -1 else left - n
theorem less_no {left n : Int} (h : left < n) : less left n = -1 := by unfold less; rw [if_pos h]
theorem less_yes {left n : Int} (h : n ≤ left) : less left n = left - n := by unfold less; rw [if_neg (by omega)]

end Go.Proofs.Ytkamlibfcakblaa

/- Words for what lies in memory: rows of cells, slices of integers. Nothing of the program. -/
namespace Go.Proofs.Ytkamlibfcakblaa
open Go.RowKit

/-- The first n cells from an address on hold f; they lie below block B. -/
def Row (w : World) (B : Nat) (A : Option Addr) (n : Nat) (f : Nat → Value) : Prop :=
  0 < n → ∃ b off, A = some ⟨b, off, none⟩ ∧ b < B ∧ ∀ j, j < n → w.cell? ⟨b, off + j, none⟩ = some (f j)

section
variable {w w' : World} {B B' n : Nat} {A : Option Addr} {f : Nat → Value}
theorem Row.keep (h : Row w B A n f) (hk : ∀ b o, b < B → w'.cell? ⟨b, o, none⟩ = w.cell? ⟨b, o, none⟩) : Row w' B A n f := by
  intro hn
  obtain ⟨b, off, hA, hb, hc⟩ := h hn
  exact ⟨b, off, hA, hb, fun j hj => (hk b _ hb).trans (hc j hj)⟩
theorem Row.below (h : Row w B A n f) (hb : Below B w w') : Row w' B A n f := h.keep fun b o hB => hb.cell (p := ⟨b, o, none⟩) hB
theorem Row.more (h : Row w B A n f) (hB : B ≤ B') : Row w B' A n f := by
  intro hn
  obtain ⟨b, off, hA, hb, hc⟩ := h hn
  exact ⟨b, off, hA, by omega, hc⟩
end

/-- What lay below block B reads as it did: two rules for the walk. -/
theorem oldCells {B : Nat} {W w1 : World} (hb : Below B W w1) : (∀ b o, b < B → w1.cell? ⟨b, o, none⟩ = W.cell? ⟨b, o, none⟩) ∧ (∀ b o, b < B → w1.frozen? ⟨b, o, none⟩ = W.frozen? ⟨b, o, none⟩) :=
  ⟨fun b o h => hb.cell (p := ⟨b, o, none⟩) h, fun b o h => hb.frozen (p := ⟨b, o, none⟩) h⟩

theorem belowDraws {B : Nat} {a w : World} (h : Below B a w) (n : Nat) : Below B a (w.drewN n) := ⟨h.os, h.tape, h.output, h.size, h.block⟩
theorem belowNext {w b c : World} (h : Below w.heap.size w b) (k : Below b.heap.size b c) : Below w.heap.size w c := h.trans (k.mono h.size)
theorem belowOne (w : World) (o : Obj) : Below w.heap.size w (w.alloc o) := (Below.refl _ _).alloc (Nat.le_refl _) o
theorem belowTwo (w : World) (o1 o2 : Obj) : Below w.heap.size w ((w.alloc o1).alloc o2) := (belowOne w o1).alloc (by simp) o2
theorem belowThree (w : World) (o1 o2 o3 : Obj) : Below w.heap.size w (((w.alloc o1).alloc o2).alloc o3) := (belowTwo w o1 o2).alloc (by simp; omega) o3

/-- A slice value that reads as the integers xs, below block B. -/
def Ints (w : World) (B : Nat) (v : Value) (xs : List Int) : Prop :=
  ∃ A c, v = .slice A xs.length c ∧ xs.length ≤ c ∧ c ≤ maxLen ∧ Row w B A xs.length fun j => .int .i64 (nth xs j)

section
variable {w w' : World} {B B' : Nat} {v : Value} {xs : List Int}
theorem Ints.keep (h : Ints w B v xs) (hk : ∀ b o, b < B → w'.cell? ⟨b, o, none⟩ = w.cell? ⟨b, o, none⟩) : Ints w' B v xs := by
  obtain ⟨A, c, hv, h1, h2, hr⟩ := h
  exact ⟨A, c, hv, h1, h2, hr.keep hk⟩
theorem Ints.below (h : Ints w B v xs) (hb : Below B w w') : Ints w' B v xs := h.keep fun b o hB => hb.cell (p := ⟨b, o, none⟩) hB
theorem Ints.more (h : Ints w B v xs) (hB : B ≤ B') : Ints w B' v xs := by
  obtain ⟨A, c, hv, h1, h2, hr⟩ := h
  exact ⟨A, c, hv, h1, h2, hr.more hB⟩
theorem Ints.alloc (h : Ints w B v xs) (hB : B ≤ w.heap.size) (o : Obj) : Ints (w.alloc o) B v xs := h.below ((Below.refl B w).alloc hB o)
theorem Ints.form (h : Ints w B v xs) : ∃ A c, v = .slice A xs.length c ∧ c ≤ maxLen ∧ xs.length ≤ c := by
  obtain ⟨A, c, hv, h1, h2, _⟩ := h
  exact ⟨A, c, hv, h2, h1⟩
theorem Ints.drewN (h : Ints w B v xs) (k : Nat) : Ints (w.drewN k) B v xs := h
end

/-- A row of the call's own, as a slice of integers. -/
theorem Ints.ofRow {w : World} {g t : Nat} {xs : List Int} (h : w.rowIs g t xs.length fun j => .int .i64 (nth xs j)) (hl : xs.length ≤ maxLen) :
    Ints w w.heap.size (.slice (some ⟨g, 0, none⟩) xs.length xs.length) xs :=
  ⟨_, _, rfl, Nat.le_refl _, hl, fun _ => ⟨g, 0, rfl, h.lt, fun j hj => by rw [Nat.zero_add]; exact h.cell hj⟩⟩

/-- Block g holds these cells first, and none of it is frozen. -/
def Held (w : World) (g : Nat) (cs : List Value) : Prop :=
  g < w.heap.size ∧ (∀ j, w.frozen? ⟨g, j, none⟩ = false) ∧ ∀ j u, cs[j]? = some u → w.cell? ⟨g, j, none⟩ = some u
section
variable {w w' : World} {B g : Nat} {cs : List Value}
theorem Held.below (h : Held w g cs) (hb : Below B w w') (hg : g < B) : Held w' g cs :=
  ⟨Nat.lt_of_lt_of_le h.1 hb.size, fun j => (hb.frozen (p := ⟨g, j, none⟩) hg).trans (h.2.1 j), fun j u hu => (hb.cell (p := ⟨g, j, none⟩) hg).trans (h.2.2 j u hu)⟩
theorem Held.new (w : World) (cs : Array Value) (t : TypeId) : Held (w.alloc (.cells cs t)) w.heap.size cs.toList := by
  refine ⟨by simp, fun j => ?_, fun j u hu => ?_⟩
  · have h := Go.Deep.blk_alloc_new w (.cells cs t)
    simp only [World.frozen?, h]
    simp
  · have h := Go.Deep.blk_alloc_new w (.cells cs t)
    simp only [World.cell?, h]
    simpa using hu
theorem Held.after (h : Held w g cs) (o : Obj) : Held (w.alloc o) g cs := h.below ((Below.refl _ _).alloc (Nat.le_refl _) o) h.1
theorem Held.drewN (h : Held w g cs) (k : Nat) : Held (w.drewN k) g cs := h
theorem Held.of (h : Held w g cs) (j : Nat) (u : Value) (hu : cs[j]? = some u) : w.cell? ⟨g, j, none⟩ = some u := h.2.2 j u hu
end

theorem Held.set_ {w : World} {b i : Nat} {cs : List Value} (h : Held w b cs) (u : Value) : Held (w.setCell ⟨b, i, none⟩ u) b (cs.set i u) := by
  refine ⟨by simpa [World.setCell] using h.1, fun j => ?_, fun j x hx => ?_⟩
  · rw [← h.2.1 j]; simp
  · by_cases e : i = j
    · subst e
      have hl : i < cs.length := by
        have := (List.getElem?_eq_some_iff.1 hx).1
        simpa using this
      rw [List.getElem?_set_self hl] at hx
      rw [World.cell?_setCell_same w ⟨b, i, none⟩ u (h.2.2 i _ (List.getElem?_eq_getElem hl))]
      exact hx
    · rw [List.getElem?_set_ne e] at hx
      rw [World.cell?_setCell_other w _ _ u (by rintro h; injection h with _ h2; exact e h2)]
      exact h.2.2 j x hx

/-- Behind a call in a world with the same heap. -/
theorem Ints.onward {w w0 w1 : World} {B : Nat} {v : Value} {xs : List Int} (h : Ints w B v xs) (hb : Below w0.heap.size w0 w1) (hw : w0.heap = w.heap) (hB : B ≤ w.heap.size) : Ints w1 w1.heap.size v xs := by
  have h0 : Ints w0 B v xs := h.keep fun b o _ => by simp only [World.cell?, hw]
  exact (h0.below (hb.mono (by rw [hw]; exact hB))).more (Nat.le_trans (by rw [hw]; exact hB) hb.size)
theorem Held.onward {w w0 w1 : World} {g : Nat} {cs : List Value} (h : Held w g cs) (hb : Below w0.heap.size w0 w1) (hw : w0.heap = w.heap) : Held w1 g cs := by
  have h0 : Held w0 g cs := ⟨by rw [hw]; exact h.1, fun j => by have := h.2.1 j; simpa only [World.frozen?, hw] using this, fun j u hu => by have := h.2.2 j u hu; simpa only [World.cell?, hw] using this⟩
  exact h0.below hb h0.1

end Go.Proofs.Ytkamlibfcakblaa

/- From the reading of an argument to the words of Mem. -/
namespace Go.Proofs.Ytkamlibfcakblaa
open Go.ChangeShapes Go.WideShapes Go.ChangeAt Go.RowKit Go.Joins

theorem own : ownKnob Try.prog.godebug = none := by kernel_rfl
theorem laidOut : laidOutB Try.prog = true := by kernel_rfl
theorem cellsInt : Try.prog.cellsOf 3 = 1 := by kernel_rfl

section
variable {H : Type} {enc : TypeId × Value → H} {W : World}
/-- A slice of integers that came in reads as some list. -/
theorem intsOf {fuel : Nat} {v : Value} {y : DataW H × List MemPlace} (h : DataW.trod enc Try.prog W 0 (fun _ => true) true fuel 39 [v] = some y) :
    ∃ xs, Ints W W.heap.size v xs ∧ ∀ x ∈ xs, (Lit.int .i64 x).wf = true := by
  rcases open_ints Try.underlying39 Try.underlying3 cellsInt h with ⟨hcs, _⟩ | ⟨a, l, c, zs, hcs, _, hl, hm, hz, _, hcell, hwz⟩
  · simp at hcs
    subst hcs
    exact ⟨[], ⟨_, _, rfl, Nat.le_refl _, Nat.zero_le _, fun h => absurd h (by simp)⟩, by simp⟩
  · simp at hcs
    subst hcs
    have hz' : zs.length = c := by simpa using hz
    refine ⟨zs.take l, ⟨some a, c, ?_, ?_, hm, ?_⟩, fun x hx => hwz x (List.mem_of_mem_take hx)⟩
    · simp; omega
    · simp; omega
    · intro hp
      obtain ⟨b, off, rfl, hc⟩ := ints_at hcell (by simp at hp; omega)
      have h0 := hc 0 (by simp at hp; omega)
      have hb : b < W.heap.size := by
        rcases Nat.lt_or_ge b W.heap.size with hlt | hge
        · exact hlt
        · simp [World.cell?, Array.getElem?_eq_none hge] at h0
      refine ⟨b, off, rfl, hb, fun j hj => ?_⟩
      simp at hj
      rw [hc j (by omega)]
      have hjl : j < l := by omega
      simp [nth, hjl]
end

end Go.Proofs.Ytkamlibfcakblaa

/- What a place keeps: items, and how they lie in memory. Nothing of the program. -/
namespace Go.Proofs.Ytkamlibfcakblaa
open Go.RowKit

/-- A thing: its name and its numbers. -/
structure Item where
  key : ByteArray
  val : List Int

/-- One name is less than another, byte by byte. -/
def ltB (a b : ByteArray) : Bool := Op.bytesLess a.toList b.toList
def itemB (it : Item) : Bool := keyB it.key && valB it.val
def ascB : List Item → Bool
  | a :: b :: l => ltB a.key b.key && ascB (b :: l)
  | _ => true
/-- What a place keeps is ok. -/
def stoB (its : List Item) : Bool := decide (its.length ≤ 40) && (its.all itemB && ascB its)

/-- Of the first k things each is one. -/
def Each (its : List Item) (k : Nat) : Prop := ∀ j it, j < k → its[j]? = some it → itemB it = true
/-- The first k names rise. -/
def Rise (its : List Item) (k : Nat) : Prop := ∀ j a b, j + 1 < k → its[j]? = some a → its[j + 1]? = some b → ltB a.key b.key = true
theorem Each.start (its : List Item) : Each its 0 := fun j _ h => absurd h (by omega)
theorem Each.step {its : List Item} {k : Nat} {it : Item} (h : Each its k) (hk : its[k]? = some it) (e : itemB it = true) : Each its (k + 1) := by
  intro j x hj hx
  rcases Nat.lt_or_ge j k with hlt | hge
  · exact h j x hlt hx
  · have : j = k := by omega
    subst this
    rw [hk] at hx
    injection hx with hx
    rw [← hx]; exact e
theorem Rise.start (its : List Item) : Rise its 1 := fun j _ _ h => absurd h (by omega)
theorem Rise.zero (its : List Item) : Rise its 0 := fun j _ _ h => absurd h (by omega)
theorem Rise.step {its : List Item} {k : Nat} {a b : Item} (h : Rise its (k + 1)) (ha : its[k]? = some a) (hb : its[k + 1]? = some b) (e : ltB a.key b.key = true) : Rise its (k + 1 + 1) := by
  intro j x y hj hx hy
  rcases Nat.lt_or_ge (j + 1) (k + 1) with hlt | hge
  · exact h j x y hlt hx hy
  · have : j = k := by omega
    subst this
    rw [ha] at hx; rw [hb] at hy
    injection hx with hx; injection hy with hy
    rw [← hx, ← hy]; exact e
theorem each_all {its : List Item} (h : Each its its.length) : its.all itemB = true := by
  rw [List.all_eq_true]
  intro x hx
  obtain ⟨j, hj, rfl⟩ := List.getElem_of_mem hx
  exact h j _ hj (List.getElem?_eq_getElem hj)
theorem all_each {its : List Item} (h : its.all itemB = true) : Each its its.length := by
  intro j it _ hit
  exact List.all_eq_true.1 h it (List.mem_of_getElem? hit)
theorem rise_asc : ∀ {its : List Item}, Rise its its.length → ascB its = true
  | [], _ => rfl
  | [_], _ => rfl
  | a :: b :: l, h => by
    unfold ascB
    rw [h 0 a b (by simp) rfl rfl, Bool.true_and]
    exact rise_asc fun j x y hj hx hy => h (j + 1) x y (by simp at hj ⊢; omega) (by simpa using hx) (by simpa using hy)
theorem asc_rise : ∀ {its : List Item}, ascB its = true → Rise its its.length
  | [], _ => fun j _ _ h => absurd h (by simp)
  | [_], _ => fun j _ _ h => absurd h (by simp)
  | a :: b :: l, h => by
    unfold ascB at h
    rw [Bool.and_eq_true] at h
    intro j x y hj hx hy
    cases j with
    | zero =>
      simp at hx hy
      rw [← hx, ← hy]; exact h.1
    | succ j => exact asc_rise h.2 j x y (by simp at hj ⊢; omega) (by simpa using hx) (by simpa using hy)
theorem stoB_long {its : List Item} (h : 40 < its.length) : stoB its = false := by
  unfold stoB; rw [Bool.and_eq_false_iff]; left; simp; omega
theorem stoB_bad {its : List Item} {k : Nat} {it : Item} (hk : its[k]? = some it) (h : itemB it = false) : stoB its = false := by
  unfold stoB
  rw [Bool.and_eq_false_iff]; right; rw [Bool.and_eq_false_iff]; left
  rw [List.all_eq_false]
  exact ⟨it, List.mem_of_getElem? hk, by simp [h]⟩
theorem asc_fall {its : List Item} {k : Nat} {a b : Item} (ha : its[k]? = some a) (hb : its[k + 1]? = some b) (e : ltB a.key b.key = false) : ascB its = false := by
  cases h : ascB its with
  | false => rfl
  | true =>
    have hl : k + 1 < its.length := (List.getElem?_eq_some_iff.1 hb).1
    have := asc_rise h k a b hl ha hb
    rw [e] at this; exact absurd this (by decide)
theorem stoB_fall {its : List Item} {k : Nat} {a b : Item} (ha : its[k]? = some a) (hb : its[k + 1]? = some b) (e : ltB a.key b.key = false) : stoB its = false := by
  unfold stoB
  rw [asc_fall ha hb e, Bool.and_false, Bool.and_false]
theorem stoB_each {its : List Item} (h : its.length ≤ 40) (he : Each its its.length) : stoB its = ascB its := by
  unfold stoB; rw [each_all he]; simp [h]
theorem stoB_yes {its : List Item} (h : its.length ≤ 40) (he : Each its its.length) (hr : Rise its its.length) : stoB its = true := by
  rw [stoB_each h he, rise_asc hr]
theorem itemB_key {it : Item} (h : keyB it.key = false) : itemB it = false := by unfold itemB; rw [h]; rfl
theorem itemB_val {it : Item} (h : valB it.val = false) : itemB it = false := by unfold itemB; rw [h, Bool.and_false]
theorem itemB_yes {it : Item} (h : keyB it.key = true) (h' : valB it.val = true) : itemB it = true := by unfold itemB; rw [h, h']; rfl

/-- A slice value that reads as things, below block B. -/
def Items (w : World) (B : Nat) (v : Value) (its : List Item) : Prop :=
  ∃ A c, v = .slice A its.length c ∧ its.length ≤ c ∧ c ≤ maxLen ∧ (0 < its.length → ∃ b off, A = some ⟨b, off, none⟩ ∧ b < B ∧
    ∀ j it, its[j]? = some it → it.key.size ≤ maxLen ∧ w.cell? ⟨b, off + j * 2, none⟩ = some (.string it.key) ∧ ∃ u, w.cell? ⟨b, off + j * 2 + 1, none⟩ = some u ∧ Ints w B u it.val)
section
variable {w w' w0 w1 : World} {B B' : Nat} {v : Value} {its : List Item}
theorem Items.keep (h : Items w B v its) (hk : ∀ b o, b < B → w'.cell? ⟨b, o, none⟩ = w.cell? ⟨b, o, none⟩) : Items w' B v its := by
  obtain ⟨A, c, hv, h1, h2, hr⟩ := h
  refine ⟨A, c, hv, h1, h2, fun hn => ?_⟩
  obtain ⟨b, off, hA, hb, hc⟩ := hr hn
  refine ⟨b, off, hA, hb, fun j it hit => ?_⟩
  obtain ⟨hs, c1, u, c2, hu⟩ := hc j it hit
  exact ⟨hs, (hk b _ hb).trans c1, u, (hk b _ hb).trans c2, hu.keep hk⟩
theorem Items.below (h : Items w B v its) (hb : Below B w w') : Items w' B v its := h.keep fun b o hB => hb.cell (p := ⟨b, o, none⟩) hB
theorem Items.more (h : Items w B v its) (hB : B ≤ B') : Items w B' v its := by
  obtain ⟨A, c, hv, h1, h2, hr⟩ := h
  refine ⟨A, c, hv, h1, h2, fun hn => ?_⟩
  obtain ⟨b, off, hA, hb, hc⟩ := hr hn
  refine ⟨b, off, hA, by omega, fun j it hit => ?_⟩
  obtain ⟨hs, c1, u, c2, hu⟩ := hc j it hit
  exact ⟨hs, c1, u, c2, hu.more hB⟩
theorem Items.alloc (h : Items w B v its) (hB : B ≤ w.heap.size) (o : Obj) : Items (w.alloc o) B v its := h.below ((Below.refl B w).alloc hB o)
theorem Items.form (h : Items w B v its) : ∃ A c, v = .slice A its.length c ∧ c ≤ maxLen ∧ its.length ≤ c := by
  obtain ⟨A, c, hv, h1, h2, _⟩ := h
  exact ⟨A, c, hv, h2, h1⟩
theorem Items.onward (h : Items w B v its) (hb : Below w0.heap.size w0 w1) (hw : w0.heap = w.heap) (hB : B ≤ w.heap.size) : Items w1 w1.heap.size v its := by
  have h0 : Items w0 B v its := h.keep fun b o _ => by simp only [World.cell?, hw]
  exact (h0.below (hb.mono (by rw [hw]; exact hB))).more (Nat.le_trans (by rw [hw]; exact hB) hb.size)
/-- The thing at a place. -/
theorem Items.at_ (h : Items w B v its) {k : Nat} (hk : k < its.length) : ∃ b off c it u, v = .slice (some ⟨b, off, none⟩) its.length c ∧ its[k]? = some it ∧ b < B ∧ it.key.size ≤ maxLen ∧
    w.cell? ⟨b, off + k * 2, none⟩ = some (.string it.key) ∧ w.cell? ⟨b, off + k * 2 + 1, none⟩ = some u ∧ Ints w B u it.val := by
  obtain ⟨A, c, hv, _, _, hr⟩ := h
  obtain ⟨b, off, hA, hb, hc⟩ := hr (by omega)
  obtain ⟨hs, c1, u, c2, hu⟩ := hc k _ (List.getElem?_eq_getElem hk)
  exact ⟨b, off, c, _, u, by rw [hv, hA], List.getElem?_eq_getElem hk, hb, hs, c1, c2, hu⟩
end

end Go.Proofs.Ytkamlibfcakblaa

/- From the reading of a store that came in to the words of Items. -/
namespace Go.Proofs.Ytkamlibfcakblaa
open Go.ChangeShapes Go.WideShapes Go.ChangeAt Go.RowKit Go.Joins Go.Deep

/-- What is there at each place is there as a list. -/
theorem listOf {α : Type} {Q : Nat → α → Prop} : ∀ n : Nat, (∀ i, i < n → ∃ x, Q i x) → ∃ l : List α, l.length = n ∧ ∀ i x, l[i]? = some x → Q i x
  | 0, _ => ⟨[], rfl, fun i x h => by simp at h⟩
  | n + 1, h => by
    obtain ⟨l, hl, hq⟩ := listOf n fun i hi => h i (by omega)
    obtain ⟨x, hx⟩ := h n (by omega)
    refine ⟨l ++ [x], by simp [hl], fun i y hy => ?_⟩
    rcases Nat.lt_or_ge i n with hlt | hge
    · rw [List.getElem?_append_left (by omega)] at hy
      exact hq i y hy
    · rw [List.getElem?_append_right (by omega)] at hy
      have hi : i = n := by
        have := (List.getElem?_eq_some_iff.1 hy).1
        simp at this; omega
      subst hi
      simp [hl] at hy
      rw [← hy]; exact hx

theorem cellLt {W : World} {b o : Nat} {u : Value} (h : W.cell? ⟨b, o, none⟩ = some u) : b < W.heap.size := by
  rcases Nat.lt_or_ge b W.heap.size with hlt | hge
  · exact hlt
  · simp [World.cell?, Array.getElem?_eq_none hge] at h

theorem list2 {α : Type} {l : List α} (h : l.length = 2) : ∃ a b, l = [a, b] := by
  match l, h with
  | [a, b], _ => exact ⟨a, b, rfl⟩
theorem list1 {α : Type} {l : List α} (h : l.length = 1) : ∃ a, l = [a] := by
  match l, h with
  | [a], _ => exact ⟨a, rfl⟩
theorem cellsStr : Try.prog.cellsOf 9 = 1 := by kernel_rfl
theorem cellsSl : Try.prog.cellsOf 39 = 1 := by kernel_rfl
section
variable {H : Type} {enc : TypeId × Value → H} {W : World}
end

end Go.Proofs.Ytkamlibfcakblaa

/- From the reading of a number or a bool that came in. -/
namespace Go.Proofs.Ytkamlibfcakblaa
open Go.ChangeShapes Go.WideShapes Go.ChangeAt Go.RowKit Go.Joins

section
variable {H : Type} {enc : TypeId × Value → H} {W : World}
set_option maxRecDepth 100000 in
theorem intArg {b0 : Nat} {v : Value} {d : DataW H} {p : List MemPlace} (hv : Value.okWide Try.prog W .any b0 3 v) (h : DataW.Trod enc Try.prog W 0 (fun _ => true) true 3 v d p) : ∃ n, v = .int .i64 n ∧ (Lit.int .i64 n).wf = true := by
  obtain ⟨n, h1, _, _, h2⟩ := open_int Try.underlying3 hv h
  exact ⟨n, h1, h2⟩
set_option maxRecDepth 100000 in
theorem boolArg {b0 : Nat} {v : Value} {d : DataW H} {p : List MemPlace} (hv : Value.okWide Try.prog W .any b0 4 v) (h : DataW.Trod enc Try.prog W 0 (fun _ => true) true 4 v d p) : ∃ n, v = .bool n := by
  obtain ⟨n, h1, _⟩ := open_bool Try.underlying4 hv h
  exact ⟨n, h1⟩
end

end Go.Proofs.Ytkamlibfcakblaa
