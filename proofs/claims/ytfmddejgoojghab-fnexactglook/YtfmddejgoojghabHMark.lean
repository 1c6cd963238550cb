/- Marks on numbers and on texts, by shapes. -/
import Derived.Test.YtfmddejgoojghabHTo
import Derived.Test.YtfmddejgoojghabMarkSize
import Derived.Deep.RegionHeld3
namespace Go.Proofs.Ytfmddejgoojghab
open Go.RowKit

theorem int_eq {a b : Int} (h : a = b) : Value.int .i64 a = .int .i64 b := by rw [h]
theorem cntInts (xs : List Int) : cntL Sh.int.cnt xs = xs.length := by
  show cntL (fun _ => 1) xs = xs.length
  induction xs with
  | nil => rfl
  | cons x l ih => simp only [cntL, List.length_cons, ih]; omega
theorem cntStrs (xs : List ByteArray) : cntL strSh.cnt xs = xs.length := by
  show cntL (fun _ => 1) xs = xs.length
  induction xs with
  | nil => rfl
  | cons x l ih => simp only [cntL, List.length_cons, ih]; omega
theorem intsOwn {w : World} {S : Nat → Prop} {v : Value} {xs : List Int} (h : Sh.int.Own 3 w S v xs) : OwnInts w 0 v xs := by
  obtain ⟨C, F, h1, h2, h3, h4⟩ := h
  have hC : flat C xs.length = xs.map (Value.int .i64) := by
    symm
    refine flat_ext (d := 1) (fun j hj => ?_) (by simp) fun j i hj hi => ?_
    · have := (h3 j _ (List.getElem?_eq_getElem hj)).1
      have e : C j = [.int .i64 xs[j]] := this
      rw [e]; rfl
    · have := (h3 j _ (List.getElem?_eq_getElem hj)).1
      have e : C j = [.int .i64 xs[j]] := this
      have hi0 : i = 0 := by omega
      subst hi0
      rw [e, Nat.mul_one, Nat.add_zero, List.getElem?_map, List.getElem?_eq_getElem hj]
      rfl
  unfold OwnInts
  rw [← hC]
  exact h1
theorem ownInts {w : World} {lo : Nat} {S : Nat → Prop} {v : Value} {xs : List Int} (h : OwnInts w lo v xs) (hS : ∀ g, v.ownBlock = some g → S g) : Sh.int.Own 3 w S v xs := by
  refine ⟨fun j => [.int .i64 (nth xs j)], fun _ _ => False, ?_, hS, fun j x hx => ⟨?_, fun _ h => h.elim⟩, fun i j b _ _ h => h.elim⟩
  · have e : flat (fun j => [Value.int .i64 (nth xs j)]) xs.length = xs.map (Value.int .i64) := by
      symm
      refine flat_ext (d := 1) (fun _ _ => rfl) (by simp) fun j i hj hi => ?_
      have hi0 : i = 0 := by omega
      subst hi0
      rw [Nat.mul_one, Nat.add_zero, List.getElem?_map, List.getElem?_eq_getElem hj, nth_get hj]
      rfl
    rw [e]
    exact ⟨h.1, h.2.elim .inl fun ⟨g, cap, cur, a, _, r⟩ => .inr ⟨g, cap, cur, a, Nat.zero_le _, r⟩⟩
  · obtain ⟨hj, rfl⟩ := List.getElem?_eq_some_iff.1 hx
    show [Value.int .i64 (nth xs j)] = [.int .i64 xs[j]]
    rw [nth_get hj]
theorem mkdInts : ∀ {ys : List Int} {k : Int}, Marked ys k ys.length → mkdL Sh.int.cnt Sh.int.mkd k ys
  | [], _, _ => trivial
  | y :: ys, k, h => by
    refine ⟨?_, mkdInts fun j hj => ?_⟩
    · have := h 0 (by simp)
      show y = k
      simpa [nth] using this
    · have := h (j + 1) (by simp; omega)
      have e : nth (y :: ys) (j + 1) = nth ys j := by simp [nth]
      rw [e] at this
      rw [this]
      show k + ((j + 1 : Nat) : Int) = k + ((1 : Nat) : Int) + j
      omega
theorem mkdInts' : ∀ {ys : List Int} {k : Int}, mkdL Sh.int.cnt Sh.int.mkd k ys → Marked ys k ys.length
  | [], _, _ => fun j h => absurd h (by simp)
  | y :: ys, k, h => by
    intro j hj
    cases j with
    | zero =>
      have : y = k := h.1
      simpa [nth] using this
    | succ j =>
      have h2 := mkdInts' h.2 j (by simpa using hj)
      have e : nth (y :: ys) (j + 1) = nth ys j := by simp [nth]
      rw [e, h2]
      show k + ((1 : Nat) : Int) + j = k + ((j + 1 : Nat) : Int)
      omega

/-- One element, the list written with it. -/
theorem Sh.Own.focus {α : Type} {A : Sh α} {e : TypeId} {w : World} {S : Nat → Prop} {g n cap m : Nat} {ys : List α} {x : α} (h : A.Own e w S (.slice (some ⟨g, 0, none⟩) n cap) (ys.set m x)) (hm : m < ys.length) : ∃ cs Sj, A.own w Sj cs x ∧ (∀ b, Sj b → S b ∧ b ≠ g) ∧ S g ∧
    (∀ i u, cs[i]? = some u → w.cell? ⟨g, m * A.wd + i, none⟩ = some u) ∧ (∀ i, w.frozen? ⟨g, i, none⟩ = false) ∧
    (∀ w' x', A.own w' Sj cs x' → Outs Sj w w' → A.Own e w' S (.slice (some ⟨g, 0, none⟩) n cap) (ys.set m x')) ∧
    ∀ i u x', i < A.wd → A.own (w.setCell ⟨g, m * A.wd + i, none⟩ u) Sj (cs.set i u) x' → A.Own e (w.setCell ⟨g, m * A.wd + i, none⟩ u) S (.slice (some ⟨g, 0, none⟩) n cap) (ys.set m x') := by
  obtain ⟨g', cap', x', cs, Sj, e1, hx, hSg, _, ho, hS, hc, hf, hk, hp⟩ := h.at_ (j := m) (by rw [List.length_set]; exact hm)
  injection e1 with e1a e1b e1c
  injection e1a with e1a
  injection e1a with e1a
  subst e1a
  rw [List.getElem?_set_self hm] at hx
  injection hx with hx
  subst hx
  refine ⟨cs, Sj, ho, hS, hSg, hc, hf, fun w' x' h1 h2 => ?_, fun i u x' hi h1 => ?_⟩
  · have := hk w' x' h1 h2
    rwa [List.set_set] at this
  · have := hp i u Sj x' hi h1 (fun _ h => .inl h)
    rw [List.set_set] at this
    exact this.mono fun b hb => hb.elim id (fun h => (hS b h).1)
theorem strsLen (xs : List ByteArray) : xs.length ≤ strsSh.wt xs := wtL_len _ _
end Go.Proofs.Ytfmddejgoojghab
