/- What was done is noted: plain facts of plays. -/
import Derived.Test.YtfmddejgoojghaaXPlay
namespace Go.Proofs.Ytfmddejgoojghaa
open Go.RowKit

/-- How many were so. -/
def cntT (bs : List Bool) : Nat := (bs.filter fun b => b).length
theorem cntT_snoc (bs : List Bool) (b : Bool) : cntT (bs ++ [b]) = cntT bs + (if b = true then 1 else 0) := by
  unfold cntT; rw [List.filter_append, List.length_append]; cases b <;> rfl
theorem cntT_take {bs : List Bool} {k : Nat} {b : Bool} (h : bs[k]? = some b) : cntT (bs.take (k + 1)) = cntT (bs.take k) + (if b = true then 1 else 0) := by
  rw [List.take_add_one, h]
  exact cntT_snoc _ _
/-- What the place that keeps what was done keeps. -/
structure Noted (k n : Nat) (c : List Item) : Prop where
  len : c.length = n
  val : ∀ x ∈ c, ∃ m, x.val = [m] ∧ 1 ≤ m ∧ m ≤ 5
  key : ∀ x ∈ c, ∃ j : Nat, j < k ∧ x.key = keyN 97 (j : Int)
theorem Noted.fresh {k n : Nat} {c : List Item} (h : Noted k n c) (hk : k ≤ 29) : lookOk c (keyN 97 (k : Int)) = false := by
  cases hl : look c (keyN 97 (k : Int)) with
  | none => exact lookOk_none hl
  | some x =>
    obtain ⟨h1, h2⟩ := look_in hl
    obtain ⟨j, hj, e⟩ := h.key x h1
    rw [e] at h2
    have := keyT_inj (by omega) (by omega) (by omega) (by omega) h2
    omega
theorem done_is (c : List Item) (tx : Int) (o : Op) : planP c 3 tx o = doneP c tx o := by simp [planP]
theorem Noted.ok {k n : Nat} {c : List Item} (h : Noted k n c) (hk : k ≤ 29) (o : Op) : mayP c 3 (k : Int) o = true := by
  unfold mayP
  rw [done_is]
  unfold doneP
  rw [h.fresh hk]
  simp
theorem Noted.step {k n : Nat} {c : List Item} {o : Op} (h : Noted k n c) (hk : k ≤ 29) (hp : plcB 3 c = true) (ho : opB o = true) (hl : c.length ≤ 38) : Noted (k + 1) (n + 1) (stepP c 3 (k : Int) o) := by
  have hs := (plc_parts hp).1
  have hf := h.fresh hk
  have e3 : hereB o.kind 3 = true := by simp [hereB]
  have hok : (⟨keyN 97 (k : Int), false, [o.kind]⟩ : Wr).ok = true := by
    have hk := opK_kind ho
    exact wr_ok (keyB_keyN (by omega) (by omega)).1 (by simp) (by simp) (by simp; omega)
  have e : stepP c 3 (k : Int) o = wAll (keyN 97 (k : Int)) false [o.kind] c := by
    unfold stepP
    rw [if_pos e3, done_is]
    unfold doneP
    rw [hf, if_neg (by decide)]
    refine sto_of hs ?_
    exact (stoStep hs hok (by omega)).1
  obtain ⟨f1, f2, f3, f4⟩ := wAll_facts (wk := keyN 97 (k : Int)) (wv := [o.kind]) (stoB_three hs).2.2 false
  unfold lookOk at hf
  rw [hf] at f3
  rw [e]
  refine ⟨by have := h.len; simp at f3; omega, fun x hx => ?_, fun x hx => ?_⟩
  · rcases f4 x hx with h' | ⟨-, rfl⟩
    · exact h.val x h'
    · exact ⟨o.kind, rfl, by have := opK_kind ho; omega, by have := opK_kind ho; omega⟩
  · rcases f4 x hx with h' | ⟨-, rfl⟩
    · obtain ⟨j, hj, e⟩ := h.key x h'
      exact ⟨j, by omega, e⟩
    · exact ⟨k, by omega, rfl⟩
/-- Behind each thing: what all places keep, with what is noted. -/
structure PlayAt (os : List Op) (k : Nat) (a b c : List Item) : Prop where
  is : (playTo os k).1 = [⟨a⟩, ⟨b⟩, ⟨c⟩]
  ok : gloB [⟨a⟩, ⟨b⟩, ⟨c⟩] = true
  la : a.length ≤ k
  lb : b.length ≤ k
  lc : c.length ≤ k
  noted : Noted k (cntT (playTo os k).2) c
section
variable {os : List Op} {k : Nat} {a b c : List Item} {o : Op}
theorem PlayAt.do_ (h : PlayAt os k a b c) (ho : opB o = true) (hk : k ≤ 29) : gloDo (playTo os k).1 k o = (if (mayP a 1 k o && mayP b 2 k o) = true then [⟨stepP a 1 k o⟩, ⟨stepP b 2 k o⟩, ⟨stepP c 3 k o⟩] else [⟨a⟩, ⟨b⟩, ⟨c⟩], mayP a 1 k o && mayP b 2 k o) := by
  rw [h.is, gloDo_three h.ok ho (inB_yes (by omega) (by omega))]
  unfold gloMay
  rw [h.noted.ok hk o, Bool.and_true]
theorem PlayAt.start : PlayAt os 0 [] [] [] := ⟨rfl, newG_ok, Nat.le_refl _, Nat.le_refl _, Nat.le_refl _, rfl, fun _ h => absurd h (by simp), fun _ h => absurd h (by simp)⟩
theorem PlayAt.no (h : PlayAt os k a b c) (hx : os[k]? = some o) (hd : (gloDo (playTo os k).1 k o).2 = false) : PlayAt os (k + 1) a b c := by
  refine ⟨by rw [playTo_no hx hd]; exact h.is, h.ok, Nat.le_succ_of_le h.la, Nat.le_succ_of_le h.lb, Nat.le_succ_of_le h.lc, ?_, h.noted.val, fun x hx => ?_⟩
  · rw [playTo_done hx, cntT_snoc, hd]; exact h.noted.len
  · obtain ⟨j, hj, e⟩ := h.noted.key x hx
    exact ⟨j, by omega, e⟩
theorem PlayAt.yes (h : PlayAt os k a b c) (hx : os[k]? = some o) (ho : opB o = true) (hk : k ≤ 29) (hd : (gloDo (playTo os k).1 k o).2 = true) : (gloDo (playTo os k).1 k o).1 = [⟨stepP a 1 k o⟩, ⟨stepP b 2 k o⟩, ⟨stepP c 3 k o⟩] ∧ PlayAt os (k + 1) (stepP a 1 k o) (stepP b 2 k o) (stepP c 3 k o) := by
  have hdo := h.do_ ho hk
  have hm : (mayP a 1 k o && mayP b 2 k o) = true := by rw [hdo] at hd; exact hd
  have e : (gloDo (playTo os k).1 k o).1 = [⟨stepP a 1 k o⟩, ⟨stepP b 2 k o⟩, ⟨stepP c 3 k o⟩] := by rw [hdo, if_pos hm]
  obtain ⟨s1, s2, s3, s4⟩ := glo_step (k := k) (tx := (k : Int)) h.ok ho (inB_yes (by omega) (by omega)) h.la h.lb h.lc (by omega)
  refine ⟨e, by rw [playTo_yes hx hd, e], s1, s2, s3, s4, ?_⟩
  have := h.noted.step hk (gloB_parts h.ok).2.2 ho (by have := h.lc; omega)
  rw [playTo_done hx, cntT_snoc, hd]
  exact this
theorem play_at (hall : ∀ o ∈ os, opB o = true) (hl : os.length ≤ 29) : ∀ k, k ≤ os.length → ∃ a b c, PlayAt os k a b c
  | 0, _ => ⟨[], [], [], PlayAt.start⟩
  | k + 1, hk => by
    obtain ⟨a, b, c, h⟩ := play_at hall hl k (by omega)
    have hx := List.getElem?_eq_getElem (show k < os.length by omega)
    cases hd : (gloDo (playTo os k).1 k os[k]).2 with
    | false => exact ⟨a, b, c, h.no hx hd⟩
    | true => exact ⟨_, _, _, (h.yes hx (hall _ (List.mem_of_getElem? hx)) (by omega) hd).2⟩
end

end Go.Proofs.Ytfmddejgoojghaa
