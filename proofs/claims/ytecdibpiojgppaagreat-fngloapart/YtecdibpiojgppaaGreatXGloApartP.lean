/- What is apart may be done in either order. Plain facts. -/
import Derived.Test.YtecdibpiojgppaaGreatXPlanLaw2
namespace Go.Proofs.YtecdibpiojgppaaGreat
open Go.RowKit

section
variable {its : List Item} {q tx tx' : Int} {o o' : Op}
/-- At one place. -/
theorem apart_one (hp : plcB q its = true) (ho : opB o = true) (ho' : opB o' = true) (ht : inB tx 0 29 = true) (ht' : inB tx' 0 29 = true) (hl : its.length ≤ 30) (hm : mayP its q tx o = true) (hm' : mayP its q tx' o' = true)
    (hd : hereB o.kind q = true → hereB o'.kind q = true → ∀ k ∈ (planP its q tx o).locks, k ∉ (planP its q tx' o').locks) :
    mayP (stepP its q tx o) q tx' o' = true ∧ mayP (stepP its q tx' o') q tx o = true ∧ stepP (stepP its q tx o) q tx' o' = stepP (stepP its q tx' o') q tx o := by
  cases h : hereB o.kind q with
  | false =>
    have e1 : ∀ z, stepP z q tx o = z := fun z => by unfold stepP; rw [h]; rfl
    have e2 : ∀ z, mayP z q tx o = true := fun z => by unfold mayP; rw [h]; rfl
    exact ⟨by rw [e1]; exact hm', e2 _, by rw [e1, e1]⟩
  | true =>
    cases h' : hereB o'.kind q with
    | false =>
      have e1 : ∀ z, stepP z q tx' o' = z := fun z => by unfold stepP; rw [h']; rfl
      have e2 : ∀ z, mayP z q tx' o' = true := fun z => by unfold mayP; rw [h']; rfl
      exact ⟨e2 _, by rw [e1]; exact hm, by rw [e1, e1]⟩
    | true =>
      have hd := hd h h'
      have hok : (planP its q tx o).ok = true := by unfold mayP at hm; rw [h] at hm; simpa using hm
      have hok' : (planP its q tx' o').ok = true := by unfold mayP at hm'; rw [h'] at hm'; simpa using hm'
      have e1 := held_plan (tx := tx) hp ho ho' ht' (by omega) hok' hd
      have e2 := held_plan (tx := tx') (o := o') (o' := o) (tx' := tx) hp ho' ho ht (by omega) hok (fun k hk h => hd k h hk)
      have e3 := held_two hp ho ho' ht ht' hl hok hok' hd
      have s1 : stepP its q tx o = stoDo its (planP its q tx o).writes := by unfold stepP; rw [if_pos h]
      have s2 : stepP its q tx' o' = stoDo its (planP its q tx' o').writes := by unfold stepP; rw [if_pos h']
      refine ⟨?_, ?_, ?_⟩
      · rw [s1]; unfold mayP; rw [e2, hok', h']; rfl
      · rw [s2]; unfold mayP; rw [e1, hok, h]; rfl
      · rw [s1, s2]
        unfold stepP
        rw [if_pos h, if_pos h', e1, e2]
        exact e3.symm
end
theorem done_apart {c : List Item} {tx tx' : Int} {o o' : Op} (ht : inB tx 0 29 = true) (ht' : inB tx' 0 29 = true) (hne : tx ≠ tx') : ∀ k ∈ (planP c 3 tx o).locks, k ∉ (planP c 3 tx' o').locks := by
  obtain ⟨a0, a1⟩ := inB_parts ht
  obtain ⟨b0, b1⟩ := inB_parts ht'
  rw [done_is, done_is]
  unfold doneP noP
  intro k hk hk'
  have e1 : k = keyN 97 tx := by split at hk <;> simpa using hk
  have e2 : k = keyN 97 tx' := by split at hk' <;> simpa using hk'
  exact hne (keyT_inj a0 a1 b0 b1 (e1.symm.trans e2))
/-- Two things that may each be done, and hold nothing in common where they are told apart. -/
theorem apart_both {xs : List Sto} {tx tx' : Int} {o o' : Op} (hl : ∀ x ∈ xs, x.items.length ≤ 30) (h : (gloDo xs tx o).2 = true) (h' : (gloDo xs tx' o').2 = true) (hne : tx ≠ tx')
    (hd : ∀ (j : Nat) z, j < 2 → xs[j]? = some z → ∀ k ∈ (plcP z.items ((j : Int) + 1) tx o).locks, k ∉ (plcP z.items ((j : Int) + 1) tx' o').locks) :
    ∃ R : List Sto, gloDo (gloDo xs tx o).1 tx' o' = (R, true) ∧ gloDo (gloDo xs tx' o').1 tx o = (R, true) := by
  obtain ⟨a, b, c, rfl, hg, ho, ht, hm, hx⟩ := glo_yes h
  obtain ⟨a', b', c', he, -, ho', ht', hm', hx'⟩ := glo_yes h'
  simp only [List.cons.injEq, Sto.mk.injEq, and_true] at he
  obtain ⟨rfl, rfl, rfl⟩ := he
  obtain ⟨m1, m2, m3⟩ := gloMay_parts hm
  obtain ⟨n1, n2, n3⟩ := gloMay_parts hm'
  obtain ⟨g1, g2, g3⟩ := gloB_parts hg
  have la : a.length ≤ 30 := hl ⟨a⟩ (by simp)
  have lb : b.length ≤ 30 := hl ⟨b⟩ (by simp)
  have lc : c.length ≤ 30 := hl ⟨c⟩ (by simp)
  have ep : ∀ {z : List Item} {q : Int}, plcB q z = true → plcP z q tx o = planP z q tx o ∧ plcP z q tx' o' = planP z q tx' o' := fun hq => by
    unfold plcP; rw [ho, ho', hq, ht, ht']; exact ⟨rfl, rfl⟩
  obtain ⟨p1, p2, p3⟩ := apart_one g1 ho ho' ht ht' la m1 n1 (fun _ _ => by have h := hd 0 ⟨a⟩ (by omega) rfl; rw [show (((0 : Nat) : Int) + 1) = 1 by omega, (ep g1).1, (ep g1).2] at h; exact h)
  obtain ⟨r1, r2, r3⟩ := apart_one g2 ho ho' ht ht' lb m2 n2 (fun _ _ => by have h := hd 1 ⟨b⟩ (by omega) rfl; rw [show (((1 : Nat) : Int) + 1) = 2 by omega, (ep g2).1, (ep g2).2] at h; exact h)
  obtain ⟨s1, s2, s3⟩ := apart_one g3 ho ho' ht ht' lc m3 n3 (fun _ _ => done_apart ht ht' hne)
  have k1 := (glo_step (k := 30) hg ho ht la lb lc (by omega)).1
  have k2 := (glo_step (k := 30) hg ho' ht' la lb lc (by omega)).1
  refine ⟨[⟨stepP (stepP a 1 tx o) 1 tx' o'⟩, ⟨stepP (stepP b 2 tx o) 2 tx' o'⟩, ⟨stepP (stepP c 3 tx o) 3 tx' o'⟩], ?_, ?_⟩
  · rw [hx, gloDo_three k1 ho' ht']
    have : gloMay (stepP a 1 tx o) (stepP b 2 tx o) (stepP c 3 tx o) tx' o' = true := by unfold gloMay; rw [p1, r1, s1]; rfl
    rw [this, if_pos rfl]
  · rw [hx', gloDo_three k2 ho ht]
    have : gloMay (stepP a 1 tx' o') (stepP b 2 tx' o') (stepP c 3 tx' o') tx o = true := by unfold gloMay; rw [p2, r2, s2]; rfl
    rw [this, if_pos rfl, p3, r3, s3]

end Go.Proofs.YtecdibpiojgppaaGreat
