/- Texts that follow each other, merged: PlayNoted, PlayIn, PlayMay. -/
import Derived.Test.YtecdibpiojgppaaGreatXDrawGloDo

/- What was done is noted: plain facts of plays. -/
namespace Go.Proofs.YtecdibpiojgppaaGreat
open Go.RowKit

/-- How many were so. -/
def cntT (bs : List Bool) : Nat := (bs.filter fun b => b).length
/-- What the place that keeps what was done keeps. -/
structure Noted (k n : Nat) (c : List Item) : Prop where
  len : c.length = n
  val : ∀ x ∈ c, ∃ m, x.val = [m] ∧ 1 ≤ m ∧ m ≤ 5
  key : ∀ x ∈ c, ∃ j : Nat, j < k ∧ x.key = keyN 97 (j : Int)
theorem done_is (c : List Item) (tx : Int) (o : Op) : planP c 3 tx o = doneP c tx o := by simp [planP]
/-- Behind each thing: what all places keep, with what is noted. -/
structure PlayAt (os : List Op) (k : Nat) (a b c : List Item) : Prop where
  is : (playTo os k).1 = [⟨a⟩, ⟨b⟩, ⟨c⟩]
  ok : gloB [⟨a⟩, ⟨b⟩, ⟨c⟩] = true
  la : a.length ≤ k
  lb : b.length ≤ k
  lc : c.length ≤ k
  noted : Noted k (cntT (playTo os k).2) c
section
variable {os : List Op} {k : Nat} {a b c : List Item} {o : Op}
end

end Go.Proofs.YtecdibpiojgppaaGreat

/- Who is in, behind a play: plain facts. -/
namespace Go.Proofs.YtecdibpiojgppaaGreat
open Go.RowKit

/-- Who is in by a number; below nought where nobody is. -/
def inOf (a : List Item) (i : Int) : Int := if lookOk a (keyN 115 i) = true then nth (lookV a (keyN 115 i)) 0 else -1
def insOf (a : List Item) : List Int := (List.range 10).map fun (i : Nat) => inOf a (i : Int)
def intsV (xs : List Int) : List Value := xs.map (.int .i64 ·)
/-- The first k places are set. -/
def midI (k : Nat) : List Int := (List.range 10).map fun (i : Nat) => if i < k then -1 else 0
section
variable {os : List Op} {k : Nat} {a b c : List Item} {o : Op}
theorem may11 (h : o.kind = 1) (tx : Int) : mayP a 1 tx o = !lookOk a (keyN 115 o.inn) := by
  simp only [mayP, hereB, planP, inP1, h, noP]
  cases lookOk a (keyN 115 o.inn) <;> simp
theorem may15 (h : o.kind = 5) (tx : Int) : mayP a 1 tx o = mineB a o := by
  simp only [mayP, hereB, planP, inP5, h, noP]
  cases mineB a o <;> simp
end

end Go.Proofs.YtecdibpiojgppaaGreat

/- What is kept of who may what, behind a play: plain facts. -/
namespace Go.Proofs.YtecdibpiojgppaaGreat
open Go.RowKit

/- Going out. -/
/-- A thing behind one goes out: a family that was of use is of none. -/
def outIt (who : Int) (it : Item) : Item := if famB who it = true then ⟨it.key, [nth it.val 0, nth it.val 1, 0]⟩ else it
theorem outIt_yes {who : Int} {it : Item} (h : famB who it = true) : outIt who it = ⟨it.key, [nth it.val 0, nth it.val 1, 0]⟩ := by unfold outIt; rw [if_pos h]
theorem outIt_no {who : Int} {it : Item} (h : famB who it = false) : outIt who it = it := by unfold outIt; rw [if_neg (by rw [h]; decide)]
theorem lookW_only {key : ByteArray} {x0 : Wr} (hd : x0.del = false) : ∀ (ws : List Wr), (∀ x ∈ ws, x.key = key → x = x0) → (∃ x ∈ ws, x.key = key) → ∀ d : Option Item, lookW ws key d = some ⟨x0.key, x0.val⟩
  | [], _, ⟨_, h, _⟩, _ => absurd h (by simp)
  | x :: ws, h1, h2, d => by
    show lookW ws key (if x.key = key then (if x.del = true then none else some ⟨x.key, x.val⟩) else d) = _
    by_cases e : ∃ y ∈ ws, y.key = key
    · exact lookW_only hd ws (fun y hy => h1 y (List.mem_cons_of_mem _ hy)) e _
    · rw [lookW_free (fun y hy he => e ⟨y, hy, he⟩)]
      obtain ⟨y, hy, hk⟩ := h2
      have hx : x.key = key := by
        rcases List.mem_cons.1 hy with rfl | hy'
        · exact hk
        · exact absurd ⟨y, hy', hk⟩ e
      have := h1 x (List.mem_cons_self ..) hx
      rw [if_pos hx, this, if_neg (by rw [hd]; decide)]
theorem out_look {its : List Item} (hr : Rise its its.length) (o : Op) (key : ByteArray) : lookW (mayP5 its o).writes key (look its key) = (look its key).map (outIt o.who) := by
  have ex : ∀ x ∈ (mayP5 its o).writes, ∃ y, y ∈ its ∧ famB o.who y = true ∧ x = ⟨y.key, false, [nth y.val 0, nth y.val 1, 0]⟩ := fun x hx => by
    obtain ⟨y, hy, rfl⟩ := List.mem_map.1 (show x ∈ (its.filter (famB o.who)).map fun it => (⟨it.key, false, [nth it.val 0, nth it.val 1, 0]⟩ : Wr) from hx)
    exact ⟨y, (List.mem_filter.1 hy).1, (List.mem_filter.1 hy).2, rfl⟩
  cases hl : look its key with
  | none =>
    rw [lookW_free]
    · rfl
    intro x hx he
    obtain ⟨y, h1, h2, rfl⟩ := ex x hx
    have := look_self hr h1
    rw [show y.key = key from he, hl] at this
    cases this
  | some it =>
    obtain ⟨h1, h2⟩ := look_in hl
    have uniq : ∀ y ∈ its, y.key = key → y = it := fun y hy he => by
      have := look_self hr hy
      rw [he, hl] at this
      exact (Option.some.inj this).symm
    cases hf : famB o.who it with
    | true =>
      rw [lookW_only (x0 := ⟨it.key, false, [nth it.val 0, nth it.val 1, 0]⟩) rfl]
      · rw [Option.map_some, outIt_yes hf]
      · intro x hx he
        obtain ⟨y, g1, g2, rfl⟩ := ex x hx
        rw [uniq y g1 he]
      · exact ⟨⟨it.key, false, [nth it.val 0, nth it.val 1, 0]⟩, List.mem_map.2 ⟨it, List.mem_filter.2 ⟨h1, hf⟩, rfl⟩, h2⟩
    | false =>
      rw [lookW_free]
      · rw [Option.map_some, outIt_no hf]
      · intro x hx he
        obtain ⟨y, g1, g2, rfl⟩ := ex x hx
        rw [uniq y g1 he, hf] at g2
        cases g2
section
variable {os : List Op} {k : Nat} {a b c : List Item} {o : Op}
theorem may22 (h : o.kind = 2) (tx : Int) : mayP b 2 tx o = !lookOk b (keyN 99 o.code) := by
  simp only [mayP, hereB, planP, mayP2, h, noP]
  cases lookOk b (keyN 99 o.code) <;> simp
theorem may23 (h : o.kind = 3) (tx : Int) : mayP b 2 tx o = tradeB b o := by
  simp only [mayP, hereB, planP, mayP3, h, noP]
  cases tradeB b o <;> simp
end

end Go.Proofs.YtecdibpiojgppaaGreat
