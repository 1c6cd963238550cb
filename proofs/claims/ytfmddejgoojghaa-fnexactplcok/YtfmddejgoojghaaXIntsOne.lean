/- Texts that follow each other, merged: IntsOne, DrawVal, DrawBox, DrawWrt, Reach. -/
import Derived.Test.YtfmddejgoojghaaXPlain
import Derived.Test.YtfmddejgoojghaaXDrawKey2
import Derived.Test.YtfmddejgoojghaaXGet
import Derived.Test.YtfmddejgoojghaaXDrawKey

/- One number, made. -/
namespace Go.Proofs.Ytfmddejgoojghaa
open Go.RowKit

theorem Ints.one (w : World) (m : Int) : Ints (w.alloc (.cells #[.int .i64 m] 3)) (w.alloc (.cells #[.int .i64 m] 3)).heap.size (.slice (some ⟨w.heap.size, 0, none⟩) 1 1) [m] := by
  refine ⟨some ⟨w.heap.size, 0, none⟩, 1, rfl, Nat.le_refl _, by unfold maxLen; omega, fun _ => ⟨w.heap.size, 0, rfl, by simp, fun j hj => ?_⟩⟩
  have hj0 : j = 0 := by simp at hj; exact hj
  subst hj0
  exact (Held.new w #[.int .i64 m] 3).of 0 _ rfl

end Go.Proofs.Ytfmddejgoojghaa

/- Drawn numbers, and drawn writes. -/
namespace Go.Proofs.Ytfmddejgoojghaa
open Go.RowKit

theorem OwnInts.drew {w w' : World} {g lo : Nat} {P : Int} {v : Value} {xs : List Int} (h : OwnInts w lo v xs) (hd : Drew g P w w') (hg : g < lo) : OwnInts w' lo v xs :=
  h.kept hd.2 (by
    cases hv : v.ownBlock with
    | none => exact .inl rfl
    | some b =>
      refine .inr fun e => ?_
      have h1 := (h.lt b hv).1
      have h2 : b = g := Option.some.inj e
      omega)
theorem OwnInts.lit (w : World) (lo : Nat) (hlo : lo ≤ w.heap.size) (xs : List Int) (hl : xs.length ≤ maxLen) : OwnInts (w.alloc (.cells (xs.map (Value.int .i64)).toArray 3)) lo (.slice (some ⟨w.heap.size, 0, none⟩) xs.length xs.length) xs := by
  have := World.ownsRow_lit (base := lo) (e := 3) (size := 1) w (xs.map (Value.int .i64)).toArray xs.length hlo hl (by simp)
  simpa [OwnInts] using this
theorem OwnInts.alloc {w : World} {lo : Nat} {v : Value} {xs : List Int} (h : OwnInts w lo v xs) (o : Obj) : OwnInts (w.alloc o) lo v xs := h.below (belowOne w o)

/-- The literals of numbers with something wrong. -/
def valLits (w : World) : World := ((((w.alloc (.cells #[] 3)).alloc (.cells #[.int .i64 (-1)] 3)).alloc (.cells #[.int .i64 10000] 3)).alloc (.cells #[.int .i64 1, .int .i64 2, .int .i64 3, .int .i64 4] 3)).alloc (.cells #[.slice (some ⟨w.heap.size, 0, none⟩) 0 0, .slice (some ⟨w.heap.size + 1, 0, none⟩) 1 1, .slice (some ⟨w.heap.size + 1 + 1, 0, none⟩) 1 1, .slice (some ⟨w.heap.size + 1 + 1 + 1, 0, none⟩) 4 4] 56)
theorem valLits_at (w : World) (lo : Nat) (hlo : lo ≤ w.heap.size) : ∀ k, k < 4 → ∃ u ys, (valLits w).cell? ⟨w.heap.size + 1 + 1 + 1 + 1, k, none⟩ = some u ∧ ys.length ≤ 4 ∧ OwnInts (valLits w) lo u ys := by
  intro k hk
  have hm : ∀ n, n ≤ 4 → n ≤ maxLen := fun n hn => by unfold maxLen; omega
  unfold valLits
  have h0 := OwnInts.lit w lo hlo [] (hm _ (by decide))
  have h1 := OwnInts.lit (w.alloc (.cells #[] 3)) lo (by simp; omega) [-1] (hm _ (by decide))
  have h2 := OwnInts.lit ((w.alloc (.cells #[] 3)).alloc (.cells #[.int .i64 (-1)] 3)) lo (by simp; omega) [10000] (hm _ (by decide))
  have h3 := OwnInts.lit (((w.alloc (.cells #[] 3)).alloc (.cells #[.int .i64 (-1)] 3)).alloc (.cells #[.int .i64 10000] 3)) lo (by simp; omega) [1, 2, 3, 4] (hm _ (by decide))
  have hz : ((((w.alloc (.cells #[] 3)).alloc (.cells #[.int .i64 (-1)] 3)).alloc (.cells #[.int .i64 10000] 3)).alloc (.cells #[.int .i64 1, .int .i64 2, .int .i64 3, .int .i64 4] 3)).heap.size = w.heap.size + 1 + 1 + 1 + 1 := by simp
  have hH := Held.new ((((w.alloc (.cells #[] 3)).alloc (.cells #[.int .i64 (-1)] 3)).alloc (.cells #[.int .i64 10000] 3)).alloc (.cells #[.int .i64 1, .int .i64 2, .int .i64 3, .int .i64 4] 3)) #[.slice (some ⟨w.heap.size, 0, none⟩) 0 0, .slice (some ⟨w.heap.size + 1, 0, none⟩) 1 1, .slice (some ⟨w.heap.size + 1 + 1, 0, none⟩) 1 1, .slice (some ⟨w.heap.size + 1 + 1 + 1, 0, none⟩) 4 4] 56
  rw [hz] at hH
  rcases (by omega : k = 0 ∨ k = 1 ∨ k = 2 ∨ k = 3) with rfl | rfl | rfl | rfl
  · exact ⟨_, [], hH.of 0 _ rfl, by decide, (((h0.alloc _).alloc _).alloc _).alloc _⟩
  · exact ⟨_, [-1], hH.of 1 _ rfl, by decide, by simpa using ((h1.alloc _).alloc _).alloc _⟩
  · exact ⟨_, [10000], hH.of 2 _ rfl, by decide, by simpa using (h2.alloc _).alloc _⟩
  · exact ⟨_, [1, 2, 3, 4], hH.of 3 _ rfl, by decide, by simpa using h3.alloc _⟩

/-- What a draw of numbers leaves. -/
def DrewInts (g : Nat) (P : Int) (w : World) (e : Ending) (w' : World) : Prop :=
  ∃ v xs, e = .returned v ∧ xs.length ≤ 4 ∧ OwnInts w' w.heap.size v xs ∧ Drew g P w w'

end Go.Proofs.Ytfmddejgoojghaa

/- Blocks of a call's own, beside a reader. -/
namespace Go.Proofs.Ytfmddejgoojghaa
open Go.RowKit

theorem Held.drew {w w' : World} {g b : Nat} {P : Int} {cs : List Value} (h : Held w b cs) (hd : Drew g P w w') (hb : b ≠ g) : Held w' b cs := by
  have hk := hd.2.block b h.1 (fun e => hb (Option.some.inj e))
  exact ⟨Nat.lt_of_lt_of_le h.1 hd.2.size, fun j => (World.frozen?_of_block (a := ⟨b, j, none⟩) hk).trans (h.2.1 j), fun j u hu => (World.cell?_of_block (a := ⟨b, j, none⟩) hk).trans (h.2.2 j u hu)⟩
theorem Held.cells {w : World} {b : Nat} {x y z : Value} (h : Held w b [x, y, z]) : w.cell? ⟨b, 0, none⟩ = some x ∧ w.cell? ⟨b, 1, none⟩ = some y ∧ w.cell? ⟨b, 2, none⟩ = some z := ⟨h.of 0 _ rfl, h.of 1 _ rfl, h.of 2 _ rfl⟩

theorem Drew.setCell {g : Nat} {P : Int} {w a : World} (h : Drew g P w a) {p : Addr} (hp : w.heap.size ≤ p.block) (hgw : g < w.heap.size) (u : Value) : Drew g P w (a.setCell p u) :=
  h.grown (row := some p.block) ⟨rfl, rfl, rfl, by simp [World.setCell], fun b _ hne => Below.heap_setCell a p u b (fun e => hne (by rw [e]))⟩ (fun k hk => by have := Option.some.inj hk; omega) hgw
theorem Held.far {w : World} {b : Nat} {cs : List Value} {p : Addr} (h : Held w b cs) (hp : b ≠ p.block) (u : Value) : Held (w.setCell p u) b cs := by
  have hk := Below.heap_setCell w p u b hp
  exact ⟨by simpa [World.setCell] using h.1, fun j => (World.frozen?_of_block (a := ⟨b, j, none⟩) hk).trans (h.2.1 j), fun j x hx => (World.cell?_of_block (a := ⟨b, j, none⟩) hk).trans (h.2.2 j x hx)⟩


theorem Held.new1 (w : World) (x : Obj) (cs : Array Value) (t : TypeId) : Held ((w.alloc x).alloc (.cells cs t)) (w.heap.size + 1) cs.toList := by
  have h := Held.new (w.alloc x) cs t
  rwa [show (w.alloc x).heap.size = w.heap.size + 1 by simp] at h
theorem Held.new2 (w : World) (x y : Obj) (cs : Array Value) (t : TypeId) : Held (((w.alloc x).alloc y).alloc (.cells cs t)) (w.heap.size + 1 + 1) cs.toList := by
  have h := Held.new1 (w.alloc x) y cs t
  rwa [show (w.alloc x).heap.size = w.heap.size + 1 by simp] at h

theorem Held.seven {w' : World} {b : Nat} {a0 a1 a2 a3 a4 a5 a6 : Value} (h : Held w' b [a0, a1, a2, a3, a4, a5, a6]) : w'.cell? ⟨b, 0, none⟩ = some a0 ∧ w'.cell? ⟨b, 1, none⟩ = some a1 ∧ w'.cell? ⟨b, 2, none⟩ = some a2 ∧ w'.cell? ⟨b, 3, none⟩ = some a3 ∧ w'.cell? ⟨b, 4, none⟩ = some a4 ∧ w'.cell? ⟨b, 5, none⟩ = some a5 ∧ w'.cell? ⟨b, 6, none⟩ = some a6 :=
  ⟨h.of 0 _ rfl, h.of 1 _ rfl, h.of 2 _ rfl, h.of 3 _ rfl, h.of 4 _ rfl, h.of 5 _ rfl, h.of 6 _ rfl⟩

/-- Seven cells of a block written. -/
abbrev put7 (w : World) (b : Nat) (b0 b1 b2 b3 b4 b5 b6 : Value) : World := (((((((w).setCell ⟨b, 0, none⟩ b0).setCell ⟨b, 1, none⟩ b1).setCell ⟨b, 2, none⟩ b2).setCell ⟨b, 3, none⟩ b3).setCell ⟨b, 4, none⟩ b4).setCell ⟨b, 5, none⟩ b5).setCell ⟨b, 6, none⟩ b6
theorem Held.put7 {w : World} {b : Nat} {a0 a1 a2 a3 a4 a5 a6 : Value} (h : Held w b [a0, a1, a2, a3, a4, a5, a6]) (b0 b1 b2 b3 b4 b5 b6 : Value) : Held (put7 w b b0 b1 b2 b3 b4 b5 b6) b [b0, b1, b2, b3, b4, b5, b6] :=
  ((((((h.set_ (i := 0) b0).set_ (i := 1) b1).set_ (i := 2) b2).set_ (i := 3) b3).set_ (i := 4) b4).set_ (i := 5) b5).set_ (i := 6) b6
theorem Held.far7 {w : World} {c b : Nat} {cs : List Value} (h : Held w c cs) (hp : c ≠ b) (b0 b1 b2 b3 b4 b5 b6 : Value) : Held (Go.Proofs.Ytfmddejgoojghaa.put7 w b b0 b1 b2 b3 b4 b5 b6) c cs :=
  ((((((h.far (p := ⟨b, 0, none⟩) hp b0).far (p := ⟨b, 1, none⟩) hp b1).far (p := ⟨b, 2, none⟩) hp b2).far (p := ⟨b, 3, none⟩) hp b3).far (p := ⟨b, 4, none⟩) hp b4).far (p := ⟨b, 5, none⟩) hp b5).far (p := ⟨b, 6, none⟩) hp b6
theorem Drew.put7 {g : Nat} {P : Int} {w a : World} (h : Drew g P w a) (b : Nat) (hb : w.heap.size ≤ b) (hgw : g < w.heap.size) (b0 b1 b2 b3 b4 b5 b6 : Value) : Drew g P w (Go.Proofs.Ytfmddejgoojghaa.put7 a b b0 b1 b2 b3 b4 b5 b6) :=
  ((((((h.setCell (p := ⟨b, 0, none⟩) hb hgw b0).setCell (p := ⟨b, 1, none⟩) hb hgw b1).setCell (p := ⟨b, 2, none⟩) hb hgw b2).setCell (p := ⟨b, 3, none⟩) hb hgw b3).setCell (p := ⟨b, 4, none⟩) hb hgw b4).setCell (p := ⟨b, 5, none⟩) hb hgw b5).setCell (p := ⟨b, 6, none⟩) hb hgw b6
theorem belowPut7 {B : Nat} {w a : World} (h : Below B w a) (b : Nat) (hb : B ≤ b) (b0 b1 b2 b3 b4 b5 b6 : Value) : Below B w (Go.Proofs.Ytfmddejgoojghaa.put7 a b b0 b1 b2 b3 b4 b5 b6) :=
  (((((((h.setCell (p := ⟨b, 0, none⟩) hb b0).setCell (p := ⟨b, 1, none⟩) hb b1).setCell (p := ⟨b, 2, none⟩) hb b2).setCell (p := ⟨b, 3, none⟩) hb b3).setCell (p := ⟨b, 4, none⟩) hb b4).setCell (p := ⟨b, 5, none⟩) hb b5).setCell (p := ⟨b, 6, none⟩) hb b6)

end Go.Proofs.Ytfmddejgoojghaa

/- A drawn write. -/
namespace Go.Proofs.Ytfmddejgoojghaa
open Go.RowKit

theorem Held.write3 {w : World} {b : Nat} {x y z : Value} (h : Held w b [x, y, z]) (x' y' z' : Value) :
    Held (((w.setCell ⟨b, 0, none⟩ x').setCell ⟨b, 1, none⟩ y').setCell ⟨b, 2, none⟩ z') b [x', y', z'] := ((h.set_ (i := 0) x').set_ (i := 1) y').set_ (i := 2) z'
theorem Drew.write3 {g : Nat} {P : Int} {w a : World} (h : Drew g P w a) (b : Nat) (hb : w.heap.size ≤ b) (hgw : g < w.heap.size) (x y z : Value) :
    Drew g P w (((a.setCell ⟨b, 0, none⟩ x).setCell ⟨b, 1, none⟩ y).setCell ⟨b, 2, none⟩ z) := ((h.setCell (p := ⟨b, 0, none⟩) hb hgw x).setCell (p := ⟨b, 1, none⟩) hb hgw y).setCell (p := ⟨b, 2, none⟩) hb hgw z
theorem OwnInts.set_ {w : World} {lo : Nat} {v : Value} {xs : List Int} (h : OwnInts w lo v xs) {p : Addr} (hp : ∀ b, v.ownBlock = some b → b ≠ p.block) (u : Value) : OwnInts (w.setCell p u) lo v xs :=
  h.kept (row := some p.block) ⟨rfl, rfl, rfl, by simp [World.setCell], fun b _ hne => Below.heap_setCell w p u b (fun e => hne (by rw [e]))⟩ (by
    cases hv : v.ownBlock with
    | none => exact .inl rfl
    | some b => exact .inr fun e => hp b hv (Option.some.inj e))
theorem OwnInts.write3 {w : World} {lo : Nat} {v : Value} {xs : List Int} (h : OwnInts w lo v xs) (b : Nat) (hp : ∀ k, v.ownBlock = some k → k ≠ b) (x y z : Value) :
    OwnInts (((w.setCell ⟨b, 0, none⟩ x).setCell ⟨b, 1, none⟩ y).setCell ⟨b, 2, none⟩ z) lo v xs := ((h.set_ (p := ⟨b, 0, none⟩) hp x).set_ (p := ⟨b, 1, none⟩) hp y).set_ (p := ⟨b, 2, none⟩) hp z
theorem ownNil (w : World) (lo : Nat) : OwnInts w lo (.slice none 0 0) [] := World.ownsRow_nil _ _ _ _

/-- What a draw of a write leaves. -/
def DrewWrite (g : Nat) (P : Int) (w : World) (e : Ending) (w' : World) : Prop :=
  ∃ s d v xs, e = .returned (.agg #[.string s, .bool d, v]) ∧ s.size ≤ 1000002 ∧ xs.length ≤ 4 ∧ OwnInts w' w.heap.size v xs ∧ Drew g P w w'

end Go.Proofs.Ytfmddejgoojghaa

/- Which operations of a region that draws must have come up behind which. Nothing of the program. -/
namespace Go.Proofs.Ytfmddejgoojghaa

/-- Which operations must have come up behind which. -/
def reach (ops : Array Oper) : Nat → Nat → Nat → Bool
  | 0, i, j => i == j
  | f + 1, i, j => i == j || (match ops[i]? with
    | some o => o.after.any fun e => reach ops f e.on j
    | none => false)
theorem Down.reach {ops : Array Oper} {L : Nat → Bool} (h : Down ops L) : ∀ (f i j : Nat), reach ops f i j = true → L i = true → L j = true := by
  intro f
  induction f with
  | zero => intro i j hr hL; simp [Go.Proofs.Ytfmddejgoojghaa.reach] at hr; subst hr; exact hL
  | succ f ih =>
    intro i j hr hL
    unfold Go.Proofs.Ytfmddejgoojghaa.reach at hr
    rcases Bool.or_eq_true_iff.1 hr with h1 | h1
    · simp at h1; subst h1; exact hL
    · split at h1
      · next o ho =>
        obtain ⟨n, hn, he⟩ := Array.any_eq_true.1 h1
        exact ih _ _ he (h i o ho hL _ (Array.getElem_mem hn))
      · cases h1
theorem Down.notYet {ops : Array Oper} {L : Nat → Bool} (h : Down ops L) (f n m : Nat) (hr : ((List.range n).all fun j => Go.Proofs.Ytfmddejgoojghaa.reach ops f m j) = true) {i : Nat} (hi : i < n) (hL : L i = false) : L m = false := by
  cases hm : L m with
  | false => rfl
  | true =>
    have := h.reach f m i (List.all_eq_true.1 hr i (List.mem_range.2 hi)) hm
    rw [hL] at this
    cases this

end Go.Proofs.Ytfmddejgoojghaa
