/- Things that the call itself has made: a row of cells, and a row of numbers for each, all in blocks of their own. -/
import Derived.Test.YtecdibpiojgppaaXItems
import Derived.Laws.MakeOwn
namespace Go.Proofs.Ytecdibpiojgppaa
open Go.RowKit

/-- Cell i of a row of things of which the first k are laid; G says where the numbers of each lie. -/
def cellOf (its : List Item) (G : Nat → Nat) (k i : Nat) : Value :=
  if i / 2 < k then
    match its[i / 2]? with
    | some it => if i % 2 = 0 then .string it.key else .slice (some ⟨G (i / 2), 0, none⟩) it.val.length it.val.length
    | none => .string ByteArray.empty
  else if i % 2 = 0 then .string ByteArray.empty else .slice none 0 0
theorem cellOf_key {its : List Item} {G : Nat → Nat} {k j : Nat} {it : Item} (hj : j < k) (hit : its[j]? = some it) : cellOf its G k (j * 2) = .string it.key := by
  have h1 : j * 2 / 2 = j := by omega
  have h2 : j * 2 % 2 = 0 := by omega
  simp [cellOf, h1, h2, hj, hit]
theorem cellOf_val {its : List Item} {G : Nat → Nat} {k j : Nat} {it : Item} (hj : j < k) (hit : its[j]? = some it) : cellOf its G k (j * 2 + 1) = .slice (some ⟨G j, 0, none⟩) it.val.length it.val.length := by
  have h1 : (j * 2 + 1) / 2 = j := by omega
  have h2 : (j * 2 + 1) % 2 = 1 := by omega
  simp [cellOf, h1, h2, hj, hit]

/-- G with another block at k. -/
def putAt (G : Nat → Nat) (k g j : Nat) : Nat := if j = k then g else G j
theorem putAt_same (G : Nat → Nat) (k g : Nat) : putAt G k g k = g := by simp [putAt]
theorem putAt_other (G : Nat → Nat) {k j : Nat} (g : Nat) (h : j ≠ k) : putAt G k g j = G j := by simp [putAt, h]
theorem cellOf_next {its : List Item} {G : Nat → Nat} {k i : Nat} (g : Nat) (h : i / 2 ≠ k) : cellOf its G k i = cellOf its (putAt G k g) (k + 1) i := by
  unfold cellOf
  rw [putAt_other G g h]
  by_cases hik : i / 2 < k
  · have hik' : i / 2 < k + 1 := by omega
    simp only [hik, hik', if_true]
  · have hik' : ¬ i / 2 < k + 1 := by omega
    simp only [hik, hik', if_false]

/-- Block g holds n things' cells, of which the first k are those of its; the numbers of each lie in a block of their own, further on. -/
def Mine (ti tn : TypeId) (w : World) (g : Nat) (its : List Item) (n k : Nat) : Prop :=
  ∃ G : Nat → Nat, w.rowIs g ti (n * 2) (cellOf its G k) ∧
    (∀ j it, j < k → its[j]? = some it → it.key.size ≤ maxLen ∧ it.val.length ≤ maxLen ∧ g < G j ∧ w.rowIs (G j) tn it.val.length fun i => .int .i64 (nth it.val i)) ∧ ∀ i j, i < j → j < k → G i < G j

section
variable {ti tn : TypeId} {w w' : World} {g : Nat} {its : List Item} {n k : Nat}
theorem Mine.lt (h : Mine ti tn w g its n k) : g < w.heap.size := by
  obtain ⟨G, h1, _⟩ := h
  exact h1.lt
theorem Mine.kept (h : Mine ti tn w g its n k) (hk : ∀ b, g ≤ b → b < w.heap.size → w'.heap[b]? = w.heap[b]?) : Mine ti tn w' g its n k := by
  obtain ⟨G, h1, h2, h3⟩ := h
  refine ⟨G, h1.of_block (hk g (Nat.le_refl _) h1.lt), fun j it hj hit => ?_, h3⟩
  obtain ⟨a, b, c, d⟩ := h2 j it hj hit
  exact ⟨a, b, c, d.of_block (hk _ (Nat.le_of_lt c) d.lt)⟩
theorem Mine.below (h : Mine ti tn w g its n k) (hb : Below w.heap.size w w') : Mine ti tn w' g its n k := h.kept fun b _ hlt => hb.block b hlt
theorem Mine.step {it : Item} {g' : Nat} (h : Mine ti tn w g its n k) (hb : Below w.heap.size w w') (hg : w.heap.size ≤ g') (hr : w'.rowIs g' tn it.val.length fun i => .int .i64 (nth it.val i)) (hit : its[k]? = some it)
    (hs : it.key.size ≤ maxLen) (hl : it.val.length ≤ maxLen) :
    Mine ti tn ((w'.setCell ⟨g, k * 2, none⟩ (.string it.key)).setCell ⟨g, k * 2 + 1, none⟩ (.slice (some ⟨g', 0, none⟩) it.val.length it.val.length)) g its n (k + 1) := by
  have hlt := h.lt
  obtain ⟨G, h1, h2, h3⟩ := h
  have hG : ∀ j, j < k → ∀ it, its[j]? = some it → G j < w.heap.size := fun j hj it hit => (h2 j it hj hit).2.2.2.lt
  refine ⟨putAt G k g', ?_, fun j it' hj hit' => ?_, fun i j hij hj => ?_⟩
  · refine (((h1.of_block (hb.block g hlt)).set (k * 2) _).set (k * 2 + 1) _).congr fun i hi => ?_
    by_cases e1 : i = k * 2 + 1
    · subst e1
      rw [if_pos rfl, cellOf_val (Nat.lt_succ_self k) hit, putAt_same]
    · rw [if_neg e1]
      by_cases e2 : i = k * 2
      · subst e2
        rw [if_pos rfl, cellOf_key (Nat.lt_succ_self k) hit]
      · rw [if_neg e2]
        exact cellOf_next g' (by omega)
  · by_cases e : j = k
    · subst e
      rw [hit] at hit'
      injection hit' with hit'
      subst hit'
      rw [putAt_same]
      exact ⟨hs, hl, by omega, (hr.setOther (by simp; omega) _).setOther (by simp; omega) _⟩
    · rw [putAt_other G g' e]
      obtain ⟨a, b, c, d⟩ := h2 j it' (by omega) hit'
      exact ⟨a, b, c, ((d.of_block (hb.block _ d.lt)).setOther (by simp; omega) _).setOther (by simp; omega) _⟩
  · rw [putAt_other G g' (by omega : i ≠ k)]
    by_cases e : j = k
    · subst e
      rw [putAt_same]
      have hk' : j < its.length := (List.getElem?_eq_some_iff.1 hit).1
      exact Nat.lt_of_lt_of_le (hG i (by omega) _ (List.getElem?_eq_getElem (by omega))) hg
    · rw [putAt_other G g' e]; exact h3 i j hij (by omega)
theorem Mine.items (h : Mine ti tn w g its its.length its.length) (hl : its.length ≤ maxLen) : Items w w.heap.size (.slice (some ⟨g, 0, none⟩) its.length its.length) its := by
  have hlt := h.lt
  obtain ⟨G, h1, h2, h3⟩ := h
  refine ⟨_, _, rfl, Nat.le_refl _, hl, fun hn => ⟨g, 0, rfl, hlt, fun j it hit => ?_⟩⟩
  have hj : j < its.length := (List.getElem?_eq_some_iff.1 hit).1
  obtain ⟨a, b, c, d⟩ := h2 j it hj hit
  refine ⟨a, ?_, _, ?_, Ints.ofRow d b⟩
  · rw [Nat.zero_add, h1.cell (by omega), cellOf_key hj hit]
  · rw [Nat.zero_add, h1.cell (by omega), cellOf_val hj hit]
end

/-- make, of elements of two cells. -/
theorem made_two {P : Program} (t e : TypeId) (z0 z1 : Value) (bytes : Nat) (ht : P.underlying t = some (.slice e)) (hinfo : (P.info? e).map (fun i => (i.zero, i.size, i.bytes)) = some (some (.agg #[z0, z1]), 2, bytes))
    (n : Nat) (hbytes : bytes * n ≤ 281474976710656) (h63 : n ≤ 9223372036854775807) (w : World) :
    (Instr.makeSlice t (.int .i64 (n : Int)) (.int .i64 (n : Int))).run P w = .ok (.slice (some ⟨w.heap.size, 0, none⟩) n n) (w.alloc (.cells (madeCells #[z0, z1] (n * 2)) e)) := by
  obtain ⟨i, hi, hzz⟩ := Option.map_eq_some_iff.1 hinfo
  simp only [Prod.mk.injEq] at hzz
  obtain ⟨hz, hs, hb⟩ := hzz
  have hb' : (i.bytes : Int) * (n : Int) ≤ 281474976710656 := by
    have h : ((i.bytes * n : Nat) : Int) ≤ 281474976710656 := by rw [hb]; omega
    rwa [Int.natCast_mul] at h
  have hr := run_make (P := P) w t e i _ ht hi hz .i64 .i64 n n (by omega) (Int.le_refl _) hb' (by omega)
  simp only [Int.toNat_natCast, hs] at hr
  exact hr
theorem Mine.start (w : World) (ti tn : TypeId) (its : List Item) (n : Nat) : Mine ti tn (w.alloc (.cells (madeCells #[.string ByteArray.empty, .slice none 0 0] (n * 2)) ti)) w.heap.size its n 0 := by
  refine ⟨fun _ => 0, ?_, fun j _ h => absurd h (by omega), fun i j _ h => absurd h (by omega)⟩
  refine ⟨_, Go.Deep.blk_alloc_new _ _, size_madeCells _ _, fun i hi => ?_⟩
  simp only [madeCells, cellOf]
  rw [if_neg (by omega)]
  have h2 : i % 2 = 0 ∨ i % 2 = 1 := by omega
  rcases h2 with h | h <;> simp [hi, h]

end Go.Proofs.Ytecdibpiojgppaa
