/- Texts that follow each other, merged: Del, ExTo. -/
import Derived.Test.YteccebjnopladaaXIns
import Derived.Test.YteccebjnopladaaXExItems

/- slices.Delete of one thing of the call's own. -/
namespace Go.Proofs.Yteccebjnopladaa
open Go.RowKit Go.Shelf

/-- The cells of a row out of which one was taken. -/
theorem drop_row {cur F z : List Value} {m i d cap : Nat} (hc : cur.length = cap * d) (hF : cur.take ((m + 1) * d) = F) (hz : z.length = d) (hi : i ≤ m) (hn : m + 1 ≤ cap) :
    ((cur.take (i * d) ++ F.drop ((i + 1) * d) ++ cur.drop (i * d + (F.drop ((i + 1) * d)).length)).take (m * d) ++ z ++ (cur.take (i * d) ++ F.drop ((i + 1) * d) ++ cur.drop (i * d + (F.drop ((i + 1) * d)).length)).drop (m * d + z.length)).take (m * d) = F.take (i * d) ++ F.drop ((i + 1) * d) ∧
    ((cur.take (i * d) ++ F.drop ((i + 1) * d) ++ cur.drop (i * d + (F.drop ((i + 1) * d)).length)).take (m * d) ++ z ++ (cur.take (i * d) ++ F.drop ((i + 1) * d) ++ cur.drop (i * d + (F.drop ((i + 1) * d)).length)).drop (m * d + z.length)).length = cap * d ∧
    (cur.take (i * d) ++ F.drop ((i + 1) * d) ++ cur.drop (i * d + (F.drop ((i + 1) * d)).length)).length = cap * d := by
  have h1 : (i + 1) * d = i * d + d := by rw [Nat.add_mul, Nat.one_mul]
  have h2 : (m + 1) * d = m * d + d := by rw [Nat.add_mul, Nat.one_mul]
  have h3 := Nat.mul_le_mul_right d hi
  have h4 := Nat.mul_le_mul_right d hn
  have hFl : F.length = (m + 1) * d := by rw [← hF, List.length_take]; omega
  have hT : cur.take (i * d) = F.take (i * d) := by rw [← hF, List.take_take]; congr 1; omega
  have e1 : (cur.take (i * d) ++ F.drop ((i + 1) * d) ++ cur.drop (i * d + (F.drop ((i + 1) * d)).length)).take (m * d) = F.take (i * d) ++ F.drop ((i + 1) * d) := by
    rw [hT]
    refine List.take_left' ?_
    simp only [List.length_append, List.length_take, List.length_drop, hFl]; omega
  refine ⟨?_, ?_, ?_⟩
  · rw [e1, List.append_assoc]
    refine List.take_left' ?_
    simp only [List.length_append, List.length_take, List.length_drop, hFl]; omega
  · simp only [List.length_append, List.length_take, List.length_drop, hFl, hz, hc]; omega
  · simp only [List.length_append, List.length_take, List.length_drop, hFl, hc]; omega

theorem zeroItem : (Builtin.zeroCells (Value.agg #[.string ByteArray.empty, .slice none 0 0]).cells 1).toList = [.string ByteArray.empty, .slice none 0 0] := by kernel_rfl
theorem zeroSize : (Builtin.zeroCells (Value.agg #[.string ByteArray.empty, .slice none 0 0]).cells 1).size = 2 := by kernel_rfl
theorem zeroRun (w : World) : (zeroValue 50).run Try.prog w = .ok (.agg #[.string ByteArray.empty, .slice none 0 0]) w := by
  obtain ⟨i0, hi0, hz0, -, -⟩ := infoItemParts
  simp [zeroValue, typeInfo, hi0, hz0]

end Go.Proofs.Yteccebjnopladaa

/- Copies of things and of stores, in new memory. -/
namespace Go.Proofs.Yteccebjnopladaa
open Go.RowKit

theorem infoItem : (Try.prog.info? 50).map (fun i => (i.zero, i.size, i.bytes)) = some (some (.agg #[.string ByteArray.empty, .slice none 0 0]), 2, 40) := by kernel_rfl

theorem Mine.setFar {ti tn : TypeId} {w : World} {g : Nat} {its : List Item} {n k : Nat} (h : Mine ti tn w g its n k) {p : Addr} (hp : p.block < g) (u : Value) : Mine ti tn (w.setCell p u) g its n k :=
  h.kept fun b hb _ => Below.heap_setCell w p u b (by omega)

/-- What a copy of a store leaves: a slice of its own. -/
def Copied (its : List Item) (w : World) (e : Ending) (w' : World) : Prop :=
  ∃ g, e = .returned (.agg #[.slice (some ⟨g, 0, none⟩) its.length its.length]) ∧ w.heap.size ≤ g ∧ Mine 50 3 w' g its its.length its.length ∧ Below w.heap.size w w'

end Go.Proofs.Yteccebjnopladaa
