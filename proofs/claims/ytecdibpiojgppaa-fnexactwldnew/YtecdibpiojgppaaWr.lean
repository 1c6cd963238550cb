/- Writes, and how they lie in memory. -/
import Derived.Test.YtecdibpiojgppaaWrt
namespace Go.Proofs.Ytecdibpiojgppaa
open Go.RowKit

structure Wr where
  key : ByteArray
  del : Bool
  val : List Int
def Wr.ok (x : Wr) : Bool := wrtB x.key x.del x.val

/-- A slice value that reads as writes, below block B. -/
def Wrts (w : World) (B : Nat) (v : Value) (ws : List Wr) : Prop :=
  ∃ A c, v = .slice A ws.length c ∧ ws.length ≤ c ∧ c ≤ maxLen ∧ (0 < ws.length → ∃ b off, A = some ⟨b, off, none⟩ ∧ b < B ∧
    ∀ j x, ws[j]? = some x → x.key.size ≤ maxLen ∧ w.cell? ⟨b, off + j * 3, none⟩ = some (.string x.key) ∧ w.cell? ⟨b, off + j * 3 + 1, none⟩ = some (.bool x.del) ∧ ∃ u, w.cell? ⟨b, off + j * 3 + 2, none⟩ = some u ∧ Ints w B u x.val)
section
variable {w w' : World} {B B' : Nat} {v : Value} {ws : List Wr}
theorem Wrts.keep (h : Wrts w B v ws) (hk : ∀ b o, b < B → w'.cell? ⟨b, o, none⟩ = w.cell? ⟨b, o, none⟩) : Wrts w' B v ws := by
  obtain ⟨A, c, hv, h1, h2, hr⟩ := h
  refine ⟨A, c, hv, h1, h2, fun hn => ?_⟩
  obtain ⟨b, off, hA, hb, hc⟩ := hr hn
  refine ⟨b, off, hA, hb, fun j x hx => ?_⟩
  obtain ⟨hs, c1, c2, u, c3, hu⟩ := hc j x hx
  exact ⟨hs, (hk b _ hb).trans c1, (hk b _ hb).trans c2, u, (hk b _ hb).trans c3, hu.keep hk⟩
theorem Wrts.below (h : Wrts w B v ws) (hb : Below B w w') : Wrts w' B v ws := h.keep fun b o hB => hb.cell (p := ⟨b, o, none⟩) hB
theorem Wrts.form (h : Wrts w B v ws) : ∃ A c, v = .slice A ws.length c ∧ c ≤ maxLen ∧ ws.length ≤ c := by
  obtain ⟨A, c, hv, h1, h2, _⟩ := h
  exact ⟨A, c, hv, h2, h1⟩
theorem Wrts.at_ (h : Wrts w B v ws) {k : Nat} (hk : k < ws.length) : ∃ b off c x u, v = .slice (some ⟨b, off, none⟩) ws.length c ∧ ws[k]? = some x ∧ b < B ∧ x.key.size ≤ maxLen ∧
    w.cell? ⟨b, off + k * 3, none⟩ = some (.string x.key) ∧ w.cell? ⟨b, off + k * 3 + 1, none⟩ = some (.bool x.del) ∧ w.cell? ⟨b, off + k * 3 + 2, none⟩ = some u ∧ Ints w B u x.val := by
  obtain ⟨A, c, hv, _, _, hr⟩ := h
  obtain ⟨b, off, hA, hb, hc⟩ := hr (by omega)
  obtain ⟨hs, c1, c2, u, c3, hu⟩ := hc k _ (List.getElem?_eq_getElem hk)
  exact ⟨b, off, c, _, u, by rw [hv, hA], List.getElem?_eq_getElem hk, hb, hs, c1, c2, c3, hu⟩
end

end Go.Proofs.Ytecdibpiojgppaa
