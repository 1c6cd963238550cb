/- From the reading of an argument to the words of shapes: rows, records, writes. -/
import Derived.Test.YtecdibpiojgppaaXFrameSto
import Derived.Test.YtecdibpiojgppaaXShapes
import Derived.Deep.Strs
namespace Go.Proofs.Ytecdibpiojgppaa
open Go.ChangeShapes Go.WideShapes Go.ChangeAt Go.RowKit Go.Joins Go.Deep

/-- Cells of a type that came in read as something of a shape. -/
def Reads {α : Type} (A : Sh α) (t : TypeId) (W : World) {H : Type} (enc : TypeId × Value → H) : Prop :=
  ∀ (fuel : Nat) (cs : List Value) (y : DataW H × List MemPlace), DataW.trod enc Try.prog W 0 (fun _ => true) true fuel t cs = some y → ∃ x, A.rel W W.heap.size cs x

section
variable {α : Type} {A : Sh α} {H : Type} {enc : TypeId × Value → H} {W : World}
theorem reads_int {t : TypeId} (ht : Try.prog.underlying t = some (.int .i64)) : Reads Sh.int t W enc := fun fuel cs y h => by
  obtain ⟨n, hcs, _⟩ := DataW.trod_int ht h
  exact ⟨n, hcs⟩
theorem reads_bool {t : TypeId} (ht : Try.prog.underlying t = some .bool) : Reads Sh.bool t W enc := fun fuel cs y h => by
  obtain ⟨n, hcs, _⟩ := DataW.trod_bool ht h
  exact ⟨n, hcs⟩
theorem reads_str {t : TypeId} (ht : Try.prog.underlying t = some .string) : Reads strSh t W enc := fun fuel cs y h => by
  obtain ⟨s, hcs, _, hs⟩ := DataW.trod_string ht h
  exact ⟨s, hcs, hs⟩
theorem reads_row {t e : TypeId} (ht : Try.prog.underlying t = some (.slice e)) (hc : Try.prog.cellsOf e = A.wd) (hwd : 0 < A.wd) (hA : Reads A e W enc) {fuel : Nat} {cs : List Value} {y : DataW H × List MemPlace}
    (h : DataW.trod enc Try.prog W 0 (fun _ => true) true fuel t cs = some y) : ∃ v xs, cs = [v] ∧ A.Row W W.heap.size v xs := by
  rcases open_slice ht h with ⟨hcs, _⟩ | ⟨a, len, cap, m, n, D, Pl, hcs, _, hl, hm, hmm, _, hi⟩
  · exact ⟨_, [], hcs, Sh.Row.nil _ _⟩
  · have hmc : m = cap := by simpa using hmm
    rw [hc] at hi
    have hat : ∀ i, i < len → ∃ x : α, ∃ cs', A.rel W W.heap.size cs' x ∧ ∀ j u, cs'[j]? = some u → W.cell? ((a.add (i * A.wd)).add j) = some u := by
      intro i hil
      obtain ⟨cs', hcc, ht'⟩ := hi i (by omega)
      obtain ⟨x, hx⟩ := hA _ _ _ ht'
      obtain ⟨_, hcl, hcell⟩ := World.cells?_some hcc
      refine ⟨x, cs', hx, fun j u hu => ?_⟩
      have hj : j < A.wd := by have := (List.getElem?_eq_some_iff.1 hu).1; omega
      rw [hcell j hj, hu]
    obtain ⟨xs, hlen, hq⟩ := listOf len hat
    refine ⟨_, xs, hcs, some a, cap, by rw [hlen], by omega, hm, fun hp => ?_⟩
    obtain ⟨cs0, hr0, hc0⟩ := hq 0 _ (List.getElem?_eq_getElem hp)
    have hl0 : 0 < cs0.length := by rw [A.rlen hr0]; exact hwd
    have h0 := hc0 0 _ (List.getElem?_eq_getElem hl0)
    obtain ⟨b, off, spot⟩ := a
    have hspot : spot = none := by
      have := World.cell?_spot h0
      simpa [Addr.add] using this
    subst hspot
    have hb : b < W.heap.size := cellLt (o := off) (by simpa [Addr.add] using h0)
    refine ⟨b, off, rfl, hb, fun j x hx => ?_⟩
    obtain ⟨cs', hr, hcell⟩ := hq j x hx
    refine ⟨cs', hr, fun i u hu => ?_⟩
    have := hcell i u hu
    rwa [add_none, add_none] at this
theorem reads_sl {t e tid : TypeId} {hb : A.base ≤ 16} (ht : Try.prog.underlying t = some (.slice e)) (hc : Try.prog.cellsOf e = A.wd) (hwd : 0 < A.wd) (hA : Reads A e W enc) : Reads (A.sl tid hb) t W enc := fun fuel cs y h => by
  obtain ⟨v, xs, h1, h2⟩ := reads_row ht hc hwd hA h
  exact ⟨xs, v, h1, h2⟩
end

theorem list3 {α : Type} {l : List α} (h : l.length = 3) : ∃ a b c, l = [a, b, c] := by
  match l, h with
  | [a, b, c], _ => exact ⟨a, b, c, rfl⟩
theorem list4 {α : Type} {l : List α} (h : l.length = 4) : ∃ a b c d, l = [a, b, c, d] := by
  match l, h with
  | [a, b, c, d], _ => exact ⟨a, b, c, d, rfl⟩

theorem cellsBool : Try.prog.cellsOf 4 = 1 := by kernel_rfl
theorem cellsSlS : Try.prog.cellsOf 33 = 1 := by kernel_rfl
theorem cellsWr : Try.prog.cellsOf 178 = 3 := by kernel_rfl
theorem cellsSlW : Try.prog.cellsOf 61 = 1 := by kernel_rfl

section
variable {H : Type} {enc : TypeId × Value → H} {W : World}
theorem reads_ints : Reads intsSh 41 W enc := reads_sl Try.underlying41 cellsInt (by decide) (reads_int Try.underlying3)
theorem reads_strs : Reads strsSh 33 W enc := reads_sl Try.underlying33 cellsStr (by decide) (reads_str Try.underlying9)
theorem reads_wr : Reads wrSh 178 W enc := fun fuel cs y h => by
  obtain ⟨y0, y1, y2, n, _, hl, t0, t1, t2⟩ := trod_struct3 Try.underlying178 h
  obtain ⟨c0, c1, c2, rfl⟩ := list3 (hl.trans cellsWr)
  simp only [cellsStr, cellsBool, cellsSl] at t0 t1 t2
  obtain ⟨k, e0, hk⟩ := reads_str (enc := enc) Try.underlying9 _ _ _ t0
  obtain ⟨d, e1⟩ := reads_bool (enc := enc) Try.underlying4 _ _ _ t1
  obtain ⟨xs, v, e2, h2⟩ := reads_ints (enc := enc) _ _ _ t2
  have e1' : List.take 1 (List.drop 1 [c0, c1, c2]) = [.bool d] := e1
  simp at e0 e1' e2
  subst e0 e1' e2
  exact ⟨⟨k, d, xs⟩, wr_rel.2 ⟨_, rfl, hk, h2⟩⟩
theorem reads_wrs : Reads wrsSh 61 W enc := reads_sl Try.underlying61 cellsWr (by decide) reads_wr
set_option maxRecDepth 100000 in
/-- A record by value. -/
theorem readsAg {α : Type} {A : Sh α} {t : TypeId} {fs : Array Field} (ht : Try.prog.underlying t = some (.struct fs)) (hA : Reads A t W enc) {b0 : Nat} {v : Value} {d : DataW H} {p : List MemPlace}
    (hv : Value.okWide Try.prog W .any b0 t v) (h : DataW.Trod enc Try.prog W 0 (fun _ => true) true t v d p) : ∃ cs x, v = .agg (List.toArray cs) ∧ A.rel W W.heap.size cs x := by
  obtain ⟨cs, rfl, hsz⟩ := okWide_struct ht hv
  obtain ⟨fuel, hf⟩ := h
  obtain ⟨l⟩ := cs
  obtain ⟨x, hx⟩ := hA _ _ _ hf
  exact ⟨l, x, rfl, by simpa [Value.cells] using hx⟩
end

end Go.Proofs.Ytecdibpiojgppaa
