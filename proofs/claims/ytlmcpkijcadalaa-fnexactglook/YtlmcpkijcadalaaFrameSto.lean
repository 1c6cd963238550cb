/- From the reading of a store that came in to the words of Items. -/
import Derived.Test.YtlmcpkijcadalaaFrame
import Derived.Test.YtlmcpkijcadalaaItems
import Derived.Deep.Slices
import Derived.Deep.Fields
namespace Go.Proofs.Ytlmcpkijcadalaa
open Go.ChangeShapes Go.WideShapes Go.ChangeAt Go.RowKit Go.Joins Go.Deep

/-- What is there at each place is there as a list. -/
theorem listOf {α : Type} {Q : Nat → α → Prop} : ∀ n : Nat, (∀ i, i < n → ∃ x, Q i x) → ∃ l : List α, l.length = n ∧ ∀ i x, l[i]? = some x → Q i x
  | 0, _ => ⟨[], rfl, fun i x h => by simp at h⟩
  | n + 1, h => by
    obtain ⟨l, hl, hq⟩ := listOf n fun i hi => h i (by omega)
    obtain ⟨x, hx⟩ := h n (by omega)
    refine ⟨l ++ [x], by simp [hl], fun i y hy => ?_⟩
    rcases Nat.lt_or_ge i n with hlt | hge
    · rw [List.getElem?_append_left (by omega)] at hy
      exact hq i y hy
    · rw [List.getElem?_append_right (by omega)] at hy
      have hi : i = n := by
        have := (List.getElem?_eq_some_iff.1 hy).1
        simp at this; omega
      subst hi
      simp [hl] at hy
      rw [← hy]; exact hx

theorem cellLt {W : World} {b o : Nat} {u : Value} (h : W.cell? ⟨b, o, none⟩ = some u) : b < W.heap.size := by
  rcases Nat.lt_or_ge b W.heap.size with hlt | hge
  · exact hlt
  · simp [World.cell?, Array.getElem?_eq_none hge] at h

theorem list2 {α : Type} {l : List α} (h : l.length = 2) : ∃ a b, l = [a, b] := by
  match l, h with
  | [a, b], _ => exact ⟨a, b, rfl⟩
theorem list1 {α : Type} {l : List α} (h : l.length = 1) : ∃ a, l = [a] := by
  match l, h with
  | [a], _ => exact ⟨a, rfl⟩
theorem cellsSto : Try.prog.cellsOf 118 = 1 := by kernel_rfl
theorem cellsItem : Try.prog.cellsOf 189 = 2 := by kernel_rfl
theorem cellsStr : Try.prog.cellsOf 9 = 1 := by kernel_rfl
theorem cellsSl : Try.prog.cellsOf 43 = 1 := by kernel_rfl
theorem cellsSlI : Try.prog.cellsOf 116 = 1 := by kernel_rfl

section
variable {H : Type} {enc : TypeId × Value → H} {W : World}
theorem itemsOf {fuel : Nat} {v : Value} {y : DataW H × List MemPlace} (h : DataW.trod enc Try.prog W 0 (fun _ => true) true fuel 116 [v] = some y) :
    ∃ its, Items W W.heap.size v its := by
  rcases open_slice Try.underlying116 h with ⟨hcs, _⟩ | ⟨a, len, cap, m, n, D, Pl, hcs, _, hl, hm, hmm, _, hi⟩
  · simp at hcs
    subst hcs
    exact ⟨[], _, _, rfl, Nat.le_refl _, Nat.zero_le _, fun h => absurd h (by simp)⟩
  · simp at hcs
    subst hcs
    have hmc : m = cap := by simpa using hmm
    rw [cellsItem] at hi
    have hat : ∀ i, i < len → ∃ it : Item, it.key.size ≤ maxLen ∧ W.cell? ((a.add (i * 2)).add 0) = some (.string it.key) ∧ ∃ u, W.cell? ((a.add (i * 2)).add 1) = some u ∧ Ints W W.heap.size u it.val := by
      intro i hil
      obtain ⟨cs', hc, ht⟩ := hi i (by omega)
      obtain ⟨_, hcl, hcell⟩ := World.cells?_some hc
      obtain ⟨y0, y1, n', _, _, t0, t1⟩ := trod_struct2 Try.underlying189 ht
      obtain ⟨c0, c1, rfl⟩ := list2 hcl
      · have t0' : DataW.trod enc Try.prog W 0 (fun _ => true) true n' 9 [c0] = some y0 := by
          have := t0
          simp only [cellsStr] at this
          simpa using this
        have t1' : DataW.trod enc Try.prog W 0 (fun _ => true) true n' 43 [c1] = some y1 := by
          have := t1
          simp only [cellsSl] at this
          simpa using this
        obtain ⟨s, e0, _, hs⟩ := DataW.trod_string Try.underlying9 t0'
        obtain ⟨xs, hxs, _⟩ := intsOf t1'
        simp at e0
        subst e0
        exact ⟨⟨s, xs⟩, hs, by rw [hcell 0 (by omega)]; rfl, c1, by rw [hcell 1 (by omega)]; rfl, hxs⟩
    obtain ⟨its, hlen, hq⟩ := listOf len hat
    refine ⟨its, some a, cap, by rw [hlen], by omega, hm, fun hp => ?_⟩
    have h0 := hq 0 _ (List.getElem?_eq_getElem hp)
    obtain ⟨b, off, spot⟩ := a
    have hspot : spot = none := by
      have := World.cell?_spot h0.2.1
      simpa [Addr.add] using this
    subst hspot
    have hb : b < W.heap.size := cellLt (o := off) (by simpa [Addr.add] using h0.2.1)
    refine ⟨b, off, rfl, hb, fun j it hit => ?_⟩
    obtain ⟨h1, h2, u, h3, h4⟩ := hq j it hit
    have ea : ∀ i k, ((⟨b, off, none⟩ : Addr).add i).add k = ⟨b, off + i + k, none⟩ := fun i k => by
      unfold Addr.add
      by_cases hi : i = 0 <;> by_cases hk : k = 0 <;> simp [hi, hk]
    rw [ea] at h2 h3
    exact ⟨h1, h2, u, h3, h4⟩

set_option maxRecDepth 100000 in
/-- A store by value: its one field. -/
theorem stoOf {b0 : Nat} {v : Value} {d : DataW H} {p : List MemPlace} (hv : Value.okWide Try.prog W .any b0 118 v) (h : DataW.Trod enc Try.prog W 0 (fun _ => true) true 118 v d p) :
    ∃ u its, v = .agg #[u] ∧ Items W W.heap.size u its := by
  obtain ⟨cs, rfl, hsz⟩ := okWide_struct Try.underlying118 hv
  obtain ⟨fuel, hf⟩ := h
  obtain ⟨y0, n, _, hl, t0⟩ := trod_struct1 Try.underlying118 hf
  obtain ⟨l⟩ := cs
  obtain ⟨u, rfl⟩ := list1 (hsz.trans cellsSto)
  · have t0' : DataW.trod enc Try.prog W 0 (fun _ => true) true n 116 [u] = some y0 := by
      have := t0
      simp only [cellsSlI] at this
      simpa [Value.cells] using this
    obtain ⟨its, hits⟩ := itemsOf t0'
    exact ⟨u, its, rfl, hits⟩
end

end Go.Proofs.Ytlmcpkijcadalaa
