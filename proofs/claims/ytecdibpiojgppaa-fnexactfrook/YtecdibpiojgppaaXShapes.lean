/- The shapes of the program's data: numbers, texts, things, writes, notes. -/
import Derived.Test.YtecdibpiojgppaaXShOwn
import Derived.Test.YtecdibpiojgppaaXMark
import Derived.Test.YtecdibpiojgppaaXWrt
import Derived.Test.YtecdibpiojgppaaXItems
namespace Go.Proofs.Ytecdibpiojgppaa
open Go.RowKit

abbrev strSh : Sh ByteArray := Sh.str markS
abbrev intsSh : Sh (List Int) := Sh.int.sl 3 (by decide)
abbrev strsSh : Sh (List ByteArray) := strSh.sl 9 (by decide)
def wrSh : Sh Wr := (strSh.pair (Sh.bool.pair intsSh)).conv (fun x => (x.key, x.del, x.val)) (fun p => ⟨p.1, p.2.1, p.2.2⟩) rfl
def itSh : Sh Item := (strSh.pair intsSh).conv (fun x => (x.key, x.val)) (fun p => ⟨p.1, p.2⟩) rfl
abbrev wrsSh : Sh (List Wr) := wrSh.sl 43 (by decide)
abbrev itsSh : Sh (List Item) := itSh.sl 102 (by decide)
section
variable {w : World} {B : Nat} {S : Nat → Prop} {v : Value}
theorem ints_row {xs : List Int} : Sh.int.Row w B v xs ↔ Ints w B v xs := by
  constructor
  · rintro ⟨A, c, hv, h1, h2, hr⟩
    refine ⟨A, c, hv, h1, h2, fun hn => ?_⟩
    obtain ⟨b, off, hA, hb, hc⟩ := hr hn
    refine ⟨b, off, hA, hb, fun j hj => ?_⟩
    obtain ⟨cs, h3, h4⟩ := hc j _ (List.getElem?_eq_getElem hj)
    have h3' : cs = [.int .i64 xs[j]] := h3
    have := h4 0 (.int .i64 xs[j]) (by rw [h3']; rfl)
    show w.cell? _ = some (.int .i64 (nth xs j))
    rw [nth_get hj]
    simpa [Sh.int] using this
  · rintro ⟨A, c, hv, h1, h2, hr⟩
    refine ⟨A, c, hv, h1, h2, fun hn => ?_⟩
    obtain ⟨b, off, hA, hb, hc⟩ := hr hn
    refine ⟨b, off, hA, hb, fun j x hx => ⟨[.int .i64 x], rfl, fun i u hu => ?_⟩⟩
    have hj : j < xs.length := (List.getElem?_eq_some_iff.1 hx).1
    have hi : i = 0 := by
      have := (List.getElem?_eq_some_iff.1 hu).1
      simp at this; exact this
    subst hi
    have hu' : .int .i64 x = u := by simpa using hu
    have hx' : xs[j] = x := (List.getElem?_eq_some_iff.1 hx).2
    have : w.cell? ⟨b, off + j, none⟩ = some (.int .i64 (nth xs j)) := hc j hj
    rw [nth_get hj, hx', hu'] at this
    simpa [Sh.int] using this
theorem wr_rel {cs : List Value} {x : Wr} : wrSh.rel w B cs x ↔ ∃ u, cs = [.string x.key, .bool x.del, u] ∧ x.key.size ≤ maxLen ∧ Sh.int.Row w B u x.val := by
  constructor
  · rintro ⟨c1, c2, rfl, ⟨rfl, hs⟩, c3, c4, rfl, h2, u, rfl, h3⟩
    have h2' : c3 = [.bool x.del] := h2
    subst h2'
    exact ⟨u, rfl, hs, h3⟩
  · rintro ⟨u, rfl, hs, h3⟩
    exact ⟨_, _, rfl, ⟨rfl, hs⟩, _, _, rfl, rfl, u, rfl, h3⟩
theorem it_rel {cs : List Value} {x : Item} : itSh.rel w B cs x ↔ ∃ u, cs = [.string x.key, u] ∧ x.key.size ≤ maxLen ∧ Sh.int.Row w B u x.val := by
  constructor
  · rintro ⟨c1, c2, rfl, ⟨rfl, hs⟩, u, rfl, h3⟩
    exact ⟨u, rfl, hs, h3⟩
  · rintro ⟨u, rfl, hs, h3⟩
    exact ⟨_, _, rfl, ⟨rfl, hs⟩, u, rfl, h3⟩
theorem wrts_row {ws : List Wr} : wrSh.Row w B v ws ↔ Wrts w B v ws := by
  constructor
  · rintro ⟨A, c, hv, h1, h2, hr⟩
    refine ⟨A, c, hv, h1, h2, fun hn => ?_⟩
    obtain ⟨b, off, hA, hb, hc⟩ := hr hn
    refine ⟨b, off, hA, hb, fun j x hx => ?_⟩
    obtain ⟨cs, h3, h4⟩ := hc j x hx
    obtain ⟨u, rfl, hs, hu⟩ := wr_rel.1 h3
    exact ⟨hs, h4 0 _ rfl, h4 1 _ rfl, u, h4 2 _ rfl, ints_row.1 hu⟩
  · rintro ⟨A, c, hv, h1, h2, hr⟩
    refine ⟨A, c, hv, h1, h2, fun hn => ?_⟩
    obtain ⟨b, off, hA, hb, hc⟩ := hr hn
    refine ⟨b, off, hA, hb, fun j x hx => ?_⟩
    obtain ⟨hs, c0, c1, u, c2, hu⟩ := hc j x hx
    refine ⟨_, wr_rel.2 ⟨u, rfl, hs, ints_row.2 hu⟩, fun i y hy => ?_⟩
    have hi := (List.getElem?_eq_some_iff.1 hy).1
    rcases (by simp at hi; omega : i = 0 ∨ i = 1 ∨ i = 2) with rfl | rfl | rfl
    · have hy' : Value.string x.key = y := by simpa using hy
      rw [← hy']; exact c0
    · have hy' : Value.bool x.del = y := by simpa using hy
      rw [← hy']; exact c1
    · have hy' : u = y := by simpa using hy
      rw [← hy']; exact c2
theorem items_row {its : List Item} : itSh.Row w B v its ↔ Items w B v its := by
  constructor
  · rintro ⟨A, c, hv, h1, h2, hr⟩
    refine ⟨A, c, hv, h1, h2, fun hn => ?_⟩
    obtain ⟨b, off, hA, hb, hc⟩ := hr hn
    refine ⟨b, off, hA, hb, fun j x hx => ?_⟩
    obtain ⟨cs, h3, h4⟩ := hc j x hx
    obtain ⟨u, rfl, hs, hu⟩ := it_rel.1 h3
    exact ⟨hs, h4 0 _ rfl, u, h4 1 _ rfl, ints_row.1 hu⟩
  · rintro ⟨A, c, hv, h1, h2, hr⟩
    refine ⟨A, c, hv, h1, h2, fun hn => ?_⟩
    obtain ⟨b, off, hA, hb, hc⟩ := hr hn
    refine ⟨b, off, hA, hb, fun j x hx => ?_⟩
    obtain ⟨hs, c0, u, c1, hu⟩ := hc j x hx
    refine ⟨_, it_rel.2 ⟨u, rfl, hs, ints_row.2 hu⟩, fun i y hy => ?_⟩
    have hi := (List.getElem?_eq_some_iff.1 hy).1
    rcases (by simp at hi; omega : i = 0 ∨ i = 1) with rfl | rfl
    · have hy' : Value.string x.key = y := by simpa using hy
      rw [← hy']; exact c0
    · have hy' : u = y := by simpa using hy
      rw [← hy']; exact c1
theorem wr_own {cs : List Value} {x : Wr} : wrSh.own w S cs x ↔ ∃ u, cs = [.string x.key, .bool x.del, u] ∧ x.key.size ≤ maxLen ∧ Sh.int.Own 3 w S u x.val := by
  constructor
  · rintro ⟨c1, c2, S1, S2, rfl, ⟨rfl, hs⟩, ⟨c3, c4, S3, S4, rfl, h2, ⟨u, rfl, h3⟩, -, s4, -⟩, -, s2, -⟩
    have h2' : c3 = [.bool x.del] := h2
    subst h2'
    exact ⟨u, rfl, hs, h3.mono fun b hb => s2 b (s4 b hb)⟩
  · rintro ⟨u, rfl, hs, h3⟩
    exact ⟨_, _, fun _ => False, S, rfl, ⟨rfl, hs⟩, ⟨_, _, fun _ => False, S, rfl, rfl, ⟨u, rfl, h3⟩, fun _ h => h.elim, fun _ h => h, fun _ h _ => h⟩, fun _ h => h.elim, fun _ h => h, fun _ h _ => h⟩
theorem it_own {cs : List Value} {x : Item} : itSh.own w S cs x ↔ ∃ u, cs = [.string x.key, u] ∧ x.key.size ≤ maxLen ∧ Sh.int.Own 3 w S u x.val := by
  constructor
  · rintro ⟨c1, c2, S1, S2, rfl, ⟨rfl, hs⟩, ⟨u, rfl, h3⟩, -, s2, -⟩
    exact ⟨u, rfl, hs, h3.mono s2⟩
  · rintro ⟨u, rfl, hs, h3⟩
    exact ⟨_, _, fun _ => False, S, rfl, ⟨rfl, hs⟩, ⟨u, rfl, h3⟩, fun _ h => h.elim, fun _ h => h, fun _ h _ => h⟩
/-- A text at a place. -/
theorem strs_at {xs : List ByteArray} (h : strSh.Row w B v xs) {k : Nat} (hk : k < xs.length) : ∃ b off c x, v = .slice (some ⟨b, off, none⟩) xs.length c ∧ xs[k]? = some x ∧ b < B ∧ x.size ≤ maxLen ∧ w.cell? ⟨b, off + k, none⟩ = some (.string x) := by
  obtain ⟨b, off, c, x, cs, hv, hx, hb, ⟨rfl, hs⟩, hc⟩ := h.at_ hk
  have := hc 0 _ rfl
  exact ⟨b, off, c, x, hv, hx, hb, hs, by simpa [Sh.str] using this⟩
end

end Go.Proofs.Ytecdibpiojgppaa
