/- Slices of writes that the call itself has made, by append. -/
import Derived.Test.YtgekggoenibnmaaXStoDoS
import Derived.Maps.AppendAt
namespace Go.Proofs.Ytgekggoenibnmaa
open Go.RowKit

theorem infoWrite : (Try.prog.info? 57).map (fun i => (i.zero, i.size, i.bytes)) = some (some (.agg #[.string ByteArray.empty, .bool false, .slice none 0 0]), 3, 48) := by kernel_rfl

def wcells : List (Wr × Value) → List Value
  | [] => []
  | p :: ps => .string p.1.key :: .bool p.1.del :: p.2 :: wcells ps
theorem wcells_len (ps : List (Wr × Value)) : (wcells ps).length = ps.length * 3 := by
  induction ps with
  | nil => rfl
  | cons p ps ih => simp [wcells, ih]; omega
theorem wcells_append (ps qs : List (Wr × Value)) : wcells (ps ++ qs) = wcells ps ++ wcells qs := by
  induction ps with
  | nil => rfl
  | cons p ps ih => simp [wcells, ih]
theorem wcells_at {ps : List (Wr × Value)} : ∀ {j : Nat} {p : Wr × Value}, ps[j]? = some p → (wcells ps)[j * 3]? = some (.string p.1.key) ∧ (wcells ps)[j * 3 + 1]? = some (.bool p.1.del) ∧ (wcells ps)[j * 3 + 2]? = some p.2 := by
  induction ps with
  | nil => intro j p h; simp at h
  | cons q ps ih =>
    intro j p h
    cases j with
    | zero =>
      simp at h; subst h
      simp [wcells]
    | succ j =>
      simp at h
      have := ih h
      rw [show (j + 1) * 3 = j * 3 + 1 + 1 + 1 by omega]
      simpa [wcells] using this

/-- A slice of writes in a block of the call's own, from lo on; the numbers of each in some other block of S. -/
def OwnWr (w : World) (lo : Nat) (S : Nat → Prop) (v : Value) (ws : List Wr) : Prop :=
  ∃ ps : List (Wr × Value), ps.map Prod.fst = ws ∧ v ≠ .slice none 0 0 ∧ w.ownsRow lo 57 3 v ps.length (wcells ps) ∧ ∀ p ∈ ps, p.1.key.size ≤ maxLen ∧ IntsIn w (fun b => S b ∧ v.ownBlock ≠ some b) p.2 p.1.val
section
variable {w w' : World} {lo : Nat} {S S' : Nat → Prop} {v : Value} {ws : List Wr}
theorem OwnWr.form (h : OwnWr w lo S v ws) : ∃ g cap, v = .slice (some ⟨g, 0, none⟩) ws.length cap ∧ lo ≤ g ∧ g < w.heap.size ∧ ws.length ≤ cap ∧ cap ≤ maxLen := by
  obtain ⟨ps, rfl, hne, h1, _⟩ := h
  rcases h1.2 with ⟨hv, h0⟩ | ⟨g, cap, cur, hv, hb, hg, hn, hm, _⟩
  · exact absurd hv hne
  · exact ⟨g, cap, by rw [hv, List.length_map], hb, (Array.getElem?_eq_some_iff.1 hg).1, by rw [List.length_map]; exact hn, hm⟩
theorem OwnWr.wrts (h : OwnWr w lo S v ws) : Wrts w w.heap.size v ws := by
  obtain ⟨g, cap, rfl, hlo, hg, hn, hm⟩ := h.form
  obtain ⟨ps, rfl, hne, h1, h3⟩ := h
  rw [List.length_map] at h1
  refine ⟨_, cap, rfl, hn, hm, fun _ => ⟨g, 0, rfl, hg, fun j x hx => ?_⟩⟩
  rw [List.getElem?_map] at hx
  cases hp : ps[j]? with
  | none => rw [hp] at hx; simp at hx
  | some p =>
    rw [hp] at hx
    have hx' : p.1 = x := by simpa using hx
    subst hx'
    have hj : j < ps.length := (List.getElem?_eq_some_iff.1 hp).1
    obtain ⟨a, b⟩ := h3 p (List.mem_of_getElem? hp)
    obtain ⟨c1, c2, c3⟩ := wcells_at hp
    refine ⟨a, ?_, ?_, p.2, ?_, b.ints⟩
    · rw [Nat.zero_add, h1.cellAt (j * 3) (by omega), c1]
    · rw [Nat.zero_add, h1.cellAt (j * 3 + 1) (by omega), c2]
    · rw [Nat.zero_add, h1.cellAt (j * 3 + 2) (by omega), c3]
theorem OwnWr.lt (h : OwnWr w lo S v ws) : ∀ g, v.ownBlock = some g → lo ≤ g ∧ g < w.heap.size := by
  obtain ⟨ps, _, _, h1, _⟩ := h
  exact h1.lt
theorem OwnWr.keep (h : OwnWr w lo S v ws) (hk : ∀ b, b < w.heap.size → S b ∨ lo ≤ b → w'.heap[b]? = w.heap[b]?) (hs : w.heap.size ≤ w'.heap.size) : OwnWr w' lo S v ws := by
  obtain ⟨ps, h0, hne, h1, h3⟩ := h
  refine ⟨ps, h0, hne, ⟨h1.1, ?_⟩, fun p hp => ?_⟩
  · rcases h1.2 with hn | ⟨g, cap, cur, hv, hl, hgg, rest⟩
    · exact .inl hn
    · exact .inr ⟨g, cap, cur, hv, hl, by rw [hk g (Array.getElem?_eq_some_iff.1 hgg).1 (.inr hl)]; exact hgg, rest⟩
  · obtain ⟨a, b⟩ := h3 p hp
    exact ⟨a, b.keep (fun k hk' hS => hk k hk' (.inl hS.1)) hs (fun _ _ h => h)⟩
theorem OwnWr.below (h : OwnWr w lo S v ws) (hb : Below w.heap.size w w') : OwnWr w' lo S v ws := h.keep (fun b hlt _ => hb.block b hlt) hb.size
theorem OwnWr.alloc (h : OwnWr w lo S v ws) (o : Obj) : OwnWr (w.alloc o) lo S v ws := h.below (belowOne w o)
theorem OwnWr.drew {g : Nat} {P : Int} (h : OwnWr w lo (lo ≤ ·) v ws) (hd : Drew g P w w') (hg : g < lo) : OwnWr w' lo (lo ≤ ·) v ws :=
  h.keep (fun b hb hS => hd.2.block b hb (fun e => by have := Option.some.inj e; rcases hS with h | h <;> omega)) hd.2.size
theorem OwnWr.empty (w : World) (lo : Nat) (S : Nat → Prop) (hlo : lo ≤ w.heap.size) : OwnWr (w.alloc (.cells #[] 57)) lo S (.slice (some ⟨w.heap.size, 0, none⟩) 0 0) [] :=
  ⟨[], rfl, by simp, World.ownsRow_made w #[] 0 hlo (Nat.zero_le _) (by simp), fun p hp => by simp at hp⟩
end

set_option maxRecDepth 100000 in
/-- append of some writes. -/
theorem append_writes (w : World) (lo : Nat) (S : Nat → Prop) (v : Value) (ws : List Wr) (hv : OwnWr w lo S v ws) (qs : List (Wr × Value)) (a : Addr) (c : Nat) (hqs : ∀ p ∈ qs, p.1.key.size ≤ maxLen ∧ IntsIn w (fun b => S b ∧ v.ownBlock ≠ some b) p.2 p.1.val)
    (hsrc : ∀ j u, (wcells qs)[j]? = some u → w.cell? (a.add j) = some u) (ty : TypeId) (hl : ws.length + qs.length ≤ 2097152) (hlo : lo ≤ w.heap.size) :
    ∃ v' w', (Builtin.append_ #[43, 43] ty #[v, .slice (some a) qs.length c]).run Try.prog w = .ok v' w' ∧ OwnWr w' lo S v' (ws ++ qs.map Prod.fst) ∧ w.grownBy w' v.ownBlock := by
  obtain ⟨i, hi, hz, hs, hb⟩ := info_parts infoWrite
  obtain ⟨ps, rfl, hne, h1, h3⟩ := hv
  rw [List.length_map] at hl
  have hone : ∀ u ∈ wcells qs, u.oneCell' = true := by
    intro u hu
    obtain ⟨n, hn⟩ := List.mem_iff_getElem?.1 hu
    have hlen := (List.getElem?_eq_some_iff.1 hn).1
    rw [wcells_len] at hlen
    have hq : qs[n / 3]? = some qs[n / 3] := List.getElem?_eq_getElem (by omega)
    obtain ⟨c1, c2, c3⟩ := wcells_at hq
    rcases (by omega : n = n / 3 * 3 ∨ n = n / 3 * 3 + 1 ∨ n = n / 3 * 3 + 2) with h | h | h
    · rw [h, c1] at hn; injection hn with hn; rw [← hn]; rfl
    · rw [h, c2] at hn; injection hn with hn; rw [← hn]; rfl
    · rw [h, c3] at hn; injection hn with hn
      obtain ⟨A, c', e, _⟩ := (hqs _ (List.getElem_mem (show n / 3 < qs.length by omega))).2
      rw [← hn, e]; rfl
  obtain ⟨v', w', hr, h2, hg, hnone, h5⟩ := run_append_own_at (P := Try.prog) w lo 43 ty 57 i _ 3 48 Try.underlying43 hi hz hs hb rfl (by omega) v ps.length _ h1 a qs.length c (wcells qs) (wcells_len qs) hsrc hone (by unfold maxLen; omega) (by omega) hlo
  have hne' : ∀ b, b < w.heap.size → v.ownBlock ≠ some b → v'.ownBlock ≠ some b := by
    intro b hb' hvb e
    rcases h5 with h | h
    · rw [h] at e; exact hvb e
    · rw [h] at e; have := Option.some.inj e; omega
  refine ⟨v', w', hr, ⟨ps ++ qs, by simp, fun e => hne (hnone.1 e).1, ?_, fun p hp => ?_⟩, hg⟩
  · rw [wcells_append, List.length_append]; exact h2
  · have hk : ∀ q : Wr × Value, (q.1.key.size ≤ maxLen ∧ IntsIn w (fun b => S b ∧ v.ownBlock ≠ some b) q.2 q.1.val) → (q.1.key.size ≤ maxLen ∧ IntsIn w' (fun b => S b ∧ v'.ownBlock ≠ some b) q.2 q.1.val) := fun (q : Wr × Value) ⟨x, y⟩ => ⟨x, y.keep (fun k hk hS => hg.block k hk (fun e => hS.2 e.symm)) hg.size (fun k hk hS => ⟨hS.1, hne' k hk hS.2⟩)⟩
    rcases List.mem_append.1 hp with h | h
    · exact hk p (h3 p h)
    · exact hk p (hqs p h)
theorem wpl_append_writes {w : World} {ops : Array Oper} {rest : List Oper} {o : Oper} {a : Act} {Q : Exit → Act → World → Prop} (hgd : o.guard = none) (s x : Operand)
    (ho : o.op = .call { callee := .builtin .append, args := #[s, x], argTypes := #[43, 43] }) (lo : Nat) (S : Nat → Prop) (v : Value) (ws : List Wr) (hs : a.eval s = v) (hv : OwnWr w lo S v ws)
    (qs : List (Wr × Value)) (ad : Addr) (c : Nat) (hx : a.eval x = .slice (some ad) qs.length c) (hqs : ∀ p ∈ qs, p.1.key.size ≤ maxLen ∧ IntsIn w (fun b => S b ∧ v.ownBlock ≠ some b) p.2 p.1.val) (hsrc : ∀ j u, (wcells qs)[j]? = some u → w.cell? (ad.add j) = some u)
    (hl : ws.length + qs.length ≤ 2097152) (hlo : lo ≤ w.heap.size)
    (h : ∀ v' w', OwnWr w' lo S v' (ws ++ qs.map Prod.fst) → w.grownBy w' v.ownBlock → wpList Try.prog ops Q rest (a.put o.dst v') w') : wpList Try.prog ops Q (o :: rest) a w := by
  refine wpList_plain hgd fun K hK => ?_
  obtain ⟨v', w', hr, h2, h3⟩ := append_writes w lo S v ws hv qs ad c hqs hsrc o.type hl hlo
  unfold Oper.wp execOp
  simp only [ho, resolve, invoke, builtin, Sem.run_bind, Sem.run_pure, Result.andThen_ok, List.map_toArray, List.map_cons, List.map_nil, hs, hx, hr]
  exact hK _ _ (h v' w' h2 h3)

end Go.Proofs.Ytgekggoenibnmaa
