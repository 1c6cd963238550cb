/- Texts that follow each other, merged: OwnIt, Fresh, Draw, DrawKey. -/
import Derived.Test.YtmbkhohgciakfaaGreatXTree
import Derived.Test.YtmbkhohgciakfaaGreatXCmp
import Derived.Deep.AppendLies
import Derived.Test.YtmbkhohgciakfaaGreatXKey
import Derived.Test.YtmbkhohgciakfaaGreatXPlain
import Derived.Deep.QuietTactic
import Derived.BigQuiet
import Derived.Maps.AppendAt
import Derived.OwnWalk
import Derived.Deep.RegionHeld3
import Derived.Deep.RegionWith
import Derived.WalkLawsBesides

/- Slices of things that the call itself has made, by append; the numbers of each may lie anywhere else. -/
namespace Go.Proofs.YtmbkhohgciakfaaGreat
open Go.RowKit

/-- A slice of integers whose block is one of S. -/
def IntsIn (w : World) (S : Nat → Prop) (v : Value) (xs : List Int) : Prop :=
  ∃ A c, v = .slice A xs.length c ∧ xs.length ≤ c ∧ c ≤ maxLen ∧ (0 < xs.length → ∃ b off, A = some ⟨b, off, none⟩ ∧ b < w.heap.size ∧ S b ∧ ∀ j, j < xs.length → w.cell? ⟨b, off + j, none⟩ = some (.int .i64 (nth xs j)))
section
variable {w w' : World} {S S' : Nat → Prop} {v : Value} {xs : List Int}
theorem IntsIn.ints (h : IntsIn w S v xs) : Ints w w.heap.size v xs := by
  obtain ⟨A, c, hv, h1, h2, hr⟩ := h
  refine ⟨A, c, hv, h1, h2, fun hn => ?_⟩
  obtain ⟨b, off, hA, hb, _, hc⟩ := hr hn
  exact ⟨b, off, hA, hb, hc⟩
theorem IntsIn.keep (h : IntsIn w S v xs) (hk : ∀ b, b < w.heap.size → S b → w'.heap[b]? = w.heap[b]?) (hs : w.heap.size ≤ w'.heap.size) (hS : ∀ b, b < w.heap.size → S b → S' b) : IntsIn w' S' v xs := by
  obtain ⟨A, c, hv, h1, h2, hr⟩ := h
  refine ⟨A, c, hv, h1, h2, fun hn => ?_⟩
  obtain ⟨b, off, hA, hb, hSb, hc⟩ := hr hn
  exact ⟨b, off, hA, Nat.lt_of_lt_of_le hb hs, hS b hb hSb, fun j hj => (World.cell?_of_block (hk b hb hSb)).trans (hc j hj)⟩
theorem Ints.toIn {B : Nat} (h : Ints w B v xs) (hB : B ≤ w.heap.size) : IntsIn w (· < B) v xs := by
  obtain ⟨A, c, hv, h1, h2, hr⟩ := h
  refine ⟨A, c, hv, h1, h2, fun hn => ?_⟩
  obtain ⟨b, off, hA, hb, hc⟩ := hr hn
  exact ⟨b, off, hA, by omega, hb, hc⟩
theorem OwnInts.toIn {lo : Nat} (h : OwnInts w lo v xs) : IntsIn w (lo ≤ ·) v xs := by
  rcases h.2 with ⟨rfl, h0⟩ | ⟨g, cap, cur, rfl, hb, hg, hn, hm, hs, ht⟩
  · exact ⟨none, 0, by rw [h0], by omega, Nat.zero_le _, fun hp => absurd hp (by omega)⟩
  · refine ⟨_, cap, rfl, hn, hm, fun _ => ⟨g, 0, rfl, (Array.getElem?_eq_some_iff.1 hg).1, hb, fun j hj => ?_⟩⟩
    have := World.ownsRow.cellAt h j (by omega)
    rw [Nat.zero_add, this, nth_map hj]
end

/-- A slice of things in a block of the call's own, from lo on; the numbers of each in some other block of S. -/
def OwnIt (w : World) (lo : Nat) (S : Nat → Prop) (v : Value) (its : List Item) : Prop :=
  ∃ U : Nat → Value, w.ownsRow lo 98 2 v its.length (cellsU its U) ∧ ∀ (j : Nat) (it : Item), its[j]? = some it → it.key.size ≤ maxLen ∧ IntsIn w (fun b => S b ∧ v.ownBlock ≠ some b) (U j) it.val
section
variable {w w' : World} {lo : Nat} {S S' : Nat → Prop} {v : Value} {its : List Item}
theorem OwnIt.form (h : OwnIt w lo S v its) : (v = .slice none 0 0 ∧ its = []) ∨ ∃ g cap, v = .slice (some ⟨g, 0, none⟩) its.length cap ∧ lo ≤ g ∧ g < w.heap.size ∧ its.length ≤ cap ∧ cap ≤ maxLen := by
  obtain ⟨U, h1, _⟩ := h
  rcases h1.2 with ⟨hv, h0⟩ | ⟨g, cap, cur, hv, hb, hg, hn, hm, _⟩
  · exact .inl ⟨hv, List.length_eq_zero_iff.1 h0⟩
  · exact .inr ⟨g, cap, hv, hb, (Array.getElem?_eq_some_iff.1 hg).1, hn, hm⟩
theorem OwnIt.items (h : OwnIt w lo S v its) : Items w w.heap.size v its := by
  rcases h.form with ⟨rfl, rfl⟩ | ⟨g, cap, rfl, hg0, hg2, hc1, hc2⟩
  · exact ⟨none, 0, rfl, Nat.zero_le _, Nat.zero_le _, fun h => absurd h (by simp)⟩
  · obtain ⟨U, h1, h3⟩ := h
    refine ⟨_, cap, rfl, hc1, hc2, fun _ => ⟨g, 0, rfl, hg2, fun j it hit => ?_⟩⟩
    have hj : j < its.length := (List.getElem?_eq_some_iff.1 hit).1
    obtain ⟨a, b⟩ := h3 j it hit
    refine ⟨a, ?_, U j, ?_, b.ints⟩
    · rw [Nat.zero_add, h1.cellAt (j * 2) (by omega), cellsU_at _ _ (by omega), cellU_key hit]
    · rw [Nat.zero_add, h1.cellAt (j * 2 + 1) (by omega), cellsU_at _ _ (by omega), cellU_val hit]
/-- Kept where its blocks are. -/
theorem OwnIt.keep (h : OwnIt w lo S v its) (hk : ∀ b, b < w.heap.size → S b ∨ lo ≤ b → w'.heap[b]? = w.heap[b]?) (hs : w.heap.size ≤ w'.heap.size) : OwnIt w' lo S v its := by
  obtain ⟨U, h1, h3⟩ := h
  refine ⟨U, ⟨h1.1, ?_⟩, fun j it hit => ?_⟩
  · rcases h1.2 with hn | ⟨g, cap, cur, hv, hl, hgg, rest⟩
    · exact .inl hn
    · exact .inr ⟨g, cap, cur, hv, hl, by rw [hk g (Array.getElem?_eq_some_iff.1 hgg).1 (.inr hl)]; exact hgg, rest⟩
  · obtain ⟨a, b⟩ := h3 j it hit
    exact ⟨a, b.keep (fun k hk' hS => hk k hk' (.inl hS.1)) hs (fun _ _ h => h)⟩
theorem OwnIt.below (h : OwnIt w lo S v its) (hb : Below w.heap.size w w') : OwnIt w' lo S v its := h.keep (fun b hlt _ => hb.block b hlt) hb.size
theorem OwnIt.alloc (h : OwnIt w lo S v its) (o : Obj) : OwnIt (w.alloc o) lo S v its := h.below (belowOne w o)
theorem OwnIt.setCell (h : OwnIt w lo S v its) {p : Addr} (hp : ¬ S p.block) (hl : p.block < lo) (u : Value) : OwnIt (w.setCell p u) lo S v its :=
  h.keep (fun b _ hb => Below.heap_setCell w p u b (fun e => by subst e; rcases hb with hb | hb; exact hp hb; omega)) (by simp [World.setCell])
theorem OwnIt.weaken {lo' : Nat} (h : OwnIt w lo S v its) (hl : lo' ≤ lo) (hS : ∀ b, S b → S' b) : OwnIt w lo' S' v its := by
  obtain ⟨U, h1, h3⟩ := h
  refine ⟨U, ⟨h1.1, h1.2.elim Or.inl fun ⟨g, cap, cur, hv, hg, r⟩ => Or.inr ⟨g, cap, cur, hv, Nat.le_trans hl hg, r⟩⟩, fun j it hit => ?_⟩
  obtain ⟨a, b⟩ := h3 j it hit
  exact ⟨a, b.keep (fun _ _ _ => rfl) (Nat.le_refl _) (fun _ _ h => ⟨hS _ h.1, h.2⟩)⟩
theorem OwnIt.nil (w : World) (lo : Nat) (S : Nat → Prop) : OwnIt w lo S (.slice none 0 0) [] := ⟨fun _ => undef, World.ownsRow_nil _ _ _ _, fun j it h => by simp at h⟩
end

theorem cellsU_snoc (its : List Item) (U : Nat → Value) (it : Item) (u : Value) : cellsU (its ++ [it]) (upd U its.length u) = cellsU its U ++ [.string it.key, u] := by
  apply List.ext_getElem?
  intro i
  have hlen : (its ++ [it]).length = its.length + 1 := by simp
  rcases Nat.lt_or_ge i (its.length * 2) with hi | hi
  · rw [List.getElem?_append_left (by rw [cellsU_len]; exact hi), cellsU_at _ _ hi, cellsU_at _ _ (by rw [hlen]; omega)]
    have hj : i / 2 < its.length := by omega
    simp only [cellU, List.getElem?_append_left hj, upd_other U u (show i / 2 ≠ its.length by omega)]
  · rw [List.getElem?_append_right (by rw [cellsU_len]; exact hi), cellsU_len]
    have hlast : (its ++ [it])[its.length]? = some it := by simp
    rcases Nat.lt_or_ge i (its.length * 2 + 2) with h2 | h2
    · rcases (by omega : i = its.length * 2 ∨ i = its.length * 2 + 1) with rfl | rfl
      · rw [cellsU_at _ _ (by rw [hlen]; omega), cellU_key hlast]; simp
      · rw [cellsU_at _ _ (by rw [hlen]; omega), cellU_val hlast, upd_same]; simp
    · rw [List.getElem?_eq_none (by rw [cellsU_len, hlen]; omega), List.getElem?_eq_none (by simp; omega)]

set_option maxRecDepth 100000 in
/-- append of one thing that lies in a block of its own. -/
theorem append_item (w : World) (lo : Nat) (S : Nat → Prop) (v : Value) (its : List Item) (hv : OwnIt w lo S v its) (it : Item) (A : Option Addr) (n c B : Nat) (hks : it.key.size ≤ maxLen)
    (hu : IntsIn w (fun b => S b ∧ v.ownBlock ≠ some b) (.slice A n c) it.val) (hsrc : Held w B [.string it.key, .slice A n c]) (ty : TypeId) (hl : its.length ≤ 2097152) (hlo : lo ≤ w.heap.size) :
    ∃ v' w', (Builtin.append_ #[33, 33] ty #[v, .slice (some ⟨B, 0, none⟩) 1 1]).run Tryz.prog w = .ok v' w' ∧ OwnIt w' lo S v' (its ++ [it]) ∧ w.grownBy w' v.ownBlock := by
  obtain ⟨i, hi, hz, hs, hb⟩ := info_parts infoItem
  obtain ⟨U, h1, h3⟩ := hv
  obtain ⟨g, cap, w', hr, h2, hg, hwhere, hlt⟩ := run_append_lies (P := Tryz.prog) w 33 ty lo 98 i _ 2 40 Tryz.underlying33 hi hz hs hb rfl (by omega) v its.length _ h1 ⟨B, 0, none⟩ 1 1 [.string it.key, .slice A n c] rfl
    (fun j u hu => by
      have := hsrc.2.2 j u hu
      rw [← this]; congr 1
      unfold Addr.add
      by_cases h : j = 0 <;> simp [h])
    (by intro u hu; simp at hu; rcases hu with rfl | rfl <;> rfl) (by omega) (by unfold maxLen; omega) (by omega) hlo w.heap.size rfl
  have hne : ∀ b, b < w.heap.size → v.ownBlock ≠ some b → (Value.slice (some ⟨g, 0, none⟩) (its.length + 1) cap).ownBlock ≠ some b := by
    intro b hb' hvb e
    have e' : g = b := Option.some.inj e
    rcases hwhere with h | h
    · rw [h, e'] at hvb; exact hvb rfl
    · omega
  have hlen : (its ++ [it]).length = its.length + 1 := by simp
  refine ⟨_, w', hr, ⟨upd U its.length (.slice A n c), ?_, fun j x hx => ?_⟩, hg⟩
  · rw [cellsU_snoc, hlen]; exact h2
  · rcases Nat.lt_or_ge j its.length with hj | hj
    · rw [List.getElem?_append_left hj] at hx
      obtain ⟨a, b⟩ := h3 j x hx
      rw [upd_other _ _ (by omega)]
      exact ⟨a, b.keep (fun k hk hS => hg.block k hk (fun e => hS.2 e.symm)) hg.size (fun k hk hS => ⟨hS.1, hne k hk hS.2⟩)⟩
    · have hjl : j = its.length := by
        have := (List.getElem?_eq_some_iff.1 hx).1
        simp at this; omega
      subst hjl
      have hx' : it = x := by simpa using hx
      subst hx'
      rw [upd_same]
      exact ⟨hks, hu.keep (fun k hk hS => hg.block k hk (fun e => hS.2 e.symm)) hg.size (fun k hk hS => ⟨hS.1, hne k hk hS.2⟩)⟩

/-- The same, for the walk. -/
theorem wpl_append_item {w : World} {ops : Array Oper} {rest : List Oper} {o : Oper} {a : Act} {Q : Exit → Act → World → Prop} (hgd : o.guard = none) (s x : Operand)
    (ho : o.op = .call { callee := .builtin .append, args := #[s, x], argTypes := #[33, 33] }) (lo : Nat) (S : Nat → Prop) (v : Value) (its : List Item) (hs : a.eval s = v) (hv : OwnIt w lo S v its)
    (it : Item) (A : Option Addr) (n c B : Nat) (hx : a.eval x = .slice (some ⟨B, 0, none⟩) 1 1) (hks : it.key.size ≤ maxLen) (hu : IntsIn w (fun b => S b ∧ v.ownBlock ≠ some b) (.slice A n c) it.val)
    (hsrc : Held w B [.string it.key, .slice A n c]) (hl : its.length ≤ 2097152) (hlo : lo ≤ w.heap.size)
    (h : ∀ v' w', OwnIt w' lo S v' (its ++ [it]) → w.grownBy w' v.ownBlock → wpList Tryz.prog ops Q rest (a.put o.dst v') w') : wpList Tryz.prog ops Q (o :: rest) a w := by
  refine wpList_plain hgd fun K hK => ?_
  obtain ⟨v', w', hr, h2, h3⟩ := append_item w lo S v its hv it A n c B hks hu hsrc o.type hl hlo
  unfold Oper.wp execOp
  simp only [ho, resolve, invoke, builtin, Sem.run_bind, Sem.run_pure, Result.andThen_ok, List.map_toArray, List.map_cons, List.map_nil, hs, hx, hr]
  exact hK _ _ (h v' w' h2 h3)
/-- The same, in a region that draws. -/
theorem step_append_item {w : World} {ops : Array Oper} {o : Oper} {a : Act} {K : Act → World → Prop} {Q : Exit → Act → World → Prop} {E : Prop} (hgd : o.guard = none) (s x : Operand)
    (ho : o.op = .call { callee := .builtin .append, args := #[s, x], argTypes := #[33, 33] }) (lo : Nat) (S : Nat → Prop) (v : Value) (its : List Item) (hs : a.eval s = v) (hv : OwnIt w lo S v its)
    (it : Item) (A : Option Addr) (n c B : Nat) (hx : a.eval x = .slice (some ⟨B, 0, none⟩) 1 1) (hks : it.key.size ≤ maxLen) (hu : IntsIn w (fun b => S b ∧ v.ownBlock ≠ some b) (.slice A n c) it.val)
    (hsrc : Held w B [.string it.key, .slice A n c]) (hl : its.length ≤ 2097152) (hlo : lo ≤ w.heap.size)
    (h : ∀ v' w', OwnIt w' lo S v' (its ++ [it]) → w.grownBy w' v.ownBlock → K (a.put o.dst v') w') : if Region.wanted o (yielded ops a.tmps) = true then Oper.wp Tryz.prog o a w K Q else E := by
  have hw : Region.wanted o (yielded ops a.tmps) = true := by simp [Region.wanted, hgd]
  rw [if_pos hw]
  obtain ⟨v', w', hr, h2, h3⟩ := append_item w lo S v its hv it A n c B hks hu hsrc o.type hl hlo
  unfold Oper.wp execOp
  simp only [ho, resolve, invoke, builtin, Sem.run_bind, Sem.run_pure, Result.andThen_ok, List.map_toArray, List.map_cons, List.map_nil, hs, hx, hr]
  exact h v' w' h2 h3
theorem step_append_ints {w : World} {ops : Array Oper} {o : Oper} {a : Act} {K : Act → World → Prop} {Q : Exit → Act → World → Prop} {E : Prop} (hgd : o.guard = none) (s x : Operand)
    (ho : o.op = .call { callee := .builtin .append, args := #[s, x], argTypes := #[50, 50] }) (lo : Nat) (v : Value) (xs : List Int) (hs : a.eval s = v) (hv : OwnInts w lo v xs)
    (B : Nat) (A : Option Addr) (c : Nat) (ys : List Int) (hx : a.eval x = .slice A ys.length c) (hy : Ints w B (.slice A ys.length c) ys) (hl : xs.length + ys.length ≤ 4194304) (hlo : lo ≤ w.heap.size)
    (h : ∀ v' w', OwnInts w' lo v' (xs ++ ys) → w.grownBy w' v.ownBlock → K (a.put o.dst v') w') : if Region.wanted o (yielded ops a.tmps) = true then Oper.wp Tryz.prog o a w K Q else E := by
  have hw : Region.wanted o (yielded ops a.tmps) = true := by simp [Region.wanted, hgd]
  rw [if_pos hw]
  obtain ⟨v', w', hr, h2, h3⟩ := append_ints w lo v xs hv B A c ys hy o.type hl hlo
  unfold Oper.wp execOp
  simp only [ho, resolve, invoke, builtin, Sem.run_bind, Sem.run_pure, Result.andThen_ok, List.map_toArray, List.map_cons, List.map_nil, hs, hx, hr]
  exact h v' w' h2 h3

end Go.Proofs.YtmbkhohgciakfaaGreat

/- append onto an empty literal: a new row, and nothing that was there has turned. -/
namespace Go.Proofs.YtmbkhohgciakfaaGreat
open Go.RowKit

set_option maxRecDepth 100000 in
theorem append_fresh (w : World) (B : Nat) (hv : OwnInts w B (.slice (some ⟨B, 0, none⟩) 0 0) []) (D : Nat) (A : Option Addr) (c : Nat) (ys : List Int) (hy : Ints w D (.slice A ys.length c) ys) (ty : TypeId)
    (hl : ys.length ≤ 4194304) (hB : B ≤ w.heap.size) :
    ∃ v' w', (Builtin.append_ #[50, 50] ty #[.slice (some ⟨B, 0, none⟩) 0 0, .slice A ys.length c]).run Tryz.prog w = .ok v' w' ∧ OwnInts w' B v' ys ∧ Below w.heap.size w w' := by
  obtain ⟨i, hi, hz, hs, hb⟩ := info_parts infoInt
  rcases Nat.eq_zero_or_pos ys.length with h0 | hp
  · have hn : ys = [] := List.length_eq_zero_iff.1 h0
    subst hn
    refine ⟨_, w, ?_, hv, Below.refl _ _⟩
    cases A with
    | none => simp [Builtin.append_, run_underlying Tryz.underlying50, sizeOf, typeInfo, hi, Builtin.lenOf, Builtin.firstCells, storeCells]
    | some ad => simp [Builtin.append_, run_underlying Tryz.underlying50, sizeOf, typeInfo, hi, Builtin.lenOf, Builtin.firstCells, storeCells, loadCells, loadCellsFrom]
  · obtain ⟨v', w', hr, hown, hg⟩ := append_ints w B _ [] hv D A c ys hy ty (by simpa using hl) hB
    refine ⟨v', w', hr, by simpa using hown, ?_⟩
    obtain ⟨A', c', e, hc1, hc2, hrow⟩ := hy
    injection e with eA _ ec
    subst eA ec
    obtain ⟨b, off, rfl, _, hc⟩ := hrow hp
    have hgr := run_append_grow (P := Tryz.prog) w 50 ty 3 i (.int .i64 0) Tryz.underlying50 hi hz ⟨B, 0, none⟩ 0 0 [] (by simp) (fun j v h => by simp at h) ⟨b, off, none⟩ ys.length c (ys.map (Value.int .i64)) (by simp [hs])
      (fun j u hu => by
        have hj : j < ys.length := by
          have := (List.getElem?_eq_some_iff.1 hu).1
          simpa using this
        rw [nth_map hj] at hu
        rw [← hu, ← hc j hj]
        congr 1
        unfold Addr.add
        by_cases h : j = 0 <;> simp [h]) (by omega) (by omega) (by rw [hb]; exact growslice_fits (by omega) (by omega))
    rw [hgr] at hr
    injection hr with _ hw
    rw [← hw]
    exact (Below.refl w.heap.size w).drew.alloc (Nat.le_refl _) _

theorem step_append_fresh {w : World} {ops : Array Oper} {o : Oper} {a : Act} {K : Act → World → Prop} {Q : Exit → Act → World → Prop} {E : Prop} (hgd : o.guard = none) (s x : Operand)
    (ho : o.op = .call { callee := .builtin .append, args := #[s, x], argTypes := #[50, 50] }) (B : Nat) (hs : a.eval s = .slice (some ⟨B, 0, none⟩) 0 0) (hv : OwnInts w B (.slice (some ⟨B, 0, none⟩) 0 0) [])
    (D : Nat) (A : Option Addr) (c : Nat) (ys : List Int) (hx : a.eval x = .slice A ys.length c) (hy : Ints w D (.slice A ys.length c) ys) (hl : ys.length ≤ 4194304) (hB : B ≤ w.heap.size)
    (h : ∀ v' w', OwnInts w' B v' ys → Below w.heap.size w w' → K (a.put o.dst v') w') : if Region.wanted o (yielded ops a.tmps) = true then Oper.wp Tryz.prog o a w K Q else E := by
  have hw : Region.wanted o (yielded ops a.tmps) = true := by simp [Region.wanted, hgd]
  rw [if_pos hw]
  obtain ⟨v', w', hr, h2, h3⟩ := append_fresh w B hv D A c ys hy o.type hl hB
  unfold Oper.wp execOp
  simp only [ho, resolve, invoke, builtin, Sem.run_bind, Sem.run_pure, Result.andThen_ok, List.map_toArray, List.map_cons, List.map_nil, hs, hx, hr]
  exact h v' w' h2 h3

end Go.Proofs.YtmbkhohgciakfaaGreat

/- The reader of codes: pick and odd. What is drawn is some number in its bounds; nothing but the reader's own count turns. -/
namespace Go.Proofs.YtmbkhohgciakfaaGreat
open Go.RowKit

theorem xor_i64 {a b : Int} (ha : 0 ≤ a) (ha' : a < 9223372036854775808) (hb : 0 ≤ b) (hb' : b < 9223372036854775808) : 0 ≤ bits .xor .i64 a b ∧ bits .xor .i64 a b < 9223372036854775808 := by
  obtain ⟨x, rfl⟩ := Int.eq_ofNat_of_zero_le ha
  obtain ⟨y, rfl⟩ := Int.eq_ofNat_of_zero_le hb
  have h : bits .xor .i64 (x : Int) (y : Int) = ((x ^^^ y : Nat) : Int) := by
    have hx : x ^^^ y < 2 ^ 63 := Nat.xor_lt_two_pow (by omega) (by omega)
    show IntKind.i64.wrap ((BitVec.ofInt 64 (x : Int) ^^^ BitVec.ofInt 64 (y : Int)).toNat : Int) = _
    have e1 : (BitVec.ofInt 64 (x : Int)).toNat = x := by rw [BitVec.ofInt_natCast, BitVec.toNat_ofNat]; exact Nat.mod_eq_of_lt (by omega)
    have e2 : (BitVec.ofInt 64 (y : Int)).toNat = y := by rw [BitVec.ofInt_natCast, BitVec.toNat_ofNat]; exact Nat.mod_eq_of_lt (by omega)
    rw [BitVec.toNat_xor, e1, e2, IntKind.wrap_i64]
    omega
  have hx : x ^^^ y < 2 ^ 63 := Nat.xor_lt_two_pow (by omega) (by omega)
  rw [h]; omega

/-- A reader at block g that has come to p: its bytes lie before it. -/
def Rd (w : World) (g : Nat) (p : Int) : Prop :=
  ∃ A n c, ∃ f : Nat → Int, w.heap[g]? = some (.cells #[.slice A n c, .int .i64 p] 140 (0, 0)) ∧ n ≤ 2000 ∧ n ≤ c ∧ c ≤ maxLen ∧ (∀ j, 0 ≤ f j ∧ f j ≤ 255) ∧
    (0 < n → ∃ b off, A = some ⟨b, off, none⟩ ∧ b < g ∧ ∀ j, j < n → w.cell? ⟨b, off + j, none⟩ = some (.int .u8 (f j)))
section
variable {w w' : World} {g : Nat} {p : Int}
theorem Rd.lt (h : Rd w g p) : g < w.heap.size := by
  obtain ⟨_, _, _, _, hh, _⟩ := h
  exact (Array.getElem?_eq_some_iff.1 hh).1
theorem Rd.keep (h : Rd w g p) (hk : ∀ b, b ≤ g → w'.heap[b]? = w.heap[b]?) : Rd w' g p := by
  obtain ⟨A, n, c, f, hh, h1, h2, h3, h4, h5⟩ := h
  refine ⟨A, n, c, f, (hk g (Nat.le_refl _)).trans hh, h1, h2, h3, h4, fun hn => ?_⟩
  obtain ⟨b, off, hA, hb, hc⟩ := h5 hn
  exact ⟨b, off, hA, hb, fun j hj => (World.cell?_of_block (hk b (Nat.le_of_lt hb))).trans (hc j hj)⟩
theorem Rd.below {B : Nat} (h : Rd w g p) (hb : Below B w w') (hB : g < B) : Rd w' g p := h.keep fun b hle => hb.block b (by omega)
theorem Rd.grown {row : Option Nat} (h : Rd w g p) (hg : w.grownBy w' row) (hr : ∀ k, row = some k → g < k) : Rd w' g p :=
  h.keep fun b hle => hg.block b (Nat.lt_of_le_of_lt hle h.lt) (fun e => by have := hr b e.symm; omega)
theorem Rd.next (h : Rd w g p) (q : Int) : Rd (w.setCell ⟨g, 1, none⟩ (.int .i64 q)) g q := by
  obtain ⟨A, n, c, f, hh, h1, h2, h3, h4, h5⟩ := h
  refine ⟨A, n, c, f, ?_, h1, h2, h3, h4, fun hn => ?_⟩
  · simp [World.setCell, Array.getElem?_modify, hh]
  · obtain ⟨b, off, hA, hb, hc⟩ := h5 hn
    exact ⟨b, off, hA, hb, fun j hj => (World.cell?_of_block (Below.heap_setCell w ⟨g, 1, none⟩ _ b (by simp; omega))).trans (hc j hj)⟩
end

/-- What a pick of n leaves: a number from 0 on, below n where that is one; the reader one further on; nothing else has turned. -/
def Picked (n : Int) (g : Nat) (p : Int) (w : World) (e : Ending) (w' : World) : Prop :=
  ∃ m : Int, e = .returned (.int .i64 m) ∧ 0 ≤ m ∧ (1 ≤ n → m < n) ∧ Rd w' g (p + 1) ∧ w.grownBy w' (some g)

theorem grownSet {w : World} {g : Nat} (i : Nat) (u : Value) (k : Nat) : w.grownBy ((w.setCell ⟨g, i, none⟩ u).drewN k) (some g) :=
  ⟨rfl, rfl, rfl, by simp [World.setCell], fun b _ hne => Below.heap_setCell w ⟨g, i, none⟩ u b (fun e => hne (by rw [e]))⟩

theorem pick_any (w : World) (g : Nat) (p n : Int) (hr : Rd w g p) (hp : 0 ≤ p) (hp' : p ≤ 1000000000) (hn : n ≤ 1000000) :
    Calls Tryz.prog 62 #[.pointer (some ⟨g, 0, none⟩), .int .i64 n] w (Picked n g p w) := by
  have HR := Lib.hid (hr.next (p + 1))
  obtain ⟨A, l, c, f, hh, h1, h2, h3, h4, h5⟩ := hr
  have c0 : w.cell? ⟨g, 0, none⟩ = some (.slice A l c) := by simp [World.cell?, hh]
  have c1 : w.cell? ⟨g, 1, none⟩ = some (.int .i64 p) := by simp [World.cell?, hh]
  have z1 : w.frozen? ⟨g, 1, none⟩ = false := by simp [World.frozen?, hh]
  have HH := Lib.hid hh
  have H5 := Lib.hid h5
  have H4 := Lib.hid h4
  unfold maxLen at h3
  clear hh h5 h4
  by_cases hn1 : n < 1
  · go_enter Tryz.func62, Tryz.ntmps62
    go_wp2
    go_ret
    exact ⟨0, rfl, by omega, fun h => absurd h (by omega), HR.out, grownSet _ _ 0⟩
  · have hn2 : 1 ≤ n := by omega
    clear hn1
    by_cases hl : l = 0
    · have hl0 : ((l : Int) == 0) = true := by simp [hl]
      have HL := Lib.hid hl
      clear hl
      go_enter Tryz.func62, Tryz.ntmps62
      go_wp2
      go_ret
      exact ⟨0, rfl, by omega, fun h => by omega, HR.out, grownSet _ _ 0⟩
    · have hl0 : ((l : Int) == 0) = false := by simp [hl]
      have hlp : 0 < l := by omega
      obtain ⟨b, off, rfl, hb, hc⟩ := H5.out hlp
      have hbg : b ≠ g := by omega
      obtain ⟨k, rfl⟩ := Int.eq_ofNat_of_zero_le hp
      by_cases hkl : k < l
      · have hck := hc k hkl
        obtain ⟨x, hx⟩ : ∃ x, f k = x := ⟨_, rfl⟩
        obtain ⟨hx0, hx1⟩ := H4.out k
        rw [hx] at hck hx0 hx1
        clear hc hx hl
        go_enter Tryz.func62, Tryz.ntmps62
        go_wp2
        go_ret
        exact ⟨x % n, rfl, Int.emod_nonneg _ (by omega), fun _ => Int.emod_lt_of_pos _ (by omega), HR.out, grownSet _ _ 0⟩
      · obtain ⟨j1, hj1⟩ : ∃ j : Nat, k % l = j := ⟨_, rfl⟩
        obtain ⟨j2, hj2⟩ : ∃ j : Nat, (k * 7 + 3) % l = j := ⟨_, rfl⟩
        have b1 : j1 < l := by rw [← hj1]; exact Nat.mod_lt _ hlp
        have b2 : j2 < l := by rw [← hj2]; exact Nat.mod_lt _ hlp
        have hc1 := hc j1 b1
        have hc2 := hc j2 b2
        obtain ⟨x, hx⟩ : ∃ x, f j1 = x := ⟨_, rfl⟩
        obtain ⟨y, hy⟩ : ∃ x, f j2 = x := ⟨_, rfl⟩
        obtain ⟨hx0, hx1⟩ := H4.out j1
        obtain ⟨hy0, hy1⟩ := H4.out j2
        rw [hx] at hc1 hx0 hx1
        rw [hy] at hc2 hy0 hy1
        have hl' : ¬ (l : Int) = 0 := by omega
        have m1 : (k : Int).tmod (l : Int) = (j1 : Int) := by rw [← hj1, Int.tmod_eq_emod_of_nonneg (by omega)]; simp
        have m2 : ((k : Int) * 7 + 3).tmod (l : Int) = (j2 : Int) := by rw [← hj2, Int.tmod_eq_emod_of_nonneg (by omega)]; simp
        obtain ⟨q, hq⟩ : ∃ q : Nat, k / l = q := ⟨_, rfl⟩
        have hqk : q ≤ k := by rw [← hq]; exact Nat.div_le_self _ _
        have m3 : (k : Int).tdiv (l : Int) = (q : Int) := by rw [← hq, Int.tdiv_eq_ediv_of_nonneg (by omega)]; simp
        have f1 : (0 : Int) ≤ (j1 : Int) := by omega
        have f2 : (j1 : Int) < (l : Int) := by omega
        have f3 : (0 : Int) ≤ (j2 : Int) := by omega
        have f4 : (j2 : Int) < (l : Int) := by omega
        have w1 : IntKind.i64.wrap (j1 : Int) = (j1 : Int) := IntWalk.i64_in _ (by omega)
        have w2 : IntKind.i64.wrap ((k : Int) * 7) = (k : Int) * 7 := IntWalk.i64_in _ (by omega)
        have w3 : IntKind.i64.wrap ((k : Int) * 7 + 3) = (k : Int) * 7 + 3 := IntWalk.i64_in _ (by omega)
        have w4 : IntKind.i64.wrap (j2 : Int) = (j2 : Int) := IntWalk.i64_in _ (by omega)
        have w5 : IntKind.i64.wrap x = x := IntWalk.i64_in _ (by omega)
        have w6 : IntKind.i64.wrap y = y := IntWalk.i64_in _ (by omega)
        have w7 : IntKind.i64.wrap (x * 131) = x * 131 := IntWalk.i64_in _ (by omega)
        have w8 : IntKind.i64.wrap (y * 1117) = y * 1117 := IntWalk.i64_in _ (by omega)
        have w9 : IntKind.i64.wrap (x * 131 + y * 1117) = x * 131 + y * 1117 := IntWalk.i64_in _ (by omega)
        have w10 : IntKind.i64.wrap ((k : Int) * 29) = (k : Int) * 29 := IntWalk.i64_in _ (by omega)
        have w11 : IntKind.i64.wrap (x * 131 + y * 1117 + (k : Int) * 29) = x * 131 + y * 1117 + (k : Int) * 29 := IntWalk.i64_in _ (by omega)
        have w12 : IntKind.i64.wrap (q : Int) = (q : Int) := IntWalk.i64_in _ (by omega)
        have w13 : IntKind.i64.wrap ((q : Int) * 53) = (q : Int) * 53 := IntWalk.i64_in _ (by omega)
        have w14 : IntKind.i64.wrap (x * 131 + y * 1117 + (k : Int) * 29 + (q : Int) * 53) = x * 131 + y * 1117 + (k : Int) * 29 + (q : Int) * 53 := IntWalk.i64_in _ (by omega)
        have HJ := Lib.hid (And.intro hj1 (And.intro hj2 hq))
        clear hc hx hy hj1 hj2 hq
        go_enter Tryz.func62, Tryz.ntmps62
        go_wp2
        go_quiet (fail)
        clear w1 w2 w3 w4 w5 w6 w7 w8 w9 w10 w11 w12 w13 w14 m1 m2 m3 hc1 hc2
        have hX0 : 0 ≤ x * 131 + y * 1117 + (k : Int) * 29 + (q : Int) * 53 := by omega
        have hX1 : x * 131 + y * 1117 + (k : Int) * 29 + (q : Int) * 53 ≤ 1000000000000 := by omega
        generalize x * 131 + y * 1117 + (k : Int) * 29 + (q : Int) * 53 = X at *
        obtain ⟨hY0, hY1⟩ := xor_i64 (a := X) (b := X / 64) hX0 (by omega) (by omega) (by omega)
        go_wp2
        go_ret
        exact ⟨_, rfl, Int.emod_nonneg _ (by omega), fun _ => Int.emod_lt_of_pos _ (by omega), HR.out, grownSet _ _ _⟩

end Go.Proofs.YtmbkhohgciakfaaGreat

/- Draws of names: odd, digits, names. -/
namespace Go.Proofs.YtmbkhohgciakfaaGreat
open Go.RowKit

/-- A reader that has come to some place up to P. -/
def Rds (w : World) (g : Nat) (P : Int) : Prop := ∃ p, 0 ≤ p ∧ p ≤ P ∧ Rd w g p
section
variable {w w' : World} {g : Nat} {P P' : Int}
theorem Rds.lt (h : Rds w g P) : g < w.heap.size := by obtain ⟨p, _, _, h⟩ := h; exact h.lt
theorem Rds.below {B : Nat} (h : Rds w g P) (hb : Below B w w') (hB : g < B) : Rds w' g P := by
  obtain ⟨p, h0, h1, h⟩ := h; exact ⟨p, h0, h1, h.below hb hB⟩
theorem Rds.grown {row : Option Nat} (h : Rds w g P) (hg : w.grownBy w' row) (hr : ∀ k, row = some k → g < k) : Rds w' g P := by
  obtain ⟨p, h0, h1, h⟩ := h; exact ⟨p, h0, h1, h.grown hg hr⟩
theorem Rds.more (h : Rds w g P) (hP : P ≤ P') : Rds w g P' := by obtain ⟨p, h0, h1, h⟩ := h; exact ⟨p, h0, by omega, h⟩
theorem Rds.alloc (h : Rds w g P) (o : Obj) : Rds (w.alloc o) g P := h.below ((Below.refl _ _).alloc (Nat.le_refl _) o) h.lt
end

/-- What a draw leaves of the world: the reader at most so much further on; nothing else that was there has turned. -/
def Drew (g : Nat) (P : Int) (w w' : World) : Prop := Rds w' g P ∧ w.grownBy w' (some g)
theorem Drew.trans {g : Nat} {P P' : Int} {a b c : World} (h : Drew g P a b) (k : Drew g P' b c) : Drew g P' a c := ⟨k.1, h.2.trans k.2⟩
theorem Drew.then_ {g : Nat} {P : Int} {a b c : World} (h : Drew g P a b) (k : Below b.heap.size b c) : Drew g P a c :=
  ⟨h.1.below k h.1.lt, h.2.trans ⟨k.os, k.tape, k.output, k.size, fun i hi _ => k.block i hi⟩⟩
theorem Drew.alloc {g : Nat} {P : Int} {a b : World} (h : Drew g P a b) (o : Obj) : Drew g P a (b.alloc o) := h.then_ (belowOne b o)
theorem Drew.grown {g : Nat} {P : Int} {w a b : World} {row : Option Nat} (h : Drew g P w a) (hg : a.grownBy b row) (hr : ∀ k, row = some k → w.heap.size ≤ k) (hgw : g < w.heap.size) : Drew g P w b :=
  ⟨h.1.grown hg (fun k hk => Nat.lt_of_lt_of_le hgw (hr k hk)), hg.os.trans h.2.os, hg.tape.trans h.2.tape, hg.output.trans h.2.output, Nat.le_trans h.2.size hg.size,
    fun i hi hne => (hg.block i (Nat.lt_of_lt_of_le hi h.2.size) (fun e => by have := hr i e.symm; omega)).trans (h.2.block i hi hne)⟩
theorem Drew.below {g : Nat} {P : Int} {a b : World} (h : Drew g P a b) {B : Nat} (hB : B ≤ g) (hs : B ≤ a.heap.size) : Below B a b :=
  ⟨h.2.os, h.2.tape, h.2.output, h.2.size, fun k hk => h.2.block k (by omega) (fun e => by injection e with e; omega)⟩

theorem pick_rds (w : World) (g : Nat) (P n : Int) (hr : Rds w g P) (hP : P ≤ 1000000000) (hn : n ≤ 1000000) :
    Calls Tryz.prog 62 #[.pointer (some ⟨g, 0, none⟩), .int .i64 n] w fun e w' =>
      ∃ m : Int, e = .returned (.int .i64 m) ∧ 0 ≤ m ∧ (1 ≤ n → m < n) ∧ Drew g (P + 1) w w' := by
  obtain ⟨p, h0, h1, hr⟩ := hr
  refine (pick_any w g p n hr h0 (by omega) hn).mono ?_
  rintro e w' ⟨m, rfl, a, b, c, d⟩
  exact ⟨m, rfl, a, b, ⟨p + 1, by omega, by omega, c⟩, d⟩

theorem odd_any (w : World) (g : Nat) (P n : Int) (hr : Rds w g P) (hP : P ≤ 1000000000) (hn : n ≤ 1000000) :
    Calls Tryz.prog 63 #[.pointer (some ⟨g, 0, none⟩), .int .i64 n] w fun e w' =>
      ∃ b : Bool, e = .returned (.bool b) ∧ (n < 1 → b = false) ∧ Drew g (P + 1) w w' := by
  by_cases h : n < 1
  · have hd : decide (0 < n) = false := by simp; omega
    go_enter Tryz.func63, Tryz.ntmps63
    go_wp2
    go_ret
    exact ⟨false, rfl, fun _ => rfl, hr.more (by omega), World.grownBy.refl _ _⟩
  · have h' : 0 < n := by omega
    clear h
    go_enter Tryz.func63, Tryz.ntmps63
    go_wp2_with (go_at_call 62; refine (pick_rds _ _ _ _ hr hP hn).mono ?_; rintro e w' ⟨m, rfl, hm0, hm1, hd⟩)
    go_ret
    exact ⟨_, rfl, fun h => absurd h (by omega), by assumption⟩

/-- One digit. -/
def digS (n : Int) : ByteArray := strOfNums [48 + n]
theorem digS_size (n : Int) : (digS n).size = 1 := strOfNums_size _

set_option maxRecDepth 100000 in
theorem l3Digit_any (w : World) (n : Int) (h0 : 0 ≤ n) (h9 : n ≤ 9) :
    Calls Tryz.prog 114 #[.int .i64 n] w fun e w' => e = .returned (.string (digS n)) ∧ Below w.heap.size w w' := by
  have hcv := run_convert_bytes_arg (P := Tryz.prog) (w.alloc (.cells #[.int .u8 (48 + n)] 5)) 44 5 Tryz.underlying44 Tryz.underlying5 w.heap.size 0 1 1 [48 + n] rfl
    (fun i hi => by have : i = 0 := by omega
                    subst this; simp) 9 Tryz.underlying9
  go_enter Tryz.func114, Tryz.ntmps114
  go_wp2
  go_ret
  exact ⟨rfl, belowOne _ _⟩

theorem append_size (a b : ByteArray) : (a ++ b).size = a.size + b.size := by simp

theorem l3Plain_any (w : World) (n : Int) (h0 : 0 ≤ n) (h9 : n ≤ 1000000) :
    Calls Tryz.prog 90 #[.int .i64 n] w fun e w' => ∃ s : ByteArray, e = .returned (.string s) ∧ s.size ≤ 1000001 ∧ Below w.heap.size w w' := by
  go_enter Tryz.func90, Tryz.ntmps90
  go_wp2
  go_loopw [0, 3] (fun i o wr => ∃ (m : Int) (s : ByteArray), i = .int .i64 m ∧ o = .string s ∧ 0 ≤ m ∧ m ≤ 1000000 ∧ (s.size : Int) ≤ 1000000 - m ∧ Below w.heap.size w wr) (fun i _ _ => (intOf i).toNat)
  case atStart => exact ⟨n, _, rfl, rfl, h0, h9, by show ((0 : Nat) : Int) ≤ _; omega, Below.refl _ _⟩
  case round =>
    obtain ⟨m, s, rfl, rfl, hm0, hm1, hs, hb⟩ := hrel
    by_cases h : 9 < m
    · have hd := digS_size (m % 10)
      have HD := Lib.hid hd
      have hd1 : (digS (m % 10)).size ≤ 1 := by omega
      clear hd
      go_wp2_with (go_at_call 114; refine (l3Digit_any _ _ (by omega) (by omega)).mono ?_; rintro e w1 ⟨rfl, hb1⟩; have hq := belowNext hb hb1; clear hb1)
      go_roundw
      case rel => exact ⟨m / 10, _, by go_num, rfl, by omega, by omega, by rw [append_size]; omega, by assumption⟩
      case measure => simp [intOf]; omega
    · have HD := Lib.hid (digS_size m)
      have hd1 : (digS m).size ≤ 1 := by have := HD.out; omega
      go_wp2_with (go_at_call 114; refine (l3Digit_any _ _ (by omega) (by omega)).mono ?_; rintro e w1 ⟨rfl, hb1⟩; have hq := belowNext hb hb1; clear hb1)
      go_ret
      exact ⟨_, rfl, by rw [append_size]; omega, by assumption⟩

end Go.Proofs.YtmbkhohgciakfaaGreat
