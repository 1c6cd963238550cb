/- Texts that follow each other, merged: Get, OwnIt. -/
import Derived.Test.YtkamlibfcakblaaXStoOk
import Derived.Test.YtkamlibfcakblaaXExItems
import Derived.Test.YtkamlibfcakblaaXTree
import Derived.Deep.AppendLies
import Derived.Test.YtkamlibfcakblaaXCloneStr

/- What StoGet answers, of the program and of the model: the same. -/
namespace Go.Proofs.Ytkamlibfcakblaa
open Go.RowKit

/-- The first k names are other ones. -/
def Before (its : List Item) (key : ByteArray) (k : Nat) : Prop := ∀ j x, j < k → its[j]? = some x → x.key ≠ key
theorem Before.start (its : List Item) (key : ByteArray) : Before its key 0 := fun j _ h => absurd h (by omega)
theorem Before.step {its : List Item} {key : ByteArray} {k : Nat} {x : Item} (h : Before its key k) (hx : its[k]? = some x) (hn : x.key ≠ key) : Before its key (k + 1) := by
  intro j y hj hy
  rcases Nat.lt_or_ge j k with hlt | hge
  · exact h j y hlt hy
  · have : j = k := by omega
    subst this
    rw [hx] at hy
    injection hy with hy
    rw [← hy]; exact hn
theorem Before.hit {its : List Item} {key : ByteArray} {k : Nat} {x : Item} (h : Before its key k) (hx : its[k]? = some x) (hk : x.key = key) : look its key = some x := by
  unfold look
  rw [List.find?_eq_some_iff_getElem]
  have hl := (List.getElem?_eq_some_iff.1 hx).1
  refine ⟨by simpa using hk, k, hl, by rw [List.getElem?_eq_getElem hl] at hx; exact Option.some.inj hx, fun j hj => ?_⟩
  simp only [Bool.not_eq_eq_eq_not, Bool.not_true, decide_eq_false_iff_not]
  exact h j _ hj (List.getElem?_eq_getElem (by omega))
theorem Before.none_ {its : List Item} {key : ByteArray} (h : Before its key its.length) : look its key = none := by
  unfold look
  rw [List.find?_eq_none]
  intro x hx
  obtain ⟨t, ht, rfl⟩ := List.getElem_of_mem hx
  simp only [decide_eq_true_eq]
  exact h t _ ht (List.getElem?_eq_getElem ht)

/-- The numbers of a name: none where it is not kept. -/
def lookV (its : List Item) (key : ByteArray) : List Int := match look its key with
  | some x => x.val
  | none => []
def lookOk (its : List Item) (key : ByteArray) : Bool := (look its key).isSome
theorem lookV_some {its : List Item} {key : ByteArray} {x : Item} (h : look its key = some x) : lookV its key = x.val := by simp [lookV, h]
theorem lookV_none {its : List Item} {key : ByteArray} (h : look its key = none) : lookV its key = [] := by simp [lookV, h]
theorem lookOk_some {its : List Item} {key : ByteArray} {x : Item} (h : look its key = some x) : lookOk its key = true := by simp [lookOk, h]
theorem lookOk_none {its : List Item} {key : ByteArray} (h : look its key = none) : lookOk its key = false := by simp [lookOk, h]
/-- The answer of StoGet: nothing, and false, where what is kept is not ok. -/
def getV (its : List Item) (key : ByteArray) : List Int := if stoB its then lookV its key else []
def getOk (its : List Item) (key : ByteArray) : Bool := stoB its && lookOk its key
theorem getV_no {its : List Item} {key : ByteArray} (h : stoB its = false) : getV its key = [] := by simp [getV, h]
theorem getOk_no {its : List Item} {key : ByteArray} (h : stoB its = false) : getOk its key = false := by simp [getOk, h]
theorem getV_yes {its : List Item} {key : ByteArray} (h : stoB its = true) : getV its key = lookV its key := by simp [getV, h]
theorem getOk_yes {its : List Item} {key : ByteArray} (h : stoB its = true) : getOk its key = lookOk its key := by simp [getOk, h]
theorem stoB_parts {its : List Item} (h : stoB its = true) : its.length ≤ 40 ∧ Each its its.length ∧ Rise its its.length := by
  unfold stoB at h
  simp only [Bool.and_eq_true, decide_eq_true_eq] at h
  exact ⟨h.1, all_each h.2.1, asc_rise h.2.2⟩
theorem itemB_len {it : Item} (h : itemB it = true) : it.val.length ≤ 3 := by
  unfold itemB valB at h
  simp only [Bool.and_eq_true, decide_eq_true_eq] at h
  exact h.2.1.2

/-- What a look-up leaves. -/
def Got (xs : List Int) (ok : Bool) (w : World) (e : Ending) (w' : World) : Prop :=
  ∃ u, e = .returned (.tuple #[u, .bool ok]) ∧ OwnInts w' w.heap.size u xs ∧ Below w.heap.size w w'

theorem ownEmpty {w0 w : World} (hb : Below w0.heap.size w0 w) : OwnInts (w.alloc (.cells #[] 3)) w0.heap.size (.slice (some ⟨w.heap.size, 0, none⟩) 0 0) [] := OwnInts.empty w _ hb.size
theorem OwnInts.less {w : World} {lo lo' : Nat} {v : Value} {xs : List Int} (h : OwnInts w lo v xs) (hl : lo' ≤ lo) : OwnInts w lo' v xs :=
  ⟨h.1, h.2.elim Or.inl fun ⟨g, cap, cur, hv, hg, r⟩ => Or.inr ⟨g, cap, cur, hv, Nat.le_trans hl hg, r⟩⟩

theorem ownLo {w : World} {lo : Nat} {v : Value} {xs : List Int} (h : OwnInts w lo v xs) : ∀ b, v.ownBlock = some b → lo ≤ b := fun b hb => (h.lt b hb).1
theorem belowGrown {B : Nat} {w w' : World} {v : Value} (hg : w.grownBy w' v.ownBlock) (h : ∀ b, v.ownBlock = some b → B ≤ b) (hB : B ≤ w.heap.size) : Below B w w' := (Below.refl B w).grown hg hB h

end Go.Proofs.Ytkamlibfcakblaa

/- Slices of things that the call itself has made, by append; the numbers of each may lie anywhere else. -/
namespace Go.Proofs.Ytkamlibfcakblaa
open Go.RowKit

/-- A slice of integers whose block is one of S. -/
def IntsIn (w : World) (S : Nat → Prop) (v : Value) (xs : List Int) : Prop :=
  ∃ A c, v = .slice A xs.length c ∧ xs.length ≤ c ∧ c ≤ maxLen ∧ (0 < xs.length → ∃ b off, A = some ⟨b, off, none⟩ ∧ b < w.heap.size ∧ S b ∧ ∀ j, j < xs.length → w.cell? ⟨b, off + j, none⟩ = some (.int .i64 (nth xs j)))
section
variable {w w' : World} {S S' : Nat → Prop} {v : Value} {xs : List Int}
theorem IntsIn.ints (h : IntsIn w S v xs) : Ints w w.heap.size v xs := by
  obtain ⟨A, c, hv, h1, h2, hr⟩ := h
  refine ⟨A, c, hv, h1, h2, fun hn => ?_⟩
  obtain ⟨b, off, hA, hb, _, hc⟩ := hr hn
  exact ⟨b, off, hA, hb, hc⟩
theorem IntsIn.keep (h : IntsIn w S v xs) (hk : ∀ b, b < w.heap.size → S b → w'.heap[b]? = w.heap[b]?) (hs : w.heap.size ≤ w'.heap.size) (hS : ∀ b, b < w.heap.size → S b → S' b) : IntsIn w' S' v xs := by
  obtain ⟨A, c, hv, h1, h2, hr⟩ := h
  refine ⟨A, c, hv, h1, h2, fun hn => ?_⟩
  obtain ⟨b, off, hA, hb, hSb, hc⟩ := hr hn
  exact ⟨b, off, hA, Nat.lt_of_lt_of_le hb hs, hS b hb hSb, fun j hj => (World.cell?_of_block (hk b hb hSb)).trans (hc j hj)⟩
theorem Ints.toIn {B : Nat} (h : Ints w B v xs) (hB : B ≤ w.heap.size) : IntsIn w (· < B) v xs := by
  obtain ⟨A, c, hv, h1, h2, hr⟩ := h
  refine ⟨A, c, hv, h1, h2, fun hn => ?_⟩
  obtain ⟨b, off, hA, hb, hc⟩ := hr hn
  exact ⟨b, off, hA, by omega, hb, hc⟩
theorem OwnInts.toIn {lo : Nat} (h : OwnInts w lo v xs) : IntsIn w (lo ≤ ·) v xs := by
  rcases h.2 with ⟨rfl, h0⟩ | ⟨g, cap, cur, rfl, hb, hg, hn, hm, hs, ht⟩
  · exact ⟨none, 0, by rw [h0], by omega, Nat.zero_le _, fun hp => absurd hp (by omega)⟩
  · refine ⟨_, cap, rfl, hn, hm, fun _ => ⟨g, 0, rfl, (Array.getElem?_eq_some_iff.1 hg).1, hb, fun j hj => ?_⟩⟩
    have := World.ownsRow.cellAt h j (by omega)
    rw [Nat.zero_add, this, nth_map hj]
end

/-- A slice of things in a block of the call's own, from lo on; the numbers of each in some other block of S. -/
def OwnIt (w : World) (lo : Nat) (S : Nat → Prop) (v : Value) (its : List Item) : Prop :=
  ∃ U : Nat → Value, w.ownsRow lo 104 2 v its.length (cellsU its U) ∧ ∀ (j : Nat) (it : Item), its[j]? = some it → it.key.size ≤ maxLen ∧ IntsIn w (fun b => S b ∧ v.ownBlock ≠ some b) (U j) it.val
section
variable {w w' : World} {lo : Nat} {S S' : Nat → Prop} {v : Value} {its : List Item}
theorem OwnIt.form (h : OwnIt w lo S v its) : (v = .slice none 0 0 ∧ its = []) ∨ ∃ g cap, v = .slice (some ⟨g, 0, none⟩) its.length cap ∧ lo ≤ g ∧ g < w.heap.size ∧ its.length ≤ cap ∧ cap ≤ maxLen := by
  obtain ⟨U, h1, _⟩ := h
  rcases h1.2 with ⟨hv, h0⟩ | ⟨g, cap, cur, hv, hb, hg, hn, hm, _⟩
  · exact .inl ⟨hv, List.length_eq_zero_iff.1 h0⟩
  · exact .inr ⟨g, cap, hv, hb, (Array.getElem?_eq_some_iff.1 hg).1, hn, hm⟩
theorem OwnIt.items (h : OwnIt w lo S v its) : Items w w.heap.size v its := by
  rcases h.form with ⟨rfl, rfl⟩ | ⟨g, cap, rfl, hg0, hg2, hc1, hc2⟩
  · exact ⟨none, 0, rfl, Nat.zero_le _, Nat.zero_le _, fun h => absurd h (by simp)⟩
  · obtain ⟨U, h1, h3⟩ := h
    refine ⟨_, cap, rfl, hc1, hc2, fun _ => ⟨g, 0, rfl, hg2, fun j it hit => ?_⟩⟩
    have hj : j < its.length := (List.getElem?_eq_some_iff.1 hit).1
    obtain ⟨a, b⟩ := h3 j it hit
    refine ⟨a, ?_, U j, ?_, b.ints⟩
    · rw [Nat.zero_add, h1.cellAt (j * 2) (by omega), cellsU_at _ _ (by omega), cellU_key hit]
    · rw [Nat.zero_add, h1.cellAt (j * 2 + 1) (by omega), cellsU_at _ _ (by omega), cellU_val hit]
/-- Kept where its blocks are. -/
theorem OwnIt.keep (h : OwnIt w lo S v its) (hk : ∀ b, b < w.heap.size → S b ∨ lo ≤ b → w'.heap[b]? = w.heap[b]?) (hs : w.heap.size ≤ w'.heap.size) : OwnIt w' lo S v its := by
  obtain ⟨U, h1, h3⟩ := h
  refine ⟨U, ⟨h1.1, ?_⟩, fun j it hit => ?_⟩
  · rcases h1.2 with hn | ⟨g, cap, cur, hv, hl, hgg, rest⟩
    · exact .inl hn
    · exact .inr ⟨g, cap, cur, hv, hl, by rw [hk g (Array.getElem?_eq_some_iff.1 hgg).1 (.inr hl)]; exact hgg, rest⟩
  · obtain ⟨a, b⟩ := h3 j it hit
    exact ⟨a, b.keep (fun k hk' hS => hk k hk' (.inl hS.1)) hs (fun _ _ h => h)⟩
theorem OwnIt.below (h : OwnIt w lo S v its) (hb : Below w.heap.size w w') : OwnIt w' lo S v its := h.keep (fun b hlt _ => hb.block b hlt) hb.size
theorem OwnIt.alloc (h : OwnIt w lo S v its) (o : Obj) : OwnIt (w.alloc o) lo S v its := h.below (belowOne w o)
theorem OwnIt.setCell (h : OwnIt w lo S v its) {p : Addr} (hp : ¬ S p.block) (hl : p.block < lo) (u : Value) : OwnIt (w.setCell p u) lo S v its :=
  h.keep (fun b _ hb => Below.heap_setCell w p u b (fun e => by subst e; rcases hb with hb | hb; exact hp hb; omega)) (by simp [World.setCell])
theorem OwnIt.weaken {lo' : Nat} (h : OwnIt w lo S v its) (hl : lo' ≤ lo) (hS : ∀ b, S b → S' b) : OwnIt w lo' S' v its := by
  obtain ⟨U, h1, h3⟩ := h
  refine ⟨U, ⟨h1.1, h1.2.elim Or.inl fun ⟨g, cap, cur, hv, hg, r⟩ => Or.inr ⟨g, cap, cur, hv, Nat.le_trans hl hg, r⟩⟩, fun j it hit => ?_⟩
  obtain ⟨a, b⟩ := h3 j it hit
  exact ⟨a, b.keep (fun _ _ _ => rfl) (Nat.le_refl _) (fun _ _ h => ⟨hS _ h.1, h.2⟩)⟩
theorem OwnIt.nil (w : World) (lo : Nat) (S : Nat → Prop) : OwnIt w lo S (.slice none 0 0) [] := ⟨fun _ => undef, World.ownsRow_nil _ _ _ _, fun j it h => by simp at h⟩
end

theorem cellsU_snoc (its : List Item) (U : Nat → Value) (it : Item) (u : Value) : cellsU (its ++ [it]) (upd U its.length u) = cellsU its U ++ [.string it.key, u] := by
  apply List.ext_getElem?
  intro i
  have hlen : (its ++ [it]).length = its.length + 1 := by simp
  rcases Nat.lt_or_ge i (its.length * 2) with hi | hi
  · rw [List.getElem?_append_left (by rw [cellsU_len]; exact hi), cellsU_at _ _ hi, cellsU_at _ _ (by rw [hlen]; omega)]
    have hj : i / 2 < its.length := by omega
    simp only [cellU, List.getElem?_append_left hj, upd_other U u (show i / 2 ≠ its.length by omega)]
  · rw [List.getElem?_append_right (by rw [cellsU_len]; exact hi), cellsU_len]
    have hlast : (its ++ [it])[its.length]? = some it := by simp
    rcases Nat.lt_or_ge i (its.length * 2 + 2) with h2 | h2
    · rcases (by omega : i = its.length * 2 ∨ i = its.length * 2 + 1) with rfl | rfl
      · rw [cellsU_at _ _ (by rw [hlen]; omega), cellU_key hlast]; simp
      · rw [cellsU_at _ _ (by rw [hlen]; omega), cellU_val hlast, upd_same]; simp
    · rw [List.getElem?_eq_none (by rw [cellsU_len, hlen]; omega), List.getElem?_eq_none (by simp; omega)]

set_option maxRecDepth 100000 in
/-- append of one thing that lies in a block of its own. -/
theorem append_item (w : World) (lo : Nat) (S : Nat → Prop) (v : Value) (its : List Item) (hv : OwnIt w lo S v its) (it : Item) (A : Option Addr) (n c B : Nat) (hks : it.key.size ≤ maxLen)
    (hu : IntsIn w (fun b => S b ∧ v.ownBlock ≠ some b) (.slice A n c) it.val) (hsrc : Held w B [.string it.key, .slice A n c]) (ty : TypeId) (hl : its.length ≤ 2097152) (hlo : lo ≤ w.heap.size) :
    ∃ v' w', (Builtin.append_ #[52, 52] ty #[v, .slice (some ⟨B, 0, none⟩) 1 1]).run Try.prog w = .ok v' w' ∧ OwnIt w' lo S v' (its ++ [it]) ∧ w.grownBy w' v.ownBlock := by
  obtain ⟨i, hi, hz, hs, hb⟩ := info_parts infoItem
  obtain ⟨U, h1, h3⟩ := hv
  obtain ⟨g, cap, w', hr, h2, hg, hwhere, hlt⟩ := run_append_lies (P := Try.prog) w 52 ty lo 104 i _ 2 40 Try.underlying52 hi hz hs hb rfl (by omega) v its.length _ h1 ⟨B, 0, none⟩ 1 1 [.string it.key, .slice A n c] rfl
    (fun j u hu => by
      have := hsrc.2.2 j u hu
      rw [← this]; congr 1
      unfold Addr.add
      by_cases h : j = 0 <;> simp [h])
    (by intro u hu; simp at hu; rcases hu with rfl | rfl <;> rfl) (by omega) (by unfold maxLen; omega) (by omega) hlo w.heap.size rfl
  have hne : ∀ b, b < w.heap.size → v.ownBlock ≠ some b → (Value.slice (some ⟨g, 0, none⟩) (its.length + 1) cap).ownBlock ≠ some b := by
    intro b hb' hvb e
    have e' : g = b := Option.some.inj e
    rcases hwhere with h | h
    · rw [h, e'] at hvb; exact hvb rfl
    · omega
  have hlen : (its ++ [it]).length = its.length + 1 := by simp
  refine ⟨_, w', hr, ⟨upd U its.length (.slice A n c), ?_, fun j x hx => ?_⟩, hg⟩
  · rw [cellsU_snoc, hlen]; exact h2
  · rcases Nat.lt_or_ge j its.length with hj | hj
    · rw [List.getElem?_append_left hj] at hx
      obtain ⟨a, b⟩ := h3 j x hx
      rw [upd_other _ _ (by omega)]
      exact ⟨a, b.keep (fun k hk hS => hg.block k hk (fun e => hS.2 e.symm)) hg.size (fun k hk hS => ⟨hS.1, hne k hk hS.2⟩)⟩
    · have hjl : j = its.length := by
        have := (List.getElem?_eq_some_iff.1 hx).1
        simp at this; omega
      subst hjl
      have hx' : it = x := by simpa using hx
      subst hx'
      rw [upd_same]
      exact ⟨hks, hu.keep (fun k hk hS => hg.block k hk (fun e => hS.2 e.symm)) hg.size (fun k hk hS => ⟨hS.1, hne k hk hS.2⟩)⟩

/-- The same, for the walk. -/
theorem wpl_append_item {w : World} {ops : Array Oper} {rest : List Oper} {o : Oper} {a : Act} {Q : Exit → Act → World → Prop} (hgd : o.guard = none) (s x : Operand)
    (ho : o.op = .call { callee := .builtin .append, args := #[s, x], argTypes := #[52, 52] }) (lo : Nat) (S : Nat → Prop) (v : Value) (its : List Item) (hs : a.eval s = v) (hv : OwnIt w lo S v its)
    (it : Item) (A : Option Addr) (n c B : Nat) (hx : a.eval x = .slice (some ⟨B, 0, none⟩) 1 1) (hks : it.key.size ≤ maxLen) (hu : IntsIn w (fun b => S b ∧ v.ownBlock ≠ some b) (.slice A n c) it.val)
    (hsrc : Held w B [.string it.key, .slice A n c]) (hl : its.length ≤ 2097152) (hlo : lo ≤ w.heap.size)
    (h : ∀ v' w', OwnIt w' lo S v' (its ++ [it]) → w.grownBy w' v.ownBlock → wpList Try.prog ops Q rest (a.put o.dst v') w') : wpList Try.prog ops Q (o :: rest) a w := by
  refine wpList_plain hgd fun K hK => ?_
  obtain ⟨v', w', hr, h2, h3⟩ := append_item w lo S v its hv it A n c B hks hu hsrc o.type hl hlo
  unfold Oper.wp execOp
  simp only [ho, resolve, invoke, builtin, Sem.run_bind, Sem.run_pure, Result.andThen_ok, List.map_toArray, List.map_cons, List.map_nil, hs, hx, hr]
  exact hK _ _ (h v' w' h2 h3)
/-- The same, in a region that draws. -/
theorem step_append_item {w : World} {ops : Array Oper} {o : Oper} {a : Act} {K : Act → World → Prop} {Q : Exit → Act → World → Prop} {E : Prop} (hgd : o.guard = none) (s x : Operand)
    (ho : o.op = .call { callee := .builtin .append, args := #[s, x], argTypes := #[52, 52] }) (lo : Nat) (S : Nat → Prop) (v : Value) (its : List Item) (hs : a.eval s = v) (hv : OwnIt w lo S v its)
    (it : Item) (A : Option Addr) (n c B : Nat) (hx : a.eval x = .slice (some ⟨B, 0, none⟩) 1 1) (hks : it.key.size ≤ maxLen) (hu : IntsIn w (fun b => S b ∧ v.ownBlock ≠ some b) (.slice A n c) it.val)
    (hsrc : Held w B [.string it.key, .slice A n c]) (hl : its.length ≤ 2097152) (hlo : lo ≤ w.heap.size)
    (h : ∀ v' w', OwnIt w' lo S v' (its ++ [it]) → w.grownBy w' v.ownBlock → K (a.put o.dst v') w') : if Region.wanted o (yielded ops a.tmps) = true then Oper.wp Try.prog o a w K Q else E := by
  have hw : Region.wanted o (yielded ops a.tmps) = true := by simp [Region.wanted, hgd]
  rw [if_pos hw]
  obtain ⟨v', w', hr, h2, h3⟩ := append_item w lo S v its hv it A n c B hks hu hsrc o.type hl hlo
  unfold Oper.wp execOp
  simp only [ho, resolve, invoke, builtin, Sem.run_bind, Sem.run_pure, Result.andThen_ok, List.map_toArray, List.map_cons, List.map_nil, hs, hx, hr]
  exact h v' w' h2 h3
theorem step_append_ints {w : World} {ops : Array Oper} {o : Oper} {a : Act} {K : Act → World → Prop} {Q : Exit → Act → World → Prop} {E : Prop} (hgd : o.guard = none) (s x : Operand)
    (ho : o.op = .call { callee := .builtin .append, args := #[s, x], argTypes := #[39, 39] }) (lo : Nat) (v : Value) (xs : List Int) (hs : a.eval s = v) (hv : OwnInts w lo v xs)
    (B : Nat) (A : Option Addr) (c : Nat) (ys : List Int) (hx : a.eval x = .slice A ys.length c) (hy : Ints w B (.slice A ys.length c) ys) (hl : xs.length + ys.length ≤ 4194304) (hlo : lo ≤ w.heap.size)
    (h : ∀ v' w', OwnInts w' lo v' (xs ++ ys) → w.grownBy w' v.ownBlock → K (a.put o.dst v') w') : if Region.wanted o (yielded ops a.tmps) = true then Oper.wp Try.prog o a w K Q else E := by
  have hw : Region.wanted o (yielded ops a.tmps) = true := by simp [Region.wanted, hgd]
  rw [if_pos hw]
  obtain ⟨v', w', hr, h2, h3⟩ := append_ints w lo v xs hv B A c ys hy o.type hl hlo
  unfold Oper.wp execOp
  simp only [ho, resolve, invoke, builtin, Sem.run_bind, Sem.run_pure, Result.andThen_ok, List.map_toArray, List.map_cons, List.map_nil, hs, hx, hr]
  exact h v' w' h2 h3

end Go.Proofs.Ytkamlibfcakblaa
