/- Texts that follow each other, merged: StoMap, DiskP, SOpen. -/
import Derived.Test.YtkamlibfcakblaaXWrts
import Derived.Test.YtkamlibfcakblaaXLastKind
import Derived.Test.YtkamlibfcakblaaXInDoubt

/- What is kept as a map of names: what writes do to look-ups; two that look alike are one. Plain facts. -/
namespace Go.Proofs.Ytkamlibfcakblaa
open Go.RowKit

theorem look_app (l m : List Item) (key : ByteArray) : look (l ++ m) key = (look l key).or (look m key) := by unfold look; exact List.find?_append
theorem look_cons (x : Item) (l : List Item) (key : ByteArray) : look (x :: l) key = if x.key = key then some x else look l key := by
  unfold look
  rw [List.find?_cons]
  by_cases h : x.key = key <;> simp [h]
theorem look_free {l : List Item} {key : ByteArray} (h : ∀ a ∈ l, a.key ≠ key) : look l key = none := by
  unfold look
  rw [List.find?_eq_none]
  intro x hx
  simpa using h x hx
theorem look_in {l : List Item} {key : ByteArray} {x : Item} (h : look l key = some x) : x ∈ l ∧ x.key = key := by
  unfold look at h
  exact ⟨List.mem_of_find?_eq_some h, by simpa using List.find?_some h⟩
/-- Where a name is, or would have to be. -/
theorem pos_of (its : List Item) (hr : Rise its its.length) (key : ByteArray) : ∃ i, i ≤ its.length ∧ Lo its key i ∧ Hi its key i := by
  suffices h : ∀ n, n ≤ its.length → Lo its key n → ∃ i, i ≤ its.length ∧ Lo its key i ∧ Hi its key i from h 0 (Nat.zero_le _) (Lo.start _ _)
  intro n
  induction hk : its.length - n generalizing n with
  | zero =>
    intro hn hlo
    have : n = its.length := by omega
    subst this
    exact ⟨_, hn, hlo, Hi.start _ _⟩
  | succ k ih =>
    intro hn hlo
    have hlt : n < its.length := by omega
    have hx := List.getElem?_eq_getElem hlt
    cases hl : ltB its[n].key key with
    | true => exact ih (n + 1) (by omega) hlt (Lo.mid hr hx hl)
    | false => exact ⟨n, hn, hlo, Hi.mid hr hx hl⟩
section
variable {wk : ByteArray} {wv : List Int} {its : List Item}
theorem hit_lt {i : Nat} (hh : hitB its wk i = true) : ∃ h : i < its.length, its[i].key = wk := by
  have hi : i < its.length := by
    by_cases h : i < its.length
    · exact h
    · rw [hitB_end (by omega)] at hh; exact absurd hh (by decide)
  exact ⟨hi, by simpa [hitB, List.getElem?_eq_getElem hi] using hh⟩
theorem low_free {i : Nat} (hlo : Lo its wk i) : ∀ a ∈ its.take i, a.key ≠ wk := fun a ha => ltB_ne (low_mem hlo a ha)
/-- What a write does to look-ups, to the length, to the order. -/
theorem wAll_facts (hr : Rise its its.length) (del : Bool) : Rise (wAll wk del wv its) (wAll wk del wv its).length ∧
    (∀ key, look (wAll wk del wv its) key = if wk = key then (if del = true then none else some ⟨wk, wv⟩) else look its key) ∧
    (wAll wk del wv its).length + (if (look its wk).isSome = true then 1 else 0) = its.length + (if del = true then 0 else 1) ∧ (∀ x ∈ wAll wk del wv its, x ∈ its ∨ del = false ∧ x = ⟨wk, wv⟩) := by
  obtain ⟨i, hi, hlo, hhi⟩ := pos_of its hr wk
  cases hh : hitB its wk i with
  | true =>
    obtain ⟨hlt, hkey⟩ := hit_lt hh
    have hlk : look its wk = some its[i] := look_hit hr (List.getElem?_eq_getElem hlt) hh
    have hspl := its_split hlt
    have hkey' : ∀ {key}, wk ≠ key → look its key = (look (its.take i) key).or (look (its.drop (i + 1)) key) := by
      intro key hne
      conv => lhs; rw [hspl]
      rw [look_app, look_cons, if_neg (by rw [hkey]; exact hne)]
    cases del with
    | true =>
      rw [wAll_drop hlo hhi hr hh]
      refine ⟨rise_del hr hlt, fun key => ?_, ?_, fun x hx => .inl ?_⟩
      · unfold delAt
        rw [look_app]
        by_cases he : wk = key
        · subst he
          rw [if_pos rfl, if_pos rfl, look_free (low_free hlo), look_free (high_mem hhi hr hlt)]; rfl
        · rw [if_neg he, hkey' he]
      · rw [hlk, delAt_len hlt]; simp; omega
      · unfold delAt at hx
        rcases List.mem_append.1 hx with h | h
        · exact List.mem_of_mem_take h
        · exact List.mem_of_mem_drop h
    | false =>
      rw [wAll_put hlo hhi hr hh]
      refine ⟨rise_set hr (List.getElem?_eq_getElem hlt) _ hkey.symm, fun key => ?_, ?_, fun x hx => ?_⟩
      · rw [List.set_eq_take_append_cons_drop, if_pos hlt, look_app, look_cons]
        by_cases he : wk = key
        · subst he
          rw [if_pos rfl, if_pos rfl, look_free (low_free hlo)]; rfl
        · rw [if_neg he, if_neg he, hkey' he]
      · rw [hlk, List.length_set]; simp
      · rcases List.mem_or_eq_of_mem_set hx with h | h
        · exact .inl h
        · exact .inr ⟨rfl, h⟩
  | false =>
    have hlk : look its wk = none := look_miss hlo hhi hr hh
    cases del with
    | true =>
      rw [wAll_drop_miss hlo hhi hr hh hi]
      refine ⟨hr, fun key => ?_, by rw [hlk]; simp, fun x hx => .inl hx⟩
      by_cases he : wk = key
      · subst he; rw [if_pos rfl, if_pos rfl, hlk]
      · rw [if_neg he]
    | false =>
      rw [wAll_ins hlo hhi hr hh hi]
      refine ⟨rise_ins hr hlo hhi hh hi, fun key => ?_, by rw [hlk, insAt_len hi]; simp, fun x hx => ?_⟩
      · unfold insAt
        rw [look_app, look_cons]
        by_cases he : wk = key
        · subst he
          rw [if_pos rfl, if_pos rfl, look_free (low_free hlo)]; rfl
        · rw [if_neg he, if_neg he]
          conv => rhs; rw [← List.take_append_drop i its]
          rw [look_app]
      · unfold insAt at hx
        rcases List.mem_append.1 hx with h | h
        · exact .inl (List.mem_of_mem_take h)
        · rcases List.mem_cons.1 h with h | h
          · exact .inr ⟨rfl, h⟩
          · exact .inl (List.mem_of_mem_drop h)
end

theorem stoB_three {its : List Item} (h : stoB its = true) : its.length ≤ 40 ∧ (∀ it ∈ its, itemB it = true) ∧ Rise its its.length := by
  unfold stoB at h
  simp only [Bool.and_eq_true, decide_eq_true_iff, List.all_eq_true] at h
  exact ⟨h.1, h.2.1, asc_rise h.2.2⟩
theorem stoB_of {its : List Item} (h1 : its.length ≤ 40) (h2 : ∀ it ∈ its, itemB it = true) (h3 : Rise its its.length) : stoB its = true := by
  unfold stoB
  simp only [Bool.and_eq_true, decide_eq_true_iff, List.all_eq_true]
  exact ⟨h1, h2, rise_asc h3⟩
theorem Wr.item {x : Wr} (h : x.ok = true) (hd : x.del = false) : itemB ⟨x.key, x.val⟩ = true := by
  unfold Wr.ok wrtB at h
  rw [hd] at h
  simp only [Bool.and_eq_true] at h
  exact itemB_yes h.1 (by simpa using h.2)
/-- What writes do to a look-up. -/
def lookW (ws : List Wr) (key : ByteArray) (d : Option Item) : Option Item := ws.foldl (fun d x => if x.key = key then (if x.del = true then none else some ⟨x.key, x.val⟩) else d) d
theorem stoStep {its : List Item} {x : Wr} (h : stoB its = true) (hx : x.ok = true) (hl : its.length < 40) : doStep (some its) x = some (wAll x.key x.del x.val its) ∧ stoB (wAll x.key x.del x.val its) = true ∧ (wAll x.key x.del x.val its).length ≤ its.length + 1 ∧
    (∀ key, look (wAll x.key x.del x.val its) key = lookW [x] key (look its key)) := by
  obtain ⟨h1, h2, h3⟩ := stoB_three h
  obtain ⟨f1, f2, f3, f4⟩ := wAll_facts (wk := x.key) (wv := x.val) h3 x.del
  have hlen : (wAll x.key x.del x.val its).length ≤ its.length + 1 := by
    have : (if x.del = true then 0 else 1) ≤ 1 := by split <;> omega
    omega
  refine ⟨?_, stoB_of (by omega) (fun it hit => ?_) f1, hlen, fun key => ?_⟩
  · unfold doStep
    simp only [Option.bind_some, hx, if_true]
    rw [if_neg (by omega)]
  · rcases f4 it hit with h' | ⟨hd, rfl⟩
    · exact h2 it h'
    · exact Wr.item hx hd
  · rw [f2]; rfl
theorem doFold_some : ∀ (ws : List Wr) {its : List Item}, stoB its = true → (∀ x ∈ ws, x.ok = true) → its.length + ws.length ≤ 40 → ∃ cur, ws.foldl doStep (some its) = some cur ∧ stoB cur = true ∧ cur.length ≤ its.length + ws.length ∧ ∀ key, look cur key = lookW ws key (look its key)
  | [], its, h, _, _ => ⟨its, rfl, h, by simp, fun _ => rfl⟩
  | x :: ws, its, h, hw, hl => by
    simp only [List.length_cons] at hl
    obtain ⟨s1, s2, s3, s4⟩ := stoStep h (hw x (List.mem_cons_self ..)) (by omega)
    obtain ⟨cur, c1, c2, c3, c4⟩ := doFold_some ws s2 (fun y hy => hw y (List.mem_cons_of_mem _ hy)) (by omega)
    refine ⟨cur, ?_, c2, by simp only [List.length_cons]; omega, fun key => ?_⟩
    · rw [List.foldl_cons, s1]; exact c1
    · rw [c4, s4]; rfl
/-- Where there is room all writes are done. -/
theorem stoDo_some {its : List Item} {ws : List Wr} (h : stoB its = true) (hw : ∀ x ∈ ws, x.ok = true) (hl : its.length + ws.length ≤ 40) : stoB (stoDo its ws) = true ∧ (stoDo its ws).length ≤ its.length + ws.length ∧ ∀ key, look (stoDo its ws) key = lookW ws key (look its key) := by
  obtain ⟨cur, c1, c2, c3, c4⟩ := doFold_some ws h hw hl
  have : stoDo its ws = cur := by unfold stoDo doAll; rw [if_pos h, c1]; rfl
  rw [this]; exact ⟨c2, c3, c4⟩
/-- One list behind the other, as long as there is room. -/
theorem stoDo_two {its : List Item} {a b : List Wr} (h : stoB its = true) (ha : ∀ x ∈ a, x.ok = true) (hl : its.length + a.length ≤ 40) : stoDo (stoDo its a) b = stoDo its (a ++ b) := by
  obtain ⟨cur, c1, c2, -, -⟩ := doFold_some a h ha hl
  have he : stoDo its a = cur := by unfold stoDo doAll; rw [if_pos h, c1]; rfl
  rw [he]
  unfold stoDo doAll
  rw [if_pos h, if_pos c2, List.foldl_append, c1]
theorem look_self {its : List Item} (hr : Rise its its.length) {x : Item} (hx : x ∈ its) : look its x.key = some x := by
  obtain ⟨j, hj, rfl⟩ := List.getElem_of_mem hx
  exact look_at hr (List.getElem?_eq_getElem hj) rfl
theorem rise_tail {x : Item} {l : List Item} (h : Rise (x :: l) (x :: l).length) : Rise l l.length ∧ ∀ y ∈ l, ltB x.key y.key = true := by
  refine ⟨rise_of fun j a b ha hb => rise_lt h (show j + 1 < j + 2 by omega) (by simpa using ha) (by simpa using hb), fun y hy => ?_⟩
  obtain ⟨j, hj, rfl⟩ := List.getElem_of_mem hy
  exact rise_lt h (show 0 < j + 1 by omega) rfl (by simp [hj])
/-- Two that rise and look alike are one. -/
theorem sto_ext : ∀ {a b : List Item}, Rise a a.length → Rise b b.length → (∀ key, look a key = look b key) → a = b
  | [], [], _, _, _ => rfl
  | [], y :: b, _, hb, h => by
    have := h y.key
    rw [look_self hb (List.mem_cons_self ..)] at this
    exact absurd this (by simp [look])
  | x :: a, [], ha, _, h => by
    have := h x.key
    rw [look_self ha (List.mem_cons_self ..)] at this
    exact absurd this (by simp [look])
  | x :: a, y :: b, ha, hb, h => by
    obtain ⟨ta, la⟩ := rise_tail ha
    obtain ⟨tb, lb⟩ := rise_tail hb
    have hx : look (y :: b) x.key = some x := by rw [← h]; exact look_self ha (List.mem_cons_self ..)
    have hy : look (x :: a) y.key = some y := by rw [h]; exact look_self hb (List.mem_cons_self ..)
    have hxy : x = y := by
      rcases List.mem_cons.1 (look_in hx).1 with e | hxb
      · exact e
      · rcases List.mem_cons.1 (look_in hy).1 with e | hya
        · exact e.symm
        · have h1 := lb x hxb
          have h2 := la y hya
          have := ltB_trans h1 h2
          rw [ltB_irrefl] at this; exact absurd this (by decide)
    subst hxy
    congr 1
    refine sto_ext ta tb fun key => ?_
    by_cases he : x.key = key
    · subst he
      rw [look_free fun z hz => (ltB_ne (la z hz)).symm, look_free fun z hz => (ltB_ne (lb z hz)).symm]
    · have := h key
      rwa [look_cons, look_cons, if_neg he, if_neg he] at this
/-- A look-up behind writes is the last write's, or what was there. -/
theorem lookW_app (a b : List Wr) (key : ByteArray) (d : Option Item) : lookW (a ++ b) key d = lookW b key (lookW a key d) := by unfold lookW; rw [List.foldl_append]
theorem lookW_free {ws : List Wr} {key : ByteArray} (h : ∀ x ∈ ws, x.key ≠ key) (d : Option Item) : lookW ws key d = d := by
  induction ws generalizing d with
  | nil => rfl
  | cons x ws ih =>
    show lookW ws key (if x.key = key then (if x.del = true then none else some ⟨x.key, x.val⟩) else d) = d
    rw [if_neg (h x (List.mem_cons_self ..))]
    exact ih (fun y hy => h y (List.mem_cons_of_mem _ hy)) d
theorem lookW_hit {ws : List Wr} {key : ByteArray} (h : ∃ x ∈ ws, x.key = key) (d d' : Option Item) : lookW ws key d = lookW ws key d' := by
  induction ws generalizing d d' with
  | nil => obtain ⟨x, hx, _⟩ := h; simp at hx
  | cons x ws ih =>
    show lookW ws key (if x.key = key then (if x.del = true then none else some ⟨x.key, x.val⟩) else d) = lookW ws key (if x.key = key then (if x.del = true then none else some ⟨x.key, x.val⟩) else d')
    by_cases e : x.key = key
    · rw [if_pos e, if_pos e]
    · rw [if_neg e, if_neg e]
      obtain ⟨y, hy, hk⟩ := h
      rcases List.mem_cons.1 hy with rfl | hy
      · exact absurd hk e
      · exact ih ⟨y, hy, hk⟩ d d'

end Go.Proofs.Ytkamlibfcakblaa

/- What is added to a place's notes, what a fall leaves, what is open, what is held, what is kept: in plain words. -/
namespace Go.Proofs.Ytkamlibfcakblaa
open Go.RowKit

/-- No notes. -/
def noDisk : Disk := ⟨[], 0⟩
/-- Behind DiskAdd. -/
def addOk (x : Disk) (n : Note) : Bool := diskB x && (noteB n && decide (x.notes.length < 120))
def addD (x : Disk) (n : Note) (safe : Bool) : Disk :=
  if diskB x = true ∧ noteB n = true then
    (if x.notes.length < 120 then ⟨x.notes ++ [n], if safe = true then ((x.notes.length : Int) + 1) else x.safe⟩ else x)
  else noDisk
theorem addD_bad {x : Disk} {n : Note} {b : Bool} (h : diskB x = false ∨ noteB n = false) : addD x n b = noDisk ∧ addOk x n = false := by
  unfold addD addOk
  rcases h with h | h <;> simp [h]
theorem addD_full {x : Disk} {n : Note} {b : Bool} (h1 : diskB x = true) (h2 : noteB n = true) (h3 : x.notes.length = 120) : addD x n b = x ∧ addOk x n = false := by
  unfold addD addOk
  simp [h1, h2, h3]
theorem addD_yes {x : Disk} {n : Note} {b : Bool} (h1 : diskB x = true) (h2 : noteB n = true) (h3 : x.notes.length < 120) : addD x n b = ⟨x.notes ++ [n], if b = true then ((x.notes.length : Int) + 1) else x.safe⟩ ∧ addOk x n = true := by
  unfold addD addOk
  simp [h1, h2, h3]
/-- How many a fall leaves. -/
def leftD (x : Disk) (keep : Int) : Nat := (x.safe + min (max keep 0) ((x.notes.length : Int) - x.safe)).toNat
def fallD (x : Disk) (keep : Int) : Disk := if diskB x = true then ⟨x.notes.take (leftD x keep), (leftD x keep : Int)⟩ else noDisk
theorem fallD_no {x : Disk} {k : Int} (h : diskB x = false) : fallD x k = noDisk := by unfold fallD; simp [h]
theorem fallD_yes {x : Disk} {k : Int} (h : diskB x = true) : fallD x k = ⟨x.notes.take (leftD x k), (leftD x k : Int)⟩ := by unfold fallD; simp [h]
theorem leftD_le {x : Disk} {k : Int} (h : diskB x = true) : leftD x k ≤ x.notes.length ∧ (leftD x k : Int) = x.safe + min (max k 0) ((x.notes.length : Int) - x.safe) := by
  obtain ⟨h1, h2, h3, -⟩ := diskB_parts h
  unfold leftD
  constructor <;> omega
/-- All notes of what is ok are small. -/
theorem noteB_small {n : Note} (h : noteB n = true) : n.locks.length ≤ 12 ∧ n.writes.length ≤ 12 ∧ (∀ y ∈ n.writes, y.val.length ≤ 3 ∧ y.key.size ≤ 3) ∧ ∀ s ∈ n.locks, s.size ≤ 3 := by
  unfold noteB at h
  simp only [Bool.and_eq_true] at h
  by_cases hk : n.kind = 1
  · rw [if_pos hk] at h
    obtain ⟨-, h1, h2⟩ := (by simpa only [Bool.and_eq_true] using h : _ ∧ _ ∧ _)
    unfold locksB at h1
    unfold wrsB at h2
    simp only [Bool.and_eq_true, decide_eq_true_iff, List.all_eq_true] at h1 h2
    refine ⟨h1.1, h2.1, fun y hy => ?_, fun s hs => keyB_le3 (h1.2 s hs)⟩
    have h3 := h2.2 y hy
    unfold lwB at h3
    simp only [Bool.and_eq_true] at h3
    exact ⟨(Wr.fine h3.1).2, (Wr.fine h3.1).1⟩
  · rw [if_neg hk] at h
    simp only [Bool.and_eq_true, decide_eq_true_iff] at h
    obtain ⟨-, -, h1, h2⟩ := h
    have e1 := List.length_eq_zero_iff.1 h1
    have e2 := List.length_eq_zero_iff.1 h2
    refine ⟨by omega, by omega, fun y hy => ?_, fun s hs => ?_⟩
    · rw [e2] at hy; cases hy
    · rw [e1] at hs; cases hs
theorem diskB_small {x : Disk} (h : diskB x = true) : x.notes.length ≤ 120 ∧ ∀ n ∈ x.notes, noteB n = true := by
  obtain ⟨h1, -, -, h4⟩ := diskB_parts h
  exact ⟨h1, fun n hn => List.all_eq_true.1 h4 n hn⟩
theorem diskB_no : diskB noDisk = true := by decide
theorem diskB_add {x : Disk} {n : Note} {b : Bool} : diskB (addD x n b) = true := by
  by_cases h1 : diskB x = true
  · by_cases h2 : noteB n = true
    · obtain ⟨p1, p2, p3, p4⟩ := diskB_parts h1
      by_cases h3 : x.notes.length < 120
      · rw [(addD_yes h1 h2 h3).1]
        unfold diskB
        simp only [List.length_append, List.length_cons, List.length_nil, List.all_append, p4, List.all_cons, h2, List.all_nil, Bool.and_true, Bool.and_eq_true, decide_eq_true_iff]
        refine ⟨by omega, ?_⟩
        unfold inB
        cases b <;> simp <;> omega
      · rw [(addD_full h1 h2 (by omega)).1]; exact h1
    · rw [(addD_bad (.inr (by simpa using h2))).1]; exact diskB_no
  · rw [(addD_bad (.inl (by simpa using h1))).1]; exact diskB_no
theorem diskB_fall {x : Disk} {k : Int} : diskB (fallD x k) = true := by
  by_cases h1 : diskB x = true
  · obtain ⟨p1, p2, p3, p4⟩ := diskB_parts h1
    obtain ⟨q1, q2⟩ := leftD_le (k := k) h1
    rw [fallD_yes h1]
    unfold diskB
    simp only [List.length_take, Nat.min_eq_left q1, Bool.and_eq_true, decide_eq_true_iff]
    refine ⟨by omega, ?_, ?_⟩
    · unfold inB; simp
    · rw [List.all_eq_true] at *
      exact fun n hn => p4 n (List.mem_of_mem_take hn)
  · rw [fallD_no (by simpa using h1)]; exact diskB_no

end Go.Proofs.Ytkamlibfcakblaa

/- What DiskOpen answers, of the model. -/
namespace Go.Proofs.Ytkamlibfcakblaa
open Go.RowKit

/-- A row that a loop grows, and the box of the argument. -/
structure OutW {α : Type} (A : Sh α) (e : TypeId) (w : World) (cs : List Value) (v : Value) (xs : List α) (W : World) : Prop where
  row : ∃ S, A.Own e W S v xs ∧ ∀ b, S b → w.heap.size < b ∧ b < W.heap.size
  box : Held W w.heap.size cs
  bel : Below w.heap.size w W
theorem OutW.below {α : Type} {A : Sh α} {e : TypeId} {w : World} {cs : List Value} {v : Value} {xs : List α} {W W' : World} (h : OutW A e w cs v xs W) (hb : Below W.heap.size W W') : OutW A e w cs v xs W' := by
  obtain ⟨S, h1, h2⟩ := h.row
  exact ⟨⟨S, h1.below hb, fun b hb' => ⟨(h2 b hb').1, Nat.lt_of_lt_of_le (h2 b hb').2 hb.size⟩⟩, h.box.below hb h.box.1, belowNext h.bel hb⟩
theorem OutW.grown {α : Type} {A : Sh α} {e : TypeId} {w : World} {cs : List Value} {v v' : Value} {xs ys : List α} {Z Z1 Z2 : World} {S S' : Nat → Prop} (hown : A.Own e Z S v xs) (hS : ∀ b, S b → w.heap.size < b ∧ b < Z.heap.size) (hbox : Held Z w.heap.size cs) (hbel : Below w.heap.size w Z)
    (hb : Below Z.heap.size Z Z1) (hS' : ∀ b, S' b → Z.heap.size ≤ b ∧ b < Z1.heap.size) (ho : A.Own e Z2 (fun b => S b ∨ S' b ∨ b = Z1.heap.size) v' ys) (hg : Z1.grownBy Z2 v.ownBlock) : OutW A e w cs v' ys Z2 := by
  have hz1 := hb.size
  have hz2 := hg.size
  have hzb := hbox.1
  have hr : ∀ q, v.ownBlock = some q → w.heap.size < q := fun q hq => (hS _ (hown.blk q hq)).1
  refine ⟨⟨_, ho.cap, fun b hb' => ⟨?_, hb'.2⟩⟩, (hbox.below hb hzb).outs (Outs.of_grown (S := fun b => w.heap.size < b) hg hr) (by omega), (belowNext hbel hb).grown hg (by omega) (fun q hq => by have := hr q hq; omega)⟩
  rcases hb'.1 with h | h | h
  · exact (hS b h).1
  · have := (hS' b h).1; omega
  · omega

set_option maxRecDepth 100000 in
set_option maxHeartbeats 4000000 in
theorem specDiskOpen_any (w : World) (cs : List Value) (x : Disk) (h : diskSh.rel w w.heap.size cs x) :
    Calls Try.prog 23 #[.agg cs.toArray] w (CopiedSl Sh.int 3 (openD x) w) := by
  have HH := Lib.hid fun W (hb : Below w.heap.size w W) => diskSh.rmore (diskSh.rbelow h hb) hb.size
  obtain ⟨u, rfl, hu⟩ := disk_rel.1 h
  obtain ⟨Au, cu, rfl, hcu, hnu⟩ := hu.form
  unfold maxLen at hcu
  have HU := Lib.hid fun W (hb : Below w.heap.size w W) => hu.below hb
  have HW := Lib.hid (show OutW Sh.int 3 w [.slice Au x.notes.length cu, .int .i64 x.safe] (.slice (some ⟨w.heap.size + 1, 0, none⟩) 0 0) [] ((w.alloc (.cells #[.slice Au x.notes.length cu, .int .i64 x.safe] 25)).alloc (.cells #[] 3)) from
    ⟨⟨fun b => b = w.heap.size + 1, by have h0 := Sh.Own.lit0 Sh.int 3 (w.alloc (.cells #[.slice Au x.notes.length cu, .int .i64 x.safe] 25)); rwa [allocSize] at h0, fun b hb => by rw [allocSize, allocSize]; omega⟩, (Held.new w #[.slice Au x.notes.length cu, .int .i64 x.safe] 25).after _, belowTwo _ _ _⟩)
  clear h hu
  go_enter Try.func23, Try.ntmps23
  go_wp2_with fail
  refine (specDiskOk_any _ _ x (HH.out _ HW.out.bel)).mono ?_
  rintro e w1 ⟨rfl, hb⟩
  have HO := Lib.hid (HW.out.below hb)
  clear hb HW
  rcases hd : diskB x
  · have HE := Lib.hid (openD_no hd)
    go_wp2
    go_ret
    obtain ⟨S, h1, h2⟩ := HO.out.row
    exact ⟨_, rfl, by rw [HE.out]; exact h1.mono (fun b hb => ⟨by have := (h2 b hb).1; omega, (h2 b hb).2⟩), HO.out.bel⟩
  · have HE := Lib.hid (openD_yes hd)
    have HL := Lib.hid (diskB_small hd).1
    clear hd
    go_wp2
    go_loopw [3, 4] (fun v i wr => ∃ k : Nat, k ≤ x.notes.length ∧ i = .int .i64 k ∧ OutW Sh.int 3 w [.slice Au x.notes.length cu, .int .i64 x.safe] v (opensTx (inD x.notes k)) wr) (fun _ i _ => x.notes.length - (intOf i).toNat)
    case atStart => exact ⟨0, Nat.zero_le _, rfl, HO.out⟩
    case round =>
      clear HO
      obtain ⟨k, hk, rfl, hO⟩ := hrel
      have hlen : (opensTx (inD x.notes k)).length ≤ 120 := by have h1 := opensTx_len (inD x.notes k); have h2 := inD_len x.notes k; have h3 := HL.out; omega
      obtain ⟨S, h1, h2⟩ := hO.row
      obtain ⟨Av, cv, rfl, -, -⟩ := h1.row.form
      have HR := Lib.hid h1
      have HS := Lib.hid h2
      have HO := Lib.hid hO
      have c0 := hO.box.of 0 _ rfl
      clear hO h1 h2
      by_cases hlt : k < x.notes.length
      · have hrow := HU.out wr HO.out.bel
        obtain ⟨b, off, d, y, A1, c1, A2, c2, e1, hy, hbB, d0, d1, d2, d3, hyr⟩ := notes_at2 hrow hlt
        injection e1 with e1a e1b e1c
        subst e1a
        clear e1b e1c
        have HY := Lib.hid hy
        have HD := Lib.hid (Sh.Row.drop hrow hlt)
        clear hy hyr hrow
        have HN := Lib.hid (Held.new wr #[.int .i64 y.kind, .int .i64 y.tx, .slice A1 y.locks.length c1, .slice A2 y.writes.length c2] 36)
        have HB := Lib.hid (belowOne wr (.cells #[.int .i64 y.kind, .int .i64 y.tx, .slice A1 y.locks.length c1, .slice A2 y.writes.length c2] 36))
        have HO2 := Lib.hid (HO.out.below HB.out)
        have hzr : w.heap.size < wr.heap.size := HO.out.box.1
        by_cases hk1 : y.kind = 1
        · have ek : (y.kind == 1) = true := by simp [hk1]
          have HLk := Lib.hid (last_drop HY.out hk1)
          have k0 : (wr.alloc (.cells #[.int .i64 y.kind, .int .i64 y.tx, .slice A1 y.locks.length c1, .slice A2 y.writes.length c2] 36)).drew.cell? ⟨w.heap.size, 0, none⟩ = some (.slice (some ⟨b, off, none⟩) x.notes.length cu) ∧ (wr.alloc (.cells #[.int .i64 y.kind, .int .i64 y.tx, .slice A1 y.locks.length c1, .slice A2 y.writes.length c2] 36)).drew.cell? ⟨wr.heap.size, 0, none⟩ = some (.int .i64 y.kind) ∧ (wr.alloc (.cells #[.int .i64 y.kind, .int .i64 y.tx, .slice A1 y.locks.length c1, .slice A2 y.writes.length c2] 36)).drew.cell? ⟨wr.heap.size, 1, none⟩ = some (.int .i64 y.tx) := ⟨HO2.out.box.of 0 _ rfl, HN.out.of 0 _ rfl, HN.out.of 1 _ rfl⟩
          have hcw : IntKind.i64.wrap (k : Int) = (k : Int) := IntWalk.i64_in _ (by omega)
          have f0 : (0 : Int) ≤ (k : Int) := by omega
          have f1 : (k : Int) ≤ (x.notes.length : Int) := by omega
          have f3 : (x.notes.length : Int) ≤ (cu : Int) := by omega
          have HDD := Lib.hid (show noteSh.Row (wr.alloc (.cells #[.int .i64 y.kind, .int .i64 y.tx, .slice A1 y.locks.length c1, .slice A2 y.writes.length c2] 36)).drew w.heap.size (.slice (if cu = k then some ⟨b, off, none⟩ else some ⟨b, off + k * 4, none⟩) (x.notes.length - k) (cu - k)) (x.notes.drop k) from by
            rw [if_neg (by omega)]
            exact (Sh.Row.drop (HU.out wr HO.out.bel) hlt).below ((Below.alloc (Below.refl _ _) (by omega) _).drew))
          rcases hl1 : (lastK x.notes y.tx == 1)
          · have HF := Lib.hid (inD_no HY.out (openB_last (by simpa using hl1)))
            clear hk1
            go_wp2
            refine wp_region_held_drew (S := (fun w' => w'.cell? ⟨w.heap.size, 0, none⟩ = some (.slice (some ⟨b, off, none⟩) x.notes.length cu) ∧ w'.cell? ⟨wr.heap.size, 0, none⟩ = some (.int .i64 y.kind) ∧ w'.cell? ⟨wr.heap.size, 1, none⟩ = some (.int .i64 y.tx))) (by kernel_rfl) ?hSax (fun hHeldax => ?stax)
            case hSax => (first | (dsimp only; (exact k0)) | (exact k0))
            refine take_first 0 23 (v := ?vax_1) rfl rfl (by kernel_rfl) (by kernel_rfl) (by kernel_rfl) (fun _ _ _ h => h) (by rfl) ?yax_1 (by assumption) ?rax_1
            case yax_1 => (intro w hSw; (try dsimp only at hSw); go_simp; (try with_reducible rfl))
            simp only [Act.put, List.setIfInBounds_toArray, List.set_cons_zero, List.set_cons_succ]
            refine take_first 1 24 (v := ?vax_2) rfl rfl (by kernel_rfl) (by kernel_rfl) (by kernel_rfl) (fun _ _ _ h => h) (by rfl) ?yax_2 (by assumption) ?rax_2
            case yax_2 => (intro w hSw; (try dsimp only at hSw); go_simp; (try with_reducible rfl))
            simp only [Act.put, List.setIfInBounds_toArray, List.set_cons_zero, List.set_cons_succ]
            refine take_first 2 25 (v := ?vax_3) rfl rfl (by kernel_rfl) (by kernel_rfl) (by kernel_rfl) (fun _ _ _ h => h) (by rfl) ?yax_3 (by assumption) ?rax_3
            case yax_3 => (intro w hSw; (try dsimp only at hSw); go_simp; (try with_reducible rfl))
            simp only [Act.put, List.setIfInBounds_toArray, List.set_cons_zero, List.set_cons_succ]
            refine take_first 3 26 (v := ?vax_4) rfl rfl (by kernel_rfl) (by kernel_rfl) (by kernel_rfl) (fun _ _ _ h => h) (by rfl) ?yax_4 (by assumption) ?rax_4
            case yax_4 => (intro w hSw; (try dsimp only at hSw); go_simp; (try with_reducible rfl))
            simp only [Act.put, List.setIfInBounds_toArray, List.set_cons_zero, List.set_cons_succ]
            refine take_first 4 27 (v := ?vax_5) rfl rfl (by kernel_rfl) (by kernel_rfl) (by kernel_rfl) (fun _ _ _ h => h) (by rfl) ?yax_5 (by assumption) ?rax_5
            case yax_5 => (intro w hSw; (try dsimp only at hSw); go_simp; (try with_reducible rfl))
            simp only [Act.put, List.setIfInBounds_toArray, List.set_cons_zero, List.set_cons_succ]
            refine take_first 5 28 (v := ?vax_6) rfl rfl (by kernel_rfl) (by kernel_rfl) (by kernel_rfl) (fun _ _ _ h => h) (by rfl) ?yax_6 (by assumption) ?rax_6
            case yax_6 => (intro w hSw; (try dsimp only at hSw); go_simp; (try with_reducible rfl))
            simp only [Act.put, List.setIfInBounds_toArray, List.set_cons_zero, List.set_cons_succ]
            refine take_first 6 29 (v := ?vax_7) rfl rfl (by kernel_rfl) (by kernel_rfl) (by kernel_rfl) (fun _ _ _ h => h) (by rfl) ?yax_7 (by assumption) ?rax_7
            case yax_7 => (intro w hSw; (try dsimp only at hSw); go_simp; (try with_reducible rfl))
            simp only [Act.put, List.setIfInBounds_toArray, List.set_cons_zero, List.set_cons_succ]
            refine take_first 7 30 (v := ?vax_8) rfl rfl (by kernel_rfl) (by kernel_rfl) (by kernel_rfl) (fun _ _ _ h => h) (by rfl) ?yax_8 (by assumption) ?rax_8
            case yax_8 => (intro w hSw; (try dsimp only at hSw); go_simp; (try with_reducible rfl))
            simp only [Act.put, List.setIfInBounds_toArray, List.set_cons_zero, List.set_cons_succ]
            refine take_first 8 31 (v := ?vax_9) rfl rfl (by kernel_rfl) (by kernel_rfl) (by kernel_rfl) (fun _ _ _ h => h) (by rfl) ?yax_9 (by assumption) ?rax_9
            case yax_9 => (intro w hSw; (try dsimp only at hSw); go_simp; (try with_reducible rfl))
            simp only [Act.put, List.setIfInBounds_toArray, List.set_cons_zero, List.set_cons_succ]
            refine take_first 9 32 (v := ?vax_10) rfl rfl (by kernel_rfl) (by kernel_rfl) (by kernel_rfl) (fun _ _ _ h => h) (by rfl) ?yax_10 (by assumption) ?rax_10
            case yax_10 => (intro w hSw; (try dsimp only at hSw); go_simp; (try with_reducible rfl))
            simp only [Act.put, List.setIfInBounds_toArray, List.set_cons_zero, List.set_cons_succ]
            refine wpAnyH_ready (rs := [10]) (by kernel_rfl) (by simp) ?_
            refine AllReadyH.cons (o := _) rfl (fun Kax_11 hKax_11 => ?cax_11) ?max_11
            case max_11 => exact AllReadyH.nil
            go_simp
            refine (l2Of_any _ _ _ _ _ HDD.out).mono ?_; rintro e w2 ⟨rfl, rfl⟩; rw [HLk.out]
            go_wp2_with fail
            refine hKax_11.out _ _ ?kax_11 (fun hHeldax_11 => ?dax_11)
            case kax_11 => (first | (dsimp only; (exact k0)) | (exact k0))
            clear hKax_11 Kax_11
            refine take_first 11 34 (v := ?vax_12) rfl rfl (by kernel_rfl) (by kernel_rfl) (by kernel_rfl) (fun _ _ _ h => h) (by rfl) ?yax_12 (by assumption) ?rax_12
            case yax_12 => (intro w hSw; (try dsimp only at hSw); go_simp; (try with_reducible rfl))
            simp only [Act.put, List.setIfInBounds_toArray, List.set_cons_zero, List.set_cons_succ]
            refine take_first 12 35 (v := ?vax_13) rfl rfl (by kernel_rfl) (by kernel_rfl) (by kernel_rfl) (fun _ _ _ h => h) (by rfl) ?yax_13 (by assumption) ?rax_13
            case yax_13 => (intro w hSw; (try dsimp only at hSw); go_simp; (try with_reducible rfl))
            simp only [Act.put, List.setIfInBounds_toArray, List.set_cons_zero, List.set_cons_succ]
            refine take_first 13 36 (v := ?vax_14) rfl rfl (by kernel_rfl) (by kernel_rfl) (by kernel_rfl) (fun _ _ _ h => h) (by rfl) ?yax_14 (by assumption) ?rax_14
            case yax_14 => (intro w hSw; (try dsimp only at hSw); go_simp; (try with_reducible rfl))
            simp only [Act.put, List.setIfInBounds_toArray, List.set_cons_zero, List.set_cons_succ]
            refine pass_over 14 37 rfl rfl (by kernel_rfl) (by kernel_rfl) (by kernel_rfl) (fun _ _ _ h => h) (by rfl) (by assumption) ?rax_15
            simp only [Act.put, List.setIfInBounds_toArray, List.set_cons_zero, List.set_cons_succ]
            refine pass_over 15 38 rfl rfl (by kernel_rfl) (by kernel_rfl) (by kernel_rfl) (fun _ _ _ h => h) (by rfl) (by assumption) ?rax_16
            simp only [Act.put, List.setIfInBounds_toArray, List.set_cons_zero, List.set_cons_succ]
            refine pass_over 16 39 rfl rfl (by kernel_rfl) (by kernel_rfl) (by kernel_rfl) (fun _ _ _ h => h) (by rfl) (by assumption) ?rax_17
            simp only [Act.put, List.setIfInBounds_toArray, List.set_cons_zero, List.set_cons_succ]
            refine pass_over 17 40 rfl rfl (by kernel_rfl) (by kernel_rfl) (by kernel_rfl) (fun _ _ _ h => h) (by rfl) (by assumption) ?rax_18
            simp only [Act.put, List.setIfInBounds_toArray, List.set_cons_zero, List.set_cons_succ]
            refine pass_over 18 41 rfl rfl (by kernel_rfl) (by kernel_rfl) (by kernel_rfl) (fun _ _ _ h => h) (by rfl) (by assumption) ?rax_19
            simp only [Act.put, List.setIfInBounds_toArray, List.set_cons_zero, List.set_cons_succ]
            refine take_first 19 42 (v := ?vax_20) rfl rfl (by kernel_rfl) (by kernel_rfl) (by kernel_rfl) (fun _ _ _ h => h) (by rfl) ?yax_20 (by assumption) ?rax_20
            case yax_20 => (intro w hSw; (try dsimp only at hSw); go_simp; (try with_reducible rfl))
            simp only [Act.put, List.setIfInBounds_toArray, List.set_cons_zero, List.set_cons_succ]
            refine wpAnyH_done (by kernel_rfl) ?eax _
            go_wp2
            go_roundw
            case rel => exact ⟨k + 1, by omega, by go_num, by rw [HF.out]; exact HO2.out.below (Below.refl _ _).drew⟩
            case measure => simp [intOf]; omega
          · have HF := Lib.hid (inD_yes HY.out (openB_yes hk1 (by simpa using hl1)))
            have HT := Lib.hid (opensTx_snoc (inD x.notes k) y)
            have HI2 := Lib.hid (ints_row.1 ((HR.out.row).below ((Below.alloc (Below.refl _ _) (Nat.le_refl _) (.cells #[.int .i64 y.kind, .int .i64 y.tx, .slice A1 y.locks.length c1, .slice A2 y.writes.length c2] 36)).drew)))
            clear hk1
            rcases hm : memB (opensTx (inD x.notes k)) y.tx
            · have HA := Lib.hid (addI_new hm)
              have HM := Lib.hid hm
              clear hm
              have HZ := Lib.hid (HO2.out.below (Below.refl _ _).drew)
              have HRz := Lib.hid ((HR.out.below ((Below.alloc (Below.refl _ _) (Nat.le_refl _) (.cells #[.int .i64 y.kind, .int .i64 y.tx, .slice A1 y.locks.length c1, .slice A2 y.writes.length c2] 36)).drew)))
              have HSz := Lib.hid (show ∀ b, S b → w.heap.size < b ∧ b < (wr.alloc (.cells #[.int .i64 y.kind, .int .i64 y.tx, .slice A1 y.locks.length c1, .slice A2 y.writes.length c2] 36)).drew.heap.size from fun b hb => ⟨(HS.out b hb).1, by have := (HS.out b hb).2; have : (wr.alloc (.cells #[.int .i64 y.kind, .int .i64 y.tx, .slice A1 y.locks.length c1, .slice A2 y.writes.length c2] 36)).drew.heap.size = wr.heap.size + 1 := allocSize _ _; omega⟩)
              have hyZ : Sh.int.own ((wr.alloc (.cells #[.int .i64 y.kind, .int .i64 y.tx, .slice A1 y.locks.length c1, .slice A2 y.writes.length c2] 36)).alloc (.cells #[.int .i64 y.tx] 3)).drew (fun _ => False) [.int .i64 y.tx] y.tx := rfl
              have HB1 := Lib.hid (show Below (wr.alloc (.cells #[.int .i64 y.kind, .int .i64 y.tx, .slice A1 y.locks.length c1, .slice A2 y.writes.length c2] 36)).drew.heap.size (wr.alloc (.cells #[.int .i64 y.kind, .int .i64 y.tx, .slice A1 y.locks.length c1, .slice A2 y.writes.length c2] 36)).drew ((wr.alloc (.cells #[.int .i64 y.kind, .int .i64 y.tx, .slice A1 y.locks.length c1, .slice A2 y.writes.length c2] 36)).alloc (.cells #[.int .i64 y.tx] 3)).drew from belowOne (wr.alloc (.cells #[.int .i64 y.kind, .int .i64 y.tx, .slice A1 y.locks.length c1, .slice A2 y.writes.length c2] 36)).drew (.cells #[.int .i64 y.tx] 3))
              have HS1 := Lib.hid (show Held ((wr.alloc (.cells #[.int .i64 y.kind, .int .i64 y.tx, .slice A1 y.locks.length c1, .slice A2 y.writes.length c2] 36)).alloc (.cells #[.int .i64 y.tx] 3)).drew (wr.heap.size + 1) [.int .i64 y.tx] from by have h := Held.new (wr.alloc (.cells #[.int .i64 y.kind, .int .i64 y.tx, .slice A1 y.locks.length c1, .slice A2 y.writes.length c2] 36)).drew #[.int .i64 y.tx] 3; rwa [show (wr.alloc (.cells #[.int .i64 y.kind, .int .i64 y.tx, .slice A1 y.locks.length c1, .slice A2 y.writes.length c2] 36)).drew.heap.size = wr.heap.size + 1 from allocSize _ _] at h)
              have HOw := Lib.hid (HRz.out.below HB1.out)
              have HN2 := Lib.hid (HN.out.of 1 _ rfl)
              go_wp2
              refine wp_region_held_drew (S := (fun w' => w'.cell? ⟨w.heap.size, 0, none⟩ = some (.slice (some ⟨b, off, none⟩) x.notes.length cu) ∧ w'.cell? ⟨wr.heap.size, 0, none⟩ = some (.int .i64 y.kind) ∧ w'.cell? ⟨wr.heap.size, 1, none⟩ = some (.int .i64 y.tx))) (by kernel_rfl) ?hSbx (fun hHeldbx => ?stbx)
              case hSbx => (first | (dsimp only; (exact k0)) | (exact k0))
              refine take_first 0 23 (v := ?vbx_1) rfl rfl (by kernel_rfl) (by kernel_rfl) (by kernel_rfl) (fun _ _ _ h => h) (by rfl) ?ybx_1 (by assumption) ?rbx_1
              case ybx_1 => (intro w hSw; (try dsimp only at hSw); go_simp; (try with_reducible rfl))
              simp only [Act.put, List.setIfInBounds_toArray, List.set_cons_zero, List.set_cons_succ]
              refine take_first 1 24 (v := ?vbx_2) rfl rfl (by kernel_rfl) (by kernel_rfl) (by kernel_rfl) (fun _ _ _ h => h) (by rfl) ?ybx_2 (by assumption) ?rbx_2
              case ybx_2 => (intro w hSw; (try dsimp only at hSw); go_simp; (try with_reducible rfl))
              simp only [Act.put, List.setIfInBounds_toArray, List.set_cons_zero, List.set_cons_succ]
              refine take_first 2 25 (v := ?vbx_3) rfl rfl (by kernel_rfl) (by kernel_rfl) (by kernel_rfl) (fun _ _ _ h => h) (by rfl) ?ybx_3 (by assumption) ?rbx_3
              case ybx_3 => (intro w hSw; (try dsimp only at hSw); go_simp; (try with_reducible rfl))
              simp only [Act.put, List.setIfInBounds_toArray, List.set_cons_zero, List.set_cons_succ]
              refine take_first 3 26 (v := ?vbx_4) rfl rfl (by kernel_rfl) (by kernel_rfl) (by kernel_rfl) (fun _ _ _ h => h) (by rfl) ?ybx_4 (by assumption) ?rbx_4
              case ybx_4 => (intro w hSw; (try dsimp only at hSw); go_simp; (try with_reducible rfl))
              simp only [Act.put, List.setIfInBounds_toArray, List.set_cons_zero, List.set_cons_succ]
              refine take_first 4 27 (v := ?vbx_5) rfl rfl (by kernel_rfl) (by kernel_rfl) (by kernel_rfl) (fun _ _ _ h => h) (by rfl) ?ybx_5 (by assumption) ?rbx_5
              case ybx_5 => (intro w hSw; (try dsimp only at hSw); go_simp; (try with_reducible rfl))
              simp only [Act.put, List.setIfInBounds_toArray, List.set_cons_zero, List.set_cons_succ]
              refine take_first 5 28 (v := ?vbx_6) rfl rfl (by kernel_rfl) (by kernel_rfl) (by kernel_rfl) (fun _ _ _ h => h) (by rfl) ?ybx_6 (by assumption) ?rbx_6
              case ybx_6 => (intro w hSw; (try dsimp only at hSw); go_simp; (try with_reducible rfl))
              simp only [Act.put, List.setIfInBounds_toArray, List.set_cons_zero, List.set_cons_succ]
              refine take_first 6 29 (v := ?vbx_7) rfl rfl (by kernel_rfl) (by kernel_rfl) (by kernel_rfl) (fun _ _ _ h => h) (by rfl) ?ybx_7 (by assumption) ?rbx_7
              case ybx_7 => (intro w hSw; (try dsimp only at hSw); go_simp; (try with_reducible rfl))
              simp only [Act.put, List.setIfInBounds_toArray, List.set_cons_zero, List.set_cons_succ]
              refine take_first 7 30 (v := ?vbx_8) rfl rfl (by kernel_rfl) (by kernel_rfl) (by kernel_rfl) (fun _ _ _ h => h) (by rfl) ?ybx_8 (by assumption) ?rbx_8
              case ybx_8 => (intro w hSw; (try dsimp only at hSw); go_simp; (try with_reducible rfl))
              simp only [Act.put, List.setIfInBounds_toArray, List.set_cons_zero, List.set_cons_succ]
              refine take_first 8 31 (v := ?vbx_9) rfl rfl (by kernel_rfl) (by kernel_rfl) (by kernel_rfl) (fun _ _ _ h => h) (by rfl) ?ybx_9 (by assumption) ?rbx_9
              case ybx_9 => (intro w hSw; (try dsimp only at hSw); go_simp; (try with_reducible rfl))
              simp only [Act.put, List.setIfInBounds_toArray, List.set_cons_zero, List.set_cons_succ]
              refine take_first 9 32 (v := ?vbx_10) rfl rfl (by kernel_rfl) (by kernel_rfl) (by kernel_rfl) (fun _ _ _ h => h) (by rfl) ?ybx_10 (by assumption) ?rbx_10
              case ybx_10 => (intro w hSw; (try dsimp only at hSw); go_simp; (try with_reducible rfl))
              simp only [Act.put, List.setIfInBounds_toArray, List.set_cons_zero, List.set_cons_succ]
              refine wpAnyH_ready (rs := [10]) (by kernel_rfl) (by simp) ?_
              refine AllReadyH.cons (o := _) rfl (fun Kbx_11 hKbx_11 => ?cbx_11) ?mbx_11
              case mbx_11 => exact AllReadyH.nil
              go_simp
              refine (l2Of_any _ _ _ _ _ HDD.out).mono ?_; rintro e w2 ⟨rfl, rfl⟩; rw [HLk.out]
              go_wp2_with fail
              refine hKbx_11.out _ _ ?kbx_11 (fun hHeldbx_11 => ?dbx_11)
              case kbx_11 => (first | (dsimp only; (exact k0)) | (exact k0))
              clear hKbx_11 Kbx_11
              refine take_first 11 34 (v := ?vbx_12) rfl rfl (by kernel_rfl) (by kernel_rfl) (by kernel_rfl) (fun _ _ _ h => h) (by rfl) ?ybx_12 (by assumption) ?rbx_12
              case ybx_12 => (intro w hSw; (try dsimp only at hSw); go_simp; (try with_reducible rfl))
              simp only [Act.put, List.setIfInBounds_toArray, List.set_cons_zero, List.set_cons_succ]
              refine take_first 12 35 (v := ?vbx_13) rfl rfl (by kernel_rfl) (by kernel_rfl) (by kernel_rfl) (fun _ _ _ h => h) (by rfl) ?ybx_13 (by assumption) ?rbx_13
              case ybx_13 => (intro w hSw; (try dsimp only at hSw); go_simp; (try with_reducible rfl))
              simp only [Act.put, List.setIfInBounds_toArray, List.set_cons_zero, List.set_cons_succ]
              refine take_first 13 36 (v := ?vbx_14) rfl rfl (by kernel_rfl) (by kernel_rfl) (by kernel_rfl) (fun _ _ _ h => h) (by rfl) ?ybx_14 (by assumption) ?rbx_14
              case ybx_14 => (intro w hSw; (try dsimp only at hSw); go_simp; (try with_reducible rfl))
              simp only [Act.put, List.setIfInBounds_toArray, List.set_cons_zero, List.set_cons_succ]
              refine take_first 14 37 (v := ?vbx_15) rfl rfl (by kernel_rfl) (by kernel_rfl) (by kernel_rfl) (fun _ _ _ h => h) (by rfl) ?ybx_15 (by assumption) ?rbx_15
              case ybx_15 => (intro w hSw; (try dsimp only at hSw); go_simp; (try with_reducible rfl))
              simp only [Act.put, List.setIfInBounds_toArray, List.set_cons_zero, List.set_cons_succ]
              refine take_first 15 38 (v := ?vbx_16) rfl rfl (by kernel_rfl) (by kernel_rfl) (by kernel_rfl) (fun _ _ _ h => h) (by rfl) ?ybx_16 (by assumption) ?rbx_16
              case ybx_16 => (intro w hSw; (try dsimp only at hSw); go_simp; (try with_reducible rfl))
              simp only [Act.put, List.setIfInBounds_toArray, List.set_cons_zero, List.set_cons_succ]
              refine take_first 16 39 (v := ?vbx_17) rfl rfl (by kernel_rfl) (by kernel_rfl) (by kernel_rfl) (fun _ _ _ h => h) (by rfl) ?ybx_17 (by assumption) ?rbx_17
              case ybx_17 => (intro w hSw; (try dsimp only at hSw); go_simp; (try with_reducible rfl))
              simp only [Act.put, List.setIfInBounds_toArray, List.set_cons_zero, List.set_cons_succ]
              refine wpAnyH_ready (rs := [17]) (by kernel_rfl) (by simp) ?_
              refine AllReadyH.cons (o := _) rfl (fun Kbx_18 hKbx_18 => ?cbx_18) ?mbx_18
              case mbx_18 => exact AllReadyH.nil
              go_simp
              refine (l2Is_any _ _ _ _ _ HI2.out).mono ?_; rintro e w3 ⟨rfl, rfl⟩; rw [HM.out]
              go_wp2_with fail
              refine hKbx_18.out _ _ ?kbx_18 (fun hHeldbx_18 => ?dbx_18)
              case kbx_18 => (first | (dsimp only; (exact k0)) | (exact k0))
              clear hKbx_18 Kbx_18
              refine take_first 18 41 (v := ?vbx_19) rfl rfl (by kernel_rfl) (by kernel_rfl) (by kernel_rfl) (fun _ _ _ h => h) (by rfl) ?ybx_19 (by assumption) ?rbx_19
              case ybx_19 => (intro w hSw; (try dsimp only at hSw); go_simp; (try with_reducible rfl))
              simp only [Act.put, List.setIfInBounds_toArray, List.set_cons_zero, List.set_cons_succ]
              refine take_first 19 42 (v := ?vbx_20) rfl rfl (by kernel_rfl) (by kernel_rfl) (by kernel_rfl) (fun _ _ _ h => h) (by rfl) ?ybx_20 (by assumption) ?rbx_20
              case ybx_20 => (intro w hSw; (try dsimp only at hSw); go_simp; (try with_reducible rfl))
              simp only [Act.put, List.setIfInBounds_toArray, List.set_cons_zero, List.set_cons_succ]
              refine wpAnyH_done (by kernel_rfl) ?ebx _
              have d1' : (wr.alloc (.cells #[.int .i64 y.kind, .int .i64 y.tx, .slice A1 y.locks.length c1, .slice A2 y.writes.length c2] 36)).drew.cell? ⟨wr.heap.size, 1, none⟩ = some (.int .i64 y.tx) := k0.2.2
              go_wp2_with (at_builtin; refine wpl_one Sh.int 39 3 (.int .i64 0) 8 Try.underlying39 infoInt rfl (by decide) (by omega) rfl (.tmp 43) (.tmp 46) rfl S (fun _ => False) (.slice Av (opensTx (inD x.notes k)).length cv) (opensTx (inD x.notes k)) rfl HOw.out (wr.heap.size + 1) rfl _ y.tx hyZ HS1.out (fun _ _ h => h) (by omega) ?_; intro v' Z2 ho2 hg2 _; have HO3 := Lib.hid ho2; have HG3 := Lib.hid hg2; clear ho2 hg2)
              go_roundw
              case rel => exact ⟨k + 1, by omega, by go_num, by rw [HF.out, HT.out, HA.out]; exact OutW.grown HRz.out HSz.out HZ.out.box HZ.out.bel HB1.out (fun b h => h.elim) HO3.out HG3.out⟩
              case measure => simp [intOf]; omega
            · have HA := Lib.hid (addI_in hm)
              have HM := Lib.hid hm
              clear hm
              go_wp2
              refine wp_region_held_drew (S := (fun w' => w'.cell? ⟨w.heap.size, 0, none⟩ = some (.slice (some ⟨b, off, none⟩) x.notes.length cu) ∧ w'.cell? ⟨wr.heap.size, 0, none⟩ = some (.int .i64 y.kind) ∧ w'.cell? ⟨wr.heap.size, 1, none⟩ = some (.int .i64 y.tx))) (by kernel_rfl) ?hScx (fun hHeldcx => ?stcx)
              case hScx => (first | (dsimp only; (exact k0)) | (exact k0))
              refine take_first 0 23 (v := ?vcx_1) rfl rfl (by kernel_rfl) (by kernel_rfl) (by kernel_rfl) (fun _ _ _ h => h) (by rfl) ?ycx_1 (by assumption) ?rcx_1
              case ycx_1 => (intro w hSw; (try dsimp only at hSw); go_simp; (try with_reducible rfl))
              simp only [Act.put, List.setIfInBounds_toArray, List.set_cons_zero, List.set_cons_succ]
              refine take_first 1 24 (v := ?vcx_2) rfl rfl (by kernel_rfl) (by kernel_rfl) (by kernel_rfl) (fun _ _ _ h => h) (by rfl) ?ycx_2 (by assumption) ?rcx_2
              case ycx_2 => (intro w hSw; (try dsimp only at hSw); go_simp; (try with_reducible rfl))
              simp only [Act.put, List.setIfInBounds_toArray, List.set_cons_zero, List.set_cons_succ]
              refine take_first 2 25 (v := ?vcx_3) rfl rfl (by kernel_rfl) (by kernel_rfl) (by kernel_rfl) (fun _ _ _ h => h) (by rfl) ?ycx_3 (by assumption) ?rcx_3
              case ycx_3 => (intro w hSw; (try dsimp only at hSw); go_simp; (try with_reducible rfl))
              simp only [Act.put, List.setIfInBounds_toArray, List.set_cons_zero, List.set_cons_succ]
              refine take_first 3 26 (v := ?vcx_4) rfl rfl (by kernel_rfl) (by kernel_rfl) (by kernel_rfl) (fun _ _ _ h => h) (by rfl) ?ycx_4 (by assumption) ?rcx_4
              case ycx_4 => (intro w hSw; (try dsimp only at hSw); go_simp; (try with_reducible rfl))
              simp only [Act.put, List.setIfInBounds_toArray, List.set_cons_zero, List.set_cons_succ]
              refine take_first 4 27 (v := ?vcx_5) rfl rfl (by kernel_rfl) (by kernel_rfl) (by kernel_rfl) (fun _ _ _ h => h) (by rfl) ?ycx_5 (by assumption) ?rcx_5
              case ycx_5 => (intro w hSw; (try dsimp only at hSw); go_simp; (try with_reducible rfl))
              simp only [Act.put, List.setIfInBounds_toArray, List.set_cons_zero, List.set_cons_succ]
              refine take_first 5 28 (v := ?vcx_6) rfl rfl (by kernel_rfl) (by kernel_rfl) (by kernel_rfl) (fun _ _ _ h => h) (by rfl) ?ycx_6 (by assumption) ?rcx_6
              case ycx_6 => (intro w hSw; (try dsimp only at hSw); go_simp; (try with_reducible rfl))
              simp only [Act.put, List.setIfInBounds_toArray, List.set_cons_zero, List.set_cons_succ]
              refine take_first 6 29 (v := ?vcx_7) rfl rfl (by kernel_rfl) (by kernel_rfl) (by kernel_rfl) (fun _ _ _ h => h) (by rfl) ?ycx_7 (by assumption) ?rcx_7
              case ycx_7 => (intro w hSw; (try dsimp only at hSw); go_simp; (try with_reducible rfl))
              simp only [Act.put, List.setIfInBounds_toArray, List.set_cons_zero, List.set_cons_succ]
              refine take_first 7 30 (v := ?vcx_8) rfl rfl (by kernel_rfl) (by kernel_rfl) (by kernel_rfl) (fun _ _ _ h => h) (by rfl) ?ycx_8 (by assumption) ?rcx_8
              case ycx_8 => (intro w hSw; (try dsimp only at hSw); go_simp; (try with_reducible rfl))
              simp only [Act.put, List.setIfInBounds_toArray, List.set_cons_zero, List.set_cons_succ]
              refine take_first 8 31 (v := ?vcx_9) rfl rfl (by kernel_rfl) (by kernel_rfl) (by kernel_rfl) (fun _ _ _ h => h) (by rfl) ?ycx_9 (by assumption) ?rcx_9
              case ycx_9 => (intro w hSw; (try dsimp only at hSw); go_simp; (try with_reducible rfl))
              simp only [Act.put, List.setIfInBounds_toArray, List.set_cons_zero, List.set_cons_succ]
              refine take_first 9 32 (v := ?vcx_10) rfl rfl (by kernel_rfl) (by kernel_rfl) (by kernel_rfl) (fun _ _ _ h => h) (by rfl) ?ycx_10 (by assumption) ?rcx_10
              case ycx_10 => (intro w hSw; (try dsimp only at hSw); go_simp; (try with_reducible rfl))
              simp only [Act.put, List.setIfInBounds_toArray, List.set_cons_zero, List.set_cons_succ]
              refine wpAnyH_ready (rs := [10]) (by kernel_rfl) (by simp) ?_
              refine AllReadyH.cons (o := _) rfl (fun Kcx_11 hKcx_11 => ?ccx_11) ?mcx_11
              case mcx_11 => exact AllReadyH.nil
              go_simp
              refine (l2Of_any _ _ _ _ _ HDD.out).mono ?_; rintro e w2 ⟨rfl, rfl⟩; rw [HLk.out]
              go_wp2_with fail
              refine hKcx_11.out _ _ ?kcx_11 (fun hHeldcx_11 => ?dcx_11)
              case kcx_11 => (first | (dsimp only; (exact k0)) | (exact k0))
              clear hKcx_11 Kcx_11
              refine take_first 11 34 (v := ?vcx_12) rfl rfl (by kernel_rfl) (by kernel_rfl) (by kernel_rfl) (fun _ _ _ h => h) (by rfl) ?ycx_12 (by assumption) ?rcx_12
              case ycx_12 => (intro w hSw; (try dsimp only at hSw); go_simp; (try with_reducible rfl))
              simp only [Act.put, List.setIfInBounds_toArray, List.set_cons_zero, List.set_cons_succ]
              refine take_first 12 35 (v := ?vcx_13) rfl rfl (by kernel_rfl) (by kernel_rfl) (by kernel_rfl) (fun _ _ _ h => h) (by rfl) ?ycx_13 (by assumption) ?rcx_13
              case ycx_13 => (intro w hSw; (try dsimp only at hSw); go_simp; (try with_reducible rfl))
              simp only [Act.put, List.setIfInBounds_toArray, List.set_cons_zero, List.set_cons_succ]
              refine take_first 13 36 (v := ?vcx_14) rfl rfl (by kernel_rfl) (by kernel_rfl) (by kernel_rfl) (fun _ _ _ h => h) (by rfl) ?ycx_14 (by assumption) ?rcx_14
              case ycx_14 => (intro w hSw; (try dsimp only at hSw); go_simp; (try with_reducible rfl))
              simp only [Act.put, List.setIfInBounds_toArray, List.set_cons_zero, List.set_cons_succ]
              refine take_first 14 37 (v := ?vcx_15) rfl rfl (by kernel_rfl) (by kernel_rfl) (by kernel_rfl) (fun _ _ _ h => h) (by rfl) ?ycx_15 (by assumption) ?rcx_15
              case ycx_15 => (intro w hSw; (try dsimp only at hSw); go_simp; (try with_reducible rfl))
              simp only [Act.put, List.setIfInBounds_toArray, List.set_cons_zero, List.set_cons_succ]
              refine take_first 15 38 (v := ?vcx_16) rfl rfl (by kernel_rfl) (by kernel_rfl) (by kernel_rfl) (fun _ _ _ h => h) (by rfl) ?ycx_16 (by assumption) ?rcx_16
              case ycx_16 => (intro w hSw; (try dsimp only at hSw); go_simp; (try with_reducible rfl))
              simp only [Act.put, List.setIfInBounds_toArray, List.set_cons_zero, List.set_cons_succ]
              refine take_first 16 39 (v := ?vcx_17) rfl rfl (by kernel_rfl) (by kernel_rfl) (by kernel_rfl) (fun _ _ _ h => h) (by rfl) ?ycx_17 (by assumption) ?rcx_17
              case ycx_17 => (intro w hSw; (try dsimp only at hSw); go_simp; (try with_reducible rfl))
              simp only [Act.put, List.setIfInBounds_toArray, List.set_cons_zero, List.set_cons_succ]
              refine wpAnyH_ready (rs := [17]) (by kernel_rfl) (by simp) ?_
              refine AllReadyH.cons (o := _) rfl (fun Kcx_18 hKcx_18 => ?ccx_18) ?mcx_18
              case mcx_18 => exact AllReadyH.nil
              go_simp
              refine (l2Is_any _ _ _ _ _ HI2.out).mono ?_; rintro e w3 ⟨rfl, rfl⟩; rw [HM.out]
              go_wp2_with fail
              refine hKcx_18.out _ _ ?kcx_18 (fun hHeldcx_18 => ?dcx_18)
              case kcx_18 => (first | (dsimp only; (exact k0)) | (exact k0))
              clear hKcx_18 Kcx_18
              refine take_first 18 41 (v := ?vcx_19) rfl rfl (by kernel_rfl) (by kernel_rfl) (by kernel_rfl) (fun _ _ _ h => h) (by rfl) ?ycx_19 (by assumption) ?rcx_19
              case ycx_19 => (intro w hSw; (try dsimp only at hSw); go_simp; (try with_reducible rfl))
              simp only [Act.put, List.setIfInBounds_toArray, List.set_cons_zero, List.set_cons_succ]
              refine take_first 19 42 (v := ?vcx_20) rfl rfl (by kernel_rfl) (by kernel_rfl) (by kernel_rfl) (fun _ _ _ h => h) (by rfl) ?ycx_20 (by assumption) ?rcx_20
              case ycx_20 => (intro w hSw; (try dsimp only at hSw); go_simp; (try with_reducible rfl))
              simp only [Act.put, List.setIfInBounds_toArray, List.set_cons_zero, List.set_cons_succ]
              refine wpAnyH_done (by kernel_rfl) ?ecx _
              go_wp2
              go_roundw
              case rel => exact ⟨k + 1, by omega, by go_num, by rw [HF.out, HT.out, HA.out]; exact HO2.out.below (Below.refl _ _).drew⟩
              case measure => simp [intOf]; omega
        · have ek : (y.kind == 1) = false := by simp [hk1]
          have HF := Lib.hid (inD_no HY.out (openB_kind hk1))
          have k0 : (wr.alloc (.cells #[.int .i64 y.kind, .int .i64 y.tx, .slice A1 y.locks.length c1, .slice A2 y.writes.length c2] 36)).drew.cell? ⟨wr.heap.size, 0, none⟩ = some (.int .i64 y.kind) := HN.out.of 0 _ rfl
          clear hk1
          go_wp2
          refine wp_region_held_drew (S := (fun w' => w'.cell? ⟨wr.heap.size, 0, none⟩ = some (.int .i64 y.kind))) (by kernel_rfl) ?hSdx (fun hHelddx => ?stdx)
          case hSdx => (first | (dsimp only; (exact k0)) | (exact k0))
          refine take_first 0 23 (v := ?vdx_1) rfl rfl (by kernel_rfl) (by kernel_rfl) (by kernel_rfl) (fun _ _ _ h => h) (by rfl) ?ydx_1 (by assumption) ?rdx_1
          case ydx_1 => (intro w hSw; (try dsimp only at hSw); go_simp; (try with_reducible rfl))
          simp only [Act.put, List.setIfInBounds_toArray, List.set_cons_zero, List.set_cons_succ]
          refine take_first 1 24 (v := ?vdx_2) rfl rfl (by kernel_rfl) (by kernel_rfl) (by kernel_rfl) (fun _ _ _ h => h) (by rfl) ?ydx_2 (by assumption) ?rdx_2
          case ydx_2 => (intro w hSw; (try dsimp only at hSw); go_simp; (try with_reducible rfl))
          simp only [Act.put, List.setIfInBounds_toArray, List.set_cons_zero, List.set_cons_succ]
          refine take_first 2 25 (v := ?vdx_3) rfl rfl (by kernel_rfl) (by kernel_rfl) (by kernel_rfl) (fun _ _ _ h => h) (by rfl) ?ydx_3 (by assumption) ?rdx_3
          case ydx_3 => (intro w hSw; (try dsimp only at hSw); go_simp; (try with_reducible rfl))
          simp only [Act.put, List.setIfInBounds_toArray, List.set_cons_zero, List.set_cons_succ]
          refine take_first 3 26 (v := ?vdx_4) rfl rfl (by kernel_rfl) (by kernel_rfl) (by kernel_rfl) (fun _ _ _ h => h) (by rfl) ?ydx_4 (by assumption) ?rdx_4
          case ydx_4 => (intro w hSw; (try dsimp only at hSw); go_simp; (try with_reducible rfl))
          simp only [Act.put, List.setIfInBounds_toArray, List.set_cons_zero, List.set_cons_succ]
          refine pass_over 4 27 rfl rfl (by kernel_rfl) (by kernel_rfl) (by kernel_rfl) (fun _ _ _ h => h) (by rfl) (by assumption) ?rdx_5
          simp only [Act.put, List.setIfInBounds_toArray, List.set_cons_zero, List.set_cons_succ]
          refine pass_over 5 28 rfl rfl (by kernel_rfl) (by kernel_rfl) (by kernel_rfl) (fun _ _ _ h => h) (by rfl) (by assumption) ?rdx_6
          simp only [Act.put, List.setIfInBounds_toArray, List.set_cons_zero, List.set_cons_succ]
          refine pass_over 6 29 rfl rfl (by kernel_rfl) (by kernel_rfl) (by kernel_rfl) (fun _ _ _ h => h) (by rfl) (by assumption) ?rdx_7
          simp only [Act.put, List.setIfInBounds_toArray, List.set_cons_zero, List.set_cons_succ]
          refine pass_over 7 30 rfl rfl (by kernel_rfl) (by kernel_rfl) (by kernel_rfl) (fun _ _ _ h => h) (by rfl) (by assumption) ?rdx_8
          simp only [Act.put, List.setIfInBounds_toArray, List.set_cons_zero, List.set_cons_succ]
          refine pass_over 8 31 rfl rfl (by kernel_rfl) (by kernel_rfl) (by kernel_rfl) (fun _ _ _ h => h) (by rfl) (by assumption) ?rdx_9
          simp only [Act.put, List.setIfInBounds_toArray, List.set_cons_zero, List.set_cons_succ]
          refine pass_over 9 32 rfl rfl (by kernel_rfl) (by kernel_rfl) (by kernel_rfl) (fun _ _ _ h => h) (by rfl) (by assumption) ?rdx_10
          simp only [Act.put, List.setIfInBounds_toArray, List.set_cons_zero, List.set_cons_succ]
          refine pass_over 10 33 rfl rfl (by kernel_rfl) (by kernel_rfl) (by kernel_rfl) (fun _ _ _ h => h) (by rfl) (by assumption) ?rdx_11
          simp only [Act.put, List.setIfInBounds_toArray, List.set_cons_zero, List.set_cons_succ]
          refine pass_over 11 34 rfl rfl (by kernel_rfl) (by kernel_rfl) (by kernel_rfl) (fun _ _ _ h => h) (by rfl) (by assumption) ?rdx_12
          simp only [Act.put, List.setIfInBounds_toArray, List.set_cons_zero, List.set_cons_succ]
          refine take_first 12 35 (v := ?vdx_13) rfl rfl (by kernel_rfl) (by kernel_rfl) (by kernel_rfl) (fun _ _ _ h => h) (by rfl) ?ydx_13 (by assumption) ?rdx_13
          case ydx_13 => (intro w hSw; (try dsimp only at hSw); go_simp; (try with_reducible rfl))
          simp only [Act.put, List.setIfInBounds_toArray, List.set_cons_zero, List.set_cons_succ]
          refine take_first 13 36 (v := ?vdx_14) rfl rfl (by kernel_rfl) (by kernel_rfl) (by kernel_rfl) (fun _ _ _ h => h) (by rfl) ?ydx_14 (by assumption) ?rdx_14
          case ydx_14 => (intro w hSw; (try dsimp only at hSw); go_simp; (try with_reducible rfl))
          simp only [Act.put, List.setIfInBounds_toArray, List.set_cons_zero, List.set_cons_succ]
          refine pass_over 14 37 rfl rfl (by kernel_rfl) (by kernel_rfl) (by kernel_rfl) (fun _ _ _ h => h) (by rfl) (by assumption) ?rdx_15
          simp only [Act.put, List.setIfInBounds_toArray, List.set_cons_zero, List.set_cons_succ]
          refine pass_over 15 38 rfl rfl (by kernel_rfl) (by kernel_rfl) (by kernel_rfl) (fun _ _ _ h => h) (by rfl) (by assumption) ?rdx_16
          simp only [Act.put, List.setIfInBounds_toArray, List.set_cons_zero, List.set_cons_succ]
          refine pass_over 16 39 rfl rfl (by kernel_rfl) (by kernel_rfl) (by kernel_rfl) (fun _ _ _ h => h) (by rfl) (by assumption) ?rdx_17
          simp only [Act.put, List.setIfInBounds_toArray, List.set_cons_zero, List.set_cons_succ]
          refine pass_over 17 40 rfl rfl (by kernel_rfl) (by kernel_rfl) (by kernel_rfl) (fun _ _ _ h => h) (by rfl) (by assumption) ?rdx_18
          simp only [Act.put, List.setIfInBounds_toArray, List.set_cons_zero, List.set_cons_succ]
          refine pass_over 18 41 rfl rfl (by kernel_rfl) (by kernel_rfl) (by kernel_rfl) (fun _ _ _ h => h) (by rfl) (by assumption) ?rdx_19
          simp only [Act.put, List.setIfInBounds_toArray, List.set_cons_zero, List.set_cons_succ]
          refine take_first 19 42 (v := ?vdx_20) rfl rfl (by kernel_rfl) (by kernel_rfl) (by kernel_rfl) (fun _ _ _ h => h) (by rfl) ?ydx_20 (by assumption) ?rdx_20
          case ydx_20 => (intro w hSw; (try dsimp only at hSw); go_simp; (try with_reducible rfl))
          simp only [Act.put, List.setIfInBounds_toArray, List.set_cons_zero, List.set_cons_succ]
          refine wpAnyH_done (by kernel_rfl) ?edx _
          go_wp2
          go_roundw
          case rel => exact ⟨k + 1, by omega, by go_num, by rw [HF.out]; exact HO2.out.below (Below.refl _ _).drew⟩
          case measure => simp [intOf]; omega
      · have hks : k = x.notes.length := by omega
        subst hks
        go_wp2
        go_ret
        exact ⟨_, rfl, by rw [HE.out]; exact HR.out.mono (fun b hb => ⟨by have := (HS.out b hb).1; omega, (HS.out b hb).2⟩), HO.out.bel⟩

end Go.Proofs.Ytkamlibfcakblaa
