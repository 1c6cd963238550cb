/- Texts that follow each other, merged: StoMap, DiskP. -/
import Derived.Test.YtkamlibfcakblaaXWrts
import Derived.Test.YtkamlibfcakblaaXLastKind

/- What is kept as a map of names: what writes do to look-ups; two that look alike are one. Plain facts. -/
namespace Go.Proofs.Ytkamlibfcakblaa
open Go.RowKit

theorem look_app (l m : List Item) (key : ByteArray) : look (l ++ m) key = (look l key).or (look m key) := by unfold look; exact List.find?_append
theorem look_cons (x : Item) (l : List Item) (key : ByteArray) : look (x :: l) key = if x.key = key then some x else look l key := by
  unfold look
  rw [List.find?_cons]
  by_cases h : x.key = key <;> simp [h]
theorem look_free {l : List Item} {key : ByteArray} (h : ∀ a ∈ l, a.key ≠ key) : look l key = none := by
  unfold look
  rw [List.find?_eq_none]
  intro x hx
  simpa using h x hx
theorem look_in {l : List Item} {key : ByteArray} {x : Item} (h : look l key = some x) : x ∈ l ∧ x.key = key := by
  unfold look at h
  exact ⟨List.mem_of_find?_eq_some h, by simpa using List.find?_some h⟩
/-- Where a name is, or would have to be. -/
theorem pos_of (its : List Item) (hr : Rise its its.length) (key : ByteArray) : ∃ i, i ≤ its.length ∧ Lo its key i ∧ Hi its key i := by
  suffices h : ∀ n, n ≤ its.length → Lo its key n → ∃ i, i ≤ its.length ∧ Lo its key i ∧ Hi its key i from h 0 (Nat.zero_le _) (Lo.start _ _)
  intro n
  induction hk : its.length - n generalizing n with
  | zero =>
    intro hn hlo
    have : n = its.length := by omega
    subst this
    exact ⟨_, hn, hlo, Hi.start _ _⟩
  | succ k ih =>
    intro hn hlo
    have hlt : n < its.length := by omega
    have hx := List.getElem?_eq_getElem hlt
    cases hl : ltB its[n].key key with
    | true => exact ih (n + 1) (by omega) hlt (Lo.mid hr hx hl)
    | false => exact ⟨n, hn, hlo, Hi.mid hr hx hl⟩
section
variable {wk : ByteArray} {wv : List Int} {its : List Item}
theorem hit_lt {i : Nat} (hh : hitB its wk i = true) : ∃ h : i < its.length, its[i].key = wk := by
  have hi : i < its.length := by
    by_cases h : i < its.length
    · exact h
    · rw [hitB_end (by omega)] at hh; exact absurd hh (by decide)
  exact ⟨hi, by simpa [hitB, List.getElem?_eq_getElem hi] using hh⟩
theorem low_free {i : Nat} (hlo : Lo its wk i) : ∀ a ∈ its.take i, a.key ≠ wk := fun a ha => ltB_ne (low_mem hlo a ha)
/-- What a write does to look-ups, to the length, to the order. -/
theorem wAll_facts (hr : Rise its its.length) (del : Bool) : Rise (wAll wk del wv its) (wAll wk del wv its).length ∧
    (∀ key, look (wAll wk del wv its) key = if wk = key then (if del = true then none else some ⟨wk, wv⟩) else look its key) ∧
    (wAll wk del wv its).length + (if (look its wk).isSome = true then 1 else 0) = its.length + (if del = true then 0 else 1) ∧ (∀ x ∈ wAll wk del wv its, x ∈ its ∨ del = false ∧ x = ⟨wk, wv⟩) := by
  obtain ⟨i, hi, hlo, hhi⟩ := pos_of its hr wk
  cases hh : hitB its wk i with
  | true =>
    obtain ⟨hlt, hkey⟩ := hit_lt hh
    have hlk : look its wk = some its[i] := look_hit hr (List.getElem?_eq_getElem hlt) hh
    have hspl := its_split hlt
    have hkey' : ∀ {key}, wk ≠ key → look its key = (look (its.take i) key).or (look (its.drop (i + 1)) key) := by
      intro key hne
      conv => lhs; rw [hspl]
      rw [look_app, look_cons, if_neg (by rw [hkey]; exact hne)]
    cases del with
    | true =>
      rw [wAll_drop hlo hhi hr hh]
      refine ⟨rise_del hr hlt, fun key => ?_, ?_, fun x hx => .inl ?_⟩
      · unfold delAt
        rw [look_app]
        by_cases he : wk = key
        · subst he
          rw [if_pos rfl, if_pos rfl, look_free (low_free hlo), look_free (high_mem hhi hr hlt)]; rfl
        · rw [if_neg he, hkey' he]
      · rw [hlk, delAt_len hlt]; simp; omega
      · unfold delAt at hx
        rcases List.mem_append.1 hx with h | h
        · exact List.mem_of_mem_take h
        · exact List.mem_of_mem_drop h
    | false =>
      rw [wAll_put hlo hhi hr hh]
      refine ⟨rise_set hr (List.getElem?_eq_getElem hlt) _ hkey.symm, fun key => ?_, ?_, fun x hx => ?_⟩
      · rw [List.set_eq_take_append_cons_drop, if_pos hlt, look_app, look_cons]
        by_cases he : wk = key
        · subst he
          rw [if_pos rfl, if_pos rfl, look_free (low_free hlo)]; rfl
        · rw [if_neg he, if_neg he, hkey' he]
      · rw [hlk, List.length_set]; simp
      · rcases List.mem_or_eq_of_mem_set hx with h | h
        · exact .inl h
        · exact .inr ⟨rfl, h⟩
  | false =>
    have hlk : look its wk = none := look_miss hlo hhi hr hh
    cases del with
    | true =>
      rw [wAll_drop_miss hlo hhi hr hh hi]
      refine ⟨hr, fun key => ?_, by rw [hlk]; simp, fun x hx => .inl hx⟩
      by_cases he : wk = key
      · subst he; rw [if_pos rfl, if_pos rfl, hlk]
      · rw [if_neg he]
    | false =>
      rw [wAll_ins hlo hhi hr hh hi]
      refine ⟨rise_ins hr hlo hhi hh hi, fun key => ?_, by rw [hlk, insAt_len hi]; simp, fun x hx => ?_⟩
      · unfold insAt
        rw [look_app, look_cons]
        by_cases he : wk = key
        · subst he
          rw [if_pos rfl, if_pos rfl, look_free (low_free hlo)]; rfl
        · rw [if_neg he, if_neg he]
          conv => rhs; rw [← List.take_append_drop i its]
          rw [look_app]
      · unfold insAt at hx
        rcases List.mem_append.1 hx with h | h
        · exact .inl (List.mem_of_mem_take h)
        · rcases List.mem_cons.1 h with h | h
          · exact .inr ⟨rfl, h⟩
          · exact .inl (List.mem_of_mem_drop h)
end

theorem stoB_three {its : List Item} (h : stoB its = true) : its.length ≤ 40 ∧ (∀ it ∈ its, itemB it = true) ∧ Rise its its.length := by
  unfold stoB at h
  simp only [Bool.and_eq_true, decide_eq_true_iff, List.all_eq_true] at h
  exact ⟨h.1, h.2.1, asc_rise h.2.2⟩
theorem stoB_of {its : List Item} (h1 : its.length ≤ 40) (h2 : ∀ it ∈ its, itemB it = true) (h3 : Rise its its.length) : stoB its = true := by
  unfold stoB
  simp only [Bool.and_eq_true, decide_eq_true_iff, List.all_eq_true]
  exact ⟨h1, h2, rise_asc h3⟩
theorem Wr.item {x : Wr} (h : x.ok = true) (hd : x.del = false) : itemB ⟨x.key, x.val⟩ = true := by
  unfold Wr.ok wrtB at h
  rw [hd] at h
  simp only [Bool.and_eq_true] at h
  exact itemB_yes h.1 (by simpa using h.2)
/-- What writes do to a look-up. -/
def lookW (ws : List Wr) (key : ByteArray) (d : Option Item) : Option Item := ws.foldl (fun d x => if x.key = key then (if x.del = true then none else some ⟨x.key, x.val⟩) else d) d
theorem stoStep {its : List Item} {x : Wr} (h : stoB its = true) (hx : x.ok = true) (hl : its.length < 40) : doStep (some its) x = some (wAll x.key x.del x.val its) ∧ stoB (wAll x.key x.del x.val its) = true ∧ (wAll x.key x.del x.val its).length ≤ its.length + 1 ∧
    (∀ key, look (wAll x.key x.del x.val its) key = lookW [x] key (look its key)) := by
  obtain ⟨h1, h2, h3⟩ := stoB_three h
  obtain ⟨f1, f2, f3, f4⟩ := wAll_facts (wk := x.key) (wv := x.val) h3 x.del
  have hlen : (wAll x.key x.del x.val its).length ≤ its.length + 1 := by
    have : (if x.del = true then 0 else 1) ≤ 1 := by split <;> omega
    omega
  refine ⟨?_, stoB_of (by omega) (fun it hit => ?_) f1, hlen, fun key => ?_⟩
  · unfold doStep
    simp only [Option.bind_some, hx, if_true]
    rw [if_neg (by omega)]
  · rcases f4 it hit with h' | ⟨hd, rfl⟩
    · exact h2 it h'
    · exact Wr.item hx hd
  · rw [f2]; rfl
theorem doFold_some : ∀ (ws : List Wr) {its : List Item}, stoB its = true → (∀ x ∈ ws, x.ok = true) → its.length + ws.length ≤ 40 → ∃ cur, ws.foldl doStep (some its) = some cur ∧ stoB cur = true ∧ cur.length ≤ its.length + ws.length ∧ ∀ key, look cur key = lookW ws key (look its key)
  | [], its, h, _, _ => ⟨its, rfl, h, by simp, fun _ => rfl⟩
  | x :: ws, its, h, hw, hl => by
    simp only [List.length_cons] at hl
    obtain ⟨s1, s2, s3, s4⟩ := stoStep h (hw x (List.mem_cons_self ..)) (by omega)
    obtain ⟨cur, c1, c2, c3, c4⟩ := doFold_some ws s2 (fun y hy => hw y (List.mem_cons_of_mem _ hy)) (by omega)
    refine ⟨cur, ?_, c2, by simp only [List.length_cons]; omega, fun key => ?_⟩
    · rw [List.foldl_cons, s1]; exact c1
    · rw [c4, s4]; rfl
/-- Where there is room all writes are done. -/
theorem stoDo_some {its : List Item} {ws : List Wr} (h : stoB its = true) (hw : ∀ x ∈ ws, x.ok = true) (hl : its.length + ws.length ≤ 40) : stoB (stoDo its ws) = true ∧ (stoDo its ws).length ≤ its.length + ws.length ∧ ∀ key, look (stoDo its ws) key = lookW ws key (look its key) := by
  obtain ⟨cur, c1, c2, c3, c4⟩ := doFold_some ws h hw hl
  have : stoDo its ws = cur := by unfold stoDo doAll; rw [if_pos h, c1]; rfl
  rw [this]; exact ⟨c2, c3, c4⟩
/-- One list behind the other, as long as there is room. -/
theorem stoDo_two {its : List Item} {a b : List Wr} (h : stoB its = true) (ha : ∀ x ∈ a, x.ok = true) (hl : its.length + a.length ≤ 40) : stoDo (stoDo its a) b = stoDo its (a ++ b) := by
  obtain ⟨cur, c1, c2, -, -⟩ := doFold_some a h ha hl
  have he : stoDo its a = cur := by unfold stoDo doAll; rw [if_pos h, c1]; rfl
  rw [he]
  unfold stoDo doAll
  rw [if_pos h, if_pos c2, List.foldl_append, c1]
theorem look_self {its : List Item} (hr : Rise its its.length) {x : Item} (hx : x ∈ its) : look its x.key = some x := by
  obtain ⟨j, hj, rfl⟩ := List.getElem_of_mem hx
  exact look_at hr (List.getElem?_eq_getElem hj) rfl
theorem rise_tail {x : Item} {l : List Item} (h : Rise (x :: l) (x :: l).length) : Rise l l.length ∧ ∀ y ∈ l, ltB x.key y.key = true := by
  refine ⟨rise_of fun j a b ha hb => rise_lt h (show j + 1 < j + 2 by omega) (by simpa using ha) (by simpa using hb), fun y hy => ?_⟩
  obtain ⟨j, hj, rfl⟩ := List.getElem_of_mem hy
  exact rise_lt h (show 0 < j + 1 by omega) rfl (by simp [hj])
/-- Two that rise and look alike are one. -/
theorem sto_ext : ∀ {a b : List Item}, Rise a a.length → Rise b b.length → (∀ key, look a key = look b key) → a = b
  | [], [], _, _, _ => rfl
  | [], y :: b, _, hb, h => by
    have := h y.key
    rw [look_self hb (List.mem_cons_self ..)] at this
    exact absurd this (by simp [look])
  | x :: a, [], ha, _, h => by
    have := h x.key
    rw [look_self ha (List.mem_cons_self ..)] at this
    exact absurd this (by simp [look])
  | x :: a, y :: b, ha, hb, h => by
    obtain ⟨ta, la⟩ := rise_tail ha
    obtain ⟨tb, lb⟩ := rise_tail hb
    have hx : look (y :: b) x.key = some x := by rw [← h]; exact look_self ha (List.mem_cons_self ..)
    have hy : look (x :: a) y.key = some y := by rw [h]; exact look_self hb (List.mem_cons_self ..)
    have hxy : x = y := by
      rcases List.mem_cons.1 (look_in hx).1 with e | hxb
      · exact e
      · rcases List.mem_cons.1 (look_in hy).1 with e | hya
        · exact e.symm
        · have h1 := lb x hxb
          have h2 := la y hya
          have := ltB_trans h1 h2
          rw [ltB_irrefl] at this; exact absurd this (by decide)
    subst hxy
    congr 1
    refine sto_ext ta tb fun key => ?_
    by_cases he : x.key = key
    · subst he
      rw [look_free fun z hz => (ltB_ne (la z hz)).symm, look_free fun z hz => (ltB_ne (lb z hz)).symm]
    · have := h key
      rwa [look_cons, look_cons, if_neg he, if_neg he] at this
/-- A look-up behind writes is the last write's, or what was there. -/
theorem lookW_app (a b : List Wr) (key : ByteArray) (d : Option Item) : lookW (a ++ b) key d = lookW b key (lookW a key d) := by unfold lookW; rw [List.foldl_append]
theorem lookW_free {ws : List Wr} {key : ByteArray} (h : ∀ x ∈ ws, x.key ≠ key) (d : Option Item) : lookW ws key d = d := by
  induction ws generalizing d with
  | nil => rfl
  | cons x ws ih =>
    show lookW ws key (if x.key = key then (if x.del = true then none else some ⟨x.key, x.val⟩) else d) = d
    rw [if_neg (h x (List.mem_cons_self ..))]
    exact ih (fun y hy => h y (List.mem_cons_of_mem _ hy)) d
theorem lookW_hit {ws : List Wr} {key : ByteArray} (h : ∃ x ∈ ws, x.key = key) (d d' : Option Item) : lookW ws key d = lookW ws key d' := by
  induction ws generalizing d d' with
  | nil => obtain ⟨x, hx, _⟩ := h; simp at hx
  | cons x ws ih =>
    show lookW ws key (if x.key = key then (if x.del = true then none else some ⟨x.key, x.val⟩) else d) = lookW ws key (if x.key = key then (if x.del = true then none else some ⟨x.key, x.val⟩) else d')
    by_cases e : x.key = key
    · rw [if_pos e, if_pos e]
    · rw [if_neg e, if_neg e]
      obtain ⟨y, hy, hk⟩ := h
      rcases List.mem_cons.1 hy with rfl | hy
      · exact absurd hk e
      · exact ih ⟨y, hy, hk⟩ d d'

end Go.Proofs.Ytkamlibfcakblaa

/- What is added to a place's notes, what a fall leaves, what is open, what is held, what is kept: in plain words. -/
namespace Go.Proofs.Ytkamlibfcakblaa
open Go.RowKit

/-- No notes. -/
def noDisk : Disk := ⟨[], 0⟩
/-- Behind DiskAdd. -/
def addOk (x : Disk) (n : Note) : Bool := diskB x && (noteB n && decide (x.notes.length < 120))
def addD (x : Disk) (n : Note) (safe : Bool) : Disk :=
  if diskB x = true ∧ noteB n = true then
    (if x.notes.length < 120 then ⟨x.notes ++ [n], if safe = true then ((x.notes.length : Int) + 1) else x.safe⟩ else x)
  else noDisk
theorem addD_bad {x : Disk} {n : Note} {b : Bool} (h : diskB x = false ∨ noteB n = false) : addD x n b = noDisk ∧ addOk x n = false := by
  unfold addD addOk
  rcases h with h | h <;> simp [h]
theorem addD_full {x : Disk} {n : Note} {b : Bool} (h1 : diskB x = true) (h2 : noteB n = true) (h3 : x.notes.length = 120) : addD x n b = x ∧ addOk x n = false := by
  unfold addD addOk
  simp [h1, h2, h3]
theorem addD_yes {x : Disk} {n : Note} {b : Bool} (h1 : diskB x = true) (h2 : noteB n = true) (h3 : x.notes.length < 120) : addD x n b = ⟨x.notes ++ [n], if b = true then ((x.notes.length : Int) + 1) else x.safe⟩ ∧ addOk x n = true := by
  unfold addD addOk
  simp [h1, h2, h3]
/-- How many a fall leaves. -/
def leftD (x : Disk) (keep : Int) : Nat := (x.safe + min (max keep 0) ((x.notes.length : Int) - x.safe)).toNat
def fallD (x : Disk) (keep : Int) : Disk := if diskB x = true then ⟨x.notes.take (leftD x keep), (leftD x keep : Int)⟩ else noDisk
theorem fallD_no {x : Disk} {k : Int} (h : diskB x = false) : fallD x k = noDisk := by unfold fallD; simp [h]
theorem fallD_yes {x : Disk} {k : Int} (h : diskB x = true) : fallD x k = ⟨x.notes.take (leftD x k), (leftD x k : Int)⟩ := by unfold fallD; simp [h]
theorem leftD_le {x : Disk} {k : Int} (h : diskB x = true) : leftD x k ≤ x.notes.length ∧ (leftD x k : Int) = x.safe + min (max k 0) ((x.notes.length : Int) - x.safe) := by
  obtain ⟨h1, h2, h3, -⟩ := diskB_parts h
  unfold leftD
  constructor <;> omega
/-- All notes of what is ok are small. -/
theorem noteB_small {n : Note} (h : noteB n = true) : n.locks.length ≤ 12 ∧ n.writes.length ≤ 12 ∧ (∀ y ∈ n.writes, y.val.length ≤ 3 ∧ y.key.size ≤ 3) ∧ ∀ s ∈ n.locks, s.size ≤ 3 := by
  unfold noteB at h
  simp only [Bool.and_eq_true] at h
  by_cases hk : n.kind = 1
  · rw [if_pos hk] at h
    obtain ⟨-, h1, h2⟩ := (by simpa only [Bool.and_eq_true] using h : _ ∧ _ ∧ _)
    unfold locksB at h1
    unfold wrsB at h2
    simp only [Bool.and_eq_true, decide_eq_true_iff, List.all_eq_true] at h1 h2
    refine ⟨h1.1, h2.1, fun y hy => ?_, fun s hs => keyB_le3 (h1.2 s hs)⟩
    have h3 := h2.2 y hy
    unfold lwB at h3
    simp only [Bool.and_eq_true] at h3
    exact ⟨(Wr.fine h3.1).2, (Wr.fine h3.1).1⟩
  · rw [if_neg hk] at h
    simp only [Bool.and_eq_true, decide_eq_true_iff] at h
    obtain ⟨-, -, h1, h2⟩ := h
    have e1 := List.length_eq_zero_iff.1 h1
    have e2 := List.length_eq_zero_iff.1 h2
    refine ⟨by omega, by omega, fun y hy => ?_, fun s hs => ?_⟩
    · rw [e2] at hy; cases hy
    · rw [e1] at hs; cases hs
theorem diskB_small {x : Disk} (h : diskB x = true) : x.notes.length ≤ 120 ∧ ∀ n ∈ x.notes, noteB n = true := by
  obtain ⟨h1, -, -, h4⟩ := diskB_parts h
  exact ⟨h1, fun n hn => List.all_eq_true.1 h4 n hn⟩
theorem diskB_no : diskB noDisk = true := by decide
theorem diskB_add {x : Disk} {n : Note} {b : Bool} : diskB (addD x n b) = true := by
  by_cases h1 : diskB x = true
  · by_cases h2 : noteB n = true
    · obtain ⟨p1, p2, p3, p4⟩ := diskB_parts h1
      by_cases h3 : x.notes.length < 120
      · rw [(addD_yes h1 h2 h3).1]
        unfold diskB
        simp only [List.length_append, List.length_cons, List.length_nil, List.all_append, p4, List.all_cons, h2, List.all_nil, Bool.and_true, Bool.and_eq_true, decide_eq_true_iff]
        refine ⟨by omega, ?_⟩
        unfold inB
        cases b <;> simp <;> omega
      · rw [(addD_full h1 h2 (by omega)).1]; exact h1
    · rw [(addD_bad (.inr (by simpa using h2))).1]; exact diskB_no
  · rw [(addD_bad (.inl (by simpa using h1))).1]; exact diskB_no
theorem diskB_fall {x : Disk} {k : Int} : diskB (fallD x k) = true := by
  by_cases h1 : diskB x = true
  · obtain ⟨p1, p2, p3, p4⟩ := diskB_parts h1
    obtain ⟨q1, q2⟩ := leftD_le (k := k) h1
    rw [fallD_yes h1]
    unfold diskB
    simp only [List.length_take, Nat.min_eq_left q1, Bool.and_eq_true, decide_eq_true_iff]
    refine ⟨by omega, ?_, ?_⟩
    · unfold inB; simp
    · rw [List.all_eq_true] at *
      exact fun n hn => p4 n (List.mem_of_mem_take hn)
  · rw [fallD_no (by simpa using h1)]; exact diskB_no

end Go.Proofs.Ytkamlibfcakblaa
