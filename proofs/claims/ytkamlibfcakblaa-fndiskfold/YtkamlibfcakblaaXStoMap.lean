/- Texts that follow each other, merged: StoMap, DiskP, DiskAddI. -/
import Derived.Test.YtkamlibfcakblaaXWrts
import Derived.Test.YtkamlibfcakblaaXLastKind
import Derived.Test.YtkamlibfcakblaaXDiskList

/- What is kept as a map of names: what writes do to look-ups; two that look alike are one. Plain facts. -/
namespace Go.Proofs.Ytkamlibfcakblaa
open Go.RowKit

theorem look_app (l m : List Item) (key : ByteArray) : look (l ++ m) key = (look l key).or (look m key) := by unfold look; exact List.find?_append
theorem look_cons (x : Item) (l : List Item) (key : ByteArray) : look (x :: l) key = if x.key = key then some x else look l key := by
  unfold look
  rw [List.find?_cons]
  by_cases h : x.key = key <;> simp [h]
theorem look_free {l : List Item} {key : ByteArray} (h : ∀ a ∈ l, a.key ≠ key) : look l key = none := by
  unfold look
  rw [List.find?_eq_none]
  intro x hx
  simpa using h x hx
theorem look_in {l : List Item} {key : ByteArray} {x : Item} (h : look l key = some x) : x ∈ l ∧ x.key = key := by
  unfold look at h
  exact ⟨List.mem_of_find?_eq_some h, by simpa using List.find?_some h⟩
/-- Where a name is, or would have to be. -/
theorem pos_of (its : List Item) (hr : Rise its its.length) (key : ByteArray) : ∃ i, i ≤ its.length ∧ Lo its key i ∧ Hi its key i := by
  suffices h : ∀ n, n ≤ its.length → Lo its key n → ∃ i, i ≤ its.length ∧ Lo its key i ∧ Hi its key i from h 0 (Nat.zero_le _) (Lo.start _ _)
  intro n
  induction hk : its.length - n generalizing n with
  | zero =>
    intro hn hlo
    have : n = its.length := by omega
    subst this
    exact ⟨_, hn, hlo, Hi.start _ _⟩
  | succ k ih =>
    intro hn hlo
    have hlt : n < its.length := by omega
    have hx := List.getElem?_eq_getElem hlt
    cases hl : ltB its[n].key key with
    | true => exact ih (n + 1) (by omega) hlt (Lo.mid hr hx hl)
    | false => exact ⟨n, hn, hlo, Hi.mid hr hx hl⟩
section
variable {wk : ByteArray} {wv : List Int} {its : List Item}
theorem hit_lt {i : Nat} (hh : hitB its wk i = true) : ∃ h : i < its.length, its[i].key = wk := by
  have hi : i < its.length := by
    by_cases h : i < its.length
    · exact h
    · rw [hitB_end (by omega)] at hh; exact absurd hh (by decide)
  exact ⟨hi, by simpa [hitB, List.getElem?_eq_getElem hi] using hh⟩
theorem low_free {i : Nat} (hlo : Lo its wk i) : ∀ a ∈ its.take i, a.key ≠ wk := fun a ha => ltB_ne (low_mem hlo a ha)
/-- What a write does to look-ups, to the length, to the order. -/
theorem wAll_facts (hr : Rise its its.length) (del : Bool) : Rise (wAll wk del wv its) (wAll wk del wv its).length ∧
    (∀ key, look (wAll wk del wv its) key = if wk = key then (if del = true then none else some ⟨wk, wv⟩) else look its key) ∧
    (wAll wk del wv its).length + (if (look its wk).isSome = true then 1 else 0) = its.length + (if del = true then 0 else 1) ∧ (∀ x ∈ wAll wk del wv its, x ∈ its ∨ del = false ∧ x = ⟨wk, wv⟩) := by
  obtain ⟨i, hi, hlo, hhi⟩ := pos_of its hr wk
  cases hh : hitB its wk i with
  | true =>
    obtain ⟨hlt, hkey⟩ := hit_lt hh
    have hlk : look its wk = some its[i] := look_hit hr (List.getElem?_eq_getElem hlt) hh
    have hspl := its_split hlt
    have hkey' : ∀ {key}, wk ≠ key → look its key = (look (its.take i) key).or (look (its.drop (i + 1)) key) := by
      intro key hne
      conv => lhs; rw [hspl]
      rw [look_app, look_cons, if_neg (by rw [hkey]; exact hne)]
    cases del with
    | true =>
      rw [wAll_drop hlo hhi hr hh]
      refine ⟨rise_del hr hlt, fun key => ?_, ?_, fun x hx => .inl ?_⟩
      · unfold delAt
        rw [look_app]
        by_cases he : wk = key
        · subst he
          rw [if_pos rfl, if_pos rfl, look_free (low_free hlo), look_free (high_mem hhi hr hlt)]; rfl
        · rw [if_neg he, hkey' he]
      · rw [hlk, delAt_len hlt]; simp; omega
      · unfold delAt at hx
        rcases List.mem_append.1 hx with h | h
        · exact List.mem_of_mem_take h
        · exact List.mem_of_mem_drop h
    | false =>
      rw [wAll_put hlo hhi hr hh]
      refine ⟨rise_set hr (List.getElem?_eq_getElem hlt) _ hkey.symm, fun key => ?_, ?_, fun x hx => ?_⟩
      · rw [List.set_eq_take_append_cons_drop, if_pos hlt, look_app, look_cons]
        by_cases he : wk = key
        · subst he
          rw [if_pos rfl, if_pos rfl, look_free (low_free hlo)]; rfl
        · rw [if_neg he, if_neg he, hkey' he]
      · rw [hlk, List.length_set]; simp
      · rcases List.mem_or_eq_of_mem_set hx with h | h
        · exact .inl h
        · exact .inr ⟨rfl, h⟩
  | false =>
    have hlk : look its wk = none := look_miss hlo hhi hr hh
    cases del with
    | true =>
      rw [wAll_drop_miss hlo hhi hr hh hi]
      refine ⟨hr, fun key => ?_, by rw [hlk]; simp, fun x hx => .inl hx⟩
      by_cases he : wk = key
      · subst he; rw [if_pos rfl, if_pos rfl, hlk]
      · rw [if_neg he]
    | false =>
      rw [wAll_ins hlo hhi hr hh hi]
      refine ⟨rise_ins hr hlo hhi hh hi, fun key => ?_, by rw [hlk, insAt_len hi]; simp, fun x hx => ?_⟩
      · unfold insAt
        rw [look_app, look_cons]
        by_cases he : wk = key
        · subst he
          rw [if_pos rfl, if_pos rfl, look_free (low_free hlo)]; rfl
        · rw [if_neg he, if_neg he]
          conv => rhs; rw [← List.take_append_drop i its]
          rw [look_app]
      · unfold insAt at hx
        rcases List.mem_append.1 hx with h | h
        · exact .inl (List.mem_of_mem_take h)
        · rcases List.mem_cons.1 h with h | h
          · exact .inr ⟨rfl, h⟩
          · exact .inl (List.mem_of_mem_drop h)
end

theorem stoB_three {its : List Item} (h : stoB its = true) : its.length ≤ 40 ∧ (∀ it ∈ its, itemB it = true) ∧ Rise its its.length := by
  unfold stoB at h
  simp only [Bool.and_eq_true, decide_eq_true_iff, List.all_eq_true] at h
  exact ⟨h.1, h.2.1, asc_rise h.2.2⟩
theorem stoB_of {its : List Item} (h1 : its.length ≤ 40) (h2 : ∀ it ∈ its, itemB it = true) (h3 : Rise its its.length) : stoB its = true := by
  unfold stoB
  simp only [Bool.and_eq_true, decide_eq_true_iff, List.all_eq_true]
  exact ⟨h1, h2, rise_asc h3⟩
theorem Wr.item {x : Wr} (h : x.ok = true) (hd : x.del = false) : itemB ⟨x.key, x.val⟩ = true := by
  unfold Wr.ok wrtB at h
  rw [hd] at h
  simp only [Bool.and_eq_true] at h
  exact itemB_yes h.1 (by simpa using h.2)
/-- What writes do to a look-up. -/
def lookW (ws : List Wr) (key : ByteArray) (d : Option Item) : Option Item := ws.foldl (fun d x => if x.key = key then (if x.del = true then none else some ⟨x.key, x.val⟩) else d) d
theorem stoStep {its : List Item} {x : Wr} (h : stoB its = true) (hx : x.ok = true) (hl : its.length < 40) : doStep (some its) x = some (wAll x.key x.del x.val its) ∧ stoB (wAll x.key x.del x.val its) = true ∧ (wAll x.key x.del x.val its).length ≤ its.length + 1 ∧
    (∀ key, look (wAll x.key x.del x.val its) key = lookW [x] key (look its key)) := by
  obtain ⟨h1, h2, h3⟩ := stoB_three h
  obtain ⟨f1, f2, f3, f4⟩ := wAll_facts (wk := x.key) (wv := x.val) h3 x.del
  have hlen : (wAll x.key x.del x.val its).length ≤ its.length + 1 := by
    have : (if x.del = true then 0 else 1) ≤ 1 := by split <;> omega
    omega
  refine ⟨?_, stoB_of (by omega) (fun it hit => ?_) f1, hlen, fun key => ?_⟩
  · unfold doStep
    simp only [Option.bind_some, hx, if_true]
    rw [if_neg (by omega)]
  · rcases f4 it hit with h' | ⟨hd, rfl⟩
    · exact h2 it h'
    · exact Wr.item hx hd
  · rw [f2]; rfl
theorem doFold_some : ∀ (ws : List Wr) {its : List Item}, stoB its = true → (∀ x ∈ ws, x.ok = true) → its.length + ws.length ≤ 40 → ∃ cur, ws.foldl doStep (some its) = some cur ∧ stoB cur = true ∧ cur.length ≤ its.length + ws.length ∧ ∀ key, look cur key = lookW ws key (look its key)
  | [], its, h, _, _ => ⟨its, rfl, h, by simp, fun _ => rfl⟩
  | x :: ws, its, h, hw, hl => by
    simp only [List.length_cons] at hl
    obtain ⟨s1, s2, s3, s4⟩ := stoStep h (hw x (List.mem_cons_self ..)) (by omega)
    obtain ⟨cur, c1, c2, c3, c4⟩ := doFold_some ws s2 (fun y hy => hw y (List.mem_cons_of_mem _ hy)) (by omega)
    refine ⟨cur, ?_, c2, by simp only [List.length_cons]; omega, fun key => ?_⟩
    · rw [List.foldl_cons, s1]; exact c1
    · rw [c4, s4]; rfl
/-- Where there is room all writes are done. -/
theorem stoDo_some {its : List Item} {ws : List Wr} (h : stoB its = true) (hw : ∀ x ∈ ws, x.ok = true) (hl : its.length + ws.length ≤ 40) : stoB (stoDo its ws) = true ∧ (stoDo its ws).length ≤ its.length + ws.length ∧ ∀ key, look (stoDo its ws) key = lookW ws key (look its key) := by
  obtain ⟨cur, c1, c2, c3, c4⟩ := doFold_some ws h hw hl
  have : stoDo its ws = cur := by unfold stoDo doAll; rw [if_pos h, c1]; rfl
  rw [this]; exact ⟨c2, c3, c4⟩
/-- One list behind the other, as long as there is room. -/
theorem stoDo_two {its : List Item} {a b : List Wr} (h : stoB its = true) (ha : ∀ x ∈ a, x.ok = true) (hl : its.length + a.length ≤ 40) : stoDo (stoDo its a) b = stoDo its (a ++ b) := by
  obtain ⟨cur, c1, c2, -, -⟩ := doFold_some a h ha hl
  have he : stoDo its a = cur := by unfold stoDo doAll; rw [if_pos h, c1]; rfl
  rw [he]
  unfold stoDo doAll
  rw [if_pos h, if_pos c2, List.foldl_append, c1]
theorem look_self {its : List Item} (hr : Rise its its.length) {x : Item} (hx : x ∈ its) : look its x.key = some x := by
  obtain ⟨j, hj, rfl⟩ := List.getElem_of_mem hx
  exact look_at hr (List.getElem?_eq_getElem hj) rfl
theorem rise_tail {x : Item} {l : List Item} (h : Rise (x :: l) (x :: l).length) : Rise l l.length ∧ ∀ y ∈ l, ltB x.key y.key = true := by
  refine ⟨rise_of fun j a b ha hb => rise_lt h (show j + 1 < j + 2 by omega) (by simpa using ha) (by simpa using hb), fun y hy => ?_⟩
  obtain ⟨j, hj, rfl⟩ := List.getElem_of_mem hy
  exact rise_lt h (show 0 < j + 1 by omega) rfl (by simp [hj])
/-- Two that rise and look alike are one. -/
theorem sto_ext : ∀ {a b : List Item}, Rise a a.length → Rise b b.length → (∀ key, look a key = look b key) → a = b
  | [], [], _, _, _ => rfl
  | [], y :: b, _, hb, h => by
    have := h y.key
    rw [look_self hb (List.mem_cons_self ..)] at this
    exact absurd this (by simp [look])
  | x :: a, [], ha, _, h => by
    have := h x.key
    rw [look_self ha (List.mem_cons_self ..)] at this
    exact absurd this (by simp [look])
  | x :: a, y :: b, ha, hb, h => by
    obtain ⟨ta, la⟩ := rise_tail ha
    obtain ⟨tb, lb⟩ := rise_tail hb
    have hx : look (y :: b) x.key = some x := by rw [← h]; exact look_self ha (List.mem_cons_self ..)
    have hy : look (x :: a) y.key = some y := by rw [h]; exact look_self hb (List.mem_cons_self ..)
    have hxy : x = y := by
      rcases List.mem_cons.1 (look_in hx).1 with e | hxb
      · exact e
      · rcases List.mem_cons.1 (look_in hy).1 with e | hya
        · exact e.symm
        · have h1 := lb x hxb
          have h2 := la y hya
          have := ltB_trans h1 h2
          rw [ltB_irrefl] at this; exact absurd this (by decide)
    subst hxy
    congr 1
    refine sto_ext ta tb fun key => ?_
    by_cases he : x.key = key
    · subst he
      rw [look_free fun z hz => (ltB_ne (la z hz)).symm, look_free fun z hz => (ltB_ne (lb z hz)).symm]
    · have := h key
      rwa [look_cons, look_cons, if_neg he, if_neg he] at this
/-- A look-up behind writes is the last write's, or what was there. -/
theorem lookW_app (a b : List Wr) (key : ByteArray) (d : Option Item) : lookW (a ++ b) key d = lookW b key (lookW a key d) := by unfold lookW; rw [List.foldl_append]
theorem lookW_free {ws : List Wr} {key : ByteArray} (h : ∀ x ∈ ws, x.key ≠ key) (d : Option Item) : lookW ws key d = d := by
  induction ws generalizing d with
  | nil => rfl
  | cons x ws ih =>
    show lookW ws key (if x.key = key then (if x.del = true then none else some ⟨x.key, x.val⟩) else d) = d
    rw [if_neg (h x (List.mem_cons_self ..))]
    exact ih (fun y hy => h y (List.mem_cons_of_mem _ hy)) d
theorem lookW_hit {ws : List Wr} {key : ByteArray} (h : ∃ x ∈ ws, x.key = key) (d d' : Option Item) : lookW ws key d = lookW ws key d' := by
  induction ws generalizing d d' with
  | nil => obtain ⟨x, hx, _⟩ := h; simp at hx
  | cons x ws ih =>
    show lookW ws key (if x.key = key then (if x.del = true then none else some ⟨x.key, x.val⟩) else d) = lookW ws key (if x.key = key then (if x.del = true then none else some ⟨x.key, x.val⟩) else d')
    by_cases e : x.key = key
    · rw [if_pos e, if_pos e]
    · rw [if_neg e, if_neg e]
      obtain ⟨y, hy, hk⟩ := h
      rcases List.mem_cons.1 hy with rfl | hy
      · exact absurd hk e
      · exact ih ⟨y, hy, hk⟩ d d'

end Go.Proofs.Ytkamlibfcakblaa

/- What is added to a place's notes, what a fall leaves, what is open, what is held, what is kept: in plain words. -/
namespace Go.Proofs.Ytkamlibfcakblaa
open Go.RowKit

/-- No notes. -/
def noDisk : Disk := ⟨[], 0⟩
/-- Behind DiskAdd. -/
def addOk (x : Disk) (n : Note) : Bool := diskB x && (noteB n && decide (x.notes.length < 120))
def addD (x : Disk) (n : Note) (safe : Bool) : Disk :=
  if diskB x = true ∧ noteB n = true then
    (if x.notes.length < 120 then ⟨x.notes ++ [n], if safe = true then ((x.notes.length : Int) + 1) else x.safe⟩ else x)
  else noDisk
theorem addD_bad {x : Disk} {n : Note} {b : Bool} (h : diskB x = false ∨ noteB n = false) : addD x n b = noDisk ∧ addOk x n = false := by
  unfold addD addOk
  rcases h with h | h <;> simp [h]
theorem addD_full {x : Disk} {n : Note} {b : Bool} (h1 : diskB x = true) (h2 : noteB n = true) (h3 : x.notes.length = 120) : addD x n b = x ∧ addOk x n = false := by
  unfold addD addOk
  simp [h1, h2, h3]
theorem addD_yes {x : Disk} {n : Note} {b : Bool} (h1 : diskB x = true) (h2 : noteB n = true) (h3 : x.notes.length < 120) : addD x n b = ⟨x.notes ++ [n], if b = true then ((x.notes.length : Int) + 1) else x.safe⟩ ∧ addOk x n = true := by
  unfold addD addOk
  simp [h1, h2, h3]
/-- How many a fall leaves. -/
def leftD (x : Disk) (keep : Int) : Nat := (x.safe + min (max keep 0) ((x.notes.length : Int) - x.safe)).toNat
def fallD (x : Disk) (keep : Int) : Disk := if diskB x = true then ⟨x.notes.take (leftD x keep), (leftD x keep : Int)⟩ else noDisk
theorem fallD_no {x : Disk} {k : Int} (h : diskB x = false) : fallD x k = noDisk := by unfold fallD; simp [h]
theorem fallD_yes {x : Disk} {k : Int} (h : diskB x = true) : fallD x k = ⟨x.notes.take (leftD x k), (leftD x k : Int)⟩ := by unfold fallD; simp [h]
theorem leftD_le {x : Disk} {k : Int} (h : diskB x = true) : leftD x k ≤ x.notes.length ∧ (leftD x k : Int) = x.safe + min (max k 0) ((x.notes.length : Int) - x.safe) := by
  obtain ⟨h1, h2, h3, -⟩ := diskB_parts h
  unfold leftD
  constructor <;> omega
/-- All notes of what is ok are small. -/
theorem noteB_small {n : Note} (h : noteB n = true) : n.locks.length ≤ 12 ∧ n.writes.length ≤ 12 ∧ (∀ y ∈ n.writes, y.val.length ≤ 3 ∧ y.key.size ≤ 3) ∧ ∀ s ∈ n.locks, s.size ≤ 3 := by
  unfold noteB at h
  simp only [Bool.and_eq_true] at h
  by_cases hk : n.kind = 1
  · rw [if_pos hk] at h
    obtain ⟨-, h1, h2⟩ := (by simpa only [Bool.and_eq_true] using h : _ ∧ _ ∧ _)
    unfold locksB at h1
    unfold wrsB at h2
    simp only [Bool.and_eq_true, decide_eq_true_iff, List.all_eq_true] at h1 h2
    refine ⟨h1.1, h2.1, fun y hy => ?_, fun s hs => keyB_le3 (h1.2 s hs)⟩
    have h3 := h2.2 y hy
    unfold lwB at h3
    simp only [Bool.and_eq_true] at h3
    exact ⟨(Wr.fine h3.1).2, (Wr.fine h3.1).1⟩
  · rw [if_neg hk] at h
    simp only [Bool.and_eq_true, decide_eq_true_iff] at h
    obtain ⟨-, -, h1, h2⟩ := h
    have e1 := List.length_eq_zero_iff.1 h1
    have e2 := List.length_eq_zero_iff.1 h2
    refine ⟨by omega, by omega, fun y hy => ?_, fun s hs => ?_⟩
    · rw [e2] at hy; cases hy
    · rw [e1] at hs; cases hs
theorem diskB_small {x : Disk} (h : diskB x = true) : x.notes.length ≤ 120 ∧ ∀ n ∈ x.notes, noteB n = true := by
  obtain ⟨h1, -, -, h4⟩ := diskB_parts h
  exact ⟨h1, fun n hn => List.all_eq_true.1 h4 n hn⟩
theorem diskB_no : diskB noDisk = true := by decide
theorem diskB_add {x : Disk} {n : Note} {b : Bool} : diskB (addD x n b) = true := by
  by_cases h1 : diskB x = true
  · by_cases h2 : noteB n = true
    · obtain ⟨p1, p2, p3, p4⟩ := diskB_parts h1
      by_cases h3 : x.notes.length < 120
      · rw [(addD_yes h1 h2 h3).1]
        unfold diskB
        simp only [List.length_append, List.length_cons, List.length_nil, List.all_append, p4, List.all_cons, h2, List.all_nil, Bool.and_true, Bool.and_eq_true, decide_eq_true_iff]
        refine ⟨by omega, ?_⟩
        unfold inB
        cases b <;> simp <;> omega
      · rw [(addD_full h1 h2 (by omega)).1]; exact h1
    · rw [(addD_bad (.inr (by simpa using h2))).1]; exact diskB_no
  · rw [(addD_bad (.inl (by simpa using h1))).1]; exact diskB_no
theorem diskB_fall {x : Disk} {k : Int} : diskB (fallD x k) = true := by
  by_cases h1 : diskB x = true
  · obtain ⟨p1, p2, p3, p4⟩ := diskB_parts h1
    obtain ⟨q1, q2⟩ := leftD_le (k := k) h1
    rw [fallD_yes h1]
    unfold diskB
    simp only [List.length_take, Nat.min_eq_left q1, Bool.and_eq_true, decide_eq_true_iff]
    refine ⟨by omega, ?_, ?_⟩
    · unfold inB; simp
    · rw [List.all_eq_true] at *
      exact fun n hn => p4 n (List.mem_of_mem_take hn)
  · rw [fallD_no (by simpa using h1)]; exact diskB_no

end Go.Proofs.Ytkamlibfcakblaa

/- The program's copy of a place's notes, its DiskAdd and its DiskFall. -/
namespace Go.Proofs.Ytkamlibfcakblaa
open Go.RowKit

theorem smallN {n : Note} (h : noteB n = true) : SmallN n := by
  obtain ⟨h1, h2, h3, -⟩ := noteB_small h
  exact ⟨by omega, by omega, fun y hy => by have := (h3 y hy).1; omega⟩
/-- Two cells of a block written. -/
abbrev put2 (w : World) (b : Nat) (b0 b1 : Value) : World := (w.setCell ⟨b, 0, none⟩ b0).setCell ⟨b, 1, none⟩ b1
theorem Held.put2 {w : World} {b : Nat} {a0 a1 : Value} (h : Held w b [a0, a1]) (b0 b1 : Value) : Held (Go.Proofs.Ytkamlibfcakblaa.put2 w b b0 b1) b [b0, b1] := (h.set_ (i := 0) b0).set_ (i := 1) b1
theorem belowPut2 {B : Nat} {w a : World} (h : Below B w a) (b : Nat) (hb : B ≤ b) (b0 b1 : Value) : Below B w (put2 a b b0 b1) := (h.setCell (p := ⟨b, 0, none⟩) hb b0).setCell (p := ⟨b, 1, none⟩) hb b1
theorem put2_far (w : World) (g : Nat) (b0 b1 : Value) {b : Nat} (h : b ≠ g) : (put2 w g b0 b1).heap[b]? = w.heap[b]? := by
  unfold put2
  rw [Below.heap_setCell _ _ _ _ h, Below.heap_setCell _ _ _ _ h]
theorem put2_size (w : World) (g : Nat) (b0 b1 : Value) : (put2 w g b0 b1).heap.size = w.heap.size := by simp [World.setCell]
/-- What is owned in blocks from some block on stays where a block ahead of them is written. -/
theorem own_put2 {w : World} {S : Nat → Prop} {u : Value} {xs : List Note} {g : Nat} (h : noteSh.Own 36 w S u xs) (hg : ∀ b, S b → b ≠ g) (b0 b1 : Value) : noteSh.Own 36 (put2 w g b0 b1) S u xs := h.keep fun b hb _ => put2_far _ _ _ _ (hg b hb)

set_option maxRecDepth 100000 in
set_option maxHeartbeats 1000000 in
theorem copyDisk_any (w : World) (cs : List Value) (x : Disk) (h : diskSh.rel w w.heap.size cs x) (hl : x.notes.length ≤ 1000000) (hsm : ∀ n ∈ x.notes, SmallN n) :
    Calls Try.prog 68 #[.agg cs.toArray] w (DiskMade x w) := by
  obtain ⟨u, rfl, hu⟩ := disk_rel.1 h
  obtain ⟨Au, cu, rfl, -, -⟩ := hu.form
  have HB := Lib.hid (belowTwo w (.cells #[.slice Au x.notes.length cu, .int .i64 x.safe] 25) (.cells #[.slice none 0 0, .int .i64 0] 25))
  have HX := Lib.hid ((Held.new w #[.slice Au x.notes.length cu, .int .i64 x.safe] 25).after (.cells #[.slice none 0 0, .int .i64 0] 25))
  have HR := Lib.hid (show Held ((w.alloc (.cells #[.slice Au x.notes.length cu, .int .i64 x.safe] 25)).alloc (.cells #[.slice none 0 0, .int .i64 0] 25)) (w.heap.size + 1) [.slice none 0 0, .int .i64 0] from by have h := Held.new (w.alloc (.cells #[.slice Au x.notes.length cu, .int .i64 x.safe] 25)) #[.slice none 0 0, .int .i64 0] 25; rwa [allocSize] at h)
  have HU := Lib.hid fun W (hb : Below w.heap.size w W) => (hu.below hb).more hb.size
  have HSm := Lib.hid hsm
  clear h hu hsm
  go_enter Try.func68, Try.ntmps68
  go_upto_region 1 with fail
  have hW2 : ((w.alloc (.cells #[.slice Au x.notes.length cu, .int .i64 x.safe] 25)).alloc (.cells #[.slice none 0 0, .int .i64 0] 25)).heap.size = w.heap.size + 1 + 1 := by simp
  generalize ((w.alloc (.cells #[.slice Au x.notes.length cu, .int .i64 x.safe] 25)).alloc (.cells #[.slice none 0 0, .int .i64 0] 25)) = W at *
  have HW2 := Lib.hid hW2
  clear hW2
  have k0 : W.drew.cell? ⟨w.heap.size, 0, none⟩ = some (.slice Au x.notes.length cu) ∧ W.drew.cell? ⟨w.heap.size, 1, none⟩ = some (.int .i64 x.safe) := ⟨HX.out.of 0 _ rfl, HX.out.of 1 _ rfl⟩
  refine region_l (S := (fun w' => w'.cell? ⟨w.heap.size, 0, none⟩ = some (.slice Au x.notes.length cu) ∧ w'.cell? ⟨w.heap.size, 1, none⟩ = some (.int .i64 x.safe))) 6 (by kernel_rfl) ?hSr (fun hHeldr => ?str)
  case hSr => (first | (dsimp only; (first | with_reducible exact k2 | with_reducible exact k1 | exact k0)) | (first | with_reducible exact k2 | with_reducible exact k1 | exact k0))
  refine take_l 0 3 (v := ?vr_1) rfl rfl (by kernel_rfl) (by kernel_rfl) (by kernel_rfl) (by kernel_rfl) (fun _ _ _ h => h) (by rfl) ?yr_1 (by assumption) ?rr_1
  case yr_1 => (intro w hSw; (try dsimp only at hSw); go_simp; (try with_reducible rfl))
  simp only [Act.put, List.setIfInBounds_toArray, List.set_cons_zero, List.set_cons_succ]
  refine take_l 1 4 (v := ?vr_2) rfl rfl (by kernel_rfl) (by kernel_rfl) (by kernel_rfl) (by kernel_rfl) (fun _ _ _ h => h) (by rfl) ?yr_2 (by assumption) ?rr_2
  case yr_2 => (intro w hSw; (try dsimp only at hSw); go_simp; (try with_reducible rfl))
  simp only [Act.put, List.setIfInBounds_toArray, List.set_cons_zero, List.set_cons_succ]
  refine take_l 3 6 (v := ?vr_3) rfl rfl (by kernel_rfl) (by kernel_rfl) (by kernel_rfl) (by kernel_rfl) (fun _ _ _ h => h) (by rfl) ?yr_3 (by assumption) ?rr_3
  case yr_3 => (intro w hSw; (try dsimp only at hSw); go_simp; (try with_reducible rfl))
  simp only [Act.put, List.setIfInBounds_toArray, List.set_cons_zero, List.set_cons_succ]
  refine take_l 4 7 (v := ?vr_4) rfl rfl (by kernel_rfl) (by kernel_rfl) (by kernel_rfl) (by kernel_rfl) (fun _ _ _ h => h) (by rfl) ?yr_4 (by assumption) ?rr_4
  case yr_4 => (intro w hSw; (try dsimp only at hSw); go_simp; (try with_reducible rfl))
  simp only [Act.put, List.setIfInBounds_toArray, List.set_cons_zero, List.set_cons_succ]
  refine one_l 2 rfl (by kernel_rfl) (fun Kr_5 hKr_5 => ?cr_5)
  go_simp
  refine (listOf_any W.drew _ x.notes (HU.out _ HB.out.drew)).mono ?_; rintro e w1 ⟨L, rfl, hR1, hb1⟩; have HB1 := Lib.hid (HB.out.drew.trans (hb1.mono HB.out.size)); have HX1 := Lib.hid (HX.out.onward hb1 rfl); have HR1 := Lib.hid (HR.out.onward hb1 rfl); have HRg := Lib.hid hR1; have k1 := And.intro (HX1.out.of 0 _ rfl) (HX1.out.of 1 _ rfl); clear hb1 hR1
  go_wp2_with fail
  refine hKr_5.out _ _ ?kr_5 (fun hHoldr_5 => ?dr_5)
  case kr_5 => (intro _; (first | (dsimp only; (first | with_reducible exact k2 | with_reducible exact k1 | exact k0)) | (first | with_reducible exact k2 | with_reducible exact k1 | exact k0)))
  clear hKr_5 Kr_5
  have hHeldr_5 := hHoldr_5 (by decide)
  clear hHoldr_5
  refine one_l 5 rfl (by kernel_rfl) (fun Kr_6 hKr_6 => ?cr_6)
  go_simp
  refine (disk_any w1 _ L x.notes x.safe HRg.out hl HSm.out).mono ?_; rintro e w2 ⟨cs2, rfl, ho2, hb2⟩; obtain ⟨u2, rfl, hu2⟩ := disk_own.1 ho2; obtain ⟨A2, c2, hf2, -, -⟩ := hu2.row.form; subst hf2; have HB2 := Lib.hid (belowNext HB1.out hb2); have HX2 := Lib.hid (HX1.out.below hb2 HX1.out.1); have HR2 := Lib.hid (HR1.out.below hb2 HR1.out.1); have k2 := And.intro (HX2.out.of 0 _ rfl) (HX2.out.of 1 _ rfl); have HO2 := Lib.hid hu2; have hw1 : w.heap.size + 1 < w1.heap.size := HR1.out.1; have r0 := HR2.out.of 0 _ rfl; have r1 := HR2.out.of 1 _ rfl; have rf := HR2.out.2.1; clear hb2 hu2 ho2
  go_wp2_with fail
  refine hKr_6.out _ _ ?kr_6 (fun hHoldr_6 => ?dr_6)
  case kr_6 => (intro _; (first | (dsimp only; (first | with_reducible exact k2 | with_reducible exact k1 | exact k0)) | (first | with_reducible exact k2 | with_reducible exact k1 | exact k0)))
  clear hKr_6 Kr_6
  have hHeldr_6 := hHoldr_6 (by decide)
  clear hHoldr_6
  refine one_l 6 rfl (by kernel_rfl) (fun Kr_7 hKr_7 => ?cr_7)
  go_simp
  skip
  go_wp2_with fail
  refine hKr_7.out _ _ ?kr_7 (fun hHoldr_7 => ?dr_7)
  case kr_7 => exact fun h => absurd rfl h
  clear hKr_7 Kr_7
  clear hHoldr_7
  refine done_l (by kernel_rfl) ?er _
  clear k0 k1 k2 r0 r1 rf
  go_wp2
  have HQ := HR2.out.put2 (.slice A2 x.notes.length c2) (.int .i64 x.safe)
  have q0 := HQ.of 0 _ rfl
  have q1 := HQ.of 1 _ rfl
  refine bodyPost_ret (v := .agg #[.slice A2 x.notes.length c2, .int .i64 x.safe]) (by simp only [results, Try.results68, go_sem]; simp [go_sem, q0, q1]) rfl ⟨_, rfl, disk_own.2 ⟨_, rfl, (own_put2 HO2.out (fun b hb => by have := hb.1; omega) _ _).mono fun b hb => ⟨by have := hb.1; omega, by rw [put2_size]; exact hb.2⟩⟩, belowPut2 HB2.out (w.heap.size + 1) (by omega) _ _⟩

/-- What DiskAdd answers: notes of its own, and whether one was added. -/
def AddMade (x : Disk) (n : Note) (safe : Bool) (w : World) (e : Ending) (w' : World) : Prop :=
  ∃ cs, e = .returned (.tuple #[.agg cs.toArray, .bool (addOk x n)]) ∧ diskSh.own w' (fun b => w.heap.size ≤ b ∧ b < w'.heap.size) cs (addD x n safe) ∧ Below w.heap.size w w'

set_option maxRecDepth 100000 in
set_option maxHeartbeats 2000000 in
theorem implDiskAdd_any (w : World) (cs ds : List Value) (x : Disk) (n : Note) (safe : Bool) (h : diskSh.rel w w.heap.size cs x) (hn : noteSh.rel w w.heap.size ds n) :
    Calls Try.prog 17 #[.agg cs.toArray, .agg ds.toArray, .bool safe] w (AddMade x n safe w) := by
  have HV := Lib.hid fun W (hb : Below w.heap.size w W) => diskSh.rmore (diskSh.rbelow h hb) hb.size
  have HN := Lib.hid fun W (hb : Below w.heap.size w W) => noteSh.rmore (noteSh.rbelow hn hb) hb.size
  have HN0 := Lib.hid fun W (hb : Below w.heap.size w W) => noteSh.rbelow hn hb
  obtain ⟨u, rfl, hu⟩ := disk_rel.1 h
  obtain ⟨Au, cu, rfl, -, -⟩ := hu.form
  obtain ⟨a, b, rfl, ha, hb⟩ := note_rel.1 hn
  obtain ⟨Bu, bu, rfl, -, -⟩ := ha.form
  obtain ⟨Bv, bv, rfl, -, -⟩ := hb.form
  have HU := Lib.hid fun W (hb : Below w.heap.size w W) => (hu.below hb).more hb.size
  have HB := Lib.hid (belowThree w (.cells #[.slice Au x.notes.length cu, .int .i64 x.safe] 25) (.cells #[.int .i64 n.kind, .int .i64 n.tx, .slice Bu n.locks.length bu, .slice Bv n.writes.length bv] 36) (.cells #[.slice none 0 0, .int .i64 0] 25))
  have HX := Lib.hid (((Held.new w #[.slice Au x.notes.length cu, .int .i64 x.safe] 25).after (.cells #[.int .i64 n.kind, .int .i64 n.tx, .slice Bu n.locks.length bu, .slice Bv n.writes.length bv] 36)).after (.cells #[.slice none 0 0, .int .i64 0] 25))
  have HY := Lib.hid (show Held (((w.alloc (.cells #[.slice Au x.notes.length cu, .int .i64 x.safe] 25)).alloc (.cells #[.int .i64 n.kind, .int .i64 n.tx, .slice Bu n.locks.length bu, .slice Bv n.writes.length bv] 36)).alloc (.cells #[.slice none 0 0, .int .i64 0] 25)) (w.heap.size + 1) [.int .i64 n.kind, .int .i64 n.tx, .slice Bu n.locks.length bu, .slice Bv n.writes.length bv] from (by have h := Held.new (w.alloc (.cells #[.slice Au x.notes.length cu, .int .i64 x.safe] 25)) #[.int .i64 n.kind, .int .i64 n.tx, .slice Bu n.locks.length bu, .slice Bv n.writes.length bv] 36; rw [allocSize] at h; exact h.after _))
  have HR := Lib.hid (show Held (((w.alloc (.cells #[.slice Au x.notes.length cu, .int .i64 x.safe] 25)).alloc (.cells #[.int .i64 n.kind, .int .i64 n.tx, .slice Bu n.locks.length bu, .slice Bv n.writes.length bv] 36)).alloc (.cells #[.slice none 0 0, .int .i64 0] 25)) (w.heap.size + 1 + 1) [.slice none 0 0, .int .i64 0] from by have h := Held.new ((w.alloc (.cells #[.slice Au x.notes.length cu, .int .i64 x.safe] 25)).alloc (.cells #[.int .i64 n.kind, .int .i64 n.tx, .slice Bu n.locks.length bu, .slice Bv n.writes.length bv] 36)) #[.slice none 0 0, .int .i64 0] 25; rwa [allocSize, allocSize] at h)
  clear h hn hu ha hb
  go_enter Try.func17, Try.ntmps17
  go_wp2_with fail
  refine (implDiskOk_any _ _ x (HV.out _ HB.out)).mono ?_
  rintro e w1 ⟨rfl, hb⟩
  replace HB := Lib.hid (belowNext HB.out hb)
  replace HX := Lib.hid (HX.out.below hb HX.out.1)
  replace HY := Lib.hid (HY.out.below hb HY.out.1)
  replace HR := Lib.hid (HR.out.below hb HR.out.1)
  clear hb
  cases hd : diskB x with
  | false =>
    obtain ⟨e1, e2⟩ := addD_bad (b := safe) (.inl hd : diskB x = false ∨ noteB n = false)
    have HE := Lib.hid (And.intro e1 e2)
    clear hd e1 e2
    have r0 := HR.out.of 0 _ rfl
    have r1 := HR.out.of 1 _ rfl
    have rf := HR.out.2.1
    go_wp2
    have HQ := HR.out.put2 (.slice none 0 0) (.int .i64 0)
    have q0 := HQ.of 0 _ rfl
    have q1 := HQ.of 1 _ rfl
    refine bodyPost_ret (v := .tuple #[.agg #[.slice none 0 0, .int .i64 0], .bool false]) (by simp only [results, Try.results17, go_sem]; simp [go_sem, q0, q1]) rfl ⟨_, by rw [HE.out.2], by rw [HE.out.1]; exact disk_own.2 ⟨_, rfl, Sh.Own.nil _ _⟩, belowPut2 HB.out (w.heap.size + 1 + 1) (by omega) _ _⟩
  | true =>
    have y0 := HY.out.of 0 _ rfl
    have y1 := HY.out.of 1 _ rfl
    have y2 := HY.out.of 2 _ rfl
    have y3 := HY.out.of 3 _ rfl
    go_wp2_with fail
    clear y0 y1 y2 y3
    refine (implNoteOk_any _ _ n (HN.out _ HB.out)).mono ?_
    rintro e w2 ⟨rfl, hb⟩
    replace HB := Lib.hid (belowNext HB.out hb)
    replace HX := Lib.hid (HX.out.below hb HX.out.1)
    replace HY := Lib.hid (HY.out.below hb HY.out.1)
    replace HR := Lib.hid (HR.out.below hb HR.out.1)
    clear hb
    cases hnb : noteB n with
    | false =>
      obtain ⟨e1, e2⟩ := addD_bad (b := safe) (.inr hnb : diskB x = false ∨ noteB n = false)
      have HE := Lib.hid (And.intro e1 e2)
      clear hd hnb e1 e2
      have r0 := HR.out.of 0 _ rfl
      have r1 := HR.out.of 1 _ rfl
      have rf := HR.out.2.1
      go_wp2
      have HQ := HR.out.put2 (.slice none 0 0) (.int .i64 0)
      have q0 := HQ.of 0 _ rfl
      have q1 := HQ.of 1 _ rfl
      refine bodyPost_ret (v := .tuple #[.agg #[.slice none 0 0, .int .i64 0], .bool false]) (by simp only [results, Try.results17, go_sem]; simp [go_sem, q0, q1]) rfl ⟨_, by rw [HE.out.2], by rw [HE.out.1]; exact disk_own.2 ⟨_, rfl, Sh.Own.nil _ _⟩, belowPut2 HB.out (w.heap.size + 1 + 1) (by omega) _ _⟩
    | true =>
      obtain ⟨hl, hall⟩ := diskB_small hd
      have HSm := Lib.hid fun m hm => smallN (hall m hm)
      have HSn := Lib.hid (smallN hnb)
      have HD := Lib.hid hd
      have HNb := Lib.hid hnb
      clear hd hnb hall
      have x0 := HX.out.of 0 _ rfl
      by_cases hfull : x.notes.length = 120
      · obtain ⟨e1, e2⟩ := addD_full (b := safe) HD.out HNb.out hfull
        have HE := Lib.hid (And.intro e1 e2)
        have hi : ((x.notes.length : Int) == 120) = true := by simp [hfull]
        clear e1 e2 hfull
        have x1 := HX.out.of 1 _ rfl
        go_wp2_with fail
        clear x0 x1
        refine (copyDisk_any _ _ x (HV.out _ HB.out) (by omega) HSm.out).mono ?_
        rintro e w3 ⟨cs3, rfl, ho3, hb⟩
        obtain ⟨u3, rfl, hu3⟩ := disk_own.1 ho3
        obtain ⟨A3, c3, hf3, -, -⟩ := hu3.row.form
        subst hf3
        have hw2 : w.heap.size + 1 + 1 < w2.heap.size := HR.out.1
        have HO := Lib.hid hu3
        replace HB := Lib.hid (belowNext HB.out hb)
        replace HR := Lib.hid (HR.out.below hb HR.out.1)
        clear hb ho3 hu3 HX HY
        have r0 := HR.out.of 0 _ rfl
        have r1 := HR.out.of 1 _ rfl
        have rf := HR.out.2.1
        go_wp2
        have HQ := HR.out.put2 (.slice A3 x.notes.length c3) (.int .i64 x.safe)
        have q0 := HQ.of 0 _ rfl
        have q1 := HQ.of 1 _ rfl
        refine bodyPost_ret (v := .tuple #[.agg #[.slice A3 x.notes.length c3, .int .i64 x.safe], .bool false]) (by simp only [results, Try.results17, go_sem]; simp [go_sem, q0, q1]) rfl ⟨_, by rw [HE.out.2], ?_, belowPut2 HB.out (w.heap.size + 1 + 1) (by omega) _ _⟩
        rw [HE.out.1]
        exact disk_own.2 ⟨_, rfl, (own_put2 HO.out (fun b hb => by have := hb.1; omega) _ _).mono fun b hb => ⟨by have := hb.1; omega, by rw [put2_size]; exact hb.2⟩⟩
      · have hlt : x.notes.length < 120 := by omega
        obtain ⟨e1, e2⟩ := addD_yes (b := safe) HD.out HNb.out hlt
        have HE := Lib.hid (And.intro e1 e2)
        have hi : ((x.notes.length : Int) == 120) = false := by simp; omega
        clear e1 e2 hfull
        go_wp2_with fail
        clear x0
        refine (listOf_any _ _ x.notes (HU.out _ HB.out)).mono ?_
        rintro e w3 ⟨L, rfl, hR3, hb⟩
        have hw2 : w.heap.size + 1 + 1 < w2.heap.size := HR.out.1
        have HL := Lib.hid (hR3.onward (belowOne w3 (.cells #[ptr (at_ L 0)] 79)))
        have HLo := Lib.hid hR3.lo
        have HLt := Lib.hid hR3.lt
        have HLn := Lib.hid hR3.len
        have HM := Lib.hid (Held.new w3 #[ptr (at_ L 0)] 79)
        have hz3 := hb.size
        replace HB := Lib.hid ((belowNext HB.out hb).alloc (belowNext HB.out hb).size (.cells #[ptr (at_ L 0)] 79))
        replace HX := Lib.hid ((HX.out.below hb HX.out.1).after (.cells #[ptr (at_ L 0)] 79))
        replace HY := Lib.hid ((HY.out.below hb HY.out.1).after (.cells #[ptr (at_ L 0)] 79))
        replace HR := Lib.hid ((HR.out.below hb HR.out.1).after (.cells #[ptr (at_ L 0)] 79))
        clear hb hR3
        have y0 := HY.out.of 0 _ rfl
        have y1 := HY.out.of 1 _ rfl
        have y2 := HY.out.of 2 _ rfl
        have y3 := HY.out.of 3 _ rfl
        have HA := Lib.hid (add_any (w3.alloc (.cells #[ptr (at_ L 0)] 79)) w2.heap.size L x.notes [.int .i64 n.kind, .int .i64 n.tx, .slice Bu n.locks.length bu, .slice Bv n.writes.length bv] n HL.out (noteSh.rmore (HN0.out _ HB.out) (by omega)))
        unfold ptr at *
        go_wp2_with fail
        clear y0 y1 y2 y3
        refine HA.out.mono ?_
        rintro e w4 ⟨⟨v4, rfl⟩, b4, hb4, hR4, ho4⟩
        have hL0 : 0 < L.length := by have := HLn.out; omega
        have hlo : ∀ q, q < w2.heap.size → ¬ InRing L q := fun q hq ⟨i, hi, e⟩ => by have := HLo.out i hi; omega
        have hhi : ¬ InRing L w3.heap.size := fun ⟨i, hi, e⟩ => by have := HLt.out i hi; omega
        have HD4 := Lib.hid fun k (hR : Ring w4 w2.heap.size (L ++ [b4]) (x.notes ++ [n])) => disk_any w4 w2.heap.size (L ++ [b4]) (x.notes ++ [n]) k hR
        rw [at_left hL0] at HD4
        have HSm4 := Lib.hid (show ∀ m ∈ x.notes ++ [n], SmallN m from fun m hm => by
          rcases List.mem_append.1 hm with h1 | h1
          · exact HSm.out m h1
          · rw [List.mem_singleton.1 h1]; exact HSn.out)
        have HM4 := Lib.hid (HM.out.outs ho4 hhi)
        have HX4 := Lib.hid (HX.out.outs ho4 (hlo _ (by omega)))
        have HR4 := Lib.hid (HR.out.outs ho4 (hlo _ (by omega)))
        have HRg := Lib.hid hR4
        have hw4 := ho4.size
        rw [allocSize] at hw4
        have HB4 := Lib.hid (HB.out.trans (ho4.below (B := w.heap.size) (by rw [allocSize]; omega) (fun i ⟨j, hj, e⟩ => by have := HLo.out j hj; omega)))
        clear HM HX HR HB HA HL HLo HLt hb4 hR4 ho4 hlo hhi
        unfold ptr at HD4 HM4
        have m0 := HM4.out.of 0 _ rfl
        have x0 := HX4.out.of 0 _ rfl
        have x1 := HX4.out.of 1 _ rfl
        have hlp : (x.notes ++ [n]).length ≤ 1000000 := by simp; omega
        cases safe with
        | true =>
          go_wp2_with fail
          clear m0 x0 x1
          refine (HD4.out _ HRg.out hlp HSm4.out).mono ?_
          rintro e w5 ⟨cs5, rfl, ho5, hb⟩
          obtain ⟨u5, rfl, hu5⟩ := disk_own.1 ho5
          obtain ⟨A5, c5, hf5, -, -⟩ := hu5.row.form
          rw [List.length_append, List.length_singleton] at hf5
          subst hf5
          have HO := Lib.hid hu5
          replace HB4 := Lib.hid (belowNext HB4.out hb)
          replace HR4 := Lib.hid (HR4.out.below hb HR4.out.1)
          clear hb ho5 hu5
          have r0 := HR4.out.of 0 _ rfl
          have r1 := HR4.out.of 1 _ rfl
          have rf := HR4.out.2.1
          go_wp2
          have HQ := HR4.out.put2 (.slice A5 (x.notes.length + 1) c5) (.int .i64 ((x.notes.length : Int) + 1))
          have q0 := HQ.of 0 _ rfl
          have q1 := HQ.of 1 _ rfl
          refine bodyPost_ret (v := .tuple #[.agg #[.slice A5 (x.notes.length + 1) c5, .int .i64 ((x.notes.length : Int) + 1)], .bool true]) (by simp only [results, Try.results17, go_sem]; simp [go_sem, q0, q1]) rfl ⟨_, by rw [HE.out.2], ?_, belowPut2 HB4.out (w.heap.size + 1 + 1) (by omega) _ _⟩
          rw [HE.out.1]
          exact disk_own.2 ⟨_, rfl, (own_put2 HO.out (fun b hb => by have := hb.1; omega) _ _).mono fun b hb => ⟨by have := hb.1; omega, by rw [put2_size]; exact hb.2⟩⟩
        | false =>
          go_wp2_with fail
          clear m0 x0 x1
          refine (HD4.out _ HRg.out hlp HSm4.out).mono ?_
          rintro e w5 ⟨cs5, rfl, ho5, hb⟩
          obtain ⟨u5, rfl, hu5⟩ := disk_own.1 ho5
          obtain ⟨A5, c5, hf5, -, -⟩ := hu5.row.form
          rw [List.length_append, List.length_singleton] at hf5
          subst hf5
          have HO := Lib.hid hu5
          replace HB4 := Lib.hid (belowNext HB4.out hb)
          replace HR4 := Lib.hid (HR4.out.below hb HR4.out.1)
          clear hb ho5 hu5
          have r0 := HR4.out.of 0 _ rfl
          have r1 := HR4.out.of 1 _ rfl
          have rf := HR4.out.2.1
          go_wp2
          have HQ := HR4.out.put2 (.slice A5 (x.notes.length + 1) c5) (.int .i64 x.safe)
          have q0 := HQ.of 0 _ rfl
          have q1 := HQ.of 1 _ rfl
          refine bodyPost_ret (v := .tuple #[.agg #[.slice A5 (x.notes.length + 1) c5, .int .i64 x.safe], .bool true]) (by simp only [results, Try.results17, go_sem]; simp [go_sem, q0, q1]) rfl ⟨_, by rw [HE.out.2], ?_, belowPut2 HB4.out (w.heap.size + 1 + 1) (by omega) _ _⟩
          rw [HE.out.1]
          exact disk_own.2 ⟨_, rfl, (own_put2 HO.out (fun b hb => by have := hb.1; omega) _ _).mono fun b hb => ⟨by have := hb.1; omega, by rw [put2_size]; exact hb.2⟩⟩

end Go.Proofs.Ytkamlibfcakblaa
