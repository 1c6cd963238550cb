/- Texts that follow each other, merged: PlayNoted, PlayIn, PlayMay, PlayCode, PlayFam, PlayWay. -/
import Derived.Test.YtmbkhohgciakfaaXPlay

/- What was done is noted: plain facts of plays. -/
namespace Go.Proofs.Ytmbkhohgciakfaa
open Go.RowKit

/-- How many were so. -/
def cntT (bs : List Bool) : Nat := (bs.filter fun b => b).length
theorem cntT_snoc (bs : List Bool) (b : Bool) : cntT (bs ++ [b]) = cntT bs + (if b = true then 1 else 0) := by
  unfold cntT; rw [List.filter_append, List.length_append]; cases b <;> rfl
theorem cntT_take {bs : List Bool} {k : Nat} {b : Bool} (h : bs[k]? = some b) : cntT (bs.take (k + 1)) = cntT (bs.take k) + (if b = true then 1 else 0) := by
  rw [List.take_add_one, h]
  exact cntT_snoc _ _
/-- What the place that keeps what was done keeps. -/
structure Noted (k n : Nat) (c : List Item) : Prop where
  len : c.length = n
  val : ∀ x ∈ c, ∃ m, x.val = [m] ∧ 1 ≤ m ∧ m ≤ 5
  key : ∀ x ∈ c, ∃ j : Nat, j < k ∧ x.key = keyN 97 (j : Int)
theorem Noted.fresh {k n : Nat} {c : List Item} (h : Noted k n c) (hk : k ≤ 29) : lookOk c (keyN 97 (k : Int)) = false := by
  cases hl : look c (keyN 97 (k : Int)) with
  | none => exact lookOk_none hl
  | some x =>
    obtain ⟨h1, h2⟩ := look_in hl
    obtain ⟨j, hj, e⟩ := h.key x h1
    rw [e] at h2
    have := keyT_inj (by omega) (by omega) (by omega) (by omega) h2
    omega
theorem done_is (c : List Item) (tx : Int) (o : Op) : planP c 3 tx o = doneP c tx o := by simp [planP]
theorem Noted.ok {k n : Nat} {c : List Item} (h : Noted k n c) (hk : k ≤ 29) (o : Op) : mayP c 3 (k : Int) o = true := by
  unfold mayP
  rw [done_is]
  unfold doneP
  rw [h.fresh hk]
  simp
theorem Noted.step {k n : Nat} {c : List Item} {o : Op} (h : Noted k n c) (hk : k ≤ 29) (hp : plcB 3 c = true) (ho : opB o = true) (hl : c.length ≤ 38) : Noted (k + 1) (n + 1) (stepP c 3 (k : Int) o) := by
  have hs := (plc_parts hp).1
  have hf := h.fresh hk
  have e3 : hereB o.kind 3 = true := by simp [hereB]
  have hok : (⟨keyN 97 (k : Int), false, [o.kind]⟩ : Wr).ok = true := by
    have hk := opK_kind ho
    exact wr_ok (keyB_keyN (by omega) (by omega)).1 (by simp) (by simp) (by simp; omega)
  have e : stepP c 3 (k : Int) o = wAll (keyN 97 (k : Int)) false [o.kind] c := by
    unfold stepP
    rw [if_pos e3, done_is]
    unfold doneP
    rw [hf, if_neg (by decide)]
    refine sto_of hs ?_
    exact (stoStep hs hok (by omega)).1
  obtain ⟨f1, f2, f3, f4⟩ := wAll_facts (wk := keyN 97 (k : Int)) (wv := [o.kind]) (stoB_three hs).2.2 false
  unfold lookOk at hf
  rw [hf] at f3
  rw [e]
  refine ⟨by have := h.len; simp at f3; omega, fun x hx => ?_, fun x hx => ?_⟩
  · rcases f4 x hx with h' | ⟨-, rfl⟩
    · exact h.val x h'
    · exact ⟨o.kind, rfl, by have := opK_kind ho; omega, by have := opK_kind ho; omega⟩
  · rcases f4 x hx with h' | ⟨-, rfl⟩
    · obtain ⟨j, hj, e⟩ := h.key x h'
      exact ⟨j, by omega, e⟩
    · exact ⟨k, by omega, rfl⟩
/-- Behind each thing: what all places keep, with what is noted. -/
structure PlayAt (os : List Op) (k : Nat) (a b c : List Item) : Prop where
  is : (playTo os k).1 = [⟨a⟩, ⟨b⟩, ⟨c⟩]
  ok : gloB [⟨a⟩, ⟨b⟩, ⟨c⟩] = true
  la : a.length ≤ k
  lb : b.length ≤ k
  lc : c.length ≤ k
  noted : Noted k (cntT (playTo os k).2) c
section
variable {os : List Op} {k : Nat} {a b c : List Item} {o : Op}
theorem PlayAt.do_ (h : PlayAt os k a b c) (ho : opB o = true) (hk : k ≤ 29) : gloDo (playTo os k).1 k o = (if (mayP a 1 k o && mayP b 2 k o) = true then [⟨stepP a 1 k o⟩, ⟨stepP b 2 k o⟩, ⟨stepP c 3 k o⟩] else [⟨a⟩, ⟨b⟩, ⟨c⟩], mayP a 1 k o && mayP b 2 k o) := by
  rw [h.is, gloDo_three h.ok ho (inB_yes (by omega) (by omega))]
  unfold gloMay
  rw [h.noted.ok hk o, Bool.and_true]
theorem PlayAt.start : PlayAt os 0 [] [] [] := ⟨rfl, newG_ok, Nat.le_refl _, Nat.le_refl _, Nat.le_refl _, rfl, fun _ h => absurd h (by simp), fun _ h => absurd h (by simp)⟩
theorem PlayAt.no (h : PlayAt os k a b c) (hx : os[k]? = some o) (hd : (gloDo (playTo os k).1 k o).2 = false) : PlayAt os (k + 1) a b c := by
  refine ⟨by rw [playTo_no hx hd]; exact h.is, h.ok, Nat.le_succ_of_le h.la, Nat.le_succ_of_le h.lb, Nat.le_succ_of_le h.lc, ?_, h.noted.val, fun x hx => ?_⟩
  · rw [playTo_done hx, cntT_snoc, hd]; exact h.noted.len
  · obtain ⟨j, hj, e⟩ := h.noted.key x hx
    exact ⟨j, by omega, e⟩
theorem PlayAt.yes (h : PlayAt os k a b c) (hx : os[k]? = some o) (ho : opB o = true) (hk : k ≤ 29) (hd : (gloDo (playTo os k).1 k o).2 = true) : (gloDo (playTo os k).1 k o).1 = [⟨stepP a 1 k o⟩, ⟨stepP b 2 k o⟩, ⟨stepP c 3 k o⟩] ∧ PlayAt os (k + 1) (stepP a 1 k o) (stepP b 2 k o) (stepP c 3 k o) := by
  have hdo := h.do_ ho hk
  have hm : (mayP a 1 k o && mayP b 2 k o) = true := by rw [hdo] at hd; exact hd
  have e : (gloDo (playTo os k).1 k o).1 = [⟨stepP a 1 k o⟩, ⟨stepP b 2 k o⟩, ⟨stepP c 3 k o⟩] := by rw [hdo, if_pos hm]
  obtain ⟨s1, s2, s3, s4⟩ := glo_step (k := k) (tx := (k : Int)) h.ok ho (inB_yes (by omega) (by omega)) h.la h.lb h.lc (by omega)
  refine ⟨e, by rw [playTo_yes hx hd, e], s1, s2, s3, s4, ?_⟩
  have := h.noted.step hk (gloB_parts h.ok).2.2 ho (by have := h.lc; omega)
  rw [playTo_done hx, cntT_snoc, hd]
  exact this
theorem play_at (hall : ∀ o ∈ os, opB o = true) (hl : os.length ≤ 29) : ∀ k, k ≤ os.length → ∃ a b c, PlayAt os k a b c
  | 0, _ => ⟨[], [], [], PlayAt.start⟩
  | k + 1, hk => by
    obtain ⟨a, b, c, h⟩ := play_at hall hl k (by omega)
    have hx := List.getElem?_eq_getElem (show k < os.length by omega)
    cases hd : (gloDo (playTo os k).1 k os[k]).2 with
    | false => exact ⟨a, b, c, h.no hx hd⟩
    | true => exact ⟨_, _, _, (h.yes hx (hall _ (List.mem_of_getElem? hx)) (by omega) hd).2⟩
end

end Go.Proofs.Ytmbkhohgciakfaa

/- Who is in, behind a play: plain facts. -/
namespace Go.Proofs.Ytmbkhohgciakfaa
open Go.RowKit

/-- Who is in by a number; below nought where nobody is. -/
def inOf (a : List Item) (i : Int) : Int := if lookOk a (keyN 115 i) = true then nth (lookV a (keyN 115 i)) 0 else -1
def insOf (a : List Item) : List Int := (List.range 10).map fun (i : Nat) => inOf a (i : Int)
def intsV (xs : List Int) : List Value := xs.map (.int .i64 ·)
theorem intsV_set (xs : List Int) (i : Nat) (y : Int) : (intsV xs).set i (.int .i64 y) = intsV (xs.set i y) := by unfold intsV; rw [List.map_set]
theorem intsV_at {xs : List Int} {i : Nat} {x : Int} (h : xs[i]? = some x) : (intsV xs)[i]? = some (.int .i64 x) := by unfold intsV; rw [List.getElem?_map, h]; rfl
theorem insOf_at (a : List Item) {i : Nat} (h : i < 10) : (insOf a)[i]? = some (inOf a (i : Int)) := by
  unfold insOf; rw [List.getElem?_map, List.getElem?_range h]; rfl
/-- The first k places are set. -/
def midI (k : Nat) : List Int := (List.range 10).map fun (i : Nat) => if i < k then -1 else 0
theorem midI_at {k i : Nat} (h : i < 10) : (midI k)[i]? = some (if i < k then -1 else 0) := by
  unfold midI; rw [List.getElem?_map, List.getElem?_range h]; rfl
theorem midI_step' : ∀ k : Fin 10, (midI k.val).set k.val (-1) = midI (k.val + 1) := by decide
theorem midI_step {k : Nat} (h : k < 10) : (midI k).set k (-1) = midI (k + 1) := midI_step' ⟨k, h⟩
theorem midI_end : midI 10 = insOf [] := by decide
theorem ins_set {a a' : List Item} {n : Nat} {v : Int} (he : ∀ i : Nat, i < 10 → inOf a' (i : Int) = if n = i then v else inOf a (i : Int)) : insOf a' = (insOf a).set n v := by
  refine List.ext_getElem? fun i => ?_
  rw [List.getElem?_set]
  by_cases h : i < 10
  · rw [insOf_at a' h, insOf_at a h, he i h]
    have hl : (insOf a).length = 10 := by simp [insOf]
    rw [hl]
    by_cases e : n = i
    · subst e; rw [if_pos rfl, if_pos rfl, if_pos h]
    · rw [if_neg e, if_neg e]
  · have h1 : (insOf a')[i]? = none := List.getElem?_eq_none (by simp [insOf]; omega)
    have h2 : (insOf a)[i]? = none := List.getElem?_eq_none (by simp [insOf]; omega)
    have hl : (insOf a).length = 10 := by simp [insOf]
    rw [h1, h2, hl]
    by_cases e : n = i
    · rw [if_pos e, if_neg (by omega)]
    · rw [if_neg e]
theorem ins_same {a a' : List Item} (he : ∀ i : Nat, i < 10 → look a' (keyN 115 (i : Int)) = look a (keyN 115 (i : Int))) : insOf a' = insOf a := by
  unfold insOf
  refine List.map_congr_left fun i hi => ?_
  have := he i (by simpa using hi)
  unfold inOf lookOk lookV
  rw [this]
theorem in_found {its : List Item} {n : Int} (hp : plcB 1 its = true) (h : lookOk its (keyN 115 n) = true) : 0 ≤ nth (lookV its (keyN 115 n)) 0 := by
  obtain ⟨hs, hf⟩ := plc_parts hp
  have h1 := look_form hf h
  have h2 := itemB_parts (look_item hs h)
  dsimp only at h2
  rw [itP1, decide_eq_true_iff] at h1
  have := h2.2.2.2.2 0 (by omega)
  omega
theorem inOf_neg {a : List Item} {n : Int} (hp : plcB 1 a = true) : decide (inOf a n < 0) = !lookOk a (keyN 115 n) := by
  unfold inOf
  cases h : lookOk a (keyN 115 n) with
  | true =>
    have := in_found hp h
    rw [if_pos rfl]
    simp; omega
  | false => rw [if_neg (by decide)]; decide
theorem inOf_mine {a : List Item} {o : Op} (hw : 0 ≤ o.who) : mineB a o = decide (inOf a o.inn = o.who) := by
  unfold mineB inOf
  cases h : lookOk a (keyN 115 o.inn) with
  | true => rw [if_pos rfl, Bool.true_and]; rfl
  | false =>
    rw [if_neg (by decide), Bool.false_and]
    have : ¬ ((-1 : Int) = o.who) := by omega
    simp [this]
section
variable {os : List Op} {k : Nat} {a b c : List Item} {o : Op}
theorem may11 (h : o.kind = 1) (tx : Int) : mayP a 1 tx o = !lookOk a (keyN 115 o.inn) := by
  simp only [mayP, hereB, planP, inP1, h, noP]
  cases lookOk a (keyN 115 o.inn) <;> simp
theorem may21 (h : o.kind = 1) (tx : Int) : mayP b 2 tx o = true := by simp [mayP, hereB, h]
theorem may12 (h : o.kind = 2) (tx : Int) : mayP a 1 tx o = mineB a o := by simp [mayP, hereB, planP, inP2, h]
theorem may15 (h : o.kind = 5) (tx : Int) : mayP a 1 tx o = mineB a o := by
  simp only [mayP, hereB, planP, inP5, h, noP]
  cases mineB a o <;> simp
theorem may25 (h : o.kind = 5) (tx : Int) : mayP b 2 tx o = true := by simp [mayP, planP, mayP5, h]
theorem PlayAt.in1 (h : PlayAt os k a b c) (ho : opB o = true) (hk : k ≤ 29) (h1 : o.kind = 1) : (gloDo (playTo os k).1 k o).2 = decide (inOf a o.inn < 0) := by
  rw [h.do_ ho hk]
  show (mayP a 1 k o && mayP b 2 k o) = _
  rw [may11 h1, may21 h1, inOf_neg (gloB_parts h.ok).1, Bool.and_true]
theorem PlayAt.in2 (h : PlayAt os k a b c) (ho : opB o = true) (hk : k ≤ 29) (h1 : o.kind = 2) (hd : (gloDo (playTo os k).1 k o).2 = true) : inOf a o.inn = o.who := by
  rw [h.do_ ho hk] at hd
  have : (mayP a 1 k o && mayP b 2 k o) = true := hd
  rw [may12 h1, inOf_mine (opB_parts ho).1] at this
  simp only [Bool.and_eq_true, decide_eq_true_iff] at this
  exact this.1
theorem PlayAt.in5 (h : PlayAt os k a b c) (ho : opB o = true) (hk : k ≤ 29) (h1 : o.kind = 5) : (gloDo (playTo os k).1 k o).2 = decide (inOf a o.inn = o.who) := by
  rw [h.do_ ho hk]
  show (mayP a 1 k o && mayP b 2 k o) = _
  rw [may15 h1, may25 h1, inOf_mine (opB_parts ho).1, Bool.and_true]
theorem PlayAt.look1 (h : PlayAt os k a b c) (ho : opB o = true) (hk : k ≤ 29) (hh : hereB o.kind 1 = true) (key : ByteArray) : look (stepP a 1 k o) key = lookW (planP a 1 k o).writes key (look a key) := by
  unfold stepP
  rw [if_pos hh]
  exact (step_facts (.inl rfl) (gloB_parts h.ok).1 ho (inB_yes (by omega) (by omega)) (by have := h.la; omega)).2.2 key
theorem PlayAt.step1 (h : PlayAt os k a b c) (ho : opB o = true) (hk : k ≤ 29) (h1 : o.kind = 1) (hd : inOf a o.inn < 0) : insOf (stepP a 1 k o) = (insOf a).set o.inn.toNat o.who := by
  have hf : lookOk a (keyN 115 o.inn) = false := by
    have := inOf_neg (n := o.inn) (gloB_parts h.ok).1
    rw [decide_eq_true hd] at this
    simpa using this.symm
  have hw : (planP a 1 k o).writes = [⟨keyN 115 o.inn, false, [o.who]⟩] := by simp [planP, h1, inP1, hf]
  have hb := opB_parts ho
  refine ins_set fun i hi => ?_
  have hl := h.look1 ho hk (by rw [h1]; decide) (keyN 115 (i : Int))
  rw [hw] at hl
  have hl' : look (stepP a 1 k o) (keyN 115 (i : Int)) = if keyN 115 o.inn = keyN 115 (i : Int) then some ⟨keyN 115 o.inn, [o.who]⟩ else look a (keyN 115 (i : Int)) := hl
  by_cases e : o.inn.toNat = i
  · have e' : o.inn = (i : Int) := by omega
    rw [if_pos (by rw [e'])] at hl'
    rw [if_pos e]
    unfold inOf lookOk lookV
    rw [hl']; rfl
  · have e' : keyN 115 o.inn ≠ keyN 115 (i : Int) := fun he => e (by have := keyN_inj hb.2.2.1 hb.2.2.2.1 (by omega) (by omega) he; omega)
    rw [if_neg e'] at hl'
    rw [if_neg e]
    unfold inOf lookOk lookV
    rw [hl']
theorem PlayAt.step5 (h : PlayAt os k a b c) (ho : opB o = true) (hk : k ≤ 29) (h1 : o.kind = 5) (hd : inOf a o.inn = o.who) : insOf (stepP a 1 k o) = (insOf a).set o.inn.toNat (-1) := by
  have hm : mineB a o = true := by rw [inOf_mine (opB_parts ho).1]; exact decide_eq_true hd
  have hw : (planP a 1 k o).writes = [⟨keyN 115 o.inn, true, []⟩] := by simp [planP, h1, inP5, hm]
  have hb := opB_parts ho
  refine ins_set fun i hi => ?_
  have hl := h.look1 ho hk (by rw [h1]; decide) (keyN 115 (i : Int))
  rw [hw] at hl
  have hl' : look (stepP a 1 k o) (keyN 115 (i : Int)) = if keyN 115 o.inn = keyN 115 (i : Int) then none else look a (keyN 115 (i : Int)) := hl
  by_cases e : o.inn.toNat = i
  · have e' : o.inn = (i : Int) := by omega
    rw [if_pos (by rw [e'])] at hl'
    rw [if_pos e]
    unfold inOf lookOk
    rw [hl']; rfl
  · have e' : keyN 115 o.inn ≠ keyN 115 (i : Int) := fun he => e (by have := keyN_inj hb.2.2.1 hb.2.2.2.1 (by omega) (by omega) he; omega)
    rw [if_neg e'] at hl'
    rw [if_neg e]
    unfold inOf lookOk lookV
    rw [hl']
theorem PlayAt.step2 (h : PlayAt os k a b c) (ho : opB o = true) (hk : k ≤ 29) (h1 : o.kind = 2 ∨ o.kind = 3 ∨ o.kind = 4) : insOf (stepP a 1 k o) = insOf a := by
  refine ins_same fun i _ => ?_
  rcases h1 with h1 | h1 | h1
  · rw [h.look1 ho hk (by rw [h1]; decide)]
    have hw : (planP a 1 k o).writes = [] := by simp [planP, h1, inP2]
    rw [hw]; rfl
  · have : stepP a 1 k o = a := by unfold stepP; rw [if_neg (by rw [h1]; decide)]
    rw [this]
  · have : stepP a 1 k o = a := by unfold stepP; rw [if_neg (by rw [h1]; decide)]
    rw [this]
end

end Go.Proofs.Ytmbkhohgciakfaa

/- What is kept of who may what, behind a play: plain facts. -/
namespace Go.Proofs.Ytmbkhohgciakfaa
open Go.RowKit

/- Going out. -/
/-- A thing behind one goes out: a family that was of use is of none. -/
def outIt (who : Int) (it : Item) : Item := if famB who it = true then ⟨it.key, [nth it.val 0, nth it.val 1, 0]⟩ else it
theorem outIt_yes {who : Int} {it : Item} (h : famB who it = true) : outIt who it = ⟨it.key, [nth it.val 0, nth it.val 1, 0]⟩ := by unfold outIt; rw [if_pos h]
theorem outIt_no {who : Int} {it : Item} (h : famB who it = false) : outIt who it = it := by unfold outIt; rw [if_neg (by rw [h]; decide)]
theorem outIt_key (who : Int) (it : Item) : (outIt who it).key = it.key := by unfold outIt; split <;> rfl
theorem lookW_only {key : ByteArray} {x0 : Wr} (hd : x0.del = false) : ∀ (ws : List Wr), (∀ x ∈ ws, x.key = key → x = x0) → (∃ x ∈ ws, x.key = key) → ∀ d : Option Item, lookW ws key d = some ⟨x0.key, x0.val⟩
  | [], _, ⟨_, h, _⟩, _ => absurd h (by simp)
  | x :: ws, h1, h2, d => by
    show lookW ws key (if x.key = key then (if x.del = true then none else some ⟨x.key, x.val⟩) else d) = _
    by_cases e : ∃ y ∈ ws, y.key = key
    · exact lookW_only hd ws (fun y hy => h1 y (List.mem_cons_of_mem _ hy)) e _
    · rw [lookW_free (fun y hy he => e ⟨y, hy, he⟩)]
      obtain ⟨y, hy, hk⟩ := h2
      have hx : x.key = key := by
        rcases List.mem_cons.1 hy with rfl | hy'
        · exact hk
        · exact absurd ⟨y, hy', hk⟩ e
      have := h1 x (List.mem_cons_self ..) hx
      rw [if_pos hx, this, if_neg (by rw [hd]; decide)]
theorem out_look {its : List Item} (hr : Rise its its.length) (o : Op) (key : ByteArray) : lookW (mayP5 its o).writes key (look its key) = (look its key).map (outIt o.who) := by
  have ex : ∀ x ∈ (mayP5 its o).writes, ∃ y, y ∈ its ∧ famB o.who y = true ∧ x = ⟨y.key, false, [nth y.val 0, nth y.val 1, 0]⟩ := fun x hx => by
    obtain ⟨y, hy, rfl⟩ := List.mem_map.1 (show x ∈ (its.filter (famB o.who)).map fun it => (⟨it.key, false, [nth it.val 0, nth it.val 1, 0]⟩ : Wr) from hx)
    exact ⟨y, (List.mem_filter.1 hy).1, (List.mem_filter.1 hy).2, rfl⟩
  cases hl : look its key with
  | none =>
    rw [lookW_free]
    · rfl
    intro x hx he
    obtain ⟨y, h1, h2, rfl⟩ := ex x hx
    have := look_self hr h1
    rw [show y.key = key from he, hl] at this
    cases this
  | some it =>
    obtain ⟨h1, h2⟩ := look_in hl
    have uniq : ∀ y ∈ its, y.key = key → y = it := fun y hy he => by
      have := look_self hr hy
      rw [he, hl] at this
      exact (Option.some.inj this).symm
    cases hf : famB o.who it with
    | true =>
      rw [lookW_only (x0 := ⟨it.key, false, [nth it.val 0, nth it.val 1, 0]⟩) rfl]
      · rw [Option.map_some, outIt_yes hf]
      · intro x hx he
        obtain ⟨y, g1, g2, rfl⟩ := ex x hx
        rw [uniq y g1 he]
      · exact ⟨⟨it.key, false, [nth it.val 0, nth it.val 1, 0]⟩, List.mem_map.2 ⟨it, List.mem_filter.2 ⟨h1, hf⟩, rfl⟩, h2⟩
    | false =>
      rw [lookW_free]
      · rw [Option.map_some, outIt_no hf]
      · intro x hx he
        obtain ⟨y, g1, g2, rfl⟩ := ex x hx
        rw [uniq y g1 he, hf] at g2
        cases g2
theorem look_map {f : Item → Item} (hf : ∀ it, (f it).key = it.key) (key : ByteArray) : ∀ its : List Item, look (its.map f) key = (look its key).map f
  | [] => rfl
  | x :: l => by
    rw [List.map_cons, look_cons, look_cons, hf, look_map hf key l]
    by_cases e : x.key = key
    · rw [if_pos e, if_pos e]; rfl
    · rw [if_neg e, if_neg e]
theorem rise_map {f : Item → Item} (hf : ∀ it, (f it).key = it.key) {its : List Item} (h : Rise its its.length) : Rise (its.map f) (its.map f).length := by
  intro j x y hj hx hy
  rw [List.length_map] at hj
  rw [List.getElem?_map, List.getElem?_eq_getElem (show j < its.length by omega)] at hx
  rw [List.getElem?_map, List.getElem?_eq_getElem hj] at hy
  have hx' := Option.some.inj hx
  have hy' := Option.some.inj hy
  rw [← hx', ← hy', hf, hf]
  exact h j _ _ hj (List.getElem?_eq_getElem (show j < its.length by omega)) (List.getElem?_eq_getElem hj)

section
variable {os : List Op} {k : Nat} {a b c : List Item} {o : Op}
theorem PlayAt.may (h : PlayAt os k a b c) (ho : opB o = true) (hk : k ≤ 29) : (gloDo (playTo os k).1 k o).2 = (mayP a 1 k o && mayP b 2 k o) := by rw [h.do_ ho hk]
theorem PlayAt.look2 (h : PlayAt os k a b c) (ho : opB o = true) (hk : k ≤ 29) (hh : hereB o.kind 2 = true) (key : ByteArray) : look (stepP b 2 k o) key = lookW (planP b 2 k o).writes key (look b key) := by
  unfold stepP
  rw [if_pos hh]
  exact (step_facts (.inr (.inl rfl)) (gloB_parts h.ok).2.1 ho (inB_yes (by omega) (by omega)) (by have := h.lb; omega)).2.2 key
theorem may22 (h : o.kind = 2) (tx : Int) : mayP b 2 tx o = !lookOk b (keyN 99 o.code) := by
  simp only [mayP, hereB, planP, mayP2, h, noP]
  cases lookOk b (keyN 99 o.code) <;> simp
theorem may23 (h : o.kind = 3) (tx : Int) : mayP b 2 tx o = tradeB b o := by
  simp only [mayP, hereB, planP, mayP3, h, noP]
  cases tradeB b o <;> simp
theorem may24 (h : o.kind = 4) (tx : Int) : mayP b 2 tx o = nextB b o := by
  simp only [mayP, hereB, planP, mayP4, h, noP]
  cases nextB b o <;> simp
theorem may13 (h : o.kind = 3) (tx : Int) : mayP a 1 tx o = true := by simp [mayP, hereB, h]
theorem may14 (h : o.kind = 4) (tx : Int) : mayP a 1 tx o = true := by simp [mayP, hereB, h]
theorem step21 (h : o.kind = 1) (tx : Int) : stepP b 2 tx o = b := by unfold stepP; rw [if_neg (by rw [h]; decide)]
/-- Letting: a name is new. -/
theorem PlayAt.look22 (h : PlayAt os k a b c) (ho : opB o = true) (hk : k ≤ 29) (h1 : o.kind = 2) (hd : (gloDo (playTo os k).1 k o).2 = true) : lookOk b (keyN 99 o.code) = false ∧ ∀ key, look (stepP b 2 k o) key = if keyN 99 o.code = key then some ⟨keyN 99 o.code, [o.who, secS o.sec]⟩ else look b key := by
  rw [h.may ho hk, may22 h1] at hd
  simp only [Bool.and_eq_true, Bool.not_eq_true'] at hd
  refine ⟨hd.2, fun key => ?_⟩
  rw [h.look2 ho hk (by rw [h1]; decide)]
  have hw : (planP b 2 k o).writes = [⟨keyN 99 o.code, false, [o.who, secS o.sec]⟩] := by simp [planP, h1, mayP2, hd.2]
  rw [hw]; rfl
/-- Trading: the name goes, a family comes. -/
theorem PlayAt.look23 (h : PlayAt os k a b c) (ho : opB o = true) (hk : k ≤ 29) (h1 : o.kind = 3) (hd : (gloDo (playTo os k).1 k o).2 = true) : lookOk b (keyN 99 o.code) = true ∧ lookOk b (keyN 102 o.fam) = false ∧ nth (lookV b (keyN 99 o.code)) 1 = secS o.sec ∧
    ∀ key, look (stepP b 2 k o) key = if keyN 102 o.fam = key then some ⟨keyN 102 o.fam, [nth (lookV b (keyN 99 o.code)) 0, 1, 1]⟩ else if keyN 99 o.code = key then none else look b key := by
  rw [h.may ho hk, may13 h1, may23 h1, Bool.true_and] at hd
  have ht := hd
  unfold tradeB at hd
  simp only [Bool.and_eq_true, Bool.not_eq_true', beq_iff_eq] at hd
  refine ⟨hd.1, hd.2.1, hd.2.2, fun key => ?_⟩
  rw [h.look2 ho hk (by rw [h1]; decide)]
  have hw : (planP b 2 k o).writes = [⟨keyN 99 o.code, true, []⟩, ⟨keyN 102 o.fam, false, [nth (lookV b (keyN 99 o.code)) 0, 1, 1]⟩] := by simp [planP, h1, mayP3, ht]
  rw [hw]; rfl
/-- The next key: its family alone turns. -/
theorem PlayAt.look24 (h : PlayAt os k a b c) (ho : opB o = true) (hk : k ≤ 29) (h1 : o.kind = 4) (hd : (gloDo (playTo os k).1 k o).2 = true) : nextB b o = true ∧ ∀ key, look (stepP b 2 k o) key = if keyN 102 o.fam = key then some ⟨keyN 102 o.fam, nextV (lookV b (keyN 102 o.fam)) o.gen⟩ else look b key := by
  rw [h.may ho hk, may14 h1, may24 h1, Bool.true_and] at hd
  refine ⟨hd, fun key => ?_⟩
  rw [h.look2 ho hk (by rw [h1]; decide)]
  have hw : (planP b 2 k o).writes = [⟨keyN 102 o.fam, false, nextV (lookV b (keyN 102 o.fam)) o.gen⟩] := by simp [planP, h1, mayP4, hd]
  rw [hw]; rfl
theorem PlayAt.riseB (h : PlayAt os k a b c) : Rise b b.length := (stoB_three (plc_parts (gloB_parts h.ok).2.1).1).2.2
/-- Going out. -/
theorem PlayAt.out2 (h : PlayAt os k a b c) (ho : opB o = true) (hk : k ≤ 29) (h1 : o.kind = 5) : stepP b 2 k o = b.map (outIt o.who) := by
  have hr := h.riseB
  have hs : Rise (stepP b 2 k o) (stepP b 2 k o).length := by
    unfold stepP
    rw [if_pos (by rw [h1]; decide)]
    exact (stoB_three (plc_parts (step_facts (.inr (.inl rfl)) (gloB_parts h.ok).2.1 ho (inB_yes (by omega) (by omega)) (by have := h.lb; omega)).1).1).2.2
  refine sto_ext hs (rise_map (outIt_key _) hr) fun key => ?_
  rw [h.look2 ho hk (by rw [h1]; decide), look_map (outIt_key _)]
  have hw : planP b 2 k o = mayP5 b o := by simp [planP, h1]
  rw [hw, out_look hr]
theorem PlayAt.out1 (h : PlayAt os k a b c) (ho : opB o = true) (hk : k ≤ 29) (h1 : o.kind = 5) (hd : (gloDo (playTo os k).1 k o).2 = true) : (stepP a 1 k o).length + 1 = a.length := by
  rw [h.may ho hk, may15 h1] at hd
  simp only [Bool.and_eq_true] at hd
  have hm := hd.1
  have hs := (plc_parts (gloB_parts h.ok).1).1
  have hop := opB_parts ho
  have hw : (planP a 1 k o).writes = [⟨keyN 115 o.inn, true, []⟩] := by simp [planP, h1, inP5, hm]
  have e : stepP a 1 k o = wAll (keyN 115 o.inn) true [] a := by
    unfold stepP
    rw [if_pos (by rw [h1]; decide), hw]
    refine sto_of hs ?_
    exact (stoStep hs (wr_del (keyB_keyN hop.2.2.1 (by omega)).2.1) (by have := h.la; omega)).1
  obtain ⟨-, -, f3, -⟩ := wAll_facts (wk := keyN 115 o.inn) (wv := []) (stoB_three hs).2.2 true
  unfold mineB lookOk at hm
  simp only [Bool.and_eq_true] at hm
  rw [hm.1] at f3
  rw [e]
  simpa using f3
end

end Go.Proofs.Ytmbkhohgciakfaa

/- Codes, behind a play: plain facts. -/
namespace Go.Proofs.Ytmbkhohgciakfaa
open Go.RowKit

theorem secS_one {a b : Int} (h : 0 ≤ a) (h' : a ≤ 99) (k : 0 ≤ b) (k' : b ≤ 99) (e : secS a = secS b) : a = b := by
  rw [secS_yes h h', secS_yes k k'] at e; omega
/-- Numbers as what is let: of each code that is kept the secret, of each other one -1. -/
structure CodesAt (b : List Item) (ls : List Int) : Prop where
  len : ls.length = 10
  at_ : ∀ i : Nat, i < 10 → ∃ x, ls[i]? = some x ∧ ((lookOk b (keyN 99 i) = false ∧ x = -1) ∨ (lookOk b (keyN 99 i) = true ∧ 0 ≤ x ∧ x ≤ 99 ∧ nth (lookV b (keyN 99 i)) 1 = secS x))
theorem lookOk_eq {a b : List Item} {key : ByteArray} (h : look a key = look b key) : lookOk a key = lookOk b key := by unfold lookOk; rw [h]
theorem lookV_eq {a b : List Item} {key : ByteArray} (h : look a key = look b key) : lookV a key = lookV b key := by unfold lookV; rw [h]
theorem CodesAt.same {b b' : List Item} {ls : List Int} (h : CodesAt b ls) (he : ∀ i : Nat, i < 10 → look b' (keyN 99 i) = look b (keyN 99 i)) : CodesAt b' ls := by
  refine ⟨h.len, fun i hi => ?_⟩
  obtain ⟨x, hx, h2⟩ := h.at_ i hi
  exact ⟨x, hx, by rw [lookOk_eq (he i hi), lookV_eq (he i hi)]; exact h2⟩
theorem CodesAt.start : CodesAt [] (List.replicate 10 (-1)) := by
  refine ⟨rfl, fun i hi => ⟨-1, ?_, .inl ⟨rfl, rfl⟩⟩⟩
  rw [List.getElem?_replicate, if_pos hi]
theorem CodesAt.set {b b' : List Item} {ls : List Int} (h : CodesAt b ls) {n : Nat} (hn : n < 10) {v : Int} (hv : (lookOk b' (keyN 99 n) = false ∧ v = -1) ∨ (lookOk b' (keyN 99 n) = true ∧ 0 ≤ v ∧ v ≤ 99 ∧ nth (lookV b' (keyN 99 n)) 1 = secS v)) (he : ∀ i : Nat, i < 10 → i ≠ n → look b' (keyN 99 i) = look b (keyN 99 i)) : CodesAt b' (ls.set n v) := by
  refine ⟨by rw [List.length_set]; exact h.len, fun i hi => ?_⟩
  by_cases e : n = i
  · subst e
    exact ⟨v, by rw [List.getElem?_set, if_pos rfl, if_pos (by rw [h.len]; exact hn)], hv⟩
  · obtain ⟨x, hx, h2⟩ := h.at_ i hi
    refine ⟨x, by rw [List.getElem?_set, if_neg e]; exact hx, ?_⟩
    rw [lookOk_eq (he i hi (fun h => e h.symm)), lookV_eq (he i hi (fun h => e h.symm))]
    exact h2
section
variable {os : List Op} {k : Nat} {a b c : List Item} {o : Op} {ls : List Int} {n : Nat}
theorem fam_ne (i j : Int) : keyN 102 i ≠ keyN 99 j := keyN_ne (by decide) i j
theorem CodesAt.let_ (h : PlayAt os k a b c) (hc : CodesAt b ls) (ho : opB o = true) (hk : k ≤ 29) (h1 : o.kind = 2) (hn : o.code = (n : Int)) (hd : (gloDo (playTo os k).1 k o).2 = true) : ls[n]? = some (-1) ∧ CodesAt (stepP b 2 k o) (ls.set n o.sec) := by
  have hop := opB_parts ho
  obtain ⟨l1, l2⟩ := h.look22 ho hk h1 hd
  have hn9 : n < 10 := by omega
  rw [hn] at l1 l2
  refine ⟨?_, hc.set hn9 (.inr ?_) fun i hi hne => ?_⟩
  · obtain ⟨x, hx, hx2⟩ := hc.at_ n hn9
    rcases hx2 with ⟨-, rfl⟩ | ⟨hx3, -⟩
    · exact hx
    · rw [l1] at hx3; cases hx3
  · have e := l2 (keyN 99 n)
    rw [if_pos rfl] at e
    exact ⟨lookOk_some e, by omega, by omega, by rw [lookV_some e]; rfl⟩
  · rw [l2, if_neg (fun he => hne (by have := keyN_inj (by omega) (by omega) (by omega) (by omega) he; omega))]
theorem CodesAt.trade (h : PlayAt os k a b c) (hc : CodesAt b ls) (ho : opB o = true) (hk : k ≤ 29) (h1 : o.kind = 3) (hn : o.code = (n : Int)) (hd : (gloDo (playTo os k).1 k o).2 = true) : ls[n]? = some o.sec ∧ CodesAt (stepP b 2 k o) (ls.set n (-1)) := by
  have hop := opB_parts ho
  obtain ⟨l1, l0, l3, l2⟩ := h.look23 ho hk h1 hd
  have hn9 : n < 10 := by omega
  rw [hn] at l1 l2 l3
  refine ⟨?_, hc.set hn9 (.inl ⟨?_, rfl⟩) fun i hi hne => ?_⟩
  · obtain ⟨x, hx, hx2⟩ := hc.at_ n hn9
    rcases hx2 with ⟨hx3, -⟩ | ⟨-, x0, x9, hx3⟩
    · rw [l1] at hx3; cases hx3
    · rw [l3] at hx3
      rw [secS_one (by omega) (by omega) x0 x9 hx3]; exact hx
  · refine lookOk_none ?_
    rw [l2, if_neg (fam_ne _ _), if_pos rfl]
  · rw [l2, if_neg (fam_ne _ _), if_neg (fun he => hne (by have := keyN_inj (by omega) (by omega) (by omega) (by omega) he; omega))]
theorem CodesAt.rest (h : PlayAt os k a b c) (hc : CodesAt b ls) (ho : opB o = true) (hk : k ≤ 29) (h2 : o.kind ≠ 2) (h3 : o.kind ≠ 3) (hd : (gloDo (playTo os k).1 k o).2 = true) : CodesAt (stepP b 2 k o) ls := by
  rcases opK_kind ho with h1 | h1 | h1 | h1 | h1
  · rw [step21 h1]; exact hc
  · exact absurd h1 h2
  · exact absurd h1 h3
  · refine hc.same fun i _ => ?_
    rw [(h.look24 ho hk h1 hd).2, if_neg (fam_ne _ _)]
  · refine hc.same fun i _ => ?_
    rw [h.out2 ho hk h1, look_map (outIt_key _)]
    cases hl : look b (keyN 99 (i : Int)) with
    | none => rfl
    | some it =>
      rw [Option.map_some, outIt_no]
      cases hf : famB o.who it with
      | false => rfl
      | true =>
        have h9 := (famB_parts hf).1
        rw [(look_in hl).2, chr0_keyN] at h9
        exact absurd h9 (by decide)
end

end Go.Proofs.Ytmbkhohgciakfaa

/- Families, behind a play: plain facts. -/
namespace Go.Proofs.Ytmbkhohgciakfaa
open Go.RowKit

/-- Numbers as how many keys of each family were made: none where it is not kept; where it is of use, as many as are kept. -/
def GenOk (b : List Item) (k : Nat) (i : Int) (x : Int) : Prop :=
  (lookOk b (keyN 102 i) = false ∧ x = 0) ∨ (lookOk b (keyN 102 i) = true ∧ 1 ≤ x ∧ x ≤ k ∧ (nth (lookV b (keyN 102 i)) 2 = 1 → nth (lookV b (keyN 102 i)) 1 = x))
structure GensAt (b : List Item) (k : Nat) (gs : List Int) : Prop where
  len : gs.length = 10
  at_ : ∀ i : Nat, i < 10 → ∃ x, gs[i]? = some x ∧ GenOk b k i x
theorem GenOk.more {b b' : List Item} {k k' : Nat} {i x : Int} (h : GenOk b k i x) (hk : k ≤ k') (he : look b' (keyN 102 i) = look b (keyN 102 i)) : GenOk b' k' i x := by
  unfold GenOk at *
  rw [lookOk_eq he, lookV_eq he]
  rcases h with h | ⟨h1, h2, h3, h4⟩
  · exact .inl h
  · exact .inr ⟨h1, h2, by omega, h4⟩
theorem GensAt.same {b b' : List Item} {k : Nat} {gs : List Int} (h : GensAt b k gs) (he : ∀ i : Nat, i < 10 → look b' (keyN 102 i) = look b (keyN 102 i)) : GensAt b' (k + 1) gs := by
  refine ⟨h.len, fun i hi => ?_⟩
  obtain ⟨x, hx, h2⟩ := h.at_ i hi
  exact ⟨x, hx, h2.more (by omega) (he i hi)⟩
theorem GensAt.start : GensAt [] 0 (List.replicate 10 0) := by
  refine ⟨rfl, fun i hi => ⟨0, ?_, .inl ⟨rfl, rfl⟩⟩⟩
  rw [List.getElem?_replicate, if_pos hi]
theorem GensAt.set {b b' : List Item} {k : Nat} {gs : List Int} (h : GensAt b k gs) {n : Nat} (hn : n < 10) {v : Int} (hv : GenOk b' (k + 1) n v) (he : ∀ i : Nat, i < 10 → i ≠ n → look b' (keyN 102 i) = look b (keyN 102 i)) : GensAt b' (k + 1) (gs.set n v) := by
  refine ⟨by rw [List.length_set]; exact h.len, fun i hi => ?_⟩
  by_cases e : n = i
  · subst e
    exact ⟨v, by rw [List.getElem?_set, if_pos rfl, if_pos (by rw [h.len]; exact hn)], hv⟩
  · obtain ⟨x, hx, h2⟩ := h.at_ i hi
    exact ⟨x, by rw [List.getElem?_set, if_neg e]; exact hx, h2.more (by omega) (he i hi (fun h => e h.symm))⟩
section
variable {os : List Op} {k : Nat} {a b c : List Item} {o : Op} {gs : List Int} {n : Nat}
theorem fam_inj {i j : Nat} (hi : i < 10) (hj : j < 10) (hne : i ≠ j) : keyN 102 (j : Int) ≠ keyN 102 (i : Int) := fun he => hne (by have := keyN_inj (by omega) (by omega) (by omega) (by omega) he; omega)
theorem GensAt.trade (h : PlayAt os k a b c) (hc : GensAt b k gs) (ho : opB o = true) (hk : k ≤ 29) (h1 : o.kind = 3) (hn : o.fam = (n : Int)) (hd : (gloDo (playTo os k).1 k o).2 = true) : gs[n]? = some 0 ∧ GensAt (stepP b 2 k o) (k + 1) (gs.set n 1) := by
  have hop := opB_parts ho
  obtain ⟨-, l1, -, l2⟩ := h.look23 ho hk h1 hd
  have hn9 : n < 10 := by omega
  rw [hn] at l1 l2
  refine ⟨?_, hc.set hn9 (.inr ?_) fun i hi hne => ?_⟩
  · obtain ⟨x, hx, hx2⟩ := hc.at_ n hn9
    rcases hx2 with ⟨-, rfl⟩ | ⟨hx3, -⟩
    · exact hx
    · rw [l1] at hx3; cases hx3
  · have e := l2 (keyN 102 n)
    rw [if_pos rfl] at e
    exact ⟨lookOk_some e, by omega, by omega, fun _ => by rw [lookV_some e]; rfl⟩
  · rw [l2, if_neg (fam_inj hi hn9 hne), if_neg (fun he => fam_ne _ _ he.symm)]
/-- What is of a family that is kept. -/
theorem PlayAt.fam (h : PlayAt os k a b c) {i : Int} (hl : lookOk b (keyN 102 i) = true) : (lookV b (keyN 102 i)).length = 3 ∧ 1 ≤ nth (lookV b (keyN 102 i)) 1 ∧ (nth (lookV b (keyN 102 i)) 2 = 0 ∨ nth (lookV b (keyN 102 i)) 2 = 1) := by
  obtain ⟨hs, hf⟩ := plc_parts (gloB_parts h.ok).2.1
  have h1 := fam_found hs hf hl
  refine ⟨h1.1, h1.2.2.2.1, ?_⟩
  obtain ⟨it, hm, hk, hv⟩ := look_mem hl
  have hc : chr0 it.key = 102 := by rw [hk, chr0_keyN]; rfl
  have := fam_item hs hf hm hc
  rw [hv]
  omega
/-- The next key: it may be just of a family of use, with a key that was made. -/
theorem GensAt.may (h : PlayAt os k a b c) (hc : GensAt b k gs) (ho : opB o = true) (hk : k ≤ 29) (h1 : o.kind = 4) (hn : o.fam = (n : Int)) : (gloDo (playTo os k).1 k o).2 = (lookOk b (keyN 102 n) && (nth (lookV b (keyN 102 n)) 2 == 1 && (decide (1 ≤ o.gen) && decide (o.gen ≤ nth (lookV b (keyN 102 n)) 1)))) := by
  have hop := opB_parts ho
  rw [h.may ho hk, may14 h1, may24 h1, Bool.true_and]
  unfold nextB useB
  rw [hn]
  cases hl : lookOk b (keyN 102 (n : Int)) with
  | false => rfl
  | true =>
    obtain ⟨f1, f2, f3⟩ := h.fam hl
    obtain ⟨x, hx, hx2⟩ := hc.at_ n (by omega)
    rcases hx2 with ⟨hx3, -⟩ | ⟨-, x1, x2, x3⟩
    · rw [hl] at hx3; cases hx3
    · simp only [Bool.true_and]
      rcases f3 with f3 | f3
      · rw [f3]; rfl
      · have e := x3 f3
        rw [f3, e]
        have n99 : (x == 99) = false := by simp; omega
        rw [n99]
        have g0 : (!(o.gen == 0)) = decide (1 ≤ o.gen) := by
          by_cases h0 : o.gen = 0
          · rw [h0]; rfl
          · have : (1 : Int) ≤ o.gen := by omega
            simp [h0, this]
        rw [g0]; rfl
theorem GensAt.live (hc : GensAt b k gs) (hn : n < 10) (hl : lookOk b (keyN 102 n) = true) (h2 : nth (lookV b (keyN 102 n)) 2 = 1) : gs[n]? = some (nth (lookV b (keyN 102 n)) 1) := by
  obtain ⟨x, hx, hx2⟩ := hc.at_ n hn
  rcases hx2 with ⟨hx3, -⟩ | ⟨-, x1, x2, x3⟩
  · rw [hl] at hx3; cases hx3
  · rw [x3 h2]; exact hx
theorem nextV_lt {v : List Int} {g : Int} (h : g < nth v 1) : nextV v g = [nth v 0, nth v 1, 0] := by unfold nextV; rw [if_pos h]
theorem nextV_ge {v : List Int} {g : Int} (h : ¬ g < nth v 1) : nextV v g = [nth v 0, nth v 1 + 1, 1] := by unfold nextV; rw [if_neg h]
theorem GensAt.next (h : PlayAt os k a b c) (hc : GensAt b k gs) (ho : opB o = true) (hk : k ≤ 29) (h1 : o.kind = 4) (hn : o.fam = (n : Int)) (hd : (gloDo (playTo os k).1 k o).2 = true) : ∃ x, gs[n]? = some x ∧ (o.gen = x → GensAt (stepP b 2 k o) (k + 1) (gs.set n (o.gen + 1))) ∧ (o.gen ≠ x → GensAt (stepP b 2 k o) (k + 1) gs) := by
  have hop := opB_parts ho
  have hn9 : n < 10 := by omega
  have hm := hd
  rw [hc.may h ho hk h1 hn] at hm
  simp only [Bool.and_eq_true, decide_eq_true_iff, beq_iff_eq] at hm
  obtain ⟨m1, m2, m3, m4⟩ := hm
  obtain ⟨-, l2⟩ := h.look24 ho hk h1 hd
  rw [hn] at l2
  have e := l2 (keyN 102 n)
  rw [if_pos rfl] at e
  have hl := hc.live hn9 m1 m2
  obtain ⟨x, hx, hx2⟩ := hc.at_ n hn9
  rw [hx] at hl
  have hx0 := Option.some.inj hl
  have hb : 1 ≤ x ∧ x ≤ k := by
    rcases hx2 with ⟨hx3, -⟩ | ⟨-, x1, x2, -⟩
    · rw [m1] at hx3; cases hx3
    · exact ⟨x1, x2⟩
  refine ⟨x, hx, fun hg => ?_, fun hg => ?_⟩
  · refine hc.set hn9 (.inr ⟨lookOk_some e, by omega, by omega, fun _ => ?_⟩) fun i hi hne => ?_
    · rw [lookV_some e, nextV_ge (by omega), hg, hx0]; rfl
    · rw [l2, if_neg (fam_inj hi hn9 hne)]
  · refine ⟨hc.len, fun i hi => ?_⟩
    by_cases hne : i = n
    · subst hne
      refine ⟨x, hx, .inr ⟨lookOk_some e, hb.1, by omega, fun h2 => ?_⟩⟩
      rw [lookV_some e, nextV_lt (by omega)] at h2
      exact absurd (show (0 : Int) = 1 from h2) (by decide)
    · obtain ⟨y, hy, hy2⟩ := hc.at_ i hi
      exact ⟨y, hy, hy2.more (by omega) (by rw [l2, if_neg (fam_inj hi hn9 hne)])⟩
theorem GensAt.no (hc : GensAt b k gs) : GensAt b (k + 1) gs := hc.same fun _ _ => rfl
theorem GensAt.rest (h : PlayAt os k a b c) (hc : GensAt b k gs) (ho : opB o = true) (hk : k ≤ 29) (h3 : o.kind ≠ 3) (h4 : o.kind ≠ 4) (hd : (gloDo (playTo os k).1 k o).2 = true) : GensAt (stepP b 2 k o) (k + 1) gs := by
  rcases opK_kind ho with h1 | h1 | h1 | h1 | h1
  · rw [step21 h1]; exact hc.no
  · refine hc.same fun i _ => ?_
    rw [(h.look22 ho hk h1 hd).2, if_neg (fun he => fam_ne _ _ he.symm)]
  · exact absurd h1 h3
  · exact absurd h1 h4
  · refine ⟨hc.len, fun i hi => ?_⟩
    obtain ⟨x, hx, hx2⟩ := hc.at_ i hi
    refine ⟨x, hx, ?_⟩
    have e : look (stepP b 2 k o) (keyN 102 (i : Int)) = (look b (keyN 102 (i : Int))).map (outIt o.who) := by rw [h.out2 ho hk h1, look_map (outIt_key _)]
    cases hl : look b (keyN 102 (i : Int)) with
    | none =>
      rw [hl] at e
      exact hx2.more (by omega) (by rw [e, hl]; rfl)
    | some it =>
      rw [hl, Option.map_some] at e
      cases hf : famB o.who it with
      | false =>
        rw [outIt_no hf] at e
        exact hx2.more (by omega) (by rw [e, hl])
      | true =>
        rw [outIt_yes hf] at e
        rcases hx2 with ⟨hx3, -⟩ | ⟨-, x1, x2, -⟩
        · rw [lookOk_some hl] at hx3; cases hx3
        · refine .inr ⟨lookOk_some e, x1, by omega, fun h2 => ?_⟩
          rw [lookV_some e] at h2
          exact absurd (show (0 : Int) = 1 from h2) (by decide)
/-- What becomes of a family that is kept. -/
def FamGoes (v u : List Int) : Prop := u.length = 3 ∧ nth u 0 = nth v 0 ∧ nth v 1 ≤ nth u 1 ∧ nth u 1 ≤ nth v 1 + 1 ∧ nth u 2 ≤ nth v 2
theorem PlayAt.goes (h : PlayAt os k a b c) (ho : opB o = true) (hk : k ≤ 29) (hd : (gloDo (playTo os k).1 k o).2 = true) {it : Item} (hit : it ∈ b) (hc : chr0 it.key = 102) : lookOk (stepP b 2 k o) it.key = true ∧ FamGoes it.val (lookV (stepP b 2 k o) it.key) := by
  have hl := look_self h.riseB hit
  obtain ⟨hs, hf⟩ := plc_parts (gloB_parts h.ok).2.1
  have h9 := fam_item hs hf hit hc
  have hsame : look (stepP b 2 k o) it.key = look b it.key → lookOk (stepP b 2 k o) it.key = true ∧ FamGoes it.val (lookV (stepP b 2 k o) it.key) := fun e => by
    rw [lookOk_eq e, lookV_eq e, lookOk_some hl, lookV_some hl]
    exact ⟨rfl, h9.1, rfl, by omega, by omega, by omega⟩
  have cne : ∀ n : Int, keyN 99 n ≠ it.key := fun n he => by
    rw [← he, chr0_keyN] at hc
    exact absurd hc (by decide)
  rcases opK_kind ho with h1 | h1 | h1 | h1 | h1
  · exact hsame (by rw [step21 h1])
  · exact hsame (by rw [(h.look22 ho hk h1 hd).2, if_neg (cne _)])
  · obtain ⟨-, l0, -, l2⟩ := h.look23 ho hk h1 hd
    refine hsame ?_
    rw [l2, if_neg (fun he => ?_), if_neg (cne _)]
    rw [he, lookOk_some hl] at l0
    cases l0
  · obtain ⟨m, l2⟩ := h.look24 ho hk h1 hd
    by_cases e : keyN 102 o.fam = it.key
    · have e2 := l2 it.key
      rw [if_pos e] at e2
      rw [lookOk_some e2, lookV_some e2]
      refine ⟨rfl, ?_⟩
      show FamGoes it.val (nextV (lookV b (keyN 102 o.fam)) o.gen)
      unfold nextB useB at m
      rw [e, lookV_some hl] at m ⊢
      simp only [Bool.and_eq_true, decide_eq_true_iff, Bool.not_eq_true', beq_eq_false_iff_ne] at m
      unfold nextV
      split
      · exact ⟨rfl, rfl, Int.le_refl _, by show nth it.val 1 ≤ nth it.val 1 + 1; omega, by show (0 : Int) ≤ nth it.val 2; omega⟩
      · exact ⟨rfl, rfl, by show nth it.val 1 ≤ nth it.val 1 + 1; omega, Int.le_refl _, by show (1 : Int) ≤ nth it.val 2; omega⟩
    · exact hsame (by rw [l2, if_neg e])
  · have e : look (stepP b 2 k o) it.key = some (outIt o.who it) := by rw [h.out2 ho hk h1, look_map (outIt_key _), hl]; rfl
    rw [lookOk_some e, lookV_some e]
    refine ⟨rfl, ?_⟩
    cases hf : famB o.who it with
    | false => rw [outIt_no hf]; exact ⟨h9.1, rfl, by omega, by omega, by omega⟩
    | true => rw [outIt_yes hf]; exact ⟨rfl, rfl, Int.le_refl _, by show nth it.val 1 ≤ nth it.val 1 + 1; omega, by show (0 : Int) ≤ nth it.val 2; omega⟩
/-- What one's going out leaves at a place of what is kept. -/
theorem PlayAt.outAt (h : PlayAt os k a b c) {it : Item} (hit : it ∈ b) : (outIt o.who it).val.length = it.val.length ∧ nth (outIt o.who it).val 0 = nth it.val 0 ∧ ((chr0 it.key = 102 ∧ nth it.val 0 = o.who) → (outIt o.who it).val.length = 3 ∧ nth (outIt o.who it).val 2 = 0) ∧ (¬ (chr0 it.key = 102 ∧ nth it.val 0 = o.who) → (outIt o.who it).val = it.val) := by
  obtain ⟨hs, hf⟩ := plc_parts (gloB_parts h.ok).2.1
  cases hb : famB o.who it with
  | true =>
    have hp := famB_parts hb
    have h9 := fam_item hs hf hit hp.1
    rw [outIt_yes hb]
    exact ⟨by show 3 = _; omega, rfl, fun _ => ⟨rfl, rfl⟩, fun hn => absurd ⟨hp.1, hp.2.1⟩ hn⟩
  | false =>
    rw [outIt_no hb]
    refine ⟨rfl, rfl, fun hc => ?_, fun _ => rfl⟩
    have h9 := fam_item hs hf hit hc.1
    refine ⟨h9.1, ?_⟩
    have hne : nth it.val 2 ≠ 1 := fun h1 => by
      have h0 : 0 < it.key.size := by omega
      have hk : it.key.data[0]? = some 102 := by
        have hc1 := hc.1
        rw [chr0_at h0] at hc1
        have : it.key[0]'h0 = 102 := UInt8.toNat_inj.1 (by have : (it.key[0]'h0).toNat = 102 := by omega
                                                           rw [this]; rfl)
        exact Array.getElem?_eq_some_iff.2 ⟨h0, this⟩
      unfold famB at hb
      rw [hk, hc.2, h1] at hb
      simp at hb
    omega
end

end Go.Proofs.Ytmbkhohgciakfaa

/- One who comes in, lets something be done, trades the code, makes the next keys, goes out: plain facts. -/
namespace Go.Proofs.Ytmbkhohgciakfaa
open Go.RowKit

/-- One thing that is kept, or nothing. -/
def one (K : ByteArray) (v : List Int) (key : ByteArray) : Option Item := if K = key then some ⟨K, v⟩ else none
def nil_ (_ : ByteArray) : Option Item := none
theorem one_self (K : ByteArray) (v : List Int) : one K v K = some ⟨K, v⟩ := by unfold one; rw [if_pos rfl]
theorem one_other {K key : ByteArray} (v : List Int) (h : K ≠ key) : one K v key = none := by unfold one; rw [if_neg h]
/-- Behind the first k things, all of which were so: what is kept of who is in, and of who may what. -/
structure Way (os : List Op) (k : Nat) (fa fb : ByteArray → Option Item) : Prop where
  ex : ∃ a b c, PlayAt os k a b c ∧ (∀ key, look a key = fa key) ∧ (∀ key, look b key = fb key)
  all : (playTo os k).2 = List.replicate k true
section
variable {os : List Op} {k : Nat} {o : Op} {fa fb : ByteArray → Option Item} {who g fam : Int}
theorem Way.start : Way os 0 nil_ nil_ := ⟨⟨[], [], [], PlayAt.start, fun _ => rfl, fun _ => rfl⟩, rfl⟩
theorem Way.more (h : Way os k fa fb) (hx : os[k]? = some o) (hd : (gloDo (playTo os k).1 k o).2 = true) : (playTo os (k + 1)).2 = List.replicate (k + 1) true := by
  rw [playTo_done hx, hd, h.all, List.replicate_succ']
theorem cnt_all (n : Nat) : cntT (List.replicate n true) = n := by unfold cntT; rw [List.filter_eq_self.2 (by intro x hx; exact (List.mem_replicate.1 hx).2), List.length_replicate]
theorem lookOk_of {its : List Item} {key : ByteArray} {f : ByteArray → Option Item} (h : ∀ key, look its key = f key) : lookOk its key = (f key).isSome := by unfold lookOk; rw [h]
theorem Way.in_ (h : Way os k nil_ nil_) (hx : os[k]? = some o) (ho : opB o = true) (hk : k ≤ 29) (h1 : o.kind = 1) : (gloDo (playTo os k).1 k o).2 = true ∧ Way os (k + 1) (one (keyN 115 o.inn) [o.who]) nil_ := by
  obtain ⟨a, b, c, hp, ha, hb⟩ := h.ex
  have hf : lookOk a (keyN 115 o.inn) = false := by rw [lookOk_of ha]; rfl
  have hd : (gloDo (playTo os k).1 k o).2 = true := by rw [hp.may ho hk, may11 h1, may21 h1, hf]; rfl
  refine ⟨hd, ⟨_, _, _, (hp.yes hx ho hk hd).2, fun key => ?_, fun key => ?_⟩, h.more hx hd⟩
  · rw [hp.look1 ho hk (by rw [h1]; decide)]
    have hw : (planP a 1 k o).writes = [⟨keyN 115 o.inn, false, [o.who]⟩] := by simp [planP, h1, inP1, hf]
    rw [hw, ha]; rfl
  · rw [step21 h1, hb]
theorem mine_of {a : List Item} (ha : ∀ key, look a key = one (keyN 115 o.inn) [o.who] key) : mineB a o = true := by
  have e := (ha (keyN 115 o.inn)).trans (one_self _ _)
  unfold mineB
  rw [lookOk_some e, lookV_some e]
  simp [nth]
theorem mine_not {a : List Item} (ha : ∀ key, look a key = nil_ key) : mineB a o = false := by
  unfold mineB
  rw [lookOk_none ((ha _).trans rfl)]; rfl
theorem Way.let_ (h : Way os k (one (keyN 115 o.inn) [o.who]) nil_) (hx : os[k]? = some o) (ho : opB o = true) (hk : k ≤ 29) (h1 : o.kind = 2) : (gloDo (playTo os k).1 k o).2 = true ∧ Way os (k + 1) (one (keyN 115 o.inn) [o.who]) (one (keyN 99 o.code) [o.who, secS o.sec]) := by
  obtain ⟨a, b, c, hp, ha, hb⟩ := h.ex
  have hd : (gloDo (playTo os k).1 k o).2 = true := by rw [hp.may ho hk, may12 h1, may22 h1, mine_of ha, lookOk_of hb]; rfl
  refine ⟨hd, ⟨_, _, _, (hp.yes hx ho hk hd).2, fun key => ?_, fun key => ?_⟩, h.more hx hd⟩
  · rw [hp.look1 ho hk (by rw [h1]; decide)]
    have hw : (planP a 1 k o).writes = [] := by simp [planP, h1, inP2]
    rw [hw, ← ha]; rfl
  · rw [(hp.look22 ho hk h1 hd).2, hb]; rfl
theorem Way.trade (h : Way os k fa (one (keyN 99 o.code) [who, secS o.sec])) (hx : os[k]? = some o) (ho : opB o = true) (hk : k ≤ 29) (h1 : o.kind = 3) : (gloDo (playTo os k).1 k o).2 = true ∧ Way os (k + 1) fa (one (keyN 102 o.fam) [who, 1, 1]) := by
  obtain ⟨a, b, c, hp, ha, hb⟩ := h.ex
  have e := (hb (keyN 99 o.code)).trans (one_self _ _)
  have hne : keyN 99 o.code ≠ keyN 102 o.fam := keyN_ne (by decide) _ _
  have hd : (gloDo (playTo os k).1 k o).2 = true := by
    rw [hp.may ho hk, may13 h1, may23 h1]
    unfold tradeB
    rw [lookOk_some e, lookV_some e, lookOk_none ((hb _).trans (one_other _ hne))]
    simp [nth]
  refine ⟨hd, ⟨_, _, _, (hp.yes hx ho hk hd).2, fun key => ?_, fun key => ?_⟩, h.more hx hd⟩
  · have : stepP a 1 k o = a := by unfold stepP; rw [if_neg (by rw [h1]; decide)]
    rw [this, ha]
  · rw [(hp.look23 ho hk h1 hd).2.2.2, hb, lookV_some e]
    unfold one
    by_cases e1 : keyN 102 o.fam = key
    · rw [if_pos e1, if_pos e1]; rfl
    · rw [if_neg e1, if_neg e1]
      by_cases e2 : keyN 99 o.code = key
      · rw [if_pos e2]
      · rw [if_neg e2, if_neg e2]
theorem Way.next (h : Way os k fa (one (keyN 102 o.fam) [who, g, 1])) (hx : os[k]? = some o) (ho : opB o = true) (hk : k ≤ 29) (h1 : o.kind = 4) (hg : 1 ≤ o.gen) (hg' : o.gen ≤ g) (h99 : g < 99) : (gloDo (playTo os k).1 k o).2 = true ∧ Way os (k + 1) fa (one (keyN 102 o.fam) (nextV [who, g, 1] o.gen)) := by
  obtain ⟨a, b, c, hp, ha, hb⟩ := h.ex
  have e := (hb (keyN 102 o.fam)).trans (one_self _ _)
  have hd : (gloDo (playTo os k).1 k o).2 = true := by
    rw [hp.may ho hk, may14 h1, may24 h1]
    unfold nextB useB
    rw [lookOk_some e, lookV_some e]
    have e1 : nth [who, g, 1] 1 = g := rfl
    have e2 : nth [who, g, 1] 2 = 1 := rfl
    rw [e1, e2]
    have n1 : (g == 99) = false := by simp; omega
    have n2 : (o.gen == 0) = false := by simp; omega
    rw [n1, n2]
    simp [hg']
  refine ⟨hd, ⟨_, _, _, (hp.yes hx ho hk hd).2, fun key => ?_, fun key => ?_⟩, h.more hx hd⟩
  · have : stepP a 1 k o = a := by unfold stepP; rw [if_neg (by rw [h1]; decide)]
    rw [this, ha]
  · rw [(hp.look24 ho hk h1 hd).2, hb, lookV_some e]
    unfold one
    by_cases e1 : keyN 102 o.fam = key
    · rw [if_pos e1, if_pos e1]
    · rw [if_neg e1, if_neg e1, if_neg e1]
theorem Way.out (h : Way os k (one (keyN 115 o.inn) [o.who]) (one (keyN 102 fam) [o.who, g, 1])) (hx : os[k]? = some o) (ho : opB o = true) (hk : k ≤ 29) (h1 : o.kind = 5) : (gloDo (playTo os k).1 k o).2 = true ∧ Way os (k + 1) nil_ (one (keyN 102 fam) [o.who, g, 0]) := by
  obtain ⟨a, b, c, hp, ha, hb⟩ := h.ex
  have hd : (gloDo (playTo os k).1 k o).2 = true := by rw [hp.may ho hk, may15 h1, may25 h1, mine_of ha]; rfl
  refine ⟨hd, ⟨_, _, _, (hp.yes hx ho hk hd).2, fun key => ?_, fun key => ?_⟩, h.more hx hd⟩
  · rw [hp.look1 ho hk (by rw [h1]; decide)]
    have hw : (planP a 1 k o).writes = [⟨keyN 115 o.inn, true, []⟩] := by simp [planP, h1, inP5, mine_of ha]
    rw [hw, ha]
    show (if keyN 115 o.inn = key then none else one (keyN 115 o.inn) [o.who] key) = none
    by_cases e1 : keyN 115 o.inn = key
    · rw [if_pos e1]
    · rw [if_neg e1, one_other _ e1]
  · rw [hp.out2 ho hk h1, look_map (outIt_key _), hb]
    unfold one
    by_cases e1 : keyN 102 fam = key
    · rw [if_pos e1, if_pos e1, Option.map_some, outIt_yes]
      · rfl
      · unfold famB
        have h0 : (keyN 102 fam).data[0]? = some 102 := by
          unfold keyN
          rw [ByteArray.data_append, Array.getElem?_append_left (by decide)]; rfl
        rw [h0]
        simp [nth]
    · rw [if_neg e1, if_neg e1]; rfl
/- What may not be any more. -/
theorem Way.noNext (h : Way os k fa (one (keyN 102 o.fam) [who, g, 0])) (ho : opB o = true) (hk : k ≤ 29) (h1 : o.kind = 4) : (gloDo (playTo os k).1 k o).2 = false := by
  obtain ⟨a, b, c, hp, ha, hb⟩ := h.ex
  have e := (hb (keyN 102 o.fam)).trans (one_self _ _)
  rw [hp.may ho hk, may14 h1, may24 h1]
  unfold nextB useB
  rw [lookOk_some e, lookV_some e]
  simp [nth]
theorem Way.noTrade (h : Way os k fa (one (keyN 102 fam) [who, g, 0])) (ho : opB o = true) (hk : k ≤ 29) (h1 : o.kind = 3) : (gloDo (playTo os k).1 k o).2 = false := by
  obtain ⟨a, b, c, hp, ha, hb⟩ := h.ex
  rw [hp.may ho hk, may13 h1, may23 h1]
  unfold tradeB
  rw [lookOk_none ((hb _).trans (one_other _ (keyN_ne (by decide) fam o.code)))]; rfl
theorem Way.noMine (h : Way os k nil_ fb) (ho : opB o = true) (hk : k ≤ 29) (h1 : o.kind = 2 ∨ o.kind = 5) : (gloDo (playTo os k).1 k o).2 = false := by
  obtain ⟨a, b, c, hp, ha, hb⟩ := h.ex
  rw [hp.may ho hk]
  rcases h1 with h1 | h1
  · rw [may12 h1, mine_not ha]; rfl
  · rw [may15 h1, mine_not ha]; rfl
theorem Way.ok (h : Way os k fa fb) : gloB (playTo os k).1 = true := by
  obtain ⟨a, b, c, hp, -, -⟩ := h.ex
  rw [hp.is]; exact hp.ok
theorem Way.len (h : Way os k fa fb) : ∃ a b c, (playTo os k).1 = [⟨a⟩, ⟨b⟩, ⟨c⟩] ∧ c.length = k := by
  obtain ⟨a, b, c, hp, -, -⟩ := h.ex
  exact ⟨a, b, c, hp.is, by rw [hp.noted.len, h.all, cnt_all]⟩
end

/-- The beginning, and the next keys. -/
def inO (who inn : Int) : Op := ⟨1, who, inn, 0, 0, 0, 0⟩
def letO (who inn cd sec : Int) : Op := ⟨2, who, inn, cd, sec, 0, 0⟩
def tradeO (cd sec fam : Int) : Op := ⟨3, 0, 0, cd, sec, fam, 0⟩
def nextO (fam g : Int) : Op := ⟨4, 0, 0, 0, 0, fam, g⟩
def outO (who inn : Int) : Op := ⟨5, who, inn, 0, 0, 0, 0⟩
def nexts (fam : Int) (j : Nat) : List Op := (List.range j).map fun (i : Nat) => nextO fam ((i : Int) + 1)
def begins (who inn cd sec fam : Int) (j : Nat) : List Op := [inO who inn, letO who inn cd sec, tradeO cd sec fam] ++ nexts fam j
theorem nexts_len (fam : Int) (j : Nat) : (nexts fam j).length = j := by simp [nexts]
theorem nexts_more (fam : Int) (j : Nat) : nexts fam (j + 1) = nexts fam j ++ [nextO fam ((j : Int) + 1)] := by simp [nexts, List.range_succ]
theorem begins_len (who inn cd sec fam : Int) (j : Nat) : (begins who inn cd sec fam j).length = 3 + j := by simp [begins, nexts_len]; omega
theorem begins_more (who inn cd sec fam : Int) (j : Nat) : begins who inn cd sec fam (j + 1) = begins who inn cd sec fam j ++ [nextO fam ((j : Int) + 1)] := by unfold begins; rw [nexts_more, List.append_assoc]
section
variable {who inn cd sec fam : Int} (h1 : 0 ≤ who ∧ who ≤ 9) (h2 : 0 ≤ inn ∧ inn ≤ 9) (h3 : 0 ≤ cd ∧ cd ≤ 9) (h4 : 0 ≤ sec ∧ sec ≤ 99) (h5 : 0 ≤ fam ∧ fam ≤ 9)
include h1 h2 in
theorem inO_ok : opB (inO who inn) = true := by
  have a := inB_yes h1.1 h1.2; have b := inB_yes h2.1 h2.2
  simp [opB, opK, inO, a, b]; decide
include h1 h2 in
theorem outO_ok : opB (outO who inn) = true := by
  have a := inB_yes h1.1 h1.2; have b := inB_yes h2.1 h2.2
  simp [opB, opK, outO, a, b]; decide
include h1 h2 h3 h4 in
theorem letO_ok : opB (letO who inn cd sec) = true := by
  have a := inB_yes h1.1 h1.2; have b := inB_yes h2.1 h2.2; have c := inB_yes h3.1 h3.2; have d := inB_yes h4.1 h4.2
  simp [opB, opK, letO, a, b, c, d]; decide
include h3 h4 h5 in
theorem tradeO_ok : opB (tradeO cd sec fam) = true := by
  have c := inB_yes h3.1 h3.2; have d := inB_yes h4.1 h4.2; have e := inB_yes h5.1 h5.2
  simp [opB, opK, tradeO, c, d, e]; decide
include h5 in
theorem nextO_ok {g : Int} (h6 : 0 ≤ g ∧ g ≤ 99) : opB (nextO fam g) = true := by
  have e := inB_yes h5.1 h5.2; have f := inB_yes h6.1 h6.2
  simp [opB, opK, nextO, e, f]; decide
include h1 h2 h3 h4 h5 in
theorem way_mid (os : List Op) : ∀ j : Nat, j ≤ 10 → (∀ i : Nat, i < 3 + j → os[i]? = (begins who inn cd sec fam j)[i]?) → Way os (3 + j) (one (keyN 115 inn) [who]) (one (keyN 102 fam) [who, (j : Int) + 1, 1])
  | 0, _, h => by
    have w1 := (Way.start.in_ (o := inO who inn) (h 0 (by omega)) (inO_ok h1 h2) (by omega) rfl).2
    have w2 := (Way.let_ (o := letO who inn cd sec) w1 (h 1 (by omega)) (letO_ok h1 h2 h3 h4) (by omega) rfl).2
    exact (Way.trade (o := tradeO cd sec fam) w2 (h 2 (by omega)) (tradeO_ok h3 h4 h5) (by omega) rfl).2
  | j + 1, hj, h => by
    have hl := begins_len who inn cd sec fam j
    have ih := way_mid os j (by omega) fun i hi => by
      rw [h i (by omega), begins_more, List.getElem?_append_left (by rw [hl]; omega)]
    have hx : os[3 + j]? = some (nextO fam ((j : Int) + 1)) := by
      rw [h _ (by omega), begins_more, List.getElem?_append_right (by rw [hl]; omega), hl, Nat.sub_self]; rfl
    have := (Way.next (o := nextO fam ((j : Int) + 1)) ih hx (nextO_ok h5 ⟨by omega, by omega⟩) (by omega) rfl (by show (1 : Int) ≤ (j : Int) + 1; omega) (by show (j : Int) + 1 ≤ (j : Int) + 1; omega) (by omega)).2
    have e : nextV [who, (j : Int) + 1, 1] ((j : Int) + 1) = [who, ((j + 1 : Nat) : Int) + 1, 1] := by
      unfold nextV
      have e1 : nth [who, (j : Int) + 1, 1] 1 = (j : Int) + 1 := rfl
      rw [e1, if_neg (by omega)]
      rfl
    have this' : Way os (3 + j + 1) (one (keyN 115 inn) [who]) (one (keyN 102 fam) (nextV [who, (j : Int) + 1, 1] ((j : Int) + 1))) := this
    rw [e] at this'
    exact this'
end

end Go.Proofs.Ytmbkhohgciakfaa
