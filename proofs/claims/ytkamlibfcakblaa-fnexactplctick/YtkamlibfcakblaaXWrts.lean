/- Texts that follow each other, merged: Wrts, WPlain, Put. -/
import Derived.Test.YtkamlibfcakblaaXWrite
import Derived.Test.YtkamlibfcakblaaXMark
import Derived.Test.YtkamlibfcakblaaXStoOk
import Derived.Test.YtkamlibfcakblaaXFrameRow
import Derived.Test.YtkamlibfcakblaaXRowOps
import Derived.Test.YtkamlibfcakblaaXDel
import Derived.Deep.RegionHeld3

/- Writes, one behind the other: plain facts. -/
namespace Go.Proofs.Ytkamlibfcakblaa
open Go.RowKit

/-- What the model's StoDo answers, in plain words. -/
def doStep (o : Option (List Item)) (x : Wr) : Option (List Item) :=
  o.bind fun its => if x.ok = true then (if 40 < (wAll x.key x.del x.val its).length then none else some (wAll x.key x.del x.val its)) else none
def doAll (its : List Item) (ws : List Wr) : Option (List Item) := if stoB its = true then ws.foldl doStep (some its) else none
def stoDo (its : List Item) (ws : List Wr) : List Item := (doAll its ws).getD []

theorem foldNone (ws : List Wr) : ws.foldl doStep none = none := by
  induction ws with
  | nil => rfl
  | cons x ws ih => exact ih
theorem doTake {ws : List Wr} {k : Nat} {x : Wr} (h : ws[k]? = some x) (o : Option (List Item)) : (ws.take (k + 1)).foldl doStep o = doStep ((ws.take k).foldl doStep o) x := by
  rw [List.take_add_one, h, List.foldl_append]; rfl
theorem doStop {ws : List Wr} {k : Nat} {o : Option (List Item)} (h : (ws.take k).foldl doStep o = none) : ws.foldl doStep o = none := by
  rw [← List.take_append_drop k ws, List.foldl_append, h, foldNone]

/-- All names and numbers are short. -/
def Fine (its : List Item) : Prop := ∀ it ∈ its, it.key.size ≤ 3 ∧ it.val.length ≤ 3
theorem Fine.short {its : List Item} (h : Fine its) : Short its its.length := fun _ it _ hx => by
  have := h it (List.mem_of_getElem? hx)
  omega
theorem keyB_le3 {s : ByteArray} (h : keyB s = true) : s.size ≤ 3 := by
  unfold keyB at h
  rw [decide_eq_true_iff] at h
  exact h.2.1
theorem valB_le3 {l : List Int} (h : valB l = true) : l.length ≤ 3 := by
  unfold valB at h
  simp at h
  omega
theorem stoB_fine {its : List Item} (h : stoB its = true) : its.length ≤ 40 ∧ Fine its := by
  unfold stoB at h
  simp only [Bool.and_eq_true, decide_eq_true_iff, List.all_eq_true] at h
  refine ⟨h.1, fun it hi => ?_⟩
  have := h.2.1 it hi
  unfold itemB at this
  simp only [Bool.and_eq_true] at this
  exact ⟨keyB_le3 this.1, valB_le3 this.2⟩
theorem Wr.fine {x : Wr} (h : x.ok = true) : x.key.size ≤ 3 ∧ x.val.length ≤ 3 := by
  unfold Wr.ok wrtB at h
  simp only [Bool.and_eq_true] at h
  refine ⟨keyB_le3 h.1, ?_⟩
  have h2 := h.2
  cases hd : x.del with
  | true => rw [hd] at h2; simp at h2; simp [h2]
  | false => rw [hd] at h2; exact valB_le3 (by simpa using h2)
theorem Fine.snoc {its : List Item} {it : Item} (h : Fine its) (h1 : it.key.size ≤ 3 ∧ it.val.length ≤ 3) : Fine (its ++ [it]) := by
  intro x hx
  rcases List.mem_append.1 hx with h' | h'
  · exact h x h'
  · have : x = it := by simpa using h'
    rw [this]; exact h1
theorem Fine.wst {wk : ByteArray} {del : Bool} {wv : List Int} {st : List Item × Bool} {it : Item} (h : Fine st.1) (hw : wk.size ≤ 3 ∧ wv.length ≤ 3) (hi : it.key.size ≤ 3 ∧ it.val.length ≤ 3) : Fine (wst wk del wv st it).1 := by
  have h1 : Fine (wst1 wk wv st it).1 := by
    unfold wst1; split
    · exact h.snoc hw
    · exact h
  unfold Go.Proofs.Ytkamlibfcakblaa.wst wst2; split
  · split
    · exact h1
    · exact h1.snoc hw
  · exact h1.snoc hi
theorem Fine.wAll {wk : ByteArray} {del : Bool} {wv : List Int} {its : List Item} (h : Fine its) (hw : wk.size ≤ 3 ∧ wv.length ≤ 3) : Fine (wAll wk del wv its) := by
  have hf : ∀ (l : List Item) (st : List Item × Bool), Fine l → Fine st.1 → Fine (l.foldl (Go.Proofs.Ytkamlibfcakblaa.wst wk del wv) st).1 := by
    intro l
    induction l with
    | nil => intro st _ hs; exact hs
    | cons x l ih => intro st hl hs; exact ih _ (fun y hy => hl y (List.mem_cons_of_mem _ hy)) (Fine.wst hs hw (hl x (List.mem_cons_self)))
  have h1 := hf its ([], del) h (fun _ hx => by simp at hx)
  unfold Go.Proofs.Ytkamlibfcakblaa.wAll; split
  · exact h1
  · exact Fine.snoc h1 hw

end Go.Proofs.Ytkamlibfcakblaa

/- Writes on what rises: put in, put in place of, taken out. Plain facts. -/
namespace Go.Proofs.Ytkamlibfcakblaa
open Go.RowKit

theorem cmp_gt : ∀ x y : List UInt8, ¬ Lib.compareBytes x y < 0 → x ≠ y → Lib.compareBytes y x < 0
  | [], [], _, h => absurd rfl h
  | [], _ :: _, h, _ => by simp [Lib.compareBytes] at h
  | _ :: _, [], _, _ => by simp [Lib.compareBytes]
  | a :: x, b :: y, h, hne => by
    unfold Lib.compareBytes at *
    by_cases ab : a < b
    · rw [if_pos ab] at h; exact absurd (by decide) h
    · by_cases ba : b < a
      · rw [if_pos ba]; decide
      · have he : a = b := by
          have h1 : ¬ a.toNat < b.toNat := by simpa [UInt8.lt_iff_toNat_lt] using ab
          have h2 : ¬ b.toNat < a.toNat := by simpa [UInt8.lt_iff_toNat_lt] using ba
          exact UInt8.toNat_inj.1 (by omega)
        subst he
        rw [if_neg ab, if_neg ba] at h
        rw [if_neg ab, if_neg ba]
        exact cmp_gt x y h (fun e => hne (by rw [e]))
theorem ltB_other {a b : ByteArray} (h : ltB a b = false) (hne : a ≠ b) : ltB b a = true := by
  rw [ltB_cmp, decide_eq_false_iff_not] at h
  rw [ltB_cmp, decide_eq_true_iff]
  exact cmp_gt _ _ h (fun e => hne (Go.WideShapes.bytes_inj e))
theorem ltB_asymm {a b : ByteArray} (h : ltB a b = true) : ltB b a = false := by
  cases h' : ltB b a with
  | false => rfl
  | true =>
    have := ltB_trans h h'
    rw [ltB_irrefl] at this; exact absurd this (by decide)
theorem ltB_ne {a b : ByteArray} (h : ltB a b = true) : a ≠ b := fun e => by rw [e, ltB_irrefl] at h; exact absurd h (by decide)

section
variable {wk : ByteArray} {del : Bool} {wv : List Int}
theorem fold_low : ∀ (l : List Item) (acc : List Item) (d : Bool), (∀ a ∈ l, ltB a.key wk = true) → l.foldl (wst wk del wv) (acc, d) = (acc ++ l, d)
  | [], acc, d, _ => by simp
  | a :: l, acc, d, h => by
    have ha := h a (List.mem_cons_self ..)
    have h1 : wst wk del wv (acc, d) a = (acc ++ [a], d) := by
      simp [wst, wst1, wst2, ltB_asymm ha, ltB_ne ha]
    rw [List.foldl_cons, h1, fold_low l _ _ fun x hx => h x (List.mem_cons_of_mem _ hx), List.append_assoc]
    rfl
theorem fold_done : ∀ (l : List Item) (acc : List Item), (∀ a ∈ l, a.key ≠ wk) → l.foldl (wst wk del wv) (acc, true) = (acc ++ l, true)
  | [], acc, _ => by simp
  | a :: l, acc, h => by
    have ha := h a (List.mem_cons_self ..)
    have h1 : wst wk del wv (acc, true) a = (acc ++ [a], true) := by simp [wst, wst1, wst2, ha]
    rw [List.foldl_cons, h1, fold_done l _ fun x hx => h x (List.mem_cons_of_mem _ hx), List.append_assoc]
    rfl
variable {its : List Item} {i : Nat}
theorem low_mem (hlo : Lo its wk i) : ∀ a ∈ its.take i, ltB a.key wk = true := by
  intro a ha
  obtain ⟨j, hj, rfl⟩ := List.getElem_of_mem ha
  rw [List.length_take] at hj
  refine hlo j _ (by omega) ?_
  rw [List.getElem_take, List.getElem?_eq_getElem (by omega)]
theorem high_mem (hhi : Hi its wk i) (hr : Rise its its.length) (hi : i < its.length) : ∀ a ∈ its.drop (i + 1), a.key ≠ wk := by
  intro a ha
  obtain ⟨j, hj, rfl⟩ := List.getElem_of_mem ha
  rw [List.length_drop] at hj
  rw [List.getElem_drop]
  have h1 := hhi i _ (Nat.le_refl _) (List.getElem?_eq_getElem hi)
  have h2 := rise_lt hr (show i < i + 1 + j by omega) (List.getElem?_eq_getElem hi) (List.getElem?_eq_getElem (by omega))
  intro e
  rw [e] at h2
  rw [h1] at h2; exact absurd h2 (by decide)
theorem its_split (hi : i < its.length) : its = its.take i ++ its[i] :: its.drop (i + 1) := by
  rw [List.getElem_cons_drop, List.take_append_drop]
theorem wfold_hit (hlo : Lo its wk i) (hhi : Hi its wk i) (hr : Rise its its.length) (hh : hitB its wk i = true) :
    wfold wk del wv its = if del = true then (its.take i ++ its.drop (i + 1), true) else (its.take i ++ ⟨wk, wv⟩ :: its.drop (i + 1), true) := by
  have hi : i < its.length := by
    by_cases h : i < its.length
    · exact h
    · rw [hitB_end (by omega)] at hh; exact absurd hh (by decide)
  have hk : its[i].key = wk := by simpa [hitB, List.getElem?_eq_getElem hi] using hh
  unfold wfold
  conv => lhs; rw [its_split hi]
  rw [List.foldl_append, fold_low _ _ _ (low_mem hlo), List.foldl_cons, List.nil_append]
  cases del with
  | true =>
    have h1 : wst wk true wv (its.take i, true) its[i] = (its.take i, true) := by simp [wst, wst1, wst2, hk]
    rw [h1, fold_done _ _ (high_mem hhi hr hi), if_pos rfl]
  | false =>
    have h1 : wst wk false wv (its.take i, false) its[i] = (its.take i ++ [⟨wk, wv⟩], true) := by simp [wst, wst1, wst2, hk, ltB_irrefl]
    rw [h1, fold_done _ _ (high_mem hhi hr hi), if_neg (by decide), List.append_assoc]
    rfl
theorem wfold_miss (hlo : Lo its wk i) (hhi : Hi its wk i) (hr : Rise its its.length) (hh : hitB its wk i = false) (hl : i ≤ its.length) :
    wfold wk del wv its = if del = true then (its, true) else if i < its.length then (its.take i ++ ⟨wk, wv⟩ :: its.drop i, true) else (its, false) := by
  by_cases hi : i < its.length
  · have hk : its[i].key ≠ wk := by simpa [hitB, List.getElem?_eq_getElem hi] using hh
    have hlt : ltB wk its[i].key = true := ltB_other (hhi i _ (Nat.le_refl _) (List.getElem?_eq_getElem hi)) hk
    have hd : its.drop i = its[i] :: its.drop (i + 1) := (List.getElem_cons_drop _).symm
    unfold wfold
    conv => lhs; rw [its_split hi]
    rw [List.foldl_append, fold_low _ _ _ (low_mem hlo), List.foldl_cons, List.nil_append]
    cases del with
    | true =>
      have h1 : wst wk true wv (its.take i, true) its[i] = (its.take i ++ [its[i]], true) := by simp [wst, wst1, wst2, hk]
      rw [h1, fold_done _ _ (high_mem hhi hr hi), if_pos rfl, List.append_assoc]
      congr 1
      conv => rhs; rw [its_split hi]
      rfl
    | false =>
      have h1 : wst wk false wv (its.take i, false) its[i] = (its.take i ++ [⟨wk, wv⟩] ++ [its[i]], true) := by simp [wst, wst1, wst2, hk, hlt]
      rw [h1, fold_done _ _ (high_mem hhi hr hi), if_neg (by decide), if_pos hi, hd, List.append_assoc, List.append_assoc]
      rfl
  · have he : its.take i = its := List.take_of_length_le (by omega)
    have hm := low_mem hlo
    rw [he] at hm
    unfold wfold
    rw [fold_low _ _ _ hm, List.nil_append, if_neg hi]
    cases del <;> rfl
theorem wAll_drop (hlo : Lo its wk i) (hhi : Hi its wk i) (hr : Rise its its.length) (hh : hitB its wk i = true) : wAll wk true wv its = delAt its i := by
  unfold wAll; rw [wfold_hit hlo hhi hr hh]; rfl
theorem wAll_drop_miss (hlo : Lo its wk i) (hhi : Hi its wk i) (hr : Rise its its.length) (hh : hitB its wk i = false) (hl : i ≤ its.length) : wAll wk true wv its = its := by
  unfold wAll; rw [wfold_miss hlo hhi hr hh hl]; rfl
theorem wAll_put (hlo : Lo its wk i) (hhi : Hi its wk i) (hr : Rise its its.length) (hh : hitB its wk i = true) : wAll wk false wv its = its.set i ⟨wk, wv⟩ := by
  have hi : i < its.length := by
    by_cases h : i < its.length
    · exact h
    · rw [hitB_end (by omega)] at hh; exact absurd hh (by decide)
  unfold wAll; rw [wfold_hit hlo hhi hr hh]
  simp only [Bool.false_eq_true, if_false, if_true]
  rw [List.set_eq_take_append_cons_drop, if_pos hi]
theorem wAll_ins (hlo : Lo its wk i) (hhi : Hi its wk i) (hr : Rise its its.length) (hh : hitB its wk i = false) (hl : i ≤ its.length) : wAll wk false wv its = insAt its i ⟨wk, wv⟩ := by
  unfold wAll; rw [wfold_miss hlo hhi hr hh hl]
  by_cases hi : i < its.length
  · simp only [Bool.false_eq_true, if_false, if_true, hi]; rfl
  · have : i = its.length := by omega
    subst this
    simp [insAt]
end

/-- Names rise, said of any two. -/
theorem rise_of {its : List Item} (h : ∀ j a b, its[j]? = some a → its[j + 1]? = some b → ltB a.key b.key = true) : Rise its its.length := fun j a b _ ha hb => h j a b ha hb
theorem rise_set {its : List Item} {i : Nat} {x : Item} (hr : Rise its its.length) (hx : its[i]? = some x) (it : Item) (hk : it.key = x.key) : Rise (its.set i it) (its.set i it).length := by
  have hi := (List.getElem?_eq_some_iff.1 hx).1
  refine rise_of fun j a b ha hb => ?_
  have hg : ∀ {j : Nat} {y : Item}, (its.set i it)[j]? = some y → ∃ z : Item, its[j]? = some z ∧ z.key = y.key := by
    intro j y hy
    by_cases e : i = j
    · subst e
      rw [List.getElem?_set_self hi] at hy
      injection hy with hy
      exact ⟨x, hx, by rw [← hy, hk]⟩
    · rw [List.getElem?_set_ne e] at hy
      exact ⟨y, hy, rfl⟩
  obtain ⟨a', ha', ea⟩ := hg ha
  obtain ⟨b', hb', eb⟩ := hg hb
  rw [← ea, ← eb]
  exact rise_lt hr (by omega) ha' hb'
theorem rise_del {its : List Item} {i : Nat} (hr : Rise its its.length) (hi : i < its.length) : Rise (delAt its i) (delAt its i).length := by
  refine rise_of fun j a b ha hb => ?_
  rw [delAt_get hi] at ha hb
  by_cases h1 : j < i
  · rw [if_pos h1] at ha
    by_cases h2 : j + 1 < i
    · rw [if_pos h2] at hb; exact rise_lt hr (by omega) ha hb
    · rw [if_neg h2] at hb; exact rise_lt hr (by omega) ha hb
  · rw [if_neg h1] at ha
    rw [if_neg (by omega)] at hb
    exact rise_lt hr (by omega) ha hb
theorem rise_ins {its : List Item} {i : Nat} {it : Item} (hr : Rise its its.length) (hlo : Lo its it.key i) (hhi : Hi its it.key i) (hh : hitB its it.key i = false) (hi : i ≤ its.length) : Rise (insAt its i it) (insAt its i it).length := by
  refine rise_of fun j a b ha hb => ?_
  rw [insAt_get hi] at ha hb
  by_cases h1 : j < i
  · rw [if_pos h1] at ha
    by_cases h2 : j + 1 < i
    · rw [if_pos h2] at hb; exact rise_lt hr (by omega) ha hb
    · rw [if_neg h2, if_pos (by omega)] at hb
      injection hb with hb
      rw [← hb]; exact hlo j a h1 ha
  · rw [if_neg h1] at ha
    rw [if_neg (by omega), if_neg (by omega)] at hb
    simp only [Nat.add_sub_cancel] at hb
    by_cases h3 : j = i
    · rw [if_pos h3] at ha
      injection ha with ha
      subst h3
      rw [← ha]
      have hne : b.key ≠ it.key := by simpa [hitB, hb] using hh
      exact ltB_other (hhi j b (Nat.le_refl _) hb) hne
    · rw [if_neg h3] at ha
      exact rise_lt hr (by omega) ha hb
/-- Some write that may not be: nothing comes of it. -/
theorem doneBad {its : List Item} {ws : List Wr} {k : Nat} {x : Wr} (hx : ws[k]? = some x) (h : x.ok = false) : stoDo its ws = [] := by
  unfold stoDo doAll
  split
  · have : (ws.take (k + 1)).foldl doStep (some its) = none := by
      rw [doTake hx]
      cases (ws.take k).foldl doStep (some its) with
      | none => rfl
      | some l => simp [doStep, h]
    rw [doStop this]; rfl
  · rfl
/-- What rises and is fine goes on so. -/
def Good (its : List Item) : Prop := Rise its its.length ∧ its.length ≤ 41 ∧ Fine its
theorem stoB_rise {its : List Item} (h : stoB its = true) : Rise its its.length := by
  unfold stoB at h
  simp only [Bool.and_eq_true] at h
  exact asc_rise h.2.2

end Go.Proofs.Ytkamlibfcakblaa

/- The program's put and drop of what rises, its copy of things, its look at writes. -/
namespace Go.Proofs.Ytkamlibfcakblaa
open Go.RowKit

/-- What a write into what rises leaves: its own, in the blocks that it had, in those of the thing, or in new ones. -/
def Wrote (S : Nat → Prop) (v : Value) (xs : List Item) (w : World) (e : Ending) (w' : World) : Prop :=
  ∃ v', e = .returned v' ∧ itSh.Own 104 w' (fun b => S b ∨ w.heap.size ≤ b) v' xs ∧ w.grownBy w' v.ownBlock

set_option maxRecDepth 100000 in
set_option maxHeartbeats 1000000 in
theorem drop_any (w : World) (S : Nat → Prop) (v : Value) (its : List Item) (hv : itSh.Own 104 w S v its) (hl : its.length ≤ 1048576) (hr : Rise its its.length) (key : ByteArray) (wv : List Int) :
    Calls Try.prog 90 #[v, .string key] w (Wrote S v (wAll key true wv its) w) := by
  obtain ⟨A, c, rfl, hc2, hc1⟩ := hv.row.form
  have HV := Lib.hid hv
  have HR := Lib.hid hr
  clear hv hr
  go_enter Try.func90, Try.ntmps90
  go_wp2_with fail
  refine (find_any _ _ its key (items_row.1 HV.out.row) hl HR.out).mono ?_
  rintro e w1 ⟨i, hi, hlo, hhi, rfl, hb⟩
  have HO := Lib.hid (HV.out.below hb)
  have HB := Lib.hid hb
  clear HV hb
  cases hh : hitB its key i with
  | false =>
    have HE := Lib.hid (wAll_drop_miss (wv := wv) hlo hhi HR.out hh hi)
    clear hlo hhi hh
    go_wp2
    go_ret
    exact ⟨_, rfl, by rw [HE.out]; exact HO.out.mono fun b hb => .inl hb, ⟨HB.out.os, HB.out.tape, HB.out.output, HB.out.size, fun k hk _ => HB.out.block k hk⟩⟩
  | true =>
    have hlt := (show i < its.length from by
      by_cases h : i < its.length
      · exact h
      · rw [hitB_end (by omega)] at hh; exact absurd hh (by decide))
    have HE := Lib.hid (wAll_drop (wv := wv) hlo hhi HR.out hh)
    clear hlo hhi hh
    have hw1 : IntKind.i64.wrap ((i : Int) + 1) = (i : Int) + 1 := by rw [IntKind.wrap_i64]; omega
    go_wp2_with fail
    refine (delete_any _ _ _ its HO.out hl i hlt).mono ?_
    rintro e w2 ⟨v', rfl, ho, hg⟩
    have HO2 := Lib.hid ho
    have HG2 := Lib.hid hg
    clear ho hg
    go_wp2
    go_ret
    refine ⟨_, rfl, by rw [HE.out]; exact HO2.out.mono fun b hb => hb.elim .inl fun h => .inr (Nat.le_trans HB.out.size h), ?_⟩
    exact ⟨HG2.out.os.trans HB.out.os, HG2.out.tape.trans HB.out.tape, HG2.out.output.trans HB.out.output, Nat.le_trans HB.out.size HG2.out.size, fun k hk hne => (HG2.out.block k (Nat.lt_of_lt_of_le hk HB.out.size) hne).trans (HB.out.block k hk)⟩

theorem below_grown {w w' : World} (h : Below w.heap.size w w') (row : Option Nat) : w.grownBy w' row := ⟨h.os, h.tape, h.output, h.size, fun k hk _ => h.block k hk⟩
set_option maxRecDepth 100000 in
set_option maxHeartbeats 1000000 in
theorem put_any (w : World) (S S' : Nat → Prop) (v : Value) (its : List Item) (hv : itSh.Own 104 w S v its) (hl : its.length ≤ 1048576) (hr : Rise its its.length) (it : Item) (u : Value) (hit : itSh.own w S' [.string it.key, u] it) (hS : ∀ b, S b → b < w.heap.size) (hdis : ∀ b, S b → ¬ S' b) :
    Calls Try.prog 91 #[v, .agg #[.string it.key, u]] w (Wrote (fun b => S b ∨ S' b) v (wAll it.key false it.val its) w) := by
  obtain ⟨A, c, rfl, hc2, hc1⟩ := hv.row.form
  obtain ⟨u', hu', hks, hou⟩ := it_own.1 hit
  obtain rfl : u' = u := by simpa using hu'.symm
  obtain ⟨Au, cu, rfl, -, -⟩ := hou.row.form
  unfold maxLen at hks
  have m1 := method_sortKey
  have HB0 := Lib.hid (belowOne w (.cells #[.string it.key, .slice Au it.val.length cu] 104))
  have HX0 := Lib.hid (Held.new w #[.string it.key, .slice Au it.val.length cu] 104)
  have HV := Lib.hid hv
  have HI := Lib.hid hit
  have HR := Lib.hid hr
  clear hv hr hit hou hu'
  go_enter Try.func91, Try.ntmps91
  go_wp2_with fail
  refine (sortKey_any _ _ _ _ _).mono ?_
  rintro e w0 ⟨rfl, hb0⟩
  replace HX0 := Lib.hid (HX0.out.below hb0 HX0.out.1)
  replace HB0 := Lib.hid (belowNext HB0.out hb0)
  clear hb0
  go_wp2_with fail
  refine (find_any _ _ its it.key ((items_row.1 (HV.out.row.below HB0.out)).more HB0.out.size) hl HR.out).mono ?_
  rintro e w1 ⟨i, hi, hlo, hhi, rfl, hb⟩
  have HX := Lib.hid (HX0.out.below hb HX0.out.1)
  have HB := Lib.hid (belowNext HB0.out hb)
  have HO := Lib.hid (HV.out.below HB.out)
  have HIt := Lib.hid (itSh.okeep HI.out fun b _ hlt => HB.out.block b hlt)
  have hz1 : w.heap.size < w1.heap.size := HX.out.1
  clear HX0 HB0 hb
  have x0 := HX.out.of 0 _ rfl
  have x1 := HX.out.of 1 _ rfl
  cases hh : hitB its it.key i with
  | true =>
    have hlt := (show i < its.length from by
      by_cases h : i < its.length
      · exact h
      · rw [hitB_end (by omega)] at hh; exact absurd hh (by decide))
    have HE := Lib.hid (wAll_put (wv := it.val) hlo hhi HR.out hh)
    clear hlo hhi hh
    obtain ⟨g, cap, y, ds, Sj, e2, -, hSg, -, hds, -, hcell, hfr, -, -⟩ := HO.out.at_ (j := i) hlt
    injection e2 with e2a e2b e2c
    subst e2a
    obtain ⟨y1, rfl, -, hy1⟩ := it_rel.1 (itSh.orel hds)
    have r0 : w1.cell? ⟨g, i * 2, none⟩ = some _ := hcell 0 _ rfl
    have r1 : w1.cell? ⟨g, i * 2 + 1, none⟩ = some _ := hcell 1 _ rfl
    have hput := Sh.Own.put HO.out (j := i) (g := g) (cap := c) hlt rfl (w1 := w1) (fun _ _ _ => rfl) HIt.out (fun b hb hb2 => hdis b hb2 hb)
    have HP := Lib.hid hput
    have hgne : g ≠ w.heap.size := by have := hS g hSg; omega
    have hf0 := hfr (i * 2)
    have hf1 := hfr (i * 2 + 1)
    clear hput hds hcell hy1 e2b e2c hfr
    go_wp2
    go_ret
    refine ⟨_, rfl, ?_, ?_⟩
    · rw [HE.out]
      exact Sh.Own.mono HP.out fun b hb => .inl hb
    · have h1 := below_grown HB.out (some g)
      exact ⟨h1.os, h1.tape, h1.output, by simpa [World.setCell] using h1.size, fun k hk hne => by
        rw [Below.heap_setCell _ _ _ _ (fun e => hne (by rw [e]; rfl)), Below.heap_setCell _ _ _ _ (fun e => hne (by rw [e]; rfl))]
        exact h1.block k hk hne⟩
  | false =>
    have HE := Lib.hid (wAll_ins (wv := it.val) hlo hhi HR.out hh hi)
    clear hlo hhi hh
    have HN := Lib.hid (show (w1.alloc (.cells #[.string it.key, .slice Au it.val.length cu] 104)).heap[w1.heap.size]? = some (.cells #[.string it.key, .slice Au it.val.length cu] 104 (0, 0)) from heap_alloc_new w1 _)
    go_wp2_with fail
    refine (insert_any _ S S' _ its (HO.out.below (belowOne _ _)) hl i hi it w1.heap.size _ (itSh.okeep HIt.out fun b _ hlt => (belowOne w1 _).block b hlt) HN.out (fun h => by have := hS _ h; omega) hdis).mono ?_
    rintro e w2 ⟨v', rfl, ho, hg⟩
    have HO2 := Lib.hid ho
    have HG2 := Lib.hid hg
    clear ho hg
    go_wp2
    go_ret
    have hsz : w.heap.size ≤ (w1.alloc (.cells #[.string it.key, .slice Au it.val.length cu] 104)).heap.size := by simp; omega
    refine ⟨_, rfl, by rw [HE.out]; exact HO2.out.mono fun b hb => hb.elim .inl fun h => .inr (Nat.le_trans hsz h), ?_⟩
    have h1 := below_grown (HB.out.alloc (Nat.le_of_lt hz1) (.cells #[.string it.key, .slice Au it.val.length cu] 104)) (Value.slice A its.length c).ownBlock
    exact ⟨HG2.out.os.trans h1.os, HG2.out.tape.trans h1.tape, HG2.out.output.trans h1.output, Nat.le_trans h1.size HG2.out.size, fun k hk hne => (HG2.out.block k (Nat.lt_of_lt_of_le hk h1.size) hne).trans (h1.block k hk hne)⟩

set_option maxRecDepth 100000 in
set_option maxHeartbeats 1000000 in
theorem writesOk_any (w : World) (v : Value) (ws : List Wr) (hv : Wrts w w.heap.size v ws) :
    Calls Try.prog 88 #[v] w fun e w' => e = .returned (.bool (ws.all Wr.ok)) ∧ Below w.heap.size w w' := by
  obtain ⟨A, c, rfl, hc2, hc1⟩ := hv.form
  unfold maxLen at hc2
  go_enter Try.func88, Try.ntmps88
  go_wp2
  go_loopw [7] (fun i wr => ∃ k : Nat, k ≤ ws.length ∧ i = .int .i64 k ∧ (∀ j x, j < k → ws[j]? = some x → x.ok = true) ∧ Below w.heap.size w wr) (fun i _ => ws.length - (intOf i).toNat)
  case atStart => exact ⟨0, Nat.zero_le _, rfl, fun j _ h => absurd h (by omega), Below.refl _ _⟩
  case round =>
    obtain ⟨k, hk, rfl, he, hb⟩ := hrel
    by_cases hlt : k < ws.length
    · obtain ⟨b, off, c', x, u, e1, hx, hB, hs, c0, c1, c2, hu⟩ := (hv.below hb).at_ (k := k) hlt
      obtain ⟨A', c'', hu', _, _⟩ := hu.form
      subst hu'
      injection e1 with e1a e1b e1c
      subst e1a
      have HB := Lib.hid (hb.alloc hb.size (.cells #[.string x.key, .bool x.del, .slice A' x.val.length c''] 86))
      have HU := Lib.hid ((hu.alloc hb.size (.cells #[.string x.key, .bool x.del, .slice A' x.val.length c''] 86)).more (B' := (wr.alloc (.cells #[.string x.key, .bool x.del, .slice A' x.val.length c''] 86)).heap.size) (by have := hb.size; simp; omega))
      have HI := Lib.hid hx
      have HE := Lib.hid he
      clear e1b e1c hv hu hx hb he
      rcases hp : x.ok
      · have HK := Lib.hid (show ws.all Wr.ok = false from List.all_eq_false.2 ⟨x, List.mem_of_getElem? HI.out, by simp [hp]⟩)
        have hp' : wrtB x.key x.del x.val = false := hp
        clear hp
        go_wp2_with fail
        refine (implWrtOk_any _ _ _ _ _ hs HU.out).mono ?_
        rintro e w1 ⟨rfl, hb1⟩
        rw [hp']
        have HB1 := Lib.hid (HB.out.trans (hb1.mono HB.out.size))
        clear hb1
        go_wp2
        go_ret
        exact ⟨ret_bool HK.out.symm, HB1.out⟩
      · have hp' : wrtB x.key x.del x.val = true := hp
        have HF : Hid (∀ j y, j < k + 1 → ws[j]? = some y → y.ok = true) := Lib.hid fun j y hj hy => by
          rcases Nat.lt_or_ge j k with h1 | h1
          · exact HE.out j y h1 hy
          · have : j = k := by omega
            subst this
            rw [HI.out] at hy
            injection hy with hy
            rw [← hy]; exact hp
        clear hp
        go_wp2_with fail
        refine (implWrtOk_any _ _ _ _ _ hs HU.out).mono ?_
        rintro e w1 ⟨rfl, hb1⟩
        rw [hp']
        have HB1 := Lib.hid (HB.out.trans (hb1.mono HB.out.size))
        clear hb1
        go_wp2
        go_roundw
        case rel => exact ⟨k + 1, by omega, by go_num, HF.out, HB1.out⟩
        case measure => simp [intOf]; omega
    · have HK := Lib.hid (show ws.all Wr.ok = true from List.all_eq_true.2 fun x hx => by
        obtain ⟨j, hj, rfl⟩ := List.getElem_of_mem hx
        exact he j _ (by omega) (List.getElem?_eq_getElem hj))
      clear hv
      go_wp2
      go_ret
      exact ⟨ret_bool HK.out.symm, hb⟩

end Go.Proofs.Ytkamlibfcakblaa
