/- Texts that follow each other, merged: Wrts, WPlain. -/
import Derived.Test.YtllmmhibmgpehaaXWrite
import Derived.Test.YtllmmhibmgpehaaXMark
import Derived.Test.YtllmmhibmgpehaaXStoOk
import Derived.Test.YtllmmhibmgpehaaXCmp
import Derived.Test.YtllmmhibmgpehaaXRowOps

/- Writes, one behind the other: plain facts. -/
namespace Go.Proofs.Ytllmmhibmgpehaa
open Go.RowKit

/-- What the model's StoDo answers, in plain words. -/
def doStep (o : Option (List Item)) (x : Wr) : Option (List Item) :=
  o.bind fun its => if x.ok = true then (if 40 < (wAll x.key x.del x.val its).length then none else some (wAll x.key x.del x.val its)) else none
def doAll (its : List Item) (ws : List Wr) : Option (List Item) := if stoB its = true then ws.foldl doStep (some its) else none
def stoDo (its : List Item) (ws : List Wr) : List Item := (doAll its ws).getD []

theorem foldNone (ws : List Wr) : ws.foldl doStep none = none := by
  induction ws with
  | nil => rfl
  | cons x ws ih => exact ih
theorem doTake {ws : List Wr} {k : Nat} {x : Wr} (h : ws[k]? = some x) (o : Option (List Item)) : (ws.take (k + 1)).foldl doStep o = doStep ((ws.take k).foldl doStep o) x := by
  rw [List.take_add_one, h, List.foldl_append]; rfl
theorem doStop {ws : List Wr} {k : Nat} {o : Option (List Item)} (h : (ws.take k).foldl doStep o = none) : ws.foldl doStep o = none := by
  rw [← List.take_append_drop k ws, List.foldl_append, h, foldNone]

/-- All names and numbers are short. -/
def Fine (its : List Item) : Prop := ∀ it ∈ its, it.key.size ≤ 3 ∧ it.val.length ≤ 3
theorem Fine.short {its : List Item} (h : Fine its) : Short its its.length := fun _ it _ hx => by
  have := h it (List.mem_of_getElem? hx)
  omega
theorem keyB_le3 {s : ByteArray} (h : keyB s = true) : s.size ≤ 3 := by
  unfold keyB at h
  rw [decide_eq_true_iff] at h
  exact h.2.1
theorem valB_le3 {l : List Int} (h : valB l = true) : l.length ≤ 3 := by
  unfold valB at h
  simp at h
  omega
theorem stoB_fine {its : List Item} (h : stoB its = true) : its.length ≤ 40 ∧ Fine its := by
  unfold stoB at h
  simp only [Bool.and_eq_true, decide_eq_true_iff, List.all_eq_true] at h
  refine ⟨h.1, fun it hi => ?_⟩
  have := h.2.1 it hi
  unfold itemB at this
  simp only [Bool.and_eq_true] at this
  exact ⟨keyB_le3 this.1, valB_le3 this.2⟩
theorem Wr.fine {x : Wr} (h : x.ok = true) : x.key.size ≤ 3 ∧ x.val.length ≤ 3 := by
  unfold Wr.ok wrtB at h
  simp only [Bool.and_eq_true] at h
  refine ⟨keyB_le3 h.1, ?_⟩
  have h2 := h.2
  cases hd : x.del with
  | true => rw [hd] at h2; simp at h2; simp [h2]
  | false => rw [hd] at h2; exact valB_le3 (by simpa using h2)
theorem Fine.snoc {its : List Item} {it : Item} (h : Fine its) (h1 : it.key.size ≤ 3 ∧ it.val.length ≤ 3) : Fine (its ++ [it]) := by
  intro x hx
  rcases List.mem_append.1 hx with h' | h'
  · exact h x h'
  · have : x = it := by simpa using h'
    rw [this]; exact h1
theorem Fine.wst {wk : ByteArray} {del : Bool} {wv : List Int} {st : List Item × Bool} {it : Item} (h : Fine st.1) (hw : wk.size ≤ 3 ∧ wv.length ≤ 3) (hi : it.key.size ≤ 3 ∧ it.val.length ≤ 3) : Fine (wst wk del wv st it).1 := by
  have h1 : Fine (wst1 wk wv st it).1 := by
    unfold wst1; split
    · exact h.snoc hw
    · exact h
  unfold Go.Proofs.Ytllmmhibmgpehaa.wst wst2; split
  · split
    · exact h1
    · exact h1.snoc hw
  · exact h1.snoc hi
theorem Fine.wAll {wk : ByteArray} {del : Bool} {wv : List Int} {its : List Item} (h : Fine its) (hw : wk.size ≤ 3 ∧ wv.length ≤ 3) : Fine (wAll wk del wv its) := by
  have hf : ∀ (l : List Item) (st : List Item × Bool), Fine l → Fine st.1 → Fine (l.foldl (Go.Proofs.Ytllmmhibmgpehaa.wst wk del wv) st).1 := by
    intro l
    induction l with
    | nil => intro st _ hs; exact hs
    | cons x l ih => intro st hl hs; exact ih _ (fun y hy => hl y (List.mem_cons_of_mem _ hy)) (Fine.wst hs hw (hl x (List.mem_cons_self)))
  have h1 := hf its ([], del) h (fun _ hx => by simp at hx)
  unfold Go.Proofs.Ytllmmhibmgpehaa.wAll; split
  · exact h1
  · exact Fine.snoc h1 hw

end Go.Proofs.Ytllmmhibmgpehaa

/- Writes on what rises: put in, put in place of, taken out. Plain facts. -/
namespace Go.Proofs.Ytllmmhibmgpehaa
open Go.RowKit

theorem cmp_gt : ∀ x y : List UInt8, ¬ Lib.compareBytes x y < 0 → x ≠ y → Lib.compareBytes y x < 0
  | [], [], _, h => absurd rfl h
  | [], _ :: _, h, _ => by simp [Lib.compareBytes] at h
  | _ :: _, [], _, _ => by simp [Lib.compareBytes]
  | a :: x, b :: y, h, hne => by
    unfold Lib.compareBytes at *
    by_cases ab : a < b
    · rw [if_pos ab] at h; exact absurd (by decide) h
    · by_cases ba : b < a
      · rw [if_pos ba]; decide
      · have he : a = b := by
          have h1 : ¬ a.toNat < b.toNat := by simpa [UInt8.lt_iff_toNat_lt] using ab
          have h2 : ¬ b.toNat < a.toNat := by simpa [UInt8.lt_iff_toNat_lt] using ba
          exact UInt8.toNat_inj.1 (by omega)
        subst he
        rw [if_neg ab, if_neg ba] at h
        rw [if_neg ab, if_neg ba]
        exact cmp_gt x y h (fun e => hne (by rw [e]))
theorem ltB_other {a b : ByteArray} (h : ltB a b = false) (hne : a ≠ b) : ltB b a = true := by
  rw [ltB_cmp, decide_eq_false_iff_not] at h
  rw [ltB_cmp, decide_eq_true_iff]
  exact cmp_gt _ _ h (fun e => hne (Go.WideShapes.bytes_inj e))
theorem ltB_asymm {a b : ByteArray} (h : ltB a b = true) : ltB b a = false := by
  cases h' : ltB b a with
  | false => rfl
  | true =>
    have := ltB_trans h h'
    rw [ltB_irrefl] at this; exact absurd this (by decide)
theorem ltB_ne {a b : ByteArray} (h : ltB a b = true) : a ≠ b := fun e => by rw [e, ltB_irrefl] at h; exact absurd h (by decide)

section
variable {wk : ByteArray} {del : Bool} {wv : List Int}
theorem fold_low : ∀ (l : List Item) (acc : List Item) (d : Bool), (∀ a ∈ l, ltB a.key wk = true) → l.foldl (wst wk del wv) (acc, d) = (acc ++ l, d)
  | [], acc, d, _ => by simp
  | a :: l, acc, d, h => by
    have ha := h a (List.mem_cons_self ..)
    have h1 : wst wk del wv (acc, d) a = (acc ++ [a], d) := by
      simp [wst, wst1, wst2, ltB_asymm ha, ltB_ne ha]
    rw [List.foldl_cons, h1, fold_low l _ _ fun x hx => h x (List.mem_cons_of_mem _ hx), List.append_assoc]
    rfl
theorem fold_done : ∀ (l : List Item) (acc : List Item), (∀ a ∈ l, a.key ≠ wk) → l.foldl (wst wk del wv) (acc, true) = (acc ++ l, true)
  | [], acc, _ => by simp
  | a :: l, acc, h => by
    have ha := h a (List.mem_cons_self ..)
    have h1 : wst wk del wv (acc, true) a = (acc ++ [a], true) := by simp [wst, wst1, wst2, ha]
    rw [List.foldl_cons, h1, fold_done l _ fun x hx => h x (List.mem_cons_of_mem _ hx), List.append_assoc]
    rfl
variable {its : List Item} {i : Nat}
theorem low_mem (hlo : Lo its wk i) : ∀ a ∈ its.take i, ltB a.key wk = true := by
  intro a ha
  obtain ⟨j, hj, rfl⟩ := List.getElem_of_mem ha
  rw [List.length_take] at hj
  refine hlo j _ (by omega) ?_
  rw [List.getElem_take, List.getElem?_eq_getElem (by omega)]
theorem high_mem (hhi : Hi its wk i) (hr : Rise its its.length) (hi : i < its.length) : ∀ a ∈ its.drop (i + 1), a.key ≠ wk := by
  intro a ha
  obtain ⟨j, hj, rfl⟩ := List.getElem_of_mem ha
  rw [List.length_drop] at hj
  rw [List.getElem_drop]
  have h1 := hhi i _ (Nat.le_refl _) (List.getElem?_eq_getElem hi)
  have h2 := rise_lt hr (show i < i + 1 + j by omega) (List.getElem?_eq_getElem hi) (List.getElem?_eq_getElem (by omega))
  intro e
  rw [e] at h2
  rw [h1] at h2; exact absurd h2 (by decide)
theorem its_split (hi : i < its.length) : its = its.take i ++ its[i] :: its.drop (i + 1) := by
  rw [List.getElem_cons_drop, List.take_append_drop]
theorem wfold_hit (hlo : Lo its wk i) (hhi : Hi its wk i) (hr : Rise its its.length) (hh : hitB its wk i = true) :
    wfold wk del wv its = if del = true then (its.take i ++ its.drop (i + 1), true) else (its.take i ++ ⟨wk, wv⟩ :: its.drop (i + 1), true) := by
  have hi : i < its.length := by
    by_cases h : i < its.length
    · exact h
    · rw [hitB_end (by omega)] at hh; exact absurd hh (by decide)
  have hk : its[i].key = wk := by simpa [hitB, List.getElem?_eq_getElem hi] using hh
  unfold wfold
  conv => lhs; rw [its_split hi]
  rw [List.foldl_append, fold_low _ _ _ (low_mem hlo), List.foldl_cons, List.nil_append]
  cases del with
  | true =>
    have h1 : wst wk true wv (its.take i, true) its[i] = (its.take i, true) := by simp [wst, wst1, wst2, hk]
    rw [h1, fold_done _ _ (high_mem hhi hr hi), if_pos rfl]
  | false =>
    have h1 : wst wk false wv (its.take i, false) its[i] = (its.take i ++ [⟨wk, wv⟩], true) := by simp [wst, wst1, wst2, hk, ltB_irrefl]
    rw [h1, fold_done _ _ (high_mem hhi hr hi), if_neg (by decide), List.append_assoc]
    rfl
theorem wfold_miss (hlo : Lo its wk i) (hhi : Hi its wk i) (hr : Rise its its.length) (hh : hitB its wk i = false) (hl : i ≤ its.length) :
    wfold wk del wv its = if del = true then (its, true) else if i < its.length then (its.take i ++ ⟨wk, wv⟩ :: its.drop i, true) else (its, false) := by
  by_cases hi : i < its.length
  · have hk : its[i].key ≠ wk := by simpa [hitB, List.getElem?_eq_getElem hi] using hh
    have hlt : ltB wk its[i].key = true := ltB_other (hhi i _ (Nat.le_refl _) (List.getElem?_eq_getElem hi)) hk
    have hd : its.drop i = its[i] :: its.drop (i + 1) := (List.getElem_cons_drop _).symm
    unfold wfold
    conv => lhs; rw [its_split hi]
    rw [List.foldl_append, fold_low _ _ _ (low_mem hlo), List.foldl_cons, List.nil_append]
    cases del with
    | true =>
      have h1 : wst wk true wv (its.take i, true) its[i] = (its.take i ++ [its[i]], true) := by simp [wst, wst1, wst2, hk]
      rw [h1, fold_done _ _ (high_mem hhi hr hi), if_pos rfl, List.append_assoc]
      congr 1
      conv => rhs; rw [its_split hi]
      rfl
    | false =>
      have h1 : wst wk false wv (its.take i, false) its[i] = (its.take i ++ [⟨wk, wv⟩] ++ [its[i]], true) := by simp [wst, wst1, wst2, hk, hlt]
      rw [h1, fold_done _ _ (high_mem hhi hr hi), if_neg (by decide), if_pos hi, hd, List.append_assoc, List.append_assoc]
      rfl
  · have he : its.take i = its := List.take_of_length_le (by omega)
    have hm := low_mem hlo
    rw [he] at hm
    unfold wfold
    rw [fold_low _ _ _ hm, List.nil_append, if_neg hi]
    cases del <;> rfl
theorem wAll_drop (hlo : Lo its wk i) (hhi : Hi its wk i) (hr : Rise its its.length) (hh : hitB its wk i = true) : wAll wk true wv its = delAt its i := by
  unfold wAll; rw [wfold_hit hlo hhi hr hh]; rfl
theorem wAll_drop_miss (hlo : Lo its wk i) (hhi : Hi its wk i) (hr : Rise its its.length) (hh : hitB its wk i = false) (hl : i ≤ its.length) : wAll wk true wv its = its := by
  unfold wAll; rw [wfold_miss hlo hhi hr hh hl]; rfl
theorem wAll_put (hlo : Lo its wk i) (hhi : Hi its wk i) (hr : Rise its its.length) (hh : hitB its wk i = true) : wAll wk false wv its = its.set i ⟨wk, wv⟩ := by
  have hi : i < its.length := by
    by_cases h : i < its.length
    · exact h
    · rw [hitB_end (by omega)] at hh; exact absurd hh (by decide)
  unfold wAll; rw [wfold_hit hlo hhi hr hh]
  simp only [Bool.false_eq_true, if_false, if_true]
  rw [List.set_eq_take_append_cons_drop, if_pos hi]
theorem wAll_ins (hlo : Lo its wk i) (hhi : Hi its wk i) (hr : Rise its its.length) (hh : hitB its wk i = false) (hl : i ≤ its.length) : wAll wk false wv its = insAt its i ⟨wk, wv⟩ := by
  unfold wAll; rw [wfold_miss hlo hhi hr hh hl]
  by_cases hi : i < its.length
  · simp only [Bool.false_eq_true, if_false, if_true, hi]; rfl
  · have : i = its.length := by omega
    subst this
    simp [insAt]
end

/-- Names rise, said of any two. -/
theorem rise_of {its : List Item} (h : ∀ j a b, its[j]? = some a → its[j + 1]? = some b → ltB a.key b.key = true) : Rise its its.length := fun j a b _ ha hb => h j a b ha hb
theorem rise_set {its : List Item} {i : Nat} {x : Item} (hr : Rise its its.length) (hx : its[i]? = some x) (it : Item) (hk : it.key = x.key) : Rise (its.set i it) (its.set i it).length := by
  have hi := (List.getElem?_eq_some_iff.1 hx).1
  refine rise_of fun j a b ha hb => ?_
  have hg : ∀ {j : Nat} {y : Item}, (its.set i it)[j]? = some y → ∃ z : Item, its[j]? = some z ∧ z.key = y.key := by
    intro j y hy
    by_cases e : i = j
    · subst e
      rw [List.getElem?_set_self hi] at hy
      injection hy with hy
      exact ⟨x, hx, by rw [← hy, hk]⟩
    · rw [List.getElem?_set_ne e] at hy
      exact ⟨y, hy, rfl⟩
  obtain ⟨a', ha', ea⟩ := hg ha
  obtain ⟨b', hb', eb⟩ := hg hb
  rw [← ea, ← eb]
  exact rise_lt hr (by omega) ha' hb'
theorem rise_del {its : List Item} {i : Nat} (hr : Rise its its.length) (hi : i < its.length) : Rise (delAt its i) (delAt its i).length := by
  refine rise_of fun j a b ha hb => ?_
  rw [delAt_get hi] at ha hb
  by_cases h1 : j < i
  · rw [if_pos h1] at ha
    by_cases h2 : j + 1 < i
    · rw [if_pos h2] at hb; exact rise_lt hr (by omega) ha hb
    · rw [if_neg h2] at hb; exact rise_lt hr (by omega) ha hb
  · rw [if_neg h1] at ha
    rw [if_neg (by omega)] at hb
    exact rise_lt hr (by omega) ha hb
theorem rise_ins {its : List Item} {i : Nat} {it : Item} (hr : Rise its its.length) (hlo : Lo its it.key i) (hhi : Hi its it.key i) (hh : hitB its it.key i = false) (hi : i ≤ its.length) : Rise (insAt its i it) (insAt its i it).length := by
  refine rise_of fun j a b ha hb => ?_
  rw [insAt_get hi] at ha hb
  by_cases h1 : j < i
  · rw [if_pos h1] at ha
    by_cases h2 : j + 1 < i
    · rw [if_pos h2] at hb; exact rise_lt hr (by omega) ha hb
    · rw [if_neg h2, if_pos (by omega)] at hb
      injection hb with hb
      rw [← hb]; exact hlo j a h1 ha
  · rw [if_neg h1] at ha
    rw [if_neg (by omega), if_neg (by omega)] at hb
    simp only [Nat.add_sub_cancel] at hb
    by_cases h3 : j = i
    · rw [if_pos h3] at ha
      injection ha with ha
      subst h3
      rw [← ha]
      have hne : b.key ≠ it.key := by simpa [hitB, hb] using hh
      exact ltB_other (hhi j b (Nat.le_refl _) hb) hne
    · rw [if_neg h3] at ha
      exact rise_lt hr (by omega) ha hb
/-- Some write that may not be: nothing comes of it. -/
theorem doneBad {its : List Item} {ws : List Wr} {k : Nat} {x : Wr} (hx : ws[k]? = some x) (h : x.ok = false) : stoDo its ws = [] := by
  unfold stoDo doAll
  split
  · have : (ws.take (k + 1)).foldl doStep (some its) = none := by
      rw [doTake hx]
      cases (ws.take k).foldl doStep (some its) with
      | none => rfl
      | some l => simp [doStep, h]
    rw [doStop this]; rfl
  · rfl
/-- What rises and is fine goes on so. -/
def Good (its : List Item) : Prop := Rise its its.length ∧ its.length ≤ 41 ∧ Fine its
theorem stoB_rise {its : List Item} (h : stoB its = true) : Rise its its.length := by
  unfold stoB at h
  simp only [Bool.and_eq_true] at h
  exact asc_rise h.2.2

end Go.Proofs.Ytllmmhibmgpehaa
