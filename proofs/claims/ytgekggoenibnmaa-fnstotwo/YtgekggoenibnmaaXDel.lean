/- Texts that follow each other, merged: Del, WPlain. -/
import Derived.Test.YtgekggoenibnmaaXIns2
import Derived.Test.YtgekggoenibnmaaXWrt
import Derived.Test.YtgekggoenibnmaaXCmp
import Derived.Test.YtgekggoenibnmaaXRowOps

/- slices.Delete of one thing of the call's own. -/
namespace Go.Proofs.Ytgekggoenibnmaa
open Go.RowKit Go.Shelf

/-- The cells of a row out of which one was taken. -/
theorem drop_row {cur F z : List Value} {m i d cap : Nat} (hc : cur.length = cap * d) (hF : cur.take ((m + 1) * d) = F) (hz : z.length = d) (hi : i ≤ m) (hn : m + 1 ≤ cap) :
    ((cur.take (i * d) ++ F.drop ((i + 1) * d) ++ cur.drop (i * d + (F.drop ((i + 1) * d)).length)).take (m * d) ++ z ++ (cur.take (i * d) ++ F.drop ((i + 1) * d) ++ cur.drop (i * d + (F.drop ((i + 1) * d)).length)).drop (m * d + z.length)).take (m * d) = F.take (i * d) ++ F.drop ((i + 1) * d) ∧
    ((cur.take (i * d) ++ F.drop ((i + 1) * d) ++ cur.drop (i * d + (F.drop ((i + 1) * d)).length)).take (m * d) ++ z ++ (cur.take (i * d) ++ F.drop ((i + 1) * d) ++ cur.drop (i * d + (F.drop ((i + 1) * d)).length)).drop (m * d + z.length)).length = cap * d ∧
    (cur.take (i * d) ++ F.drop ((i + 1) * d) ++ cur.drop (i * d + (F.drop ((i + 1) * d)).length)).length = cap * d := by
  have h1 : (i + 1) * d = i * d + d := by rw [Nat.add_mul, Nat.one_mul]
  have h2 : (m + 1) * d = m * d + d := by rw [Nat.add_mul, Nat.one_mul]
  have h3 := Nat.mul_le_mul_right d hi
  have h4 := Nat.mul_le_mul_right d hn
  have hFl : F.length = (m + 1) * d := by rw [← hF, List.length_take]; omega
  have hT : cur.take (i * d) = F.take (i * d) := by rw [← hF, List.take_take]; congr 1; omega
  have e1 : (cur.take (i * d) ++ F.drop ((i + 1) * d) ++ cur.drop (i * d + (F.drop ((i + 1) * d)).length)).take (m * d) = F.take (i * d) ++ F.drop ((i + 1) * d) := by
    rw [hT]
    refine List.take_left' ?_
    simp only [List.length_append, List.length_take, List.length_drop, hFl]; omega
  refine ⟨?_, ?_, ?_⟩
  · rw [e1, List.append_assoc]
    refine List.take_left' ?_
    simp only [List.length_append, List.length_take, List.length_drop, hFl]; omega
  · simp only [List.length_append, List.length_take, List.length_drop, hFl, hz, hc]; omega
  · simp only [List.length_append, List.length_take, List.length_drop, hFl, hc]; omega

theorem zeroItem : (Builtin.zeroCells (Value.agg #[.string ByteArray.empty, .slice none 0 0]).cells 1).toList = [.string ByteArray.empty, .slice none 0 0] := by kernel_rfl
theorem zeroSize : (Builtin.zeroCells (Value.agg #[.string ByteArray.empty, .slice none 0 0]).cells 1).size = 2 := by kernel_rfl
theorem zeroRun (w : World) : (zeroValue 62).run Try.prog w = .ok (.agg #[.string ByteArray.empty, .slice none 0 0]) w := by
  obtain ⟨i0, hi0, hz0, -, -⟩ := infoItemParts
  simp [zeroValue, typeInfo, hi0, hz0]

set_option maxRecDepth 100000 in
set_option maxHeartbeats 4000000 in
theorem delete_any (w : World) (S : Nat → Prop) (v : Value) (its : List Item) (hv : itSh.Own 62 w S v its) (hl : its.length ≤ 1048576) (i : Nat) (hi : i < its.length) :
    Calls Try.prog 104 #[v, .int .i64 i, .int .i64 ((i : Int) + 1)] w (Changed S v (delAt its i) w) := by
  rcases hv.form with ⟨-, rfl⟩ | ⟨g, cap, rfl, -, -, -, -⟩
  · simp at hi
  obtain ⟨C, F, hrow, h2, h3, h4⟩ := hv
  rcases hrow.2 with ⟨h', _⟩ | ⟨g', cap', cur, h', hb, hg, hnc, hcm, hcs, htake⟩
  · simp at h'
  simp only [Value.slice.injEq, Option.some.injEq, Addr.mk.injEq, and_true, true_and] at h'
  obtain ⟨rfl, rfl⟩ := h'
  have hwd : itSh.wd = 2 := rfl
  rw [hwd] at hrow hcs htake
  have hC : ∀ j, j < its.length → (C j).length = 2 := fun j hj => itSh.olen (h3 j _ (List.getElem?_eq_getElem hj)).1
  have hFl := flat_len hC
  have hone : ∀ v ∈ flat C its.length, v.oneCell' = true := by
    intro x hx
    obtain ⟨j, hj, hx⟩ := List.mem_flatMap.1 hx
    exact itSh.oone (h3 j _ (List.getElem?_eq_getElem (List.mem_range.1 hj))).1 x hx
  have hcell : ∀ j x, (flat C its.length)[j]? = some x → w.cell? ⟨g, j, none⟩ = some x := by
    intro j x hx
    have hj := (List.getElem?_eq_some_iff.1 hx).1
    rw [cell_of_row w g j cur _ _ hg, ← hx, ← htake, List.getElem?_take, if_pos (by omega)]
    simp
  obtain ⟨i0, hi0, hz0, hs0, hb0⟩ := infoItemParts
  obtain ⟨m, hm⟩ : ∃ m, its.length = m + 1 := ⟨its.length - 1, by omega⟩
  rw [hm] at hi hFl hl hrow htake hnc hcell hone
  have HM := Lib.hid hm
  rw [hm]
  unfold maxLen at hcm
  have hcur : cur.size = cap * 2 := hcs
  have hcl : cur.toList.length = cap * 2 := by simpa using hcur
  obtain ⟨L1, hL1⟩ : ∃ L1, L1 = (cur.toList.take (i * 2) ++ (flat C (m + 1)).drop ((i + 1) * 2) ++ cur.toList.drop (i * 2 + ((flat C (m + 1)).drop ((i + 1) * 2)).length)) := ⟨_, rfl⟩
  obtain ⟨L2, hL2⟩ : ∃ L2, L2 = (L1.take (m * 2) ++ [.string ByteArray.empty, .slice none 0 0] ++ L1.drop (m * 2 + [Value.string ByteArray.empty, .slice none 0 0].length)) := ⟨_, rfl⟩
  have hpure := drop_row (cur := cur.toList) (i := i) (m := m) (z := [.string ByteArray.empty, .slice none 0 0]) hcl htake rfl (by omega) hnc
  rw [← hL1, ← hL2] at hpure
  obtain ⟨e1, e2, e3⟩ := hpure
  have hdl : ((flat C (m + 1)).drop ((i + 1) * 2)).length = (m - i) * 2 := by rw [List.length_drop, hFl]; omega
  obtain ⟨cs, hcs'⟩ : ∃ cs, cs = (flat C (m + 1)).drop ((i + 1) * 2) := ⟨_, rfl⟩
  have hld : (loadCellsFrom ⟨g, (i + 1) * 2, none⟩ 0 ((m - i) * 2) #[]).run Try.prog w.drew = .ok cs.toArray w.drew := by
    have h := run_loadCells_list (P := Try.prog) w.drew ⟨g, (i + 1) * 2, none⟩ cs (fun j v hj => by
      rw [add_none]
      rw [hcs'] at hj
      exact hcell _ v (by rwa [List.getElem?_drop] at hj))
    rw [hcs', hdl, ← hcs'] at h
    exact h
  have hst : (storeCells ⟨g, i * 2, none⟩ cs).run Try.prog w.drew = .ok () (w.drew.setRow g L1.toArray) := by
    have h := run_storeCells_at Try.prog g (i * 2) 62 cs 0 cur w.drew hg (by rw [hcs', hdl, hcur]; omega) (fun v hv => hone v (List.mem_of_mem_drop (hcs' ▸ hv)))
    rw [hL1, ← hcs']
    exact h
  have him : i + (m - i) ≤ cap := by omega
  have him2 : i + (m - i) = m := by omega
  have hself : m = i → w.drew.setRow g L1.toArray = w.drew := by
    intro e
    have hcs0 : (flat C (m + 1)).drop ((i + 1) * 2) = [] := List.length_eq_zero_iff.1 (by rw [hdl, e]; omega)
    have : L1.toArray = cur := by rw [hL1, hcs0]; simp
    rw [this]
    exact setRow_self w.drew g cur _ _ hg
  have hgW : (w.drew.setRow g L1.toArray).heap[g]? = some (.cells L1.toArray 62 (0, 0)) := setRow_heap w.drew g cur _ _ _ hg
  have hclr : ∀ ty c, (Builtin.clear_ #[92] ty #[.slice (some ⟨g, m * 2, none⟩) 1 c]).run Try.prog (w.drew.setRow g L1.toArray) = .ok (.tuple #[]) ((w.drew.setRow g L1.toArray).setRow g L2.toArray) := fun ty c => by
    have h := run_clear_wide (P := Try.prog) (w.drew.setRow g L1.toArray) 92 62 ty (.agg #[.string ByteArray.empty, .slice none 0 0]) g (m * 2) 0 c L1.toArray 62 Try.underlying92 zeroRun
      (by rw [show 0 + 1 = 1 from rfl, zeroItem]; intro v hv; simp at hv; rcases hv with rfl | rfl <;> rfl) hgW (by rw [show 0 + 1 = 1 from rfl, zeroSize]; simp [e3]; omega)
    rw [show 0 + 1 = 1 from rfl, zeroItem, zeroSize] at h
    rw [hL2]
    exact h
  have HFin : Hid (Changed S (.slice (some ⟨g, 0, none⟩) its.length cap) (delAt its i) w (.returned (.slice (some ⟨g, 0, none⟩) m cap)) ((w.drew.setRow g L1.toArray).setRow g L2.toArray)) := by
    refine Lib.hid ⟨_, rfl, ?_, ?_⟩
    · refine (Sh.Own.deleted (A := itSh) (w := w) (S := S) (v := .slice (some ⟨g, 0, none⟩) its.length cap) (v' := .slice (some ⟨g, 0, none⟩) m cap) (C := C) (F := F) (i := i) (by omega) h2 h3 h4 ?_ rfl ?_).mono fun b hb => Or.inl hb
      · rw [setRow_setRow, HM.out, show m + 1 - 1 = m from rfl]
        have hCi : ∀ j, j < m → (delF C i j).length = 2 := fun j hj => by
          unfold delF; split
          · exact hC j (by omega)
          · exact hC _ (by omega)
        refine ⟨by rw [hwd, flat_len hCi], .inr ⟨g, cap, L2.toArray, rfl, Nat.zero_le _, setRow_heap w.drew g cur _ _ _ hg, by omega, by unfold maxLen; omega, by rw [hwd]; simpa using e2, ?_⟩⟩
        rw [hwd]
        show L2.take (m * 2) = _
        rw [e1]
        exact flat_del (n := m + 1) (fun j hj => hC j (by omega)) hi
      · intro b _ hb
        rw [setRow_setRow]
        exact setRow_other w.drew g b _ (fun e => hb (by rw [e]; rfl))
    · rw [setRow_setRow]
      exact ⟨rfl, rfl, rfl, by simp [World.setRow], fun k _ hk => setRow_other w.drew g k _ (fun e => hk (by rw [e]; rfl))⟩
  rw [HM.out] at HFin
  clear hrow h2 h3 h4 hC hFl hone hcell hL1 hL2 hdl htake hcs hm hi0 hz0 hs0 hb0 hgW e1 e2 e3 hcs'
  have mixed : Try.prog.follows .mixedOrders = true := by kernel_rfl
  have hz2 : ¬ ((i : Int) = (i : Int) + 1) := by omega
  have hb1 : (0 : Int) ≤ (i : Int) + 1 := by omega
  have htn : ((i : Int) + 1).toNat = i + 1 := by omega
  have hk1 : (i : Int) + 1 ≤ (m : Int) + 1 := by omega
  have hk2 : (i : Int) ≤ (cap : Int) := by omega
  have hk4 : (m : Int) ≤ (m : Int) + 1 := by omega
  have hk5 : ¬ cap = m := by omega
  by_cases hcj : cap = i + 1
  · have hmi : m = i := by omega
    have hs := hself hmi
    rw [hs] at hclr HFin
    subst hmi
    subst hcj
    clear hld hst hself hs him2
    go_enter Try.func104, Try.ntmps104
    go_wp2
    go_region
    go_wp2_with (at_builtin; refine wpl_clear _ rfl _ 92 rfl _ rfl (hclr _ _) ?_)
    go_ret
    exact HFin.out
  · clear hself
    go_enter Try.func104, Try.ntmps104
    go_wp2
    go_region
    go_wp2_with (at_builtin; refine wpl_clear _ rfl _ 92 rfl _ rfl (hclr _ _) ?_)
    go_ret
    exact HFin.out

end Go.Proofs.Ytgekggoenibnmaa

/- Writes on what rises: put in, put in place of, taken out. Plain facts. -/
namespace Go.Proofs.Ytgekggoenibnmaa
open Go.RowKit

theorem cmp_gt : ∀ x y : List UInt8, ¬ Lib.compareBytes x y < 0 → x ≠ y → Lib.compareBytes y x < 0
  | [], [], _, h => absurd rfl h
  | [], _ :: _, h, _ => by simp [Lib.compareBytes] at h
  | _ :: _, [], _, _ => by simp [Lib.compareBytes]
  | a :: x, b :: y, h, hne => by
    unfold Lib.compareBytes at *
    by_cases ab : a < b
    · rw [if_pos ab] at h; exact absurd (by decide) h
    · by_cases ba : b < a
      · rw [if_pos ba]; decide
      · have he : a = b := by
          have h1 : ¬ a.toNat < b.toNat := by simpa [UInt8.lt_iff_toNat_lt] using ab
          have h2 : ¬ b.toNat < a.toNat := by simpa [UInt8.lt_iff_toNat_lt] using ba
          exact UInt8.toNat_inj.1 (by omega)
        subst he
        rw [if_neg ab, if_neg ba] at h
        rw [if_neg ab, if_neg ba]
        exact cmp_gt x y h (fun e => hne (by rw [e]))
theorem ltB_other {a b : ByteArray} (h : ltB a b = false) (hne : a ≠ b) : ltB b a = true := by
  rw [ltB_cmp, decide_eq_false_iff_not] at h
  rw [ltB_cmp, decide_eq_true_iff]
  exact cmp_gt _ _ h (fun e => hne (Go.WideShapes.bytes_inj e))
theorem ltB_asymm {a b : ByteArray} (h : ltB a b = true) : ltB b a = false := by
  cases h' : ltB b a with
  | false => rfl
  | true =>
    have := ltB_trans h h'
    rw [ltB_irrefl] at this; exact absurd this (by decide)
theorem ltB_ne {a b : ByteArray} (h : ltB a b = true) : a ≠ b := fun e => by rw [e, ltB_irrefl] at h; exact absurd h (by decide)

section
variable {wk : ByteArray} {del : Bool} {wv : List Int}
theorem fold_low : ∀ (l : List Item) (acc : List Item) (d : Bool), (∀ a ∈ l, ltB a.key wk = true) → l.foldl (wst wk del wv) (acc, d) = (acc ++ l, d)
  | [], acc, d, _ => by simp
  | a :: l, acc, d, h => by
    have ha := h a (List.mem_cons_self ..)
    have h1 : wst wk del wv (acc, d) a = (acc ++ [a], d) := by
      simp [wst, wst1, wst2, ltB_asymm ha, ltB_ne ha]
    rw [List.foldl_cons, h1, fold_low l _ _ fun x hx => h x (List.mem_cons_of_mem _ hx), List.append_assoc]
    rfl
theorem fold_done : ∀ (l : List Item) (acc : List Item), (∀ a ∈ l, a.key ≠ wk) → l.foldl (wst wk del wv) (acc, true) = (acc ++ l, true)
  | [], acc, _ => by simp
  | a :: l, acc, h => by
    have ha := h a (List.mem_cons_self ..)
    have h1 : wst wk del wv (acc, true) a = (acc ++ [a], true) := by simp [wst, wst1, wst2, ha]
    rw [List.foldl_cons, h1, fold_done l _ fun x hx => h x (List.mem_cons_of_mem _ hx), List.append_assoc]
    rfl
variable {its : List Item} {i : Nat}
theorem low_mem (hlo : Lo its wk i) : ∀ a ∈ its.take i, ltB a.key wk = true := by
  intro a ha
  obtain ⟨j, hj, rfl⟩ := List.getElem_of_mem ha
  rw [List.length_take] at hj
  refine hlo j _ (by omega) ?_
  rw [List.getElem_take, List.getElem?_eq_getElem (by omega)]
theorem high_mem (hhi : Hi its wk i) (hr : Rise its its.length) (hi : i < its.length) : ∀ a ∈ its.drop (i + 1), a.key ≠ wk := by
  intro a ha
  obtain ⟨j, hj, rfl⟩ := List.getElem_of_mem ha
  rw [List.length_drop] at hj
  rw [List.getElem_drop]
  have h1 := hhi i _ (Nat.le_refl _) (List.getElem?_eq_getElem hi)
  have h2 := rise_lt hr (show i < i + 1 + j by omega) (List.getElem?_eq_getElem hi) (List.getElem?_eq_getElem (by omega))
  intro e
  rw [e] at h2
  rw [h1] at h2; exact absurd h2 (by decide)
theorem its_split (hi : i < its.length) : its = its.take i ++ its[i] :: its.drop (i + 1) := by
  rw [List.getElem_cons_drop, List.take_append_drop]
theorem wfold_hit (hlo : Lo its wk i) (hhi : Hi its wk i) (hr : Rise its its.length) (hh : hitB its wk i = true) :
    wfold wk del wv its = if del = true then (its.take i ++ its.drop (i + 1), true) else (its.take i ++ ⟨wk, wv⟩ :: its.drop (i + 1), true) := by
  have hi : i < its.length := by
    by_cases h : i < its.length
    · exact h
    · rw [hitB_end (by omega)] at hh; exact absurd hh (by decide)
  have hk : its[i].key = wk := by simpa [hitB, List.getElem?_eq_getElem hi] using hh
  unfold wfold
  conv => lhs; rw [its_split hi]
  rw [List.foldl_append, fold_low _ _ _ (low_mem hlo), List.foldl_cons, List.nil_append]
  cases del with
  | true =>
    have h1 : wst wk true wv (its.take i, true) its[i] = (its.take i, true) := by simp [wst, wst1, wst2, hk]
    rw [h1, fold_done _ _ (high_mem hhi hr hi), if_pos rfl]
  | false =>
    have h1 : wst wk false wv (its.take i, false) its[i] = (its.take i ++ [⟨wk, wv⟩], true) := by simp [wst, wst1, wst2, hk, ltB_irrefl]
    rw [h1, fold_done _ _ (high_mem hhi hr hi), if_neg (by decide), List.append_assoc]
    rfl
theorem wfold_miss (hlo : Lo its wk i) (hhi : Hi its wk i) (hr : Rise its its.length) (hh : hitB its wk i = false) (hl : i ≤ its.length) :
    wfold wk del wv its = if del = true then (its, true) else if i < its.length then (its.take i ++ ⟨wk, wv⟩ :: its.drop i, true) else (its, false) := by
  by_cases hi : i < its.length
  · have hk : its[i].key ≠ wk := by simpa [hitB, List.getElem?_eq_getElem hi] using hh
    have hlt : ltB wk its[i].key = true := ltB_other (hhi i _ (Nat.le_refl _) (List.getElem?_eq_getElem hi)) hk
    have hd : its.drop i = its[i] :: its.drop (i + 1) := (List.getElem_cons_drop _).symm
    unfold wfold
    conv => lhs; rw [its_split hi]
    rw [List.foldl_append, fold_low _ _ _ (low_mem hlo), List.foldl_cons, List.nil_append]
    cases del with
    | true =>
      have h1 : wst wk true wv (its.take i, true) its[i] = (its.take i ++ [its[i]], true) := by simp [wst, wst1, wst2, hk]
      rw [h1, fold_done _ _ (high_mem hhi hr hi), if_pos rfl, List.append_assoc]
      congr 1
      conv => rhs; rw [its_split hi]
      rfl
    | false =>
      have h1 : wst wk false wv (its.take i, false) its[i] = (its.take i ++ [⟨wk, wv⟩] ++ [its[i]], true) := by simp [wst, wst1, wst2, hk, hlt]
      rw [h1, fold_done _ _ (high_mem hhi hr hi), if_neg (by decide), if_pos hi, hd, List.append_assoc, List.append_assoc]
      rfl
  · have he : its.take i = its := List.take_of_length_le (by omega)
    have hm := low_mem hlo
    rw [he] at hm
    unfold wfold
    rw [fold_low _ _ _ hm, List.nil_append, if_neg hi]
    cases del <;> rfl
theorem wAll_drop (hlo : Lo its wk i) (hhi : Hi its wk i) (hr : Rise its its.length) (hh : hitB its wk i = true) : wAll wk true wv its = delAt its i := by
  unfold wAll; rw [wfold_hit hlo hhi hr hh]; rfl
theorem wAll_drop_miss (hlo : Lo its wk i) (hhi : Hi its wk i) (hr : Rise its its.length) (hh : hitB its wk i = false) (hl : i ≤ its.length) : wAll wk true wv its = its := by
  unfold wAll; rw [wfold_miss hlo hhi hr hh hl]; rfl
theorem wAll_put (hlo : Lo its wk i) (hhi : Hi its wk i) (hr : Rise its its.length) (hh : hitB its wk i = true) : wAll wk false wv its = its.set i ⟨wk, wv⟩ := by
  have hi : i < its.length := by
    by_cases h : i < its.length
    · exact h
    · rw [hitB_end (by omega)] at hh; exact absurd hh (by decide)
  unfold wAll; rw [wfold_hit hlo hhi hr hh]
  simp only [Bool.false_eq_true, if_false, if_true]
  rw [List.set_eq_take_append_cons_drop, if_pos hi]
theorem wAll_ins (hlo : Lo its wk i) (hhi : Hi its wk i) (hr : Rise its its.length) (hh : hitB its wk i = false) (hl : i ≤ its.length) : wAll wk false wv its = insAt its i ⟨wk, wv⟩ := by
  unfold wAll; rw [wfold_miss hlo hhi hr hh hl]
  by_cases hi : i < its.length
  · simp only [Bool.false_eq_true, if_false, if_true, hi]; rfl
  · have : i = its.length := by omega
    subst this
    simp [insAt]
end

/-- Names rise, said of any two. -/
theorem rise_of {its : List Item} (h : ∀ j a b, its[j]? = some a → its[j + 1]? = some b → ltB a.key b.key = true) : Rise its its.length := fun j a b _ ha hb => h j a b ha hb
theorem rise_set {its : List Item} {i : Nat} {x : Item} (hr : Rise its its.length) (hx : its[i]? = some x) (it : Item) (hk : it.key = x.key) : Rise (its.set i it) (its.set i it).length := by
  have hi := (List.getElem?_eq_some_iff.1 hx).1
  refine rise_of fun j a b ha hb => ?_
  have hg : ∀ {j : Nat} {y : Item}, (its.set i it)[j]? = some y → ∃ z : Item, its[j]? = some z ∧ z.key = y.key := by
    intro j y hy
    by_cases e : i = j
    · subst e
      rw [List.getElem?_set_self hi] at hy
      injection hy with hy
      exact ⟨x, hx, by rw [← hy, hk]⟩
    · rw [List.getElem?_set_ne e] at hy
      exact ⟨y, hy, rfl⟩
  obtain ⟨a', ha', ea⟩ := hg ha
  obtain ⟨b', hb', eb⟩ := hg hb
  rw [← ea, ← eb]
  exact rise_lt hr (by omega) ha' hb'
theorem rise_del {its : List Item} {i : Nat} (hr : Rise its its.length) (hi : i < its.length) : Rise (delAt its i) (delAt its i).length := by
  refine rise_of fun j a b ha hb => ?_
  rw [delAt_get hi] at ha hb
  by_cases h1 : j < i
  · rw [if_pos h1] at ha
    by_cases h2 : j + 1 < i
    · rw [if_pos h2] at hb; exact rise_lt hr (by omega) ha hb
    · rw [if_neg h2] at hb; exact rise_lt hr (by omega) ha hb
  · rw [if_neg h1] at ha
    rw [if_neg (by omega)] at hb
    exact rise_lt hr (by omega) ha hb
theorem rise_ins {its : List Item} {i : Nat} {it : Item} (hr : Rise its its.length) (hlo : Lo its it.key i) (hhi : Hi its it.key i) (hh : hitB its it.key i = false) (hi : i ≤ its.length) : Rise (insAt its i it) (insAt its i it).length := by
  refine rise_of fun j a b ha hb => ?_
  rw [insAt_get hi] at ha hb
  by_cases h1 : j < i
  · rw [if_pos h1] at ha
    by_cases h2 : j + 1 < i
    · rw [if_pos h2] at hb; exact rise_lt hr (by omega) ha hb
    · rw [if_neg h2, if_pos (by omega)] at hb
      injection hb with hb
      rw [← hb]; exact hlo j a h1 ha
  · rw [if_neg h1] at ha
    rw [if_neg (by omega), if_neg (by omega)] at hb
    simp only [Nat.add_sub_cancel] at hb
    by_cases h3 : j = i
    · rw [if_pos h3] at ha
      injection ha with ha
      subst h3
      rw [← ha]
      have hne : b.key ≠ it.key := by simpa [hitB, hb] using hh
      exact ltB_other (hhi j b (Nat.le_refl _) hb) hne
    · rw [if_neg h3] at ha
      exact rise_lt hr (by omega) ha hb
/-- Some write that may not be: nothing comes of it. -/
theorem doneBad {its : List Item} {ws : List Wr} {k : Nat} {x : Wr} (hx : ws[k]? = some x) (h : x.ok = false) : stoDo its ws = [] := by
  unfold stoDo doAll
  split
  · have : (ws.take (k + 1)).foldl doStep (some its) = none := by
      rw [doTake hx]
      cases (ws.take k).foldl doStep (some its) with
      | none => rfl
      | some l => simp [doStep, h]
    rw [doStop this]; rfl
  · rfl
/-- What rises and is fine goes on so. -/
def Good (its : List Item) : Prop := Rise its its.length ∧ its.length ≤ 41 ∧ Fine its
theorem stoB_rise {its : List Item} (h : stoB its = true) : Rise its its.length := by
  unfold stoB at h
  simp only [Bool.and_eq_true] at h
  exact asc_rise h.2.2

end Go.Proofs.Ytgekggoenibnmaa
