/- Texts that follow each other, merged: StoMap, StoDoI. -/
import Derived.Test.YtmbkhohgciakfaaXWrts
import Derived.Test.YtmbkhohgciakfaaXCopyI
import Derived.Test.YtmbkhohgciakfaaXStoDoS

/- What is kept as a map of names: what writes do to look-ups; two that look alike are one. Plain facts. -/
namespace Go.Proofs.Ytmbkhohgciakfaa
open Go.RowKit

theorem look_app (l m : List Item) (key : ByteArray) : look (l ++ m) key = (look l key).or (look m key) := by unfold look; exact List.find?_append
theorem look_cons (x : Item) (l : List Item) (key : ByteArray) : look (x :: l) key = if x.key = key then some x else look l key := by
  unfold look
  rw [List.find?_cons]
  by_cases h : x.key = key <;> simp [h]
theorem look_free {l : List Item} {key : ByteArray} (h : ∀ a ∈ l, a.key ≠ key) : look l key = none := by
  unfold look
  rw [List.find?_eq_none]
  intro x hx
  simpa using h x hx
theorem look_in {l : List Item} {key : ByteArray} {x : Item} (h : look l key = some x) : x ∈ l ∧ x.key = key := by
  unfold look at h
  exact ⟨List.mem_of_find?_eq_some h, by simpa using List.find?_some h⟩
/-- Where a name is, or would have to be. -/
theorem pos_of (its : List Item) (hr : Rise its its.length) (key : ByteArray) : ∃ i, i ≤ its.length ∧ Lo its key i ∧ Hi its key i := by
  suffices h : ∀ n, n ≤ its.length → Lo its key n → ∃ i, i ≤ its.length ∧ Lo its key i ∧ Hi its key i from h 0 (Nat.zero_le _) (Lo.start _ _)
  intro n
  induction hk : its.length - n generalizing n with
  | zero =>
    intro hn hlo
    have : n = its.length := by omega
    subst this
    exact ⟨_, hn, hlo, Hi.start _ _⟩
  | succ k ih =>
    intro hn hlo
    have hlt : n < its.length := by omega
    have hx := List.getElem?_eq_getElem hlt
    cases hl : ltB its[n].key key with
    | true => exact ih (n + 1) (by omega) hlt (Lo.mid hr hx hl)
    | false => exact ⟨n, hn, hlo, Hi.mid hr hx hl⟩
section
variable {wk : ByteArray} {wv : List Int} {its : List Item}
theorem hit_lt {i : Nat} (hh : hitB its wk i = true) : ∃ h : i < its.length, its[i].key = wk := by
  have hi : i < its.length := by
    by_cases h : i < its.length
    · exact h
    · rw [hitB_end (by omega)] at hh; exact absurd hh (by decide)
  exact ⟨hi, by simpa [hitB, List.getElem?_eq_getElem hi] using hh⟩
theorem low_free {i : Nat} (hlo : Lo its wk i) : ∀ a ∈ its.take i, a.key ≠ wk := fun a ha => ltB_ne (low_mem hlo a ha)
/-- What a write does to look-ups, to the length, to the order. -/
theorem wAll_facts (hr : Rise its its.length) (del : Bool) : Rise (wAll wk del wv its) (wAll wk del wv its).length ∧
    (∀ key, look (wAll wk del wv its) key = if wk = key then (if del = true then none else some ⟨wk, wv⟩) else look its key) ∧
    (wAll wk del wv its).length + (if (look its wk).isSome = true then 1 else 0) = its.length + (if del = true then 0 else 1) ∧ (∀ x ∈ wAll wk del wv its, x ∈ its ∨ del = false ∧ x = ⟨wk, wv⟩) := by
  obtain ⟨i, hi, hlo, hhi⟩ := pos_of its hr wk
  cases hh : hitB its wk i with
  | true =>
    obtain ⟨hlt, hkey⟩ := hit_lt hh
    have hlk : look its wk = some its[i] := look_hit hr (List.getElem?_eq_getElem hlt) hh
    have hspl := its_split hlt
    have hkey' : ∀ {key}, wk ≠ key → look its key = (look (its.take i) key).or (look (its.drop (i + 1)) key) := by
      intro key hne
      conv => lhs; rw [hspl]
      rw [look_app, look_cons, if_neg (by rw [hkey]; exact hne)]
    cases del with
    | true =>
      rw [wAll_drop hlo hhi hr hh]
      refine ⟨rise_del hr hlt, fun key => ?_, ?_, fun x hx => .inl ?_⟩
      · unfold delAt
        rw [look_app]
        by_cases he : wk = key
        · subst he
          rw [if_pos rfl, if_pos rfl, look_free (low_free hlo), look_free (high_mem hhi hr hlt)]; rfl
        · rw [if_neg he, hkey' he]
      · rw [hlk, delAt_len hlt]; simp; omega
      · unfold delAt at hx
        rcases List.mem_append.1 hx with h | h
        · exact List.mem_of_mem_take h
        · exact List.mem_of_mem_drop h
    | false =>
      rw [wAll_put hlo hhi hr hh]
      refine ⟨rise_set hr (List.getElem?_eq_getElem hlt) _ hkey.symm, fun key => ?_, ?_, fun x hx => ?_⟩
      · rw [List.set_eq_take_append_cons_drop, if_pos hlt, look_app, look_cons]
        by_cases he : wk = key
        · subst he
          rw [if_pos rfl, if_pos rfl, look_free (low_free hlo)]; rfl
        · rw [if_neg he, if_neg he, hkey' he]
      · rw [hlk, List.length_set]; simp
      · rcases List.mem_or_eq_of_mem_set hx with h | h
        · exact .inl h
        · exact .inr ⟨rfl, h⟩
  | false =>
    have hlk : look its wk = none := look_miss hlo hhi hr hh
    cases del with
    | true =>
      rw [wAll_drop_miss hlo hhi hr hh hi]
      refine ⟨hr, fun key => ?_, by rw [hlk]; simp, fun x hx => .inl hx⟩
      by_cases he : wk = key
      · subst he; rw [if_pos rfl, if_pos rfl, hlk]
      · rw [if_neg he]
    | false =>
      rw [wAll_ins hlo hhi hr hh hi]
      refine ⟨rise_ins hr hlo hhi hh hi, fun key => ?_, by rw [hlk, insAt_len hi]; simp, fun x hx => ?_⟩
      · unfold insAt
        rw [look_app, look_cons]
        by_cases he : wk = key
        · subst he
          rw [if_pos rfl, if_pos rfl, look_free (low_free hlo)]; rfl
        · rw [if_neg he, if_neg he]
          conv => rhs; rw [← List.take_append_drop i its]
          rw [look_app]
      · unfold insAt at hx
        rcases List.mem_append.1 hx with h | h
        · exact .inl (List.mem_of_mem_take h)
        · rcases List.mem_cons.1 h with h | h
          · exact .inr ⟨rfl, h⟩
          · exact .inl (List.mem_of_mem_drop h)
end

theorem stoB_three {its : List Item} (h : stoB its = true) : its.length ≤ 40 ∧ (∀ it ∈ its, itemB it = true) ∧ Rise its its.length := by
  unfold stoB at h
  simp only [Bool.and_eq_true, decide_eq_true_iff, List.all_eq_true] at h
  exact ⟨h.1, h.2.1, asc_rise h.2.2⟩
theorem stoB_of {its : List Item} (h1 : its.length ≤ 40) (h2 : ∀ it ∈ its, itemB it = true) (h3 : Rise its its.length) : stoB its = true := by
  unfold stoB
  simp only [Bool.and_eq_true, decide_eq_true_iff, List.all_eq_true]
  exact ⟨h1, h2, rise_asc h3⟩
theorem Wr.item {x : Wr} (h : x.ok = true) (hd : x.del = false) : itemB ⟨x.key, x.val⟩ = true := by
  unfold Wr.ok wrtB at h
  rw [hd] at h
  simp only [Bool.and_eq_true] at h
  exact itemB_yes h.1 (by simpa using h.2)
/-- What writes do to a look-up. -/
def lookW (ws : List Wr) (key : ByteArray) (d : Option Item) : Option Item := ws.foldl (fun d x => if x.key = key then (if x.del = true then none else some ⟨x.key, x.val⟩) else d) d
theorem stoStep {its : List Item} {x : Wr} (h : stoB its = true) (hx : x.ok = true) (hl : its.length < 40) : doStep (some its) x = some (wAll x.key x.del x.val its) ∧ stoB (wAll x.key x.del x.val its) = true ∧ (wAll x.key x.del x.val its).length ≤ its.length + 1 ∧
    (∀ key, look (wAll x.key x.del x.val its) key = lookW [x] key (look its key)) := by
  obtain ⟨h1, h2, h3⟩ := stoB_three h
  obtain ⟨f1, f2, f3, f4⟩ := wAll_facts (wk := x.key) (wv := x.val) h3 x.del
  have hlen : (wAll x.key x.del x.val its).length ≤ its.length + 1 := by
    have : (if x.del = true then 0 else 1) ≤ 1 := by split <;> omega
    omega
  refine ⟨?_, stoB_of (by omega) (fun it hit => ?_) f1, hlen, fun key => ?_⟩
  · unfold doStep
    simp only [Option.bind_some, hx, if_true]
    rw [if_neg (by omega)]
  · rcases f4 it hit with h' | ⟨hd, rfl⟩
    · exact h2 it h'
    · exact Wr.item hx hd
  · rw [f2]; rfl
theorem doFold_some : ∀ (ws : List Wr) {its : List Item}, stoB its = true → (∀ x ∈ ws, x.ok = true) → its.length + ws.length ≤ 40 → ∃ cur, ws.foldl doStep (some its) = some cur ∧ stoB cur = true ∧ cur.length ≤ its.length + ws.length ∧ ∀ key, look cur key = lookW ws key (look its key)
  | [], its, h, _, _ => ⟨its, rfl, h, by simp, fun _ => rfl⟩
  | x :: ws, its, h, hw, hl => by
    simp only [List.length_cons] at hl
    obtain ⟨s1, s2, s3, s4⟩ := stoStep h (hw x (List.mem_cons_self ..)) (by omega)
    obtain ⟨cur, c1, c2, c3, c4⟩ := doFold_some ws s2 (fun y hy => hw y (List.mem_cons_of_mem _ hy)) (by omega)
    refine ⟨cur, ?_, c2, by simp only [List.length_cons]; omega, fun key => ?_⟩
    · rw [List.foldl_cons, s1]; exact c1
    · rw [c4, s4]; rfl
/-- Where there is room all writes are done. -/
theorem stoDo_some {its : List Item} {ws : List Wr} (h : stoB its = true) (hw : ∀ x ∈ ws, x.ok = true) (hl : its.length + ws.length ≤ 40) : stoB (stoDo its ws) = true ∧ (stoDo its ws).length ≤ its.length + ws.length ∧ ∀ key, look (stoDo its ws) key = lookW ws key (look its key) := by
  obtain ⟨cur, c1, c2, c3, c4⟩ := doFold_some ws h hw hl
  have : stoDo its ws = cur := by unfold stoDo doAll; rw [if_pos h, c1]; rfl
  rw [this]; exact ⟨c2, c3, c4⟩
/-- One list behind the other, as long as there is room. -/
theorem stoDo_two {its : List Item} {a b : List Wr} (h : stoB its = true) (ha : ∀ x ∈ a, x.ok = true) (hl : its.length + a.length ≤ 40) : stoDo (stoDo its a) b = stoDo its (a ++ b) := by
  obtain ⟨cur, c1, c2, -, -⟩ := doFold_some a h ha hl
  have he : stoDo its a = cur := by unfold stoDo doAll; rw [if_pos h, c1]; rfl
  rw [he]
  unfold stoDo doAll
  rw [if_pos h, if_pos c2, List.foldl_append, c1]
theorem look_self {its : List Item} (hr : Rise its its.length) {x : Item} (hx : x ∈ its) : look its x.key = some x := by
  obtain ⟨j, hj, rfl⟩ := List.getElem_of_mem hx
  exact look_at hr (List.getElem?_eq_getElem hj) rfl
theorem rise_tail {x : Item} {l : List Item} (h : Rise (x :: l) (x :: l).length) : Rise l l.length ∧ ∀ y ∈ l, ltB x.key y.key = true := by
  refine ⟨rise_of fun j a b ha hb => rise_lt h (show j + 1 < j + 2 by omega) (by simpa using ha) (by simpa using hb), fun y hy => ?_⟩
  obtain ⟨j, hj, rfl⟩ := List.getElem_of_mem hy
  exact rise_lt h (show 0 < j + 1 by omega) rfl (by simp [hj])
/-- Two that rise and look alike are one. -/
theorem sto_ext : ∀ {a b : List Item}, Rise a a.length → Rise b b.length → (∀ key, look a key = look b key) → a = b
  | [], [], _, _, _ => rfl
  | [], y :: b, _, hb, h => by
    have := h y.key
    rw [look_self hb (List.mem_cons_self ..)] at this
    exact absurd this (by simp [look])
  | x :: a, [], ha, _, h => by
    have := h x.key
    rw [look_self ha (List.mem_cons_self ..)] at this
    exact absurd this (by simp [look])
  | x :: a, y :: b, ha, hb, h => by
    obtain ⟨ta, la⟩ := rise_tail ha
    obtain ⟨tb, lb⟩ := rise_tail hb
    have hx : look (y :: b) x.key = some x := by rw [← h]; exact look_self ha (List.mem_cons_self ..)
    have hy : look (x :: a) y.key = some y := by rw [h]; exact look_self hb (List.mem_cons_self ..)
    have hxy : x = y := by
      rcases List.mem_cons.1 (look_in hx).1 with e | hxb
      · exact e
      · rcases List.mem_cons.1 (look_in hy).1 with e | hya
        · exact e.symm
        · have h1 := lb x hxb
          have h2 := la y hya
          have := ltB_trans h1 h2
          rw [ltB_irrefl] at this; exact absurd this (by decide)
    subst hxy
    congr 1
    refine sto_ext ta tb fun key => ?_
    by_cases he : x.key = key
    · subst he
      rw [look_free fun z hz => (ltB_ne (la z hz)).symm, look_free fun z hz => (ltB_ne (lb z hz)).symm]
    · have := h key
      rwa [look_cons, look_cons, if_neg he, if_neg he] at this
/-- A look-up behind writes is the last write's, or what was there. -/
theorem lookW_app (a b : List Wr) (key : ByteArray) (d : Option Item) : lookW (a ++ b) key d = lookW b key (lookW a key d) := by unfold lookW; rw [List.foldl_append]
theorem lookW_free {ws : List Wr} {key : ByteArray} (h : ∀ x ∈ ws, x.key ≠ key) (d : Option Item) : lookW ws key d = d := by
  induction ws generalizing d with
  | nil => rfl
  | cons x ws ih =>
    show lookW ws key (if x.key = key then (if x.del = true then none else some ⟨x.key, x.val⟩) else d) = d
    rw [if_neg (h x (List.mem_cons_self ..))]
    exact ih (fun y hy => h y (List.mem_cons_of_mem _ hy)) d
theorem lookW_hit {ws : List Wr} {key : ByteArray} (h : ∃ x ∈ ws, x.key = key) (d d' : Option Item) : lookW ws key d = lookW ws key d' := by
  induction ws generalizing d d' with
  | nil => obtain ⟨x, hx, _⟩ := h; simp at hx
  | cons x ws ih =>
    show lookW ws key (if x.key = key then (if x.del = true then none else some ⟨x.key, x.val⟩) else d) = lookW ws key (if x.key = key then (if x.del = true then none else some ⟨x.key, x.val⟩) else d')
    by_cases e : x.key = key
    · rw [if_pos e, if_pos e]
    · rw [if_neg e, if_neg e]
      obtain ⟨y, hy, hk⟩ := h
      rcases List.mem_cons.1 hy with rfl | hy
      · exact absurd hk e
      · exact ih ⟨y, hy, hk⟩ d d'

end Go.Proofs.Ytmbkhohgciakfaa

/- The program's StoDo. -/
namespace Go.Proofs.Ytmbkhohgciakfaa
open Go.RowKit

/-- A store of its own, as a record. -/
def StoMade (its : List Item) (w : World) (e : Ending) (w' : World) : Prop :=
  ∃ u, e = .returned (.agg #[u]) ∧ itSh.Own 59 w' (fun b => w.heap.size ≤ b ∧ b < w'.heap.size) u its ∧ Below w.heap.size w w'
theorem wAll_short {its : List Item} {x : Wr} (h : Fine its) (hx : x.ok = true) : Fine (wAll x.key x.del x.val its) := Fine.wAll h (Wr.fine hx)

set_option maxRecDepth 100000 in
set_option maxHeartbeats 2000000 in
theorem implStoDo_any (w : World) (v lv : Value) (its : List Item) (ws : List Wr) (hv : Items w w.heap.size v its) (hw : Wrts w w.heap.size lv ws) :
    Calls Try.prog 62 #[.agg #[v], lv] w (StoMade (stoDo its ws) w) := by
  obtain ⟨A, c, rfl, hc2, hc1⟩ := hv.form
  obtain ⟨A2, c2, rfl, hd2, hd1⟩ := hw.form
  unfold maxLen at hc2 hd2
  have HB := Lib.hid (belowTwo w (.cells #[.slice A its.length c] 36) (.cells #[.slice none 0 0] 36))
  have HX := Lib.hid ((Held.new w #[.slice A its.length c] 36).after (.cells #[.slice none 0 0] 36))
  have HR := Lib.hid (show Held ((w.alloc (.cells #[.slice A its.length c] 36)).alloc (.cells #[.slice none 0 0] 36)) (w.heap.size + 1) [.slice none 0 0] from by have h := Held.new (w.alloc (.cells #[.slice A its.length c] 36)) #[.slice none 0 0] 36; rwa [allocSize] at h)
  have HV := Lib.hid hv
  have HW := Lib.hid hw
  clear hv hw
  go_enter Try.func62, Try.ntmps62
  go_wp2_with fail
  refine (implStoOk_any _ _ _ ((HV.out.below HB.out).more HB.out.size)).mono ?_
  rintro e w1 ⟨rfl, hb1⟩
  have HB1 := Lib.hid (belowNext HB.out hb1)
  have HX1 := Lib.hid (HX.out.below hb1 HX.out.1)
  have HR1 := Lib.hid (HR.out.below hb1 HR.out.1)
  clear hb1 HB HX HR
  cases hs : stoB its with
  | false =>
    have HE := Lib.hid (doNot ws hs)
    clear hs
    have r0 := HR1.out.of 0 _ rfl
    have rf := HR1.out.2.1
    go_wp2
    have HR2 := HR1.out.set_ (i := 0) (.slice none 0 0)
    have q0 := HR2.of 0 _ rfl
    refine bodyPost_ret (v := .agg #[.slice none 0 0]) (by simp only [results, Try.results62, go_sem]; simp [go_sem, q0]) rfl ⟨_, rfl, by rw [HE.out]; exact Sh.Own.nil _ _, HB1.out.setCell (by show w.heap.size ≤ w.heap.size + 1; omega) _⟩
  | true =>
    go_wp2_with fail
    refine (writesOk_any _ _ ws (wrts_row.1 ((wrts_row.2 (HW.out.below HB1.out)).more HB1.out.size))).mono ?_
    rintro e w2 ⟨rfl, hb2⟩
    have HB2 := Lib.hid (belowNext HB1.out hb2)
    have HX2 := Lib.hid (HX1.out.below hb2 HX1.out.1)
    have HR2 := Lib.hid (HR1.out.below hb2 HR1.out.1)
    clear hb2 HB1 HX1 HR1
    have r0 := HR2.out.of 0 _ rfl
    have rf := HR2.out.2.1
    cases hok : ws.all Wr.ok with
    | false =>
      have HE : Hid (stoDo its ws = []) := Lib.hid (by
        obtain ⟨x, hx, hxo⟩ := List.all_eq_false.1 hok
        obtain ⟨j, hj, rfl⟩ := List.getElem_of_mem hx
        exact doneBad (List.getElem?_eq_getElem hj) (by simpa using hxo))
      clear hs hok
      go_wp2
      have HR3 := HR2.out.set_ (i := 0) (.slice none 0 0)
      have q0 := HR3.of 0 _ rfl
      refine bodyPost_ret (v := .agg #[.slice none 0 0]) (by simp only [results, Try.results62, go_sem]; simp [go_sem, q0]) rfl ⟨_, rfl, by rw [HE.out]; exact Sh.Own.nil _ _, HB2.out.setCell (by show w.heap.size ≤ w.heap.size + 1; omega) _⟩
    | true =>
      have HS := Lib.hid hs
      have HOk := Lib.hid fun x hx => List.all_eq_true.1 hok x hx
      have HFi := Lib.hid (stoB_fine hs)
      have h40 := (stoB_fine hs).1
      clear hs hok
      have x0 := HX2.out.of 0 _ rfl
      have hz2 : w.heap.size + 1 < w2.heap.size := HR2.out.1
      go_wp2_with fail
      refine (copyItems_any _ _ its ((HV.out.below HB2.out).more HB2.out.size) (by omega) HFi.out.2.short).mono ?_
      rintro e w3 ⟨u3, rfl, ho3, hb3⟩
      obtain ⟨A3, c3, hf3, -, -⟩ := ho3.row.form
      subst hf3
      have HO3 := Lib.hid ho3
      have HB3 := Lib.hid hb3
      clear ho3 hb3 x0 r0 rf
      go_wp2
      go_loopw [5, 22] (fun l i wr => ∃ (k : Nat) (cur : List Item) (Al : Option Addr) (cl : Nat), k ≤ ws.length ∧ i = .int .i64 k ∧ l = .slice Al cur.length cl ∧ (ws.take k).foldl doStep (some its) = some cur ∧ Rise cur cur.length ∧ cur.length ≤ 40 ∧ itSh.Own 59 wr (fun b => w2.heap.size ≤ b ∧ b < wr.heap.size) (.slice Al cur.length cl) cur ∧ Below w2.heap.size w2 wr) (fun _ i _ => ws.length - (intOf i).toNat)
      case atStart => exact ⟨0, its, A3, c3, Nat.zero_le _, rfl, rfl, rfl, stoB_rise HS.out, h40, HO3.out, HB3.out⟩
      case round =>
        clear HO3 HB3
        obtain ⟨k, cur, Al, cl, hk, rfl, rfl, hcur, hri, hc40, ho, hb⟩ := hrel
        have HRr := Lib.hid (HR2.out.below hb hz2)
        have HBr := Lib.hid (HB2.out.trans (hb.mono (by omega)))
        have hzr := hb.size
        by_cases hlt : k < ws.length
        · obtain ⟨b, off, c', x, u, e1, hx, hB, hs, d0, d1, d2, hu⟩ := (HW.out.below HBr.out).at_ (k := k) hlt
          obtain ⟨A', c'', hu', hu2, hu3⟩ := hu.form
          subst hu'
          injection e1 with e1a e1b e1c
          subst e1a
          have hxo := HOk.out x (List.mem_of_getElem? hx)
          have hxf := Wr.fine hxo
          have HXo := Lib.hid hxo
          obtain ⟨key, del, val⟩ := x
          simp only at hs d0 d1 d2 hu hu2 hu3 hxf
          obtain ⟨f1, -, f3, -⟩ := wAll_facts (wk := key) (wv := val) hri del
          have hlen : (wAll key del val cur).length ≤ 41 := by
            have : (if del = true then 0 else 1) ≤ 1 := by split <;> omega
            omega
          have HT := Lib.hid (Held.new wr #[.string key, .bool del, .slice A' val.length c''] 54)
          have HF1 := Lib.hid f1
          have HCur := Lib.hid hcur
          have HRi := Lib.hid hri
          have HX := Lib.hid hx
          have HO := Lib.hid (ho.below (belowOne wr (.cells #[.string key, .bool del, .slice A' val.length c''] 54)))
          have HB := Lib.hid (hb.alloc hb.size (.cells #[.string key, .bool del, .slice A' val.length c''] 54))
          have HU := Lib.hid (show Ints ((wr.alloc (.cells #[.string key, .bool del, .slice A' val.length c''] 54)).drew) w.heap.size _ val from hu.alloc HBr.out.size (.cells #[.string key, .bool del, .slice A' val.length c''] 54))
          clear e1b e1c hu hx hcur hri hb ho f1 f3 hxo
          cases del with
          | true =>
            have t0 := HT.out.of 0 _ rfl
            have t1 := HT.out.of 1 _ rfl
            go_wp2_with fail
            refine (drop_any _ _ _ cur HO.out (by omega) HRi.out key val).mono ?_
            rintro e w5 ⟨v5, rfl, ho5, hg5⟩
            obtain ⟨A5, c5, hf5, -, -⟩ := ho5.row.form
            subst hf5
            have HO5 := Lib.hid (Sh.Own.mono (S' := fun b => w2.heap.size ≤ b ∧ b < w5.heap.size) ho5.cap (fun b hb => ⟨by rcases hb.1 with h | h; exact h.1; rw [allocSize] at h; omega, hb.2⟩))
            have HB5 := Lib.hid (HB.out.grown hg5 (by rw [allocSize]; omega) (fun q hq => (HO.out.blk q hq).1))
            clear ho5 hg5 t0 t1
            have HR5 := Lib.hid (HR2.out.below HB5.out hz2)
            have HBw := Lib.hid (HB2.out.trans (HB5.out.mono (by omega)))
            have r0 := HR5.out.of 0 _ rfl
            have rf := HR5.out.2.1
            by_cases h41 : 40 < (wAll key true val cur).length
            · have HE := Lib.hid (doBad HS.out HX.out HCur.out (.inr h41))
              have h41' : (40 : Int) < ((wAll key true val cur).length : Int) := by omega
              go_wp2
              have HR6 := HR5.out.set_ (i := 0) (.slice none 0 0)
              have q0 := HR6.of 0 _ rfl
              refine bodyPost_ret (v := .agg #[.slice none 0 0]) (by simp only [results, Try.results62, go_sem]; simp [go_sem, q0]) rfl ⟨_, rfl, by rw [HE.out]; exact Sh.Own.nil _ _, HBw.out.setCell (by show w.heap.size ≤ w.heap.size + 1; omega) _⟩
            · have HN := Lib.hid (doGood HX.out HCur.out HXo.out h41)
              have h41' : ((wAll key true val cur).length : Int) ≤ 40 := by omega
              go_wp2
              go_roundw
              case rel => exact ⟨k + 1, _, A5, c5, by omega, by go_num, rfl, HN.out, HF1.out, by omega, HO5.out, HB5.out⟩
              case measure => simp [intOf]; omega
          | false =>
            have k0 := And.intro (HT.out.of 0 _ rfl) (HT.out.of 2 _ rfl)
            have t1 := HT.out.of 1 _ rfl
            go_wp2
            clear t1
            refine wp_region_held_drew (S := (fun w' => w'.cell? ⟨wr.heap.size, 0, none⟩ = some (.string key) ∧ w'.cell? ⟨wr.heap.size, 2, none⟩ = some (.slice A' val.length c''))) (by kernel_rfl) ?hSq (fun hHeldq => ?stq)
            case hSq => (first | (dsimp only; (first | with_reducible exact k2 | with_reducible exact k1 | exact k0)) | (first | with_reducible exact k2 | with_reducible exact k1 | exact k0))
            refine take_first 0 32 (v := ?vq_1) rfl rfl (by kernel_rfl) (by kernel_rfl) (by kernel_rfl) (fun _ _ _ h => h) (by rfl) ?yq_1 (by assumption) ?rq_1
            case yq_1 => (intro w hSw; (try dsimp only at hSw); go_simp; (try with_reducible rfl))
            simp only [Act.put, List.setIfInBounds_toArray, List.set_cons_zero, List.set_cons_succ]
            refine take_first 1 33 (v := ?vq_2) rfl rfl (by kernel_rfl) (by kernel_rfl) (by kernel_rfl) (fun _ _ _ h => h) (by rfl) ?yq_2 (by assumption) ?rq_2
            case yq_2 => (intro w hSw; (try dsimp only at hSw); go_simp; (try with_reducible rfl))
            simp only [Act.put, List.setIfInBounds_toArray, List.set_cons_zero, List.set_cons_succ]
            refine take_first 2 34 (v := ?vq_3) rfl rfl (by kernel_rfl) (by kernel_rfl) (by kernel_rfl) (fun _ _ _ h => h) (by rfl) ?yq_3 (by assumption) ?rq_3
            case yq_3 => (intro w hSw; (try dsimp only at hSw); go_simp; (try with_reducible rfl))
            simp only [Act.put, List.setIfInBounds_toArray, List.set_cons_zero, List.set_cons_succ]
            refine take_first 3 35 (v := ?vq_4) rfl rfl (by kernel_rfl) (by kernel_rfl) (by kernel_rfl) (fun _ _ _ h => h) (by rfl) ?yq_4 (by assumption) ?rq_4
            case yq_4 => (intro w hSw; (try dsimp only at hSw); go_simp; (try with_reducible rfl))
            simp only [Act.put, List.setIfInBounds_toArray, List.set_cons_zero, List.set_cons_succ]
            refine take_first 4 36 (v := ?vq_5) rfl rfl (by kernel_rfl) (by kernel_rfl) (by kernel_rfl) (fun _ _ _ h => h) (by rfl) ?yq_5 (by assumption) ?rq_5
            case yq_5 => (intro w hSw; (try dsimp only at hSw); go_simp; (try with_reducible rfl))
            simp only [Act.put, List.setIfInBounds_toArray, List.set_cons_zero, List.set_cons_succ]
            refine wpAnyH_ready (rs := [5]) (by kernel_rfl) (by simp) ?_
            refine AllReadyH.cons (o := _) rfl (fun Kq_6 hKq_6 => ?cq_6) ?mq_6
            case mq_6 => exact AllReadyH.nil
            go_simp
            refine (clone_sh _ _ val (HU.out.more (by show _ ≤ (World.alloc _ _).heap.size; rw [allocSize]; omega)) (by omega)).mono ?_; rintro e w4 ⟨u4, rfl, hu4, hb4⟩; obtain ⟨A4, c4, hf4, -, -⟩ := hu4.row.form; subst hf4; have HT4 := Lib.hid (HT.out.onward hb4 rfl); have k1 := And.intro (HT4.out.of 0 _ rfl) (HT4.out.of 2 _ rfl); have HO4 := Lib.hid (Sh.Own.below (w := (wr.alloc (.cells #[.string key, .bool false, .slice A' val.length c''] 54)).drew) HO.out hb4); have hz4 : wr.heap.size < w4.heap.size := HT4.out.1; have HB4 := Lib.hid (HB.out.drew.trans (hb4.mono (by show _ ≤ (World.alloc _ _).heap.size; rw [allocSize]; omega))); have HU4 := Lib.hid (Sh.Own.mono (S' := fun b => wr.heap.size < b ∧ b < w4.heap.size) hu4 (fun b hb => ⟨by have h := hb.1; have h2 : (wr.alloc (.cells #[.string key, .bool false, .slice A' val.length c''] 54)).drew.heap.size = wr.heap.size + 1 := allocSize _ _; omega, hb.2⟩)); clear hu4 hb4
            go_wp2_with fail
            refine hKq_6.out _ _ ?kq_6 (fun hHeldq_6 => ?dq_6)
            case kq_6 => (first | (dsimp only; (first | with_reducible exact k2 | with_reducible exact k1 | exact k0)) | (first | with_reducible exact k2 | with_reducible exact k1 | exact k0))
            clear hKq_6 Kq_6
            refine take_first 6 38 (v := ?vq_7) rfl rfl (by kernel_rfl) (by kernel_rfl) (by kernel_rfl) (fun _ _ _ h => h) (by rfl) ?yq_7 (by assumption) ?rq_7
            case yq_7 => (intro w hSw; (try dsimp only at hSw); go_simp; (try with_reducible rfl))
            simp only [Act.put, List.setIfInBounds_toArray, List.set_cons_zero, List.set_cons_succ]
            refine wpAnyH_ready (rs := [7]) (by kernel_rfl) (by simp) ?_
            refine AllReadyH.cons (o := _) rfl (fun Kq_8 hKq_8 => ?cq_8) ?mq_8
            case mq_8 => exact AllReadyH.nil
            go_simp
            refine (put_any _ _ _ _ cur HO4.out (by omega) HRi.out ⟨key, val⟩ _ (it_own.2 ⟨_, rfl, hs, HU4.out⟩) (fun b hb => by have := hb.2; omega) (fun b hb hb2 => by have := hb.2; have := hb2.1; omega)).mono ?_; rintro e w5 ⟨v5, rfl, ho5, hg5⟩; obtain ⟨A5, c5, hf5, -, -⟩ := ho5.row.form; subst hf5; have HT5 := Lib.hid (HT4.out.outs (Outs.of_grown (S := fun b => w2.heap.size ≤ b ∧ b < wr.heap.size) hg5 (HO4.out.blk)) (fun h => by have := h.2; omega)); have k2 := And.intro (HT5.out.of 0 _ rfl) (HT5.out.of 2 _ rfl); have HP5 := Lib.hid ho5; have HG5 := Lib.hid hg5; clear ho5 hg5
            go_wp2_with fail
            refine hKq_8.out _ _ ?kq_8 (fun hHeldq_8 => ?dq_8)
            case kq_8 => (first | (dsimp only; (first | with_reducible exact k2 | with_reducible exact k1 | exact k0)) | (first | with_reducible exact k2 | with_reducible exact k1 | exact k0))
            clear hKq_8 Kq_8
            refine take_first 8 5 (v := ?vq_9) rfl rfl (by kernel_rfl) (by kernel_rfl) (by kernel_rfl) (fun _ _ _ h => h) (by rfl) ?yq_9 (by assumption) ?rq_9
            case yq_9 => (intro w hSw; (try dsimp only at hSw); go_simp; (try with_reducible rfl))
            simp only [Act.put, List.setIfInBounds_toArray, List.set_cons_zero, List.set_cons_succ]
            refine wpAnyH_done (by kernel_rfl) ?eq _
            have HO5 := Lib.hid (Sh.Own.mono (S' := fun b => w2.heap.size ≤ b ∧ b < w5.heap.size) HP5.out.cap (fun b hb => ⟨by rcases hb.1 with (h | h) | h; exact h.1; have := h.1; omega; omega, hb.2⟩))
            have HB5 := Lib.hid (HB4.out.grown HG5.out (by omega) (fun q hq => (HO4.out.blk q hq).1))
            clear k0 k1 k2 HT HT4 HT5 HP5 HG5
            have HR5 := Lib.hid (HR2.out.below HB5.out hz2)
            have HBw := Lib.hid (HB2.out.trans (HB5.out.mono (by omega)))
            have r0 := HR5.out.of 0 _ rfl
            have rf := HR5.out.2.1
            by_cases h41 : 40 < (wAll key false val cur).length
            · have HE := Lib.hid (doBad HS.out HX.out HCur.out (.inr h41))
              have h41' : (40 : Int) < ((wAll key false val cur).length : Int) := by omega
              go_wp2
              have HR6 := HR5.out.set_ (i := 0) (.slice none 0 0)
              have q0 := HR6.of 0 _ rfl
              refine bodyPost_ret (v := .agg #[.slice none 0 0]) (by simp only [results, Try.results62, go_sem]; simp [go_sem, q0]) rfl ⟨_, rfl, by rw [HE.out]; exact Sh.Own.nil _ _, HBw.out.setCell (by show w.heap.size ≤ w.heap.size + 1; omega) _⟩
            · have HN := Lib.hid (doGood HX.out HCur.out HXo.out h41)
              have h41' : ((wAll key false val cur).length : Int) ≤ 40 := by omega
              go_wp2
              go_roundw
              case rel => exact ⟨k + 1, _, A5, c5, by omega, by go_num, rfl, HN.out, HF1.out, by omega, HO5.out, HB5.out⟩
              case measure => simp [intOf]; omega
        · have HE := Lib.hid (doEnd HS.out ((show k = ws.length by omega) ▸ hcur))
          have HO := Lib.hid ho
          have r0 := HRr.out.of 0 _ rfl
          have rf := HRr.out.2.1
          clear hcur ho hb hri
          go_wp2
          have HR4 := HRr.out.set_ (i := 0) (.slice Al cur.length cl)
          have q0 := HR4.of 0 _ rfl
          refine bodyPost_ret (v := .agg #[.slice Al cur.length cl]) (by simp only [results, Try.results62, go_sem]; simp [go_sem, q0]) rfl ⟨_, rfl, ?_, HBr.out.setCell (by show w.heap.size ≤ w.heap.size + 1; omega) _⟩
          rw [HE.out]
          exact (HO.out.keep fun b hb' _ => Below.heap_setCell _ _ _ _ (by show b ≠ w.heap.size + 1; have := hb'.1; omega)).mono fun b hb' => ⟨by have := hb'.1; omega, by simpa [World.setCell] using hb'.2⟩

end Go.Proofs.Ytmbkhohgciakfaa
