/- Texts that follow each other, merged: PlanLaw2, JaStos, JaHas, PlanHeld. -/
import Derived.Test.YtecdibpiojgppaaGreatXPlanLaw
import Derived.Test.YtecdibpiojgppaaGreatXPlayNoted
import Derived.Test.YtecdibpiojgppaaGreatXDrawGloDo
import Derived.Test.YtecdibpiojgppaaGreatXCopyI
import Derived.Test.YtecdibpiojgppaaGreatXCmp
import Derived.Test.YtecdibpiojgppaaGreatXExItems

/- What is known where something may be done at once. Plain facts. -/
namespace Go.Proofs.YtecdibpiojgppaaGreat
open Go.RowKit

/-- Where it may be. -/
theorem glo_yes {xs : List Sto} {tx : Int} {o : Op} (h : (gloDo xs tx o).2 = true) : ∃ a b c : List Item, xs = [⟨a⟩, ⟨b⟩, ⟨c⟩] ∧ gloB [⟨a⟩, ⟨b⟩, ⟨c⟩] = true ∧ opB o = true ∧ inB tx 0 29 = true ∧ gloMay a b c tx o = true ∧
    (gloDo xs tx o).1 = [⟨stepP a 1 tx o⟩, ⟨stepP b 2 tx o⟩, ⟨stepP c 3 tx o⟩] := by
  have hc : (gloB xs && (opB o && inB tx 0 29)) = true := by
    unfold gloDo at h
    by_cases e : (gloB xs && (opB o && inB tx 0 29)) = true
    · exact e
    · rw [if_neg e] at h; cases h
  simp only [Bool.and_eq_true] at hc
  obtain ⟨hg, ho, ht⟩ := hc
  match xs, gloB_three hg with
  | [⟨a⟩, ⟨b⟩, ⟨c⟩], _ =>
    have hd := gloDo_three hg ho ht
    rw [hd] at h ⊢
    have h' : gloMay a b c tx o = true := h
    exact ⟨a, b, c, rfl, hg, ho, ht, h', by rw [h']; rfl⟩
theorem gloMay_parts {a b c : List Item} {tx : Int} {o : Op} (h : gloMay a b c tx o = true) : mayP a 1 tx o = true ∧ mayP b 2 tx o = true ∧ mayP c 3 tx o = true := by
  unfold gloMay at h
  simp only [Bool.and_eq_true] at h
  exact h
/-- What is noted is one more. -/
theorem done_fresh {c : List Item} {tx : Int} {o : Op} (h : mayP c 3 tx o = true) : lookOk c (keyN 97 tx) = false := by
  unfold mayP at h
  rw [done_is] at h
  have e3 : hereB o.kind 3 = true := by simp [hereB]
  rw [e3] at h
  unfold doneP at h
  cases e : lookOk c (keyN 97 tx) with
  | false => rfl
  | true => rw [e] at h; simp [noP] at h
theorem done_step {c : List Item} {tx : Int} {o : Op} (hp : plcB 3 c = true) (ho : opB o = true) (ht : inB tx 0 29 = true) (h : mayP c 3 tx o = true) (hl : c.length < 40) : stepP c 3 tx o = wAll (keyN 97 tx) false [o.kind] c := by
  have hs := (plc_parts hp).1
  obtain ⟨t0, t1⟩ := inB_parts ht
  have e3 : hereB o.kind 3 = true := by simp [hereB]
  have hok : (⟨keyN 97 tx, false, [o.kind]⟩ : Wr).ok = true := by
    have hk := opK_kind ho
    exact wr_ok (keyB_keyN t0 t1).1 (by simp) (by simp) (by simp; omega)
  unfold stepP
  rw [if_pos e3, done_is]
  unfold doneP
  rw [done_fresh h, if_neg (by decide)]
  exact sto_of hs (stoStep hs hok (by omega)).1
/-- Whose it is what a write turns. -/
def ownV (its : List Item) (x : Wr) : List Int := if lookOk its x.key = true then lookV its x.key else x.val
/-- What was done once is not done again. -/
theorem once_tx {xs : List Sto} {tx : Int} {o : Op} (hl : ∀ x ∈ xs, x.items.length ≤ 38) (h : (gloDo xs tx o).2 = true) : (gloDo (gloDo xs tx o).1 tx o).2 = false := by
  obtain ⟨a, b, c, rfl, hg, ho, ht, hm, hx⟩ := glo_yes h
  obtain ⟨m1, m2, m3⟩ := gloMay_parts hm
  have la := hl ⟨a⟩ (by simp)
  have lb := hl ⟨b⟩ (by simp)
  have lc := hl ⟨c⟩ (by simp)
  have hs := glo_step (k := 38) hg ho ht la lb lc (Nat.le_refl _)
  have h3 := (gloB_parts hg).2.2
  rw [hx, gloDo_three hs.1 ho ht]
  have hn : mayP (stepP c 3 tx o) 3 tx o = false := by
    cases e : mayP (stepP c 3 tx o) 3 tx o with
    | false => rfl
    | true =>
      have := done_fresh e
      rw [done_step h3 ho ht m3 (by show c.length < 40; have : c.length ≤ 38 := lc; omega)] at this
      unfold lookOk at this
      rw [(wAll_facts (wk := keyN 97 tx) (wv := [o.kind]) (stoB_three (plc_parts h3).1).2.2 false).2.1] at this
      simp at this
  show gloMay _ _ _ _ _ = false
  unfold gloMay
  rw [hn]; simp
theorem once_other {xs : List Sto} {tx tx' : Int} {o : Op} (hl : ∀ x ∈ xs, x.items.length ≤ 38) (h : (gloDo xs tx o).2 = true) (ht' : inB tx' 0 29 = true) (hk : o.kind ≠ 4) : (gloDo (gloDo xs tx o).1 tx' o).2 = false := by
  obtain ⟨a, b, c, rfl, hg, ho, ht, hm, hx⟩ := glo_yes h
  obtain ⟨m1, m2, m3⟩ := gloMay_parts hm
  have la : a.length ≤ 38 := hl ⟨a⟩ (by simp)
  have lb : b.length ≤ 38 := hl ⟨b⟩ (by simp)
  have lc : c.length ≤ 38 := hl ⟨c⟩ (by simp)
  have hs := glo_step (k := 38) hg ho ht la lb lc (Nat.le_refl _)
  obtain ⟨g1, g2, g3⟩ := gloB_parts hg
  rw [hx, gloDo_three hs.1 ho ht']
  show gloMay _ _ _ _ _ = false
  unfold gloMay
  have key1 : hereB o.kind 1 = true → ∀ key, look (stepP a 1 tx o) key = lookW (planP a 1 tx o).writes key (look a key) := fun hh key => by
    unfold stepP
    rw [if_pos hh]
    exact (step_facts (.inl rfl) g1 ho ht (by omega)).2.2 key
  have key2 : hereB o.kind 2 = true → ∀ key, look (stepP b 2 tx o) key = lookW (planP b 2 tx o).writes key (look b key) := fun hh key => by
    unfold stepP
    rw [if_pos hh]
    exact (step_facts (.inr (.inl rfl)) g2 ho ht (by omega)).2.2 key
  rcases opK_kind ho with h1 | h1 | h1 | h1 | h1
  · have hlk := key1 (by rw [h1]; decide) (keyN 115 o.inn)
    rw [may11 h1] at m1 ⊢
    simp only [Bool.not_eq_true'] at m1
    have hw : (planP a 1 tx o).writes = [⟨keyN 115 o.inn, false, [o.who]⟩] := by simp [planP, h1, inP1, m1]
    rw [hw] at hlk
    have : look (stepP a 1 tx o) (keyN 115 o.inn) = some ⟨keyN 115 o.inn, [o.who]⟩ := by rw [hlk]; simp [lookW]
    rw [lookOk_some this]; rfl
  · have hlk := key2 (by rw [h1]; decide) (keyN 99 o.code)
    rw [may22 h1] at m2 ⊢
    simp only [Bool.not_eq_true'] at m2
    have hw : (planP b 2 tx o).writes = [⟨keyN 99 o.code, false, [o.who, secS o.sec]⟩] := by simp [planP, h1, mayP2, m2]
    rw [hw] at hlk
    have : look (stepP b 2 tx o) (keyN 99 o.code) = some ⟨keyN 99 o.code, [o.who, secS o.sec]⟩ := by rw [hlk]; simp [lookW]
    rw [lookOk_some this]; simp
  · have hlk := key2 (by rw [h1]; decide) (keyN 102 o.fam)
    rw [may23 h1] at m2 ⊢
    have hw : (planP b 2 tx o).writes = [⟨keyN 99 o.code, true, []⟩, ⟨keyN 102 o.fam, false, [nth (lookV b (keyN 99 o.code)) 0, 1, 1]⟩] := by simp [planP, h1, mayP3, m2]
    rw [hw] at hlk
    have : look (stepP b 2 tx o) (keyN 102 o.fam) = some ⟨keyN 102 o.fam, [nth (lookV b (keyN 99 o.code)) 0, 1, 1]⟩ := by rw [hlk]; simp [lookW]
    unfold tradeB
    rw [lookOk_some this]; simp
  · exact absurd h1 hk
  · have hlk := key1 (by rw [h1]; decide) (keyN 115 o.inn)
    rw [may15 h1] at m1 ⊢
    have hw : (planP a 1 tx o).writes = [⟨keyN 115 o.inn, true, []⟩] := by simp [planP, h1, inP5, m1]
    rw [hw] at hlk
    have : look (stepP a 1 tx o) (keyN 115 o.inn) = none := by rw [hlk]; simp [lookW]
    unfold mineB
    rw [lookOk_none this]; rfl

end Go.Proofs.YtecdibpiojgppaaGreat

/- jaStos of what is the same. -/
namespace Go.Proofs.YtecdibpiojgppaaGreat
open Go.RowKit

set_option maxRecDepth 100000 in
set_option maxHeartbeats 2000000 in
theorem jaStos_same (w : World) (v u : Value) (xs : List Sto) (hv : stoSh.Row w w.heap.size v xs) (hu : stoSh.Row w w.heap.size u xs) :
    Calls Tryz.prog 10 #[v, u] w fun e w' => e = .returned (.bool true) ∧ Below w.heap.size w w' := by
  obtain ⟨A, c, rfl, hc2, hc1⟩ := hv.form
  obtain ⟨A', c', rfl, hc2', hc1'⟩ := hu.form
  unfold maxLen at hc2 hc2'
  go_enter Tryz.func10, Tryz.ntmps10
  go_wp2
  go_loopw [5] (fun i wr => ∃ k : Nat, k ≤ xs.length ∧ i = .int .i64 k ∧ Below w.heap.size w wr) (fun i _ => xs.length - (intOf i).toNat)
  case atStart => exact ⟨0, Nat.zero_le _, rfl, Below.refl _ _⟩
  case round =>
    obtain ⟨k, hk, rfl, hb⟩ := hrel
    by_cases hlt : k < xs.length
    · obtain ⟨b, off, d, x, p, e1, hx, hB, cu, hp⟩ := stos_at (hv.below hb) (k := k) hlt
      obtain ⟨b2, off2, d2, x2, p2, e2, hx2, hB2, cu2, hp2⟩ := stos_at (hu.below hb) (k := k) hlt
      rw [hx] at hx2
      injection hx2 with hx2
      subst hx2
      obtain ⟨Ap, cp, rfl, -, -⟩ := hp.form
      obtain ⟨Ap2, cp2, rfl, -, -⟩ := hp2.form
      injection e1 with e1a e1b e1c
      injection e2 with e2a e2b e2c
      subst e1a e2a
      have HP := Lib.hid (show Items wr.drew wr.drew.heap.size _ x.items from items_row.1 (hp.more hb.size))
      have HP2 := Lib.hid (show Items wr.drew wr.drew.heap.size _ x.items from items_row.1 (hp2.more hb.size))
      have HB := Lib.hid hb.drew
      have k0 := And.intro cu cu2
      have f3 : (0 : Int) ≤ (k : Int) := by omega
      have f4 : (k : Int) < (xs.length : Int) := by omega
      clear e1b e1c e2b e2c hv hu hx hp hp2 hb cu cu2
      go_wp2
      refine wp_region_held_drew (S := (fun w' => w'.cell? ⟨b, off + k, none⟩ = some (.slice Ap x.items.length cp) ∧ w'.cell? ⟨b2, off2 + k, none⟩ = some (.slice Ap2 x.items.length cp2))) (by kernel_rfl) ?hSr (fun hHeldr => ?str)
      case hSr => (first | (dsimp only; (first | exact k0 | exact k1.out)) | (first | exact k0 | exact k1.out))
      refine take_first 0 17 (v := ?vr_1) rfl rfl (by kernel_rfl) (by kernel_rfl) (by kernel_rfl) (fun _ _ _ h => h) (by rfl) ?yr_1 (by assumption) ?rr_1
      case yr_1 => (intro w hSw; (try dsimp only at hSw); go_simp; (try with_reducible rfl))
      simp only [Act.put, List.setIfInBounds_toArray, List.set_cons_zero, List.set_cons_succ]
      refine take_first 1 18 (v := ?vr_2) rfl rfl (by kernel_rfl) (by kernel_rfl) (by kernel_rfl) (fun _ _ _ h => h) (by rfl) ?yr_2 (by assumption) ?rr_2
      case yr_2 => (intro w hSw; (try dsimp only at hSw); go_simp; (try with_reducible rfl))
      simp only [Act.put, List.setIfInBounds_toArray, List.set_cons_zero, List.set_cons_succ]
      refine take_first 2 19 (v := ?vr_3) rfl rfl (by kernel_rfl) (by kernel_rfl) (by kernel_rfl) (fun _ _ _ h => h) (by rfl) ?yr_3 (by assumption) ?rr_3
      case yr_3 => (intro w hSw; (try dsimp only at hSw); go_simp; (try with_reducible rfl))
      simp only [Act.put, List.setIfInBounds_toArray, List.set_cons_zero, List.set_cons_succ]
      refine take_first 3 20 (v := ?vr_4) rfl rfl (by kernel_rfl) (by kernel_rfl) (by kernel_rfl) (fun _ _ _ h => h) (by rfl) ?yr_4 (by assumption) ?rr_4
      case yr_4 => (intro w hSw; (try dsimp only at hSw); go_simp; (try with_reducible rfl))
      simp only [Act.put, List.setIfInBounds_toArray, List.set_cons_zero, List.set_cons_succ]
      refine take_first 4 21 (v := ?vr_5) rfl rfl (by kernel_rfl) (by kernel_rfl) (by kernel_rfl) (fun _ _ _ h => h) (by rfl) ?yr_5 (by assumption) ?rr_5
      case yr_5 => (intro w hSw; (try dsimp only at hSw); go_simp; (try with_reducible rfl))
      simp only [Act.put, List.setIfInBounds_toArray, List.set_cons_zero, List.set_cons_succ]
      refine take_first 5 22 (v := ?vr_6) rfl rfl (by kernel_rfl) (by kernel_rfl) (by kernel_rfl) (fun _ _ _ h => h) (by rfl) ?yr_6 (by assumption) ?rr_6
      case yr_6 => (intro w hSw; (try dsimp only at hSw); go_simp; (try with_reducible rfl))
      simp only [Act.put, List.setIfInBounds_toArray, List.set_cons_zero, List.set_cons_succ]
      refine take_first 6 23 (v := ?vr_7) rfl rfl (by kernel_rfl) (by kernel_rfl) (by kernel_rfl) (fun _ _ _ h => h) (by rfl) ?yr_7 (by assumption) ?rr_7
      case yr_7 => (intro w hSw; (try dsimp only at hSw); go_simp; (try with_reducible rfl))
      simp only [Act.put, List.setIfInBounds_toArray, List.set_cons_zero, List.set_cons_succ]
      refine take_first 7 24 (v := ?vr_8) rfl rfl (by kernel_rfl) (by kernel_rfl) (by kernel_rfl) (fun _ _ _ h => h) (by rfl) ?yr_8 (by assumption) ?rr_8
      case yr_8 => (intro w hSw; (try dsimp only at hSw); go_simp; (try with_reducible rfl))
      simp only [Act.put, List.setIfInBounds_toArray, List.set_cons_zero, List.set_cons_succ]
      refine wpAnyH_ready (rs := [8]) (by kernel_rfl) (by simp) ?_
      refine AllReadyH.cons (o := _) rfl (fun Kr_9 hKr_9 => ?cr_9) ?mr_9
      case mr_9 => exact AllReadyH.nil
      go_simp
      refine (jaSto_same _ _ _ x.items HP.out HP2.out).mono ?_; rintro e w1 ⟨rfl, hb1⟩; have HB1 := Lib.hid (HB.out.trans (hb1.mono HB.out.size)); have k1 := Lib.hid (And.intro ((hb1.cell (p := ⟨b, off + k, none⟩) (Nat.lt_of_lt_of_le hB HB.out.size)).trans k0.1) ((hb1.cell (p := ⟨b2, off2 + k, none⟩) (Nat.lt_of_lt_of_le hB2 HB.out.size)).trans k0.2)); clear hb1
      go_wp2_with fail
      refine hKr_9.out _ _ ?kr_9 (fun hHeldr_9 => ?dr_9)
      case kr_9 => (first | (dsimp only; (first | exact k0 | exact k1.out)) | (first | exact k0 | exact k1.out))
      clear hKr_9 Kr_9
      refine take_first 9 26 (v := ?vr_10) rfl rfl (by kernel_rfl) (by kernel_rfl) (by kernel_rfl) (fun _ _ _ h => h) (by rfl) ?yr_10 (by assumption) ?rr_10
      case yr_10 => (intro w hSw; (try dsimp only at hSw); go_simp; (try with_reducible rfl))
      simp only [Act.put, List.setIfInBounds_toArray, List.set_cons_zero, List.set_cons_succ]
      refine wpAnyH_done (by kernel_rfl) ?er _
      clear k0
      go_wp2
      go_roundw
      case rel => exact ⟨k + 1, by omega, by go_num, HB1.out⟩
      case measure => simp [intOf]; omega
    · clear hv hu
      go_wp2
      go_ret
      exact ⟨rfl, hb⟩

end Go.Proofs.YtecdibpiojgppaaGreat

/- jaHas of the laws. -/
namespace Go.Proofs.YtecdibpiojgppaaGreat
open Go.RowKit

/-- A text is one of some. -/
def hasT (xs : List ByteArray) (s : ByteArray) : Bool := xs.any fun x => decide (x = s)
theorem hasT_yes {xs : List ByteArray} {s : ByteArray} (h : s ∈ xs) : hasT xs s = true := List.any_eq_true.2 ⟨s, h, by simp⟩
theorem hasT_no {xs : List ByteArray} {s : ByteArray} (h : s ∉ xs) : hasT xs s = false := by
  unfold hasT
  rw [List.any_eq_false]
  intro x hx
  simp only [decide_eq_true_eq]
  exact fun e => h (e ▸ hx)
/-- None of the first k is it. -/
def FreeTo (xs : List ByteArray) (s : ByteArray) (k : Nat) : Prop := ∀ j, j < k → xs[j]? ≠ some s
theorem FreeTo.start (xs : List ByteArray) (s : ByteArray) : FreeTo xs s 0 := fun j h => absurd h (by omega)
theorem FreeTo.step {xs : List ByteArray} {s x : ByteArray} {k : Nat} (h : FreeTo xs s k) (hx : xs[k]? = some x) (hn : x ≠ s) : FreeTo xs s (k + 1) := by
  intro j hj
  rcases Nat.lt_or_ge j k with hlt | hge
  · exact h j hlt
  · have : j = k := by omega
    subst this
    rw [hx]
    exact fun e => hn (Option.some.inj e)
theorem FreeTo.all {xs : List ByteArray} {s : ByteArray} (h : FreeTo xs s xs.length) : hasT xs s = false := by
  refine hasT_no fun hm => ?_
  obtain ⟨j, hj, e⟩ := List.getElem_of_mem hm
  exact h j hj (by rw [List.getElem?_eq_getElem hj, e])
theorem hasT_at {xs : List ByteArray} {s x : ByteArray} {k : Nat} (hx : xs[k]? = some x) (h : x = s) : hasT xs s = true := by
  exact hasT_yes (h ▸ List.mem_of_getElem? hx)
set_option maxRecDepth 100000 in
theorem jaHas_any (w : World) (B : Nat) (v : Value) (xs : List ByteArray) (s : ByteArray) (hv : strSh.Row w B v xs) :
    Calls Tryz.prog 16 #[v, .string s] w fun e w' => e = .returned (.bool (hasT xs s)) ∧ w = w' := by
  obtain ⟨A, c, rfl, hc2, hc1⟩ := hv.form
  unfold maxLen at hc2
  go_enter Tryz.func16, Tryz.ntmps16
  go_wp2
  go_loop [5] (fun i => ∃ k : Nat, k ≤ xs.length ∧ i = .int .i64 k ∧ FreeTo xs s k) (fun i => xs.length - (intOf i).toNat)
  case atStart => exact ⟨0, Nat.zero_le _, rfl, FreeTo.start xs s⟩
  case round =>
    obtain ⟨k, hk, rfl, hf⟩ := hrel
    by_cases hlt : k < xs.length
    · obtain ⟨b, off, d, x, e1, hx, hB, hs, cu⟩ := strs_at hv hlt
      injection e1 with e1a e1b e1c
      subst e1a
      clear e1b e1c hv hs
      by_cases hn : x = s
      · have HM := Lib.hid (hasT_at hx hn)
        have hb1 : (x.toList == s.toList) = true := by rw [eq_toList]; simpa using hn
        clear hn hx hf
        go_wp2
        go_ret
        exact ⟨ret_bool HM.out.symm, rfl⟩
      · have HS := Lib.hid (hf.step hx hn)
        have hb1 : (x.toList == s.toList) = false := by rw [eq_toList]; simpa using hn
        clear hn hx hf
        go_wp2
        go_round
        case rel => exact ⟨k + 1, by omega, by go_num, HS.out⟩
        case measure => simp [intOf]; omega
    · have hks : k = xs.length := by omega
      have HM := Lib.hid (FreeTo.all (hks ▸ hf : FreeTo xs s xs.length))
      clear hks hv hf
      go_wp2
      go_ret
      exact ⟨ret_bool HM.out.symm, rfl⟩

end Go.Proofs.YtecdibpiojgppaaGreat

/- A plan hangs on the names that it holds alone. Plain facts. -/
namespace Go.Proofs.YtecdibpiojgppaaGreat
open Go.RowKit

theorem look_filter (f : Item → Bool) (key : ByteArray) : ∀ {its : List Item}, Rise its its.length → look (its.filter f) key = (look its key).filter f
  | [], _ => rfl
  | x :: l, h => by
    obtain ⟨h1, h2⟩ := rise_tail h
    have ih := look_filter f key h1
    rw [look_cons, List.filter_cons]
    by_cases e : x.key = key
    · rw [if_pos e]
      cases hf : f x with
      | true => rw [if_pos rfl, look_cons, if_pos e]; simp [Option.filter, hf]
      | false =>
        rw [if_neg (by decide), ih, look_free fun z hz => by rw [← e]; exact (ltB_ne (h2 z hz)).symm]
        simp [Option.filter, hf]
    · rw [if_neg e]
      cases hf : f x with
      | true => rw [if_pos rfl, look_cons, if_neg e, ih]
      | false => rw [if_neg (by decide), ih]
theorem rise_filter {f : Item → Bool} : ∀ {its : List Item}, Rise its its.length → Rise (its.filter f) (its.filter f).length := by
  intro its h
  refine rise_of fun j a b ha hb => ?_
  have hp : its.Pairwise fun a b => ltB a.key b.key = true := by
    rw [List.pairwise_iff_getElem]
    intro i k hi hk hik
    exact rise_lt h hik (List.getElem?_eq_getElem hi) (List.getElem?_eq_getElem hk)
  have hq := hp.filter f
  rw [List.pairwise_iff_getElem] at hq
  obtain ⟨hj, rfl⟩ := List.getElem?_eq_some_iff.1 ha
  obtain ⟨hj', rfl⟩ := List.getElem?_eq_some_iff.1 hb
  exact hq j (j + 1) hj hj' (by omega)
section
variable {its : List Item} {q tx tx' : Int} {o o' : Op}
/-- Behind another plan's writes all names that it does not hold are as they were. -/
theorem held_look (hp : plcB q its = true) (ho' : opB o' = true) (ht' : inB tx' 0 29 = true) (hl : its.length ≤ 38) {key : ByteArray} (hk : key ∉ (planP its q tx' o').locks) : look (stoDo its (planP its q tx' o').writes) key = look its key := by
  rw [(step_facts (plcB_which hp) hp ho' ht' hl).2.2 key]
  have hf : ∀ x ∈ (planP its q tx' o').writes, x.key ≠ key := fun x hx e => hk (e ▸ plan_in x hx)
  exact lookW_free hf _
theorem look_ok {a b : List Item} {key : ByteArray} (h : look a key = look b key) : lookOk a key = lookOk b key ∧ lookV a key = lookV b key := by unfold lookOk lookV; rw [h]; exact ⟨rfl, rfl⟩
/-- The families of one, behind a plan that does not hold its name. -/
theorem held_fams (hp : plcB 2 its = true) (ho' : opB o' = true) (ht' : inB tx' 0 29 = true) (hl : its.length ≤ 38) (hok : (planP its 2 tx' o').ok = true) {who : Int} (hk : keyN 117 who ∉ (planP its 2 tx' o').locks) :
    (stoDo its (planP its 2 tx' o').writes).filter (famB who) = its.filter (famB who) := by
  obtain ⟨s1, -, s3⟩ := step_facts (.inr (.inl rfl)) hp ho' ht' hl
  obtain ⟨hs, hf⟩ := plc_parts hp
  have r1 := (stoB_three (plc_parts s1).1).2.2
  have r2 := (stoB_three hs).2.2
  refine sto_ext (rise_filter r1) (rise_filter r2) fun key => ?_
  rw [look_filter _ _ r1, look_filter _ _ r2, s3 key]
  have fno : ∀ {x : Item}, famB who x = false → (some x : Option Item).filter (famB who) = none := fun h => by simp [Option.filter, h]
  have nokey : ∀ {x : Item}, chr0 x.key ≠ 102 → famB who x = false := fun {x} h => by
    cases e : famB who x with
    | false => rfl
    | true => exact absurd (famB_parts e).1 h
  have noown : ∀ {x : Item}, nth x.val 0 ≠ who → famB who x = false := fun {x} h => by
    cases e : famB who x with
    | false => rfl
    | true => exact absurd (famB_parts e).2.1 h
  rcases opK_kind ho' with h | h | h | h | h
  · rw [show planP its 2 tx' o' = ⟨false, [], []⟩ by simp [planP, h]] at hok; cases hok
  · have e : planP its 2 tx' o' = mayP2 its o' := by simp [planP, h]
    rw [e] at hok ⊢
    unfold mayP2 noP at hok ⊢
    split
    · rename_i hc; rw [if_pos hc] at hok; cases hok
    · show (if keyN 99 o'.code = key then some (⟨keyN 99 o'.code, [o'.who, secS o'.sec]⟩ : Item) else look its key).filter (famB who) = _
      by_cases ek : keyN 99 o'.code = key
      · rw [if_pos ek, fno (nokey (by show chr0 (keyN 99 o'.code) ≠ 102; rw [chr0_keyN]; decide))]
        cases hlk : look its key with
        | none => rfl
        | some y => rw [fno (nokey (by rw [(look_in hlk).2, ← ek, chr0_keyN]; decide))]
      · rw [if_neg ek]
  · have e : planP its 2 tx' o' = mayP3 its o' := by simp [planP, h]
    rw [e] at hok hk ⊢
    unfold mayP3 noP at hok hk ⊢
    split
    · rename_i hc
      rw [if_pos hc] at hk
      have hown : nth (lookV its (keyN 99 o'.code)) 0 ≠ who := fun e2 => hk (by rw [← e2]; simp)
      show (if keyN 102 o'.fam = key then some (⟨keyN 102 o'.fam, [nth (lookV its (keyN 99 o'.code)) 0, 1, 1]⟩ : Item) else if keyN 99 o'.code = key then none else look its key).filter (famB who) = _
      unfold tradeB at hc
      simp only [Bool.and_eq_true, Bool.not_eq_true'] at hc
      by_cases ef : keyN 102 o'.fam = key
      · rw [if_pos ef, fno (noown hown)]
        have hn : look its key = none := by
          have h1 := hc.2.1
          unfold lookOk at h1
          rw [ef] at h1
          cases hl2 : look its key with
          | none => rfl
          | some y => rw [hl2] at h1; cases h1
        rw [hn]; rfl
      · rw [if_neg ef]
        by_cases ek : keyN 99 o'.code = key
        · rw [if_pos ek]
          cases hlk : look its key with
          | none => rfl
          | some y => rw [fno (nokey (by rw [(look_in hlk).2, ← ek, chr0_keyN]; decide))]; rfl
        · rw [if_neg ek]
    · rename_i hc; rw [if_neg hc] at hok; cases hok
  · have e : planP its 2 tx' o' = mayP4 its o' := by simp [planP, h]
    rw [e] at hok hk ⊢
    unfold mayP4 noP at hok hk ⊢
    split
    · rename_i hc
      rw [if_pos hc] at hk
      have hown : nth (lookV its (keyN 102 o'.fam)) 0 ≠ who := fun e2 => hk (by rw [← e2]; simp)
      show (if keyN 102 o'.fam = key then some (⟨keyN 102 o'.fam, nextV (lookV its (keyN 102 o'.fam)) o'.gen⟩ : Item) else look its key).filter (famB who) = _
      by_cases ef : keyN 102 o'.fam = key
      · rw [if_pos ef, fno (noown (by show nth (nextV _ _) 0 ≠ who; unfold nextV; split <;> exact hown))]
        cases hlk : look its key with
        | none => rfl
        | some y => rw [fno (noown (by rw [ef, lookV_some hlk] at hown; exact hown))]
      · rw [if_neg ef]
    · rename_i hc; rw [if_neg hc] at hok; cases hok
  · have e : planP its 2 tx' o' = mayP5 its o' := by simp [planP, h]
    rw [e] at hk ⊢
    have hne : o'.who ≠ who := fun e2 => hk (by rw [← e2]; simp [mayP5])
    rw [out_look r2]
    cases hlk : look its key with
    | none => rfl
    | some y =>
      rw [Option.map_some]
      cases hy : famB o'.who y with
      | false => rw [outIt_no hy]
      | true =>
        have hyo := (famB_parts hy).2.1
        rw [outIt_yes hy, fno (noown (by show nth y.val 0 ≠ who; rw [hyo]; exact hne)), fno (noown (by rw [hyo]; exact hne))]
/-- A plan hangs on nothing that it does not hold. -/
theorem held_plan (hp : plcB q its = true) (ho : opB o = true) (ho' : opB o' = true) (ht' : inB tx' 0 29 = true) (hl : its.length ≤ 38) (hok' : (planP its q tx' o').ok = true) (hd : ∀ k ∈ (planP its q tx o).locks, k ∉ (planP its q tx' o').locks) :
    planP (stoDo its (planP its q tx' o').writes) q tx o = planP its q tx o := by
  have hlk : ∀ key ∈ (planP its q tx o).locks, look (stoDo its (planP its q tx' o').writes) key = look its key := fun key hk => held_look hp ho' ht' hl (hd key hk)
  rcases plcB_which hp with rfl | rfl | rfl
  · have e : ∀ a : List Item, planP a 1 tx o = if o.kind = 1 then inP1 a o else if o.kind = 2 then inP2 a o else if o.kind = 5 then inP5 a o else ⟨false, [], []⟩ := fun a => by unfold planP; rw [if_neg (by decide), if_pos rfl]
    rw [e] at hlk ⊢
    rw [e its]
    split
    · rename_i h1; rw [if_pos h1] at hlk
      have h := (look_ok (hlk (keyN 115 o.inn) (by unfold inP1 noP; split <;> simp))).1
      unfold inP1; rw [h]
    · rename_i h1; rw [if_neg h1] at hlk
      split
      · rename_i h2; rw [if_pos h2] at hlk
        have h := look_ok (hlk (keyN 115 o.inn) (by simp [inP2]))
        unfold inP2 mineB; rw [h.1, h.2]
      · rename_i h2; rw [if_neg h2] at hlk
        split
        · rename_i h5; rw [if_pos h5] at hlk
          have h := look_ok (hlk (keyN 115 o.inn) (by unfold inP5 noP; split <;> simp))
          unfold inP5 mineB; rw [h.1, h.2]
        · rfl
  · have hk := opK_kind ho
    rcases hk with h | h | h | h | h
    · simp [planP, h]
    · have e : ∀ a, planP a 2 tx o = mayP2 a o := fun a => by simp [planP, h]
      rw [e] at hlk ⊢; rw [e]
      have h1 := (look_ok (hlk (keyN 99 o.code) (by unfold mayP2 noP; split <;> simp))).1
      unfold mayP2; rw [h1]
    · have e : ∀ a, planP a 2 tx o = mayP3 a o := fun a => by simp [planP, h]
      rw [e] at hlk ⊢; rw [e]
      have h1 := look_ok (hlk (keyN 99 o.code) (by unfold mayP3 noP; split <;> simp))
      have h2 := look_ok (hlk (keyN 102 o.fam) (by unfold mayP3 noP; split <;> simp))
      unfold mayP3 tradeB; rw [h1.1, h1.2, h2.1]
    · have e : ∀ a, planP a 2 tx o = mayP4 a o := fun a => by simp [planP, h]
      rw [e] at hlk ⊢; rw [e]
      have h1 := look_ok (hlk (keyN 102 o.fam) (by unfold mayP4 noP; split <;> simp))
      unfold mayP4 nextB; rw [h1.1, h1.2]
    · have e : ∀ a, planP a 2 tx o = mayP5 a o := fun a => by simp [planP, h]
      have hk2 : keyN 117 o.who ∉ (planP its 2 tx' o').locks := hd _ (by rw [e]; simp [mayP5])
      rw [e, e]
      unfold mayP5
      rw [held_fams hp ho' ht' hl hok' hk2]
  · have e : ∀ a, planP a 3 tx o = doneP a tx o := fun a => done_is a tx o
    rw [e] at hlk ⊢
    rw [e its]
    have h := (look_ok (hlk (keyN 97 tx) (by unfold doneP noP; split <;> simp))).1
    unfold doneP; rw [h]
/-- Two plans that hold nothing in common may be written in either order. -/
theorem held_two (hp : plcB q its = true) (ho : opB o = true) (ho' : opB o' = true) (ht : inB tx 0 29 = true) (ht' : inB tx' 0 29 = true) (hl : its.length ≤ 30) (hok : (planP its q tx o).ok = true) (hok' : (planP its q tx' o').ok = true) (hd : ∀ k ∈ (planP its q tx o).locks, k ∉ (planP its q tx' o').locks) :
    stoDo (stoDo its (planP its q tx' o').writes) (planP its q tx o).writes = stoDo (stoDo its (planP its q tx o).writes) (planP its q tx' o').writes := by
  have hq := plcB_which hp
  obtain ⟨a1, a2, a3⟩ := step_facts hq hp ho ht (by omega)
  obtain ⟨b1, b2, b3⟩ := step_facts hq hp ho' ht' (by omega)
  have e1 := held_plan (tx := tx) hp ho ho' ht' (by omega) hok' hd
  have e2 := held_plan (tx := tx') (o := o') (o' := o) (tx' := tx) hp ho' ho ht (by omega) hok (fun k hk h => hd k h hk)
  obtain ⟨c1, -, c3⟩ := step_facts (tx := tx) hq b1 ho ht (by omega)
  obtain ⟨d1, -, d3⟩ := step_facts (tx := tx') hq a1 ho' ht' (by omega)
  rw [e1] at c1 c3
  rw [e2] at d1 d3
  refine sto_ext (stoB_three (plc_parts c1).1).2.2 (stoB_three (plc_parts d1).1).2.2 fun key => ?_
  rw [c3, d3, a3, b3]
  by_cases hk : key ∈ (planP its q tx o).locks
  · have hf : ∀ x ∈ (planP its q tx' o').writes, x.key ≠ key := fun x hx e => hd key hk (e ▸ plan_in x hx)
    rw [lookW_free hf, lookW_free hf]
  · have hf : ∀ x ∈ (planP its q tx o).writes, x.key ≠ key := fun x hx e => hk (e ▸ plan_in x hx)
    rw [lookW_free hf, lookW_free hf]
end

end Go.Proofs.YtecdibpiojgppaaGreat
