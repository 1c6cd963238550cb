/- Texts that follow each other, merged: PlayMay, PlanLaw2, JaStos. -/
import Derived.Test.YteccebjnopladaaGreatXJaSto
import Derived.Test.YteccebjnopladaaGreatXPlanLaw
import Derived.Test.YteccebjnopladaaGreatXCopyI

/- What is kept of who may what, behind a play: plain facts. -/
namespace Go.Proofs.YteccebjnopladaaGreat
open Go.RowKit

/- Going out. -/
/-- A thing behind one goes out: a family that was of use is of none. -/
def outIt (who : Int) (it : Item) : Item := if famB who it = true then ⟨it.key, [nth it.val 0, nth it.val 1, 0]⟩ else it
section
variable {os : List Op} {k : Nat} {a b c : List Item} {o : Op}
theorem may22 (h : o.kind = 2) (tx : Int) : mayP b 2 tx o = !lookOk b (keyN 99 o.code) := by
  simp only [mayP, hereB, planP, mayP2, h, noP]
  cases lookOk b (keyN 99 o.code) <;> simp
theorem may23 (h : o.kind = 3) (tx : Int) : mayP b 2 tx o = tradeB b o := by
  simp only [mayP, hereB, planP, mayP3, h, noP]
  cases tradeB b o <;> simp
theorem may24 (h : o.kind = 4) (tx : Int) : mayP b 2 tx o = nextB b o := by
  simp only [mayP, hereB, planP, mayP4, h, noP]
  cases nextB b o <;> simp
end

end Go.Proofs.YteccebjnopladaaGreat

/- What is known where something may be done at once. Plain facts. -/
namespace Go.Proofs.YteccebjnopladaaGreat
open Go.RowKit

/-- Where it may be. -/
theorem glo_yes {xs : List Sto} {tx : Int} {o : Op} (h : (gloDo xs tx o).2 = true) : ∃ a b c : List Item, xs = [⟨a⟩, ⟨b⟩, ⟨c⟩] ∧ gloB [⟨a⟩, ⟨b⟩, ⟨c⟩] = true ∧ opB o = true ∧ inB tx 0 29 = true ∧ gloMay a b c tx o = true ∧
    (gloDo xs tx o).1 = [⟨stepP a 1 tx o⟩, ⟨stepP b 2 tx o⟩, ⟨stepP c 3 tx o⟩] := by
  have hc : (gloB xs && (opB o && inB tx 0 29)) = true := by
    unfold gloDo at h
    by_cases e : (gloB xs && (opB o && inB tx 0 29)) = true
    · exact e
    · rw [if_neg e] at h; cases h
  simp only [Bool.and_eq_true] at hc
  obtain ⟨hg, ho, ht⟩ := hc
  match xs, gloB_three hg with
  | [⟨a⟩, ⟨b⟩, ⟨c⟩], _ =>
    have hd := gloDo_three hg ho ht
    rw [hd] at h ⊢
    have h' : gloMay a b c tx o = true := h
    exact ⟨a, b, c, rfl, hg, ho, ht, h', by rw [h']; rfl⟩
theorem gloMay_parts {a b c : List Item} {tx : Int} {o : Op} (h : gloMay a b c tx o = true) : mayP a 1 tx o = true ∧ mayP b 2 tx o = true ∧ mayP c 3 tx o = true := by
  unfold gloMay at h
  simp only [Bool.and_eq_true] at h
  exact h
theorem step_tx {its : List Item} {q tx : Int} {o : Op} (hq : q ≠ 3) (tx' : Int) : stepP its q tx' o = stepP its q tx o := by unfold stepP; rw [plan_tx hq tx']
/-- What is noted is one more. -/
theorem done_fresh {c : List Item} {tx : Int} {o : Op} (h : mayP c 3 tx o = true) : lookOk c (keyN 97 tx) = false := by
  unfold mayP at h
  rw [done_is] at h
  have e3 : hereB o.kind 3 = true := by simp [hereB]
  rw [e3] at h
  unfold doneP at h
  cases e : lookOk c (keyN 97 tx) with
  | false => rfl
  | true => rw [e] at h; simp [noP] at h
theorem done_step {c : List Item} {tx : Int} {o : Op} (hp : plcB 3 c = true) (ho : opB o = true) (ht : inB tx 0 29 = true) (h : mayP c 3 tx o = true) (hl : c.length < 40) : stepP c 3 tx o = wAll (keyN 97 tx) false [o.kind] c := by
  have hs := (plc_parts hp).1
  obtain ⟨t0, t1⟩ := inB_parts ht
  have e3 : hereB o.kind 3 = true := by simp [hereB]
  have hok : (⟨keyN 97 tx, false, [o.kind]⟩ : Wr).ok = true := by
    have hk := opK_kind ho
    exact wr_ok (keyB_keyN t0 t1).1 (by simp) (by simp) (by simp; omega)
  unfold stepP
  rw [if_pos e3, done_is]
  unfold doneP
  rw [done_fresh h, if_neg (by decide)]
  exact sto_of hs (stoStep hs hok (by omega)).1
theorem done_len {c : List Item} {tx : Int} {o : Op} (hp : plcB 3 c = true) (ho : opB o = true) (ht : inB tx 0 29 = true) (h : mayP c 3 tx o = true) (hl : c.length < 40) : (stepP c 3 tx o).length = c.length + 1 := by
  rw [done_step hp ho ht h hl]
  obtain ⟨f1, f2, f3, f4⟩ := wAll_facts (wk := keyN 97 tx) (wv := [o.kind]) (stoB_three (plc_parts hp).1).2.2 false
  have hf := done_fresh h
  unfold lookOk at hf
  rw [hf] at f3
  simpa using f3

/-- Whose it is what a write turns. -/
def ownV (its : List Item) (x : Wr) : List Int := if lookOk its x.key = true then lookV its x.key else x.val
/-- What one does writes things of one alone. -/
theorem mine_facts {b : List Item} {tx : Int} {o : Op} (hp : plcB 2 b = true) (ho : opB o = true) (hk : o.kind ≠ 1) (hm : mayP b 2 tx o = true) :
    ∃ who : Int, 0 ≤ who ∧ (∀ x ∈ (planP b 2 tx o).writes, 0 < (ownV b x).length ∧ nth (ownV b x) 0 = who) ∧ (o.kind = 3 ∨ o.kind = 4 ∨ who = o.who) := by
  obtain ⟨hs, hf⟩ := plc_parts hp
  obtain ⟨b0, b1, b2, b3, b4, b5, b6, b7, b8, b9, b10, b11⟩ := opB_parts ho
  rcases opK_kind ho with h | h | h | h | h
  · exact absurd h hk
  · rw [may22 h] at hm
    simp only [Bool.not_eq_true'] at hm
    have hw : (planP b 2 tx o).writes = [⟨keyN 99 o.code, false, [o.who, secS o.sec]⟩] := by simp [planP, h, mayP2, hm]
    refine ⟨o.who, b0, fun x hx => ?_, .inr (.inr rfl)⟩
    rw [hw] at hx
    have : x = ⟨keyN 99 o.code, false, [o.who, secS o.sec]⟩ := by simpa using hx
    subst this
    unfold ownV
    rw [hm, if_neg (by decide)]
    exact ⟨by simp, rfl⟩
  · rw [may23 h] at hm
    have ht := hm
    unfold tradeB at hm
    simp only [Bool.and_eq_true, Bool.not_eq_true', beq_iff_eq] at hm
    have hw : (planP b 2 tx o).writes = [⟨keyN 99 o.code, true, []⟩, ⟨keyN 102 o.fam, false, [nth (lookV b (keyN 99 o.code)) 0, 1, 1]⟩] := by simp [planP, h, mayP3, ht]
    have hc := code_found hs hf hm.1
    refine ⟨nth (lookV b (keyN 99 o.code)) 0, hc.2.1, fun x hx => ?_, .inl h⟩
    rw [hw] at hx
    have : x = ⟨keyN 99 o.code, true, []⟩ ∨ x = ⟨keyN 102 o.fam, false, [nth (lookV b (keyN 99 o.code)) 0, 1, 1]⟩ := by simpa using hx
    rcases this with rfl | rfl
    · unfold ownV
      rw [hm.1, if_pos rfl]
      exact ⟨by show 0 < (lookV b (keyN 99 o.code)).length; omega, rfl⟩
    · unfold ownV
      rw [hm.2.1, if_neg (by decide)]
      exact ⟨by simp, rfl⟩
  · rw [may24 h] at hm
    have ht := hm
    unfold nextB at hm
    simp only [Bool.and_eq_true] at hm
    have hw : (planP b 2 tx o).writes = [⟨keyN 102 o.fam, false, nextV (lookV b (keyN 102 o.fam)) o.gen⟩] := by simp [planP, h, mayP4, ht]
    have hc := fam_found hs hf hm.1
    refine ⟨nth (lookV b (keyN 102 o.fam)) 0, hc.2.1, fun x hx => ?_, .inr (.inl h)⟩
    rw [hw] at hx
    have : x = ⟨keyN 102 o.fam, false, nextV (lookV b (keyN 102 o.fam)) o.gen⟩ := by simpa using hx
    subst this
    unfold ownV
    rw [hm.1, if_pos rfl]
    exact ⟨by show 0 < (lookV b (keyN 102 o.fam)).length; omega, rfl⟩
  · have hw : planP b 2 tx o = mayP5 b o := by simp [planP, h]
    refine ⟨o.who, b0, fun x hx => ?_, .inr (.inr rfl)⟩
    rw [hw] at hx
    obtain ⟨y, hy, rfl⟩ := List.mem_map.1 (show x ∈ (b.filter (famB o.who)).map fun it => (⟨it.key, false, [nth it.val 0, nth it.val 1, 0]⟩ : Wr) from hx)
    obtain ⟨hy1, hy2⟩ := List.mem_filter.1 hy
    obtain ⟨p1, p2, p3⟩ := famB_parts hy2
    have h9 := fam_item hs hf hy1 p1
    have hl := look_self (stoB_three hs).2.2 hy1
    unfold ownV
    show 0 < (if lookOk b y.key = true then lookV b y.key else _).length ∧ nth (if lookOk b y.key = true then lookV b y.key else _) 0 = o.who
    rw [if_pos (lookOk_some hl), lookV_some hl]
    exact ⟨by omega, p2⟩

end Go.Proofs.YteccebjnopladaaGreat

/- jaStos of what is the same. -/
namespace Go.Proofs.YteccebjnopladaaGreat
open Go.RowKit

set_option maxRecDepth 100000 in
set_option maxHeartbeats 2000000 in
theorem jaStos_same (w : World) (v u : Value) (xs : List Sto) (hv : stoSh.Row w w.heap.size v xs) (hu : stoSh.Row w w.heap.size u xs) :
    Calls Tryz.prog 32 #[v, u] w fun e w' => e = .returned (.bool true) ∧ Below w.heap.size w w' := by
  obtain ⟨A, c, rfl, hc2, hc1⟩ := hv.form
  obtain ⟨A', c', rfl, hc2', hc1'⟩ := hu.form
  unfold maxLen at hc2 hc2'
  go_enter Tryz.func32, Tryz.ntmps32
  go_wp2
  go_loopw [5] (fun i wr => ∃ k : Nat, k ≤ xs.length ∧ i = .int .i64 k ∧ Below w.heap.size w wr) (fun i _ => xs.length - (intOf i).toNat)
  case atStart => exact ⟨0, Nat.zero_le _, rfl, Below.refl _ _⟩
  case round =>
    obtain ⟨k, hk, rfl, hb⟩ := hrel
    by_cases hlt : k < xs.length
    · obtain ⟨b, off, d, x, p, e1, hx, hB, cu, hp⟩ := stos_at (hv.below hb) (k := k) hlt
      obtain ⟨b2, off2, d2, x2, p2, e2, hx2, hB2, cu2, hp2⟩ := stos_at (hu.below hb) (k := k) hlt
      rw [hx] at hx2
      injection hx2 with hx2
      subst hx2
      obtain ⟨Ap, cp, rfl, -, -⟩ := hp.form
      obtain ⟨Ap2, cp2, rfl, -, -⟩ := hp2.form
      injection e1 with e1a e1b e1c
      injection e2 with e2a e2b e2c
      subst e1a e2a
      have HP := Lib.hid (show Items wr.drew wr.drew.heap.size _ x.items from items_row.1 (hp.more hb.size))
      have HP2 := Lib.hid (show Items wr.drew wr.drew.heap.size _ x.items from items_row.1 (hp2.more hb.size))
      have HB := Lib.hid hb.drew
      have k0 := And.intro cu cu2
      have f3 : (0 : Int) ≤ (k : Int) := by omega
      have f4 : (k : Int) < (xs.length : Int) := by omega
      clear e1b e1c e2b e2c hv hu hx hp hp2 hb cu cu2
      go_wp2
      refine wp_region_held_drew (S := (fun w' => w'.cell? ⟨b, off + k, none⟩ = some (.slice Ap x.items.length cp) ∧ w'.cell? ⟨b2, off2 + k, none⟩ = some (.slice Ap2 x.items.length cp2))) (by kernel_rfl) ?hSr (fun hHeldr => ?str)
      case hSr => (first | (dsimp only; (first | exact k0 | exact k1.out)) | (first | exact k0 | exact k1.out))
      refine take_first 0 17 (v := ?vr_1) rfl rfl (by kernel_rfl) (by kernel_rfl) (by kernel_rfl) (fun _ _ _ h => h) (by rfl) ?yr_1 (by assumption) ?rr_1
      case yr_1 => (intro w hSw; (try dsimp only at hSw); go_simp; (try with_reducible rfl))
      simp only [Act.put, List.setIfInBounds_toArray, List.set_cons_zero, List.set_cons_succ]
      refine take_first 1 18 (v := ?vr_2) rfl rfl (by kernel_rfl) (by kernel_rfl) (by kernel_rfl) (fun _ _ _ h => h) (by rfl) ?yr_2 (by assumption) ?rr_2
      case yr_2 => (intro w hSw; (try dsimp only at hSw); go_simp; (try with_reducible rfl))
      simp only [Act.put, List.setIfInBounds_toArray, List.set_cons_zero, List.set_cons_succ]
      refine take_first 2 19 (v := ?vr_3) rfl rfl (by kernel_rfl) (by kernel_rfl) (by kernel_rfl) (fun _ _ _ h => h) (by rfl) ?yr_3 (by assumption) ?rr_3
      case yr_3 => (intro w hSw; (try dsimp only at hSw); go_simp; (try with_reducible rfl))
      simp only [Act.put, List.setIfInBounds_toArray, List.set_cons_zero, List.set_cons_succ]
      refine take_first 3 20 (v := ?vr_4) rfl rfl (by kernel_rfl) (by kernel_rfl) (by kernel_rfl) (fun _ _ _ h => h) (by rfl) ?yr_4 (by assumption) ?rr_4
      case yr_4 => (intro w hSw; (try dsimp only at hSw); go_simp; (try with_reducible rfl))
      simp only [Act.put, List.setIfInBounds_toArray, List.set_cons_zero, List.set_cons_succ]
      refine take_first 4 21 (v := ?vr_5) rfl rfl (by kernel_rfl) (by kernel_rfl) (by kernel_rfl) (fun _ _ _ h => h) (by rfl) ?yr_5 (by assumption) ?rr_5
      case yr_5 => (intro w hSw; (try dsimp only at hSw); go_simp; (try with_reducible rfl))
      simp only [Act.put, List.setIfInBounds_toArray, List.set_cons_zero, List.set_cons_succ]
      refine take_first 5 22 (v := ?vr_6) rfl rfl (by kernel_rfl) (by kernel_rfl) (by kernel_rfl) (fun _ _ _ h => h) (by rfl) ?yr_6 (by assumption) ?rr_6
      case yr_6 => (intro w hSw; (try dsimp only at hSw); go_simp; (try with_reducible rfl))
      simp only [Act.put, List.setIfInBounds_toArray, List.set_cons_zero, List.set_cons_succ]
      refine take_first 6 23 (v := ?vr_7) rfl rfl (by kernel_rfl) (by kernel_rfl) (by kernel_rfl) (fun _ _ _ h => h) (by rfl) ?yr_7 (by assumption) ?rr_7
      case yr_7 => (intro w hSw; (try dsimp only at hSw); go_simp; (try with_reducible rfl))
      simp only [Act.put, List.setIfInBounds_toArray, List.set_cons_zero, List.set_cons_succ]
      refine take_first 7 24 (v := ?vr_8) rfl rfl (by kernel_rfl) (by kernel_rfl) (by kernel_rfl) (fun _ _ _ h => h) (by rfl) ?yr_8 (by assumption) ?rr_8
      case yr_8 => (intro w hSw; (try dsimp only at hSw); go_simp; (try with_reducible rfl))
      simp only [Act.put, List.setIfInBounds_toArray, List.set_cons_zero, List.set_cons_succ]
      refine wpAnyH_ready (rs := [8]) (by kernel_rfl) (by simp) ?_
      refine AllReadyH.cons (o := _) rfl (fun Kr_9 hKr_9 => ?cr_9) ?mr_9
      case mr_9 => exact AllReadyH.nil
      go_simp
      refine (jaSto_same _ _ _ x.items HP.out HP2.out).mono ?_; rintro e w1 ⟨rfl, hb1⟩; have HB1 := Lib.hid (HB.out.trans (hb1.mono HB.out.size)); have k1 := Lib.hid (And.intro ((hb1.cell (p := ⟨b, off + k, none⟩) (Nat.lt_of_lt_of_le hB HB.out.size)).trans k0.1) ((hb1.cell (p := ⟨b2, off2 + k, none⟩) (Nat.lt_of_lt_of_le hB2 HB.out.size)).trans k0.2)); clear hb1
      go_wp2_with fail
      refine hKr_9.out _ _ ?kr_9 (fun hHeldr_9 => ?dr_9)
      case kr_9 => (first | (dsimp only; (first | exact k0 | exact k1.out)) | (first | exact k0 | exact k1.out))
      clear hKr_9 Kr_9
      refine take_first 9 26 (v := ?vr_10) rfl rfl (by kernel_rfl) (by kernel_rfl) (by kernel_rfl) (fun _ _ _ h => h) (by rfl) ?yr_10 (by assumption) ?rr_10
      case yr_10 => (intro w hSw; (try dsimp only at hSw); go_simp; (try with_reducible rfl))
      simp only [Act.put, List.setIfInBounds_toArray, List.set_cons_zero, List.set_cons_succ]
      refine wpAnyH_done (by kernel_rfl) ?er _
      clear k0
      go_wp2
      go_roundw
      case rel => exact ⟨k + 1, by omega, by go_num, HB1.out⟩
      case measure => simp [intOf]; omega
    · clear hv hu
      go_wp2
      go_ret
      exact ⟨rfl, hb⟩

end Go.Proofs.YteccebjnopladaaGreat
