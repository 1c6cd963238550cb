/- Texts that follow each other, merged: ExStoDo, ExGloDo. -/
import Derived.Test.YtmbkhohgciakfaaGreatXStoDoI
import Derived.Test.YtmbkhohgciakfaaGreatXMStoItem
import Derived.Test.YtmbkhohgciakfaaGreatXMStoWrite
import Derived.Test.YtmbkhohgciakfaaGreatXOwnWr
import Derived.Test.YtmbkhohgciakfaaGreatXExOpOk

/- The walk of FnExactStoDo. -/
namespace Go.Proofs.YtmbkhohgciakfaaGreat
open Go.RowKit

theorem fine_wt {its : List Item} (h : Fine its) : wtL itSh.wt its ≤ 7 * its.length := by
  induction its with
  | nil => simp [wtL]
  | cons x l ih =>
    have h1 := h x (List.mem_cons_self ..)
    have h2 := ih fun y hy => h y (List.mem_cons_of_mem _ hy)
    have hw : itSh.wt x = x.key.size + intsSh.wt x.val := rfl
    have hi := ints_wt x.val
    simp only [wtL, List.length_cons]
    omega
set_option maxRecDepth 100000 in
theorem markStoStore_sh (w : World) (S : Nat → Prop) (v : Value) (xs : List Item) (hv : itSh.Own 98 w S v xs) (k : Int) (hl : itsSh.wt xs ≤ 1048576) (h0 : 1 ≤ k) (h1 : k + 16 * (itsSh.wt xs : Int) ≤ 1000000000000000) :
    Calls Tryz.prog 16 #[.agg #[v], .int .i64 k] w (MarkedSl itSh 98 S v xs k w) := by
  obtain ⟨A, c, rfl, -, -⟩ := hv.row.form
  have HV := Lib.hid (hv.below (belowOne w (.cells #[.slice A xs.length c] 35)))
  clear hv
  go_enter Tryz.func16, Tryz.ntmps16
  go_wp2_with fail
  refine (markStoItemS_sh _ S _ xs HV.out k hl h0 h1).mono ?_
  rintro e w1 ⟨ys, rfl, hy1, hy2, hy3, hy4, hy5⟩
  have HF := Lib.hid (And.intro hy1 (And.intro hy2 (And.intro hy3 (And.intro hy4 hy5))))
  clear hy1 hy2 hy3 hy4 hy5
  go_wp2
  go_ret
  obtain ⟨hy1, hy2, hy3, hy4, hy5⟩ := HF.out
  exact ⟨ys, rfl, hy1, hy2, hy3, hy4, (Outs.of_below (belowOne w _)).trans hy5⟩
/-- The blocks that the law itself marks. -/
def three (a b c d e f : Nat) (q : Nat) : Prop := (a ≤ q ∧ q < b) ∨ (c ≤ q ∧ q < d) ∨ (e ≤ q ∧ q < f)

end Go.Proofs.YtmbkhohgciakfaaGreat

/- The walk of FnExactGloDo. By exglogen.py. -/
namespace Go.Proofs.YtmbkhohgciakfaaGreat
open Go.RowKit

def two (a b c d : Nat) (q : Nat) : Prop := (a ≤ q ∧ q < b) ∨ (c ≤ q ∧ q < d)
theorem putP_fine {x : Sto} {p : Pend} {xs : List Sto} (h : ∀ x ∈ xs, x.items.length ≤ 40 ∧ Fine x.items) (hx : x ∈ putP xs p) : x.items.length ≤ 40 ∧ Fine x.items := by
  unfold putP at hx
  rcases List.mem_or_eq_of_mem_set hx with h1 | rfl
  · exact h x h1
  · exact stoDo_fine ((xs[(p.place - 1).toNat]?).elim [] (·.items)) p.writes
theorem puts_fine : ∀ (ps : List Pend) {xs : List Sto}, (∀ x ∈ xs, x.items.length ≤ 40 ∧ Fine x.items) → ∀ x ∈ ps.foldl putP xs, x.items.length ≤ 40 ∧ Fine x.items
  | [], _, h => h
  | p :: ps, xs, h => puts_fine ps (xs := putP xs p) fun _ hx => putP_fine h hx
theorem gloB_fine : ∀ {xs : List Sto}, gloB xs = true → ∀ x ∈ xs, x.items.length ≤ 40 ∧ Fine x.items
  | [a, b, c], h => by
    simp only [gloB, plcB, Bool.and_eq_true] at h
    intro x hx
    simp only [List.mem_cons, List.not_mem_nil, or_false] at hx
    rcases hx with rfl | rfl | rfl
    · exact stoB_fine h.1.2.1
    · exact stoB_fine h.2.1.2.1
    · exact stoB_fine h.2.2.2.1
  | [], h => by cases h
  | [_], h => by cases h
  | [_, _], h => by cases h
  | _ :: _ :: _ :: _ :: _, h => by cases h
theorem gloDo_fine (xs : List Sto) (tx : Int) (o : Op) : (gloDo xs tx o).1.length ≤ 3 ∧ ∀ x ∈ (gloDo xs tx o).1, x.items.length ≤ 40 ∧ Fine x.items := by
  unfold gloDo
  split
  · rename_i h
    simp only [Bool.and_eq_true] at h
    exact ⟨by rw [puts_len, gloB_three h.1]; omega, puts_fine _ (gloB_fine h.1)⟩
  · exact ⟨by simp, fun x hx => absurd hx (by simp)⟩
theorem stos_wt : ∀ {xs : List Sto}, (∀ x ∈ xs, x.items.length ≤ 40 ∧ Fine x.items) → stosSh.wt xs ≤ 281 * xs.length ∧ cntL stoSh.cnt xs ≤ 160 * xs.length
  | [], _ => ⟨Nat.zero_le _, Nat.zero_le _⟩
  | x :: l, h => by
    obtain ⟨h1, h2⟩ := stos_wt (xs := l) fun y hy => h y (List.mem_cons_of_mem _ hy)
    obtain ⟨h3, h4⟩ := h x (List.mem_cons_self ..)
    have h5 := fine_wt h4
    have h6 := its_cnt (its := x.items) fun it hi => (h4 it hi).2
    have e1 : stosSh.wt (x :: l) = (1 + stoSh.wt x) + stosSh.wt l := rfl
    have e2 : cntL stoSh.cnt (x :: l) = stoSh.cnt x + cntL stoSh.cnt l := rfl
    have e3 : stoSh.wt x = wtL itSh.wt x.items := rfl
    have e4 : stoSh.cnt x = cntL itSh.cnt x.items := rfl
    rw [List.length_cons]
    omega
theorem stoLe {M : Nat} : WtLe stoSh M (M + 3) := fun _ x h h0 hM => its_wt (l := x.items) h h0 hM

set_option maxRecDepth 100000 in
set_option maxHeartbeats 8000000 in
theorem exGloDo_any (w : World) (v : Value) (xs : List Sto) (hv : stoSh.Row w w.heap.size v xs) (tx : Int) (o : Op) :
    Calls Tryz.prog 7 #[v, .int .i64 tx, opV o] w fun e w' => e = .returned (.bool true) ∧ Below w.heap.size w w' := by
  obtain ⟨A, c, rfl, hc2, hc1⟩ := hv.form
  have HX := Lib.hid (Held.new w #[.int .i64 o.kind, .int .i64 o.who, .int .i64 o.inn, .int .i64 o.code, .int .i64 o.sec, .int .i64 o.fam, .int .i64 o.gen] 26)
  have HB := Lib.hid (belowOne w (.cells #[.int .i64 o.kind, .int .i64 o.who, .int .i64 o.inn, .int .i64 o.code, .int .i64 o.sec, .int .i64 o.fam, .int .i64 o.gen] 26))
  have HV := Lib.hid fun W (h : Below w.heap.size w W) => (hv.below h).more h.size
  clear hv hc2 hc1
  unfold opV
  go_enter Tryz.func7, Tryz.ntmps7
  by_cases hq1 : (1048576 : Int) < (stosSh.wt xs : Int)
  · have hl := less_no hq1
    go_wp2_with fail
    refine (szStoStoreS_sh _ _ xs (HV.out _ HB.out) _ (by omega) (by omega)).mono ?_
    rintro e w1 ⟨rfl, hb⟩
    rw [hl]
    have HB1 := Lib.hid (belowNext HB.out hb)
    clear hb
    go_wp2
    go_ret
    exact ⟨rfl, HB1.out⟩
  have hl := less_yes (show (stosSh.wt xs : Int) ≤ 1048576 by omega)
  have hw1 : stosSh.wt xs ≤ 1048576 := by omega
  go_wp2_with fail
  refine (szStoStoreS_sh _ _ xs (HV.out _ HB.out) _ (by omega) (by omega)).mono ?_
  rintro e w1 ⟨rfl, hb⟩
  rw [hl]
  have hr2 : 0 ≤ 1048576 - (stosSh.wt xs : Int) := by omega
  replace HB := Lib.hid (belowNext HB.out hb)
  replace HX := Lib.hid (HX.out.below hb HX.out.1)
  clear hb hl hq1
  obtain ⟨R, hR⟩ : ∃ R, gloDo xs tx o = R := ⟨_, rfl⟩
  have HR := Lib.hid hR
  have HF := Lib.hid (show R.1.length ≤ 3 ∧ ∀ x ∈ R.1, x.items.length ≤ 40 ∧ Fine x.items by rw [← hR]; exact gloDo_fine xs tx o)
  clear hR
  -- w0
  go_upto_region 5 with fail
  have k0 := (show Held w1.drew w.heap.size [.int .i64 o.kind, .int .i64 o.who, .int .i64 o.inn, .int .i64 o.code, .int .i64 o.sec, .int .i64 o.fam, .int .i64 o.gen] from HX.out).seven
  refine wp_region_held_drew (S := (fun w' => w'.cell? ⟨w.heap.size, 0, none⟩ = some (.int .i64 o.kind) ∧ w'.cell? ⟨w.heap.size, 1, none⟩ = some (.int .i64 o.who) ∧ w'.cell? ⟨w.heap.size, 2, none⟩ = some (.int .i64 o.inn) ∧ w'.cell? ⟨w.heap.size, 3, none⟩ = some (.int .i64 o.code) ∧ w'.cell? ⟨w.heap.size, 4, none⟩ = some (.int .i64 o.sec) ∧ w'.cell? ⟨w.heap.size, 5, none⟩ = some (.int .i64 o.fam) ∧ w'.cell? ⟨w.heap.size, 6, none⟩ = some (.int .i64 o.gen))) (by kernel_rfl) ?hSr (fun hHeldr => ?str)
  case hSr => (first | (dsimp only; (first | with_reducible exact k3 | with_reducible exact k2 | with_reducible exact k1 | with_reducible exact k0)) | (first | with_reducible exact k3 | with_reducible exact k2 | with_reducible exact k1 | with_reducible exact k0))
  refine take_first 0 24 (v := ?vr_1) rfl rfl (by kernel_rfl) (by kernel_rfl) (by kernel_rfl) (fun _ _ _ h => h) (by rfl) ?yr_1 (by assumption) ?rr_1
  case yr_1 => (intro w hSw; (try dsimp only at hSw); go_simp; (try with_reducible rfl))
  simp only [Act.put, List.setIfInBounds_toArray, List.set_cons_zero, List.set_cons_succ]
  refine take_first 2 26 (v := ?vr_2) rfl rfl (by kernel_rfl) (by kernel_rfl) (by kernel_rfl) (fun _ _ _ h => h) (by rfl) ?yr_2 (by assumption) ?rr_2
  case yr_2 => (intro w hSw; (try dsimp only at hSw); go_simp; (try with_reducible rfl))
  simp only [Act.put, List.setIfInBounds_toArray, List.set_cons_zero, List.set_cons_succ]
  refine take_first 3 27 (v := ?vr_3) rfl rfl (by kernel_rfl) (by kernel_rfl) (by kernel_rfl) (fun _ _ _ h => h) (by rfl) ?yr_3 (by assumption) ?rr_3
  case yr_3 => (intro w hSw; (try dsimp only at hSw); go_simp; (try with_reducible rfl))
  simp only [Act.put, List.setIfInBounds_toArray, List.set_cons_zero, List.set_cons_succ]
  refine wpAnyH_ready (rs := [1]) (by kernel_rfl) (by simp) ?_
  refine AllReadyH.cons (o := _) rfl (fun Kr_4 hKr_4 => ?cr_4) ?mr_4
  case mr_4 => exact AllReadyH.nil
  go_simp
  refine (toStoStoreS_sh w1.drew _ xs (HV.out _ HB.out.drew) hw1).mono ?_; rintro e w2 ⟨u2, rfl, ho2, hb⟩; have HO2 := Lib.hid ho2; have HB2 := Lib.hid (show Below w.heap.size w w2 from belowNext HB.out.drew hb); have HX2 := Lib.hid ((show Held w1.drew w.heap.size _ from HX.out).below hb HX.out.1); have k1 := HX2.out.seven; clear ho2 hb
  go_wp2_with fail
  refine hKr_4.out _ _ ?kr_4 (fun hHeldr_4 => ?dr_4)
  case kr_4 => (first | (dsimp only; (first | with_reducible exact k3 | with_reducible exact k2 | with_reducible exact k1 | with_reducible exact k0)) | (first | with_reducible exact k3 | with_reducible exact k2 | with_reducible exact k1 | with_reducible exact k0))
  clear hKr_4 Kr_4
  refine wpAnyH_ready (rs := [4]) (by kernel_rfl) (by simp) ?_
  refine AllReadyH.cons (o := _) rfl (fun Kr_5 hKr_5 => ?cr_5) ?mr_5
  case mr_5 => exact AllReadyH.nil
  go_simp
  refine (toOpOp_any _ o).mono ?_; rintro e w3 ⟨rfl, hb⟩; have HO3 := Lib.hid (HO2.out.below hb); have HB3 := Lib.hid (belowNext HB2.out hb); have HX3 := Lib.hid (HX2.out.below hb HX2.out.1); have k2 := HX3.out.seven; clear hb
  go_wp2_with fail
  refine hKr_5.out _ _ ?kr_5 (fun hHeldr_5 => ?dr_5)
  case kr_5 => (first | (dsimp only; (first | with_reducible exact k3 | with_reducible exact k2 | with_reducible exact k1 | with_reducible exact k0)) | (first | with_reducible exact k3 | with_reducible exact k2 | with_reducible exact k1 | with_reducible exact k0))
  clear hKr_5 Kr_5
  refine wpAnyH_ready (rs := [5]) (by kernel_rfl) (by simp) ?_
  refine AllReadyH.cons (o := _) rfl (fun Kr_6 hKr_6 => ?cr_6) ?mr_6
  case mr_6 => exact AllReadyH.nil
  go_simp
  refine (specGloDo_any _ _ xs HO3.out.row tx o).mono ?_; rintro e w5 ⟨u5, rfl, ho5, hb⟩; rw [HR.out] at ho5 ⊢; have HO5 := Lib.hid ho5.row; have HB5 := Lib.hid (belowNext HB3.out hb); have HX5 := Lib.hid (HX3.out.below hb HX3.out.1); have k3 := HX5.out.seven; clear hb ho5
  go_wp2_with fail
  refine hKr_6.out _ _ ?kr_6 (fun hHeldr_6 => ?dr_6)
  case kr_6 => (first | (dsimp only; (first | with_reducible exact k3 | with_reducible exact k2 | with_reducible exact k1 | with_reducible exact k0)) | (first | with_reducible exact k3 | with_reducible exact k2 | with_reducible exact k1 | with_reducible exact k0))
  clear hKr_6 Kr_6
  refine take_first 6 23 (v := ?vr_7) rfl rfl (by kernel_rfl) (by kernel_rfl) (by kernel_rfl) (fun _ _ _ h => h) (by rfl) ?yr_7 (by assumption) ?rr_7
  case yr_7 => (intro w hSw; (try dsimp only at hSw); go_simp; (try with_reducible rfl))
  simp only [Act.put, List.setIfInBounds_toArray, List.set_cons_zero, List.set_cons_succ]
  refine take_first 7 30 (v := ?vr_8) rfl rfl (by kernel_rfl) (by kernel_rfl) (by kernel_rfl) (fun _ _ _ h => h) (by rfl) ?yr_8 (by assumption) ?rr_8
  case yr_8 => (intro w hSw; (try dsimp only at hSw); go_simp; (try with_reducible rfl))
  simp only [Act.put, List.setIfInBounds_toArray, List.set_cons_zero, List.set_cons_succ]
  refine take_first 8 31 (v := ?vr_9) rfl rfl (by kernel_rfl) (by kernel_rfl) (by kernel_rfl) (fun _ _ _ h => h) (by rfl) ?yr_9 (by assumption) ?rr_9
  case yr_9 => (intro w hSw; (try dsimp only at hSw); go_simp; (try with_reducible rfl))
  simp only [Act.put, List.setIfInBounds_toArray, List.set_cons_zero, List.set_cons_succ]
  refine take_first 9 8 (v := ?vr_10) rfl rfl (by kernel_rfl) (by kernel_rfl) (by kernel_rfl) (fun _ _ _ h => h) (by rfl) ?yr_10 (by assumption) ?rr_10
  case yr_10 => (intro w hSw; (try dsimp only at hSw); go_simp; (try with_reducible rfl))
  simp only [Act.put, List.setIfInBounds_toArray, List.set_cons_zero, List.set_cons_succ]
  refine take_first 10 9 (v := ?vr_11) rfl rfl (by kernel_rfl) (by kernel_rfl) (by kernel_rfl) (fun _ _ _ h => h) (by rfl) ?yr_11 (by assumption) ?rr_11
  case yr_11 => (intro w hSw; (try dsimp only at hSw); go_simp; (try with_reducible rfl))
  simp only [Act.put, List.setIfInBounds_toArray, List.set_cons_zero, List.set_cons_succ]
  refine wpAnyH_done (by kernel_rfl) ?er _
  clear k0 k1 k2 k3 HX HX2 HX3 HO2 HO3 HB HB2 HB3
  have HA5 := Lib.hid HX5.out.1
  obtain ⟨A5, c5, rfl, -, -⟩ := HO5.out.form
  -- x0
  go_wp2_with fail
  refine (toStoStoreS_sh _ _ xs (HV.out _ HB5.out) hw1).mono ?_
  rintro e w6 ⟨u6, rfl, ho6, hb6⟩
  obtain ⟨A6, c6, hf6, -, -⟩ := ho6.row.form
  subst hf6
  have HX0 := Lib.hid ho6
  have HZ6 := Lib.hid hb6.size
  have HB6 := Lib.hid (belowNext HB5.out hb6)
  have HX6 := Lib.hid (HX5.out.below hb6 HX5.out.1)
  have HL6 := Lib.hid hb6
  clear ho6 hb6 HB5 HX5
  -- g0
  obtain ⟨q0, q1, q2, q3, q4, q5, q6⟩ := HX6.out.seven
  go_wp2_with fail
  clear q0 q1 q2 q3 q4 q5 q6
  refine (toOpOp_any _ o).mono ?_
  rintro e w7 ⟨rfl, hb⟩
  replace HX0 := Lib.hid (HX0.out.below hb)
  have HZ7 := Lib.hid hb.size
  have HB7 := Lib.hid (belowNext HB6.out hb)
  have HX7 := Lib.hid (HX6.out.below hb HX6.out.1)
  have HL7 := Lib.hid (belowNext HL6.out hb)
  clear hb HB6 HX6 HL6
  unfold opV
  go_wp2_with fail
  refine (implGloDo_any _ _ xs HX0.out.row tx o).mono ?_
  rintro e w8 ⟨u8, rfl, ho8, hb8⟩
  rw [HR.out] at ho8 ⊢
  obtain ⟨A8, c8, hf8, -, -⟩ := ho8.row.form
  subst hf8
  have HZ8 := Lib.hid hb8.size
  have HB8 := Lib.hid (belowNext HB7.out hb8)
  have HX8 := Lib.hid (HX7.out.below hb8 HX7.out.1)
  have HL8 := Lib.hid (belowNext HL7.out hb8)
  replace HX0 := Lib.hid (HX0.out.below hb8)
  have HG0 := Lib.hid ho8
  clear ho8 hb8 HB7 HX7 HL7
  have hbb : (R.2 != R.2) = false := by simp
  -- what stands from here on
  have KC := Lib.hid fun W (h : Outs (two w5.heap.size w6.heap.size w7.heap.size w8.heap.size) w8 W) => (HX8.out.outs h (by unfold two; have := HA5.out; have := HZ6.out; have := HZ7.out; omega)).seven
  have KB := Lib.hid fun W (h : Outs (two w5.heap.size w6.heap.size w7.heap.size w8.heap.size) w8 W) =>
    HB8.out.trans (h.below (B := w.heap.size) HB8.out.size (fun b hb => by unfold two at hb; have := HA5.out; have := HZ6.out; have := HZ7.out; omega))
  have KR := Lib.hid fun W (h : Outs (two w5.heap.size w6.heap.size w7.heap.size w8.heap.size) w8 W) =>
    (lsto_row.1 ((HO5.out.below (HL8.out.trans (h.below (B := w5.heap.size) HL8.out.size (fun b hb => by unfold two at hb; have := HZ6.out; have := HZ7.out; omega)))).more (HL8.out.trans (h.below (B := w5.heap.size) HL8.out.size (fun b hb => by unfold two at hb; have := HZ6.out; have := HZ7.out; omega))).size))
  have HQ := Lib.hid (Outs.refl (two w5.heap.size w6.heap.size w7.heap.size w8.heap.size) w8)
  clear HX8 HB8 HL8 HO5
  generalize hT : two w5.heap.size w6.heap.size w7.heap.size w8.heap.size = T at *
  have HT := Lib.hid hT
  clear hT
  go_wp2_with fail
  refine (eqStoStoreS_alike _ _ _ R.1 HG0.out.row (KR.out _ HQ.out)).mono ?_
  rintro e w9 ⟨rfl, hb⟩
  replace HQ := Lib.hid (HQ.out.trans (Outs.of_below hb))
  replace HX0 := Lib.hid (HX0.out.below hb)
  replace HG0 := Lib.hid (HG0.out.below hb)
  clear hb
  go_wp2_with fail
  refine (toStoStoreS_sh _ _ xs (HV.out _ (KB.out _ HQ.out)) hw1).mono ?_
  rintro e w10 ⟨u10, rfl, ho10, hb⟩
  have HP := Lib.hid ho10.row
  replace HQ := Lib.hid (HQ.out.trans (Outs.of_below hb))
  replace HX0 := Lib.hid (HX0.out.below hb)
  replace HG0 := Lib.hid (HG0.out.below hb)
  clear ho10 hb
  go_wp2_with fail
  refine (eqStoStoreS_alike _ _ _ xs HX0.out.row HP.out).mono ?_
  rintro e w11 ⟨rfl, hb⟩
  replace HQ := Lib.hid (HQ.out.trans (Outs.of_below hb))
  replace HX0 := Lib.hid (HX0.out.below hb)
  replace HG0 := Lib.hid (HG0.out.below hb)
  clear hb HP
  -- marks on the argument
  have hcb : cntL stoSh.cnt xs ≤ 0 + 16 * stosSh.wt xs := cntL_le stoSh.cnt stoSh.wt stoSh.base (by decide) stoSh.cntLe xs
  go_wp2_with fail
  refine (markStoStoreS_sh _ _ _ xs HX0.out 1 hw1 (by omega) (by omega)).mono ?_
  rintro e w12 ⟨y12, rfl, -, -, -, -, ht⟩
  replace HQ := Lib.hid (HQ.out.trans (ht.mono fun b _ hb => by rw [← HT.out]; exact .inl hb))
  replace HG0 := Lib.hid (HG0.out.keep fun b hb hlt => ht.block b hlt fun h => by have := hb.1; have := h.2; have := HZ7.out; omega)
  clear ht HX0
  have hk12 : ¬ (1 + (cntL stoSh.cnt xs : Int) < 0) := by omega
  go_wp2_with fail
  refine (eqStoStoreS_alike _ _ _ R.1 HG0.out.row (KR.out _ HQ.out)).mono ?_
  rintro e w13 ⟨rfl, hb⟩
  replace HQ := Lib.hid (HQ.out.trans (Outs.of_below hb))
  replace HG0 := Lib.hid (HG0.out.below hb)
  clear hb
  -- marks on the answer
  have hRw : stosSh.wt R.1 ≤ 843 := by have h1 := (stos_wt HF.out.2).1; have h2 := HF.out.1; omega
  have hRc : cntL stoSh.cnt R.1 ≤ 480 := by have h1 := (stos_wt HF.out.2).2; have h2 := HF.out.1; omega
  go_wp2_with fail
  refine (markStoStoreS_sh _ _ _ R.1 HG0.out 1 (by omega) (by omega) (by omega)).mono ?_
  rintro e w14 ⟨ys, rfl, hyl, hyc, hym, hyo, ht⟩
  replace HQ := Lib.hid (HQ.out.trans (ht.mono fun b _ hb => by rw [← HT.out]; exact .inr hb))
  have HG := Lib.hid hyo
  have HM := Lib.hid hym
  have HC := Lib.hid hyc
  have hyw : stosSh.wt ys ≤ 1048576 := by
    have h := WtLe.rows (stoLe (M := 481)) ys 1 hym (by omega) (by rw [hyc]; omega)
    rw [hyc, hyl] at h
    have h2 : cntL stoSh.cnt R.1 * (481 + 3) ≤ 480 * 484 := Nat.mul_le_mul hRc (by omega)
    have h3 : stosSh.wt ys = wtL stoSh.wt ys := rfl
    have h4 := HF.out.1
    omega
  clear ht hyl hyc hym hyo HG0
  have hcn : ¬ (1 + (cntL stoSh.cnt R.1 : Int) < 0) := by omega
  go_wp2_with fail
  refine (heldStoStoreS_sh _ _ ys HG.out.row 1 hyw (by omega) (by omega) HM.out).mono ?_
  rintro e w15 ⟨rfl, hb⟩
  rw [HC.out]
  replace HQ := Lib.hid (HQ.out.trans (Outs.of_below hb))
  replace HG := Lib.hid (HG.out.below hb)
  clear hb
  -- another call
  go_upto_region 24 with fail
  have k0 := KC.out _ HQ.out.drew
  refine wp_region_held_drew (S := (fun w' => w'.cell? ⟨w.heap.size, 0, none⟩ = some (.int .i64 o.kind) ∧ w'.cell? ⟨w.heap.size, 1, none⟩ = some (.int .i64 o.who) ∧ w'.cell? ⟨w.heap.size, 2, none⟩ = some (.int .i64 o.inn) ∧ w'.cell? ⟨w.heap.size, 3, none⟩ = some (.int .i64 o.code) ∧ w'.cell? ⟨w.heap.size, 4, none⟩ = some (.int .i64 o.sec) ∧ w'.cell? ⟨w.heap.size, 5, none⟩ = some (.int .i64 o.fam) ∧ w'.cell? ⟨w.heap.size, 6, none⟩ = some (.int .i64 o.gen))) (by kernel_rfl) ?hSz (fun hHeldz => ?stz)
  case hSz => (first | (dsimp only; (first | with_reducible exact k3 | with_reducible exact k2 | with_reducible exact k1 | with_reducible exact k0)) | (first | with_reducible exact k3 | with_reducible exact k2 | with_reducible exact k1 | with_reducible exact k0))
  refine take_first 0 84 (v := ?vz_1) rfl rfl (by kernel_rfl) (by kernel_rfl) (by kernel_rfl) (fun _ _ _ h => h) (by rfl) ?yz_1 (by assumption) ?rz_1
  case yz_1 => (intro w hSw; (try dsimp only at hSw); go_simp; (try with_reducible rfl))
  simp only [Act.put, List.setIfInBounds_toArray, List.set_cons_zero, List.set_cons_succ]
  refine take_first 2 86 (v := ?vz_2) rfl rfl (by kernel_rfl) (by kernel_rfl) (by kernel_rfl) (fun _ _ _ h => h) (by rfl) ?yz_2 (by assumption) ?rz_2
  case yz_2 => (intro w hSw; (try dsimp only at hSw); go_simp; (try with_reducible rfl))
  simp only [Act.put, List.setIfInBounds_toArray, List.set_cons_zero, List.set_cons_succ]
  refine take_first 3 87 (v := ?vz_3) rfl rfl (by kernel_rfl) (by kernel_rfl) (by kernel_rfl) (fun _ _ _ h => h) (by rfl) ?yz_3 (by assumption) ?rz_3
  case yz_3 => (intro w hSw; (try dsimp only at hSw); go_simp; (try with_reducible rfl))
  simp only [Act.put, List.setIfInBounds_toArray, List.set_cons_zero, List.set_cons_succ]
  refine wpAnyH_ready (rs := [1]) (by kernel_rfl) (by simp) ?_
  refine AllReadyH.cons (o := _) rfl (fun Kz_4 hKz_4 => ?cz_4) ?mz_4
  case mz_4 => exact AllReadyH.nil
  go_simp
  refine (toStoStoreS_sh w15.drew _ xs (HV.out _ (KB.out _ HQ.out.drew)) hw1).mono ?_; rintro e w16 ⟨u16, rfl, ho16, hb⟩; have HP16 := Lib.hid ho16; have HQ16 := Lib.hid (HQ.out.drew.trans (Outs.of_below hb)); have HG16 := Lib.hid (Sh.Own.below (w := w15.drew) HG.out hb); have k1 := KC.out _ HQ16.out; clear ho16 hb
  go_wp2_with fail
  refine hKz_4.out _ _ ?kz_4 (fun hHeldz_4 => ?dz_4)
  case kz_4 => (first | (dsimp only; (first | with_reducible exact k3 | with_reducible exact k2 | with_reducible exact k1 | with_reducible exact k0)) | (first | with_reducible exact k3 | with_reducible exact k2 | with_reducible exact k1 | with_reducible exact k0))
  clear hKz_4 Kz_4
  refine wpAnyH_ready (rs := [4]) (by kernel_rfl) (by simp) ?_
  refine AllReadyH.cons (o := _) rfl (fun Kz_5 hKz_5 => ?cz_5) ?mz_5
  case mz_5 => exact AllReadyH.nil
  go_simp
  refine (toOpOp_any _ o).mono ?_; rintro e w17 ⟨rfl, hb⟩; have HP17 := Lib.hid (HP16.out.below hb); have HQ17 := Lib.hid (HQ16.out.trans (Outs.of_below hb)); have HG17 := Lib.hid (HG16.out.below hb); have k2 := KC.out _ HQ17.out; clear hb
  go_wp2_with fail
  refine hKz_5.out _ _ ?kz_5 (fun hHeldz_5 => ?dz_5)
  case kz_5 => (first | (dsimp only; (first | with_reducible exact k3 | with_reducible exact k2 | with_reducible exact k1 | with_reducible exact k0)) | (first | with_reducible exact k3 | with_reducible exact k2 | with_reducible exact k1 | with_reducible exact k0))
  clear hKz_5 Kz_5
  refine wpAnyH_ready (rs := [5]) (by kernel_rfl) (by simp) ?_
  refine AllReadyH.cons (o := _) rfl (fun Kz_6 hKz_6 => ?cz_6) ?mz_6
  case mz_6 => exact AllReadyH.nil
  go_simp
  refine (implGloDo_any _ _ xs HP17.out.row tx o).mono ?_; rintro e w18 ⟨u18, rfl, ho18, hb⟩; rw [HR.out] at ho18 ⊢; have HP18 := Lib.hid ho18.row; have HQ18 := Lib.hid (HQ17.out.trans (Outs.of_below hb)); have HG18 := Lib.hid (HG17.out.below hb); have k3 := KC.out _ HQ18.out; clear hb ho18
  go_wp2_with fail
  refine hKz_6.out _ _ ?kz_6 (fun hHeldz_6 => ?dz_6)
  case kz_6 => (first | (dsimp only; (first | with_reducible exact k3 | with_reducible exact k2 | with_reducible exact k1 | with_reducible exact k0)) | (first | with_reducible exact k3 | with_reducible exact k2 | with_reducible exact k1 | with_reducible exact k0))
  clear hKz_6 Kz_6
  refine take_first 6 83 (v := ?vz_7) rfl rfl (by kernel_rfl) (by kernel_rfl) (by kernel_rfl) (fun _ _ _ h => h) (by rfl) ?yz_7 (by assumption) ?rz_7
  case yz_7 => (intro w hSw; (try dsimp only at hSw); go_simp; (try with_reducible rfl))
  simp only [Act.put, List.setIfInBounds_toArray, List.set_cons_zero, List.set_cons_succ]
  refine take_first 7 90 (v := ?vz_8) rfl rfl (by kernel_rfl) (by kernel_rfl) (by kernel_rfl) (fun _ _ _ h => h) (by rfl) ?yz_8 (by assumption) ?rz_8
  case yz_8 => (intro w hSw; (try dsimp only at hSw); go_simp; (try with_reducible rfl))
  simp only [Act.put, List.setIfInBounds_toArray, List.set_cons_zero, List.set_cons_succ]
  refine take_first 8 91 (v := ?vz_9) rfl rfl (by kernel_rfl) (by kernel_rfl) (by kernel_rfl) (fun _ _ _ h => h) (by rfl) ?yz_9 (by assumption) ?rz_9
  case yz_9 => (intro w hSw; (try dsimp only at hSw); go_simp; (try with_reducible rfl))
  simp only [Act.put, List.setIfInBounds_toArray, List.set_cons_zero, List.set_cons_succ]
  refine take_first 9 16 (v := ?vz_10) rfl rfl (by kernel_rfl) (by kernel_rfl) (by kernel_rfl) (fun _ _ _ h => h) (by rfl) ?yz_10 (by assumption) ?rz_10
  case yz_10 => (intro w hSw; (try dsimp only at hSw); go_simp; (try with_reducible rfl))
  simp only [Act.put, List.setIfInBounds_toArray, List.set_cons_zero, List.set_cons_succ]
  refine take_first 10 17 (v := ?vz_11) rfl rfl (by kernel_rfl) (by kernel_rfl) (by kernel_rfl) (fun _ _ _ h => h) (by rfl) ?yz_11 (by assumption) ?rz_11
  case yz_11 => (intro w hSw; (try dsimp only at hSw); go_simp; (try with_reducible rfl))
  simp only [Act.put, List.setIfInBounds_toArray, List.set_cons_zero, List.set_cons_succ]
  refine wpAnyH_done (by kernel_rfl) ?ez _
  clear k0 k1 k2 k3 HQ HG HP16 HQ16 HG16 HP17 HQ17 HG17
  obtain ⟨A18, c18, rfl, -, -⟩ := HP18.out.form
  go_wp2_with fail
  refine (eqStoStoreS_alike _ _ _ R.1 HP18.out (KR.out _ HQ18.out)).mono ?_
  rintro e w19 ⟨rfl, hb⟩
  have HQ19 := Lib.hid (HQ18.out.trans (Outs.of_below hb))
  have HG19 := Lib.hid (HG18.out.below hb)
  clear hb HQ18 HG18 HP18
  go_wp2_with fail
  refine (heldStoStoreS_sh _ _ ys HG19.out.row 1 hyw (by omega) (by omega) HM.out).mono ?_
  rintro e w20 ⟨rfl, hb⟩
  rw [HC.out]
  have HQ20 := Lib.hid (HQ19.out.trans (Outs.of_below hb))
  clear hb HQ19 HG19
  go_wp2
  go_ret
  exact ⟨rfl, KB.out _ HQ20.out⟩

end Go.Proofs.YtmbkhohgciakfaaGreat
