/- Texts that follow each other, merged: DrawOpen, DrawDo, RegInv3, DrawGloDo. -/
import Derived.Test.YteccebjnopladaaGreatXIntsOne
import Derived.Test.YteccebjnopladaaGreatXPlain
import Derived.Test.YteccebjnopladaaGreatXDrawSto
import Derived.Test.YteccebjnopladaaGreatXWrite
import Derived.Test.YteccebjnopladaaGreatXCmp
import Derived.Test.YteccebjnopladaaGreatXDrawOp0
import Derived.Deep.CutRange
import Derived.Deep.DeepCutAuto

/- A reader is opened over a code. -/
namespace Go.Proofs.YteccebjnopladaaGreat
open Go.RowKit

/-- What a draw out of a code leaves of a write. -/
def DrawnWrite (w : World) (e : Ending) (w' : World) : Prop :=
  ∃ s d v xs, e = .returned (.agg #[.string s, .bool d, v]) ∧ s.size ≤ 1000002 ∧ xs.length ≤ 4 ∧ Ints w' w'.heap.size v xs ∧ Below w.heap.size w w'

end Go.Proofs.YteccebjnopladaaGreat

/- A store and writes, drawn out of a code. -/
namespace Go.Proofs.YteccebjnopladaaGreat
open Go.RowKit

/-- What is drawn: some store, some writes. -/
def DrewDo (w : World) (e : Ending) (w' : World) : Prop :=
  ∃ u its l ws, e = .returned (.tuple #[.agg #[u], l]) ∧ its.length ≤ 41 ∧ ws.length ≤ 60 ∧ Items w' w'.heap.size u its ∧ Wrts w' w'.heap.size l ws ∧ Below w.heap.size w w'

end Go.Proofs.YteccebjnopladaaGreat

/- A region that draws its order, with edges that bind in some orders alone. Nothing of the program. -/
namespace Go.Proofs.YteccebjnopladaaGreat

section
variable {P : Program} {ops : Array Oper} {Q : Exit → Act → World → Prop}
/-- Each operation keeps I, whatever has come up before it; behind all I gives the post. -/
theorem wpAny_inv3 (I : (Nat → Bool) → Act → World → Prop)
    (hback : ∀ (i : Nat) (o : Oper), ops[i]? = some o → ∀ e ∈ o.after, Region.binds .any e = true → e.on < i)
    (hstep : ∀ (L : Nat → Bool) (a : Act) (w : World) (i : Nat) (o : Oper), ops[i]? = some o → L i = false → (∀ e ∈ o.after, Region.binds .any e = true → L e.on = true) → I L a w →
      ∀ K : Act → World → Prop, (∀ a' w', I (upd L i true) a' w' → K a' w') → if Region.wanted o (yielded ops a.tmps) = true then Oper.wp P o a w K Q else K (a.put o.dst undef) w)
    (hend : ∀ L a w, (∀ i, i < ops.size → L i = true) → I L a w → Q .normal a w) :
    ∀ (fuel : Nat) (l : Array Bool) (a : Act) (w : World), l.size = ops.size → left l ≤ fuel → I (fun j => l.getD j false) a w → wpAny P .any ops Q fuel l a w := by
  have hdone : ∀ (l : Array Bool), l.size = ops.size → Region.ready .any ops l = [] → ∀ i, i < ops.size → l.getD i false = true := by
    intro l hl hr i
    induction i using Nat.strongRecOn with
    | _ i ih =>
      intro hi
      cases hc : l.getD i false with
      | true => rfl
      | false =>
        have ho : ops[i]? = some ops[i] := Array.getElem?_eq_getElem hi
        have hm : i ∈ Region.ready .any ops l := by
          rw [mem_ready]
          refine ⟨?_, ops[i], ho, ?_⟩
          · simp only [Array.getD_eq_getD_getElem?] at hc ⊢
            rw [Array.getElem?_eq_getElem (by omega)] at hc ⊢
            simpa using hc
          · intro e he hbi
            exact ih e.on (hback i _ ho e he hbi) (Nat.lt_trans (hback i _ ho e he hbi) hi)
        rw [hr] at hm
        cases hm
  intro fuel
  induction fuel with
  | zero =>
    intro l a w hl hn hI
    have hr : Region.ready .any ops l = [] := by
      cases hr : Region.ready .any ops l with
      | nil => rfl
      | cons i rs =>
        have hm : i ∈ Region.ready .any ops l := by rw [hr]; simp
        obtain ⟨h1, o, ho, _⟩ := mem_ready.1 hm
        have hi : i < l.size := by rw [hl]; exact (Array.getElem?_eq_some_iff.1 ho).1
        have hf : l[i]? = some false := by
          rw [Array.getElem?_eq_getElem hi]
          simp only [Array.getD_eq_getD_getElem?, Array.getElem?_eq_getElem hi] at h1
          simpa using h1
        have := left_set hf
        omega
    exact ⟨hr, hend _ a w (hdone l hl hr) hI⟩
  | succ fuel ih =>
    intro l a w hl hn hI
    refine ⟨fun hr => hend _ a w (hdone l hl hr) hI, fun i hi => ?_⟩
    obtain ⟨h1, o, ho, h2⟩ := mem_ready.1 hi
    have hil : i < l.size := by rw [hl]; exact (Array.getElem?_eq_some_iff.1 ho).1
    have hf : l[i]? = some false := by
      rw [Array.getElem?_eq_getElem hil]
      simp only [Array.getD_eq_getD_getElem?, Array.getElem?_eq_getElem hil] at h1
      simpa using h1
    refine wpOp_step ho fun K hK => ?_
    refine hstep (fun j => l.getD j false) a w i o ho (by simp [Array.getD_eq_getD_getElem?, hf]) (fun e he hbi => h2 e he hbi) hI K fun a' w' h => hK a' w' ?_
    refine ih _ a' w' (by simpa using hl) (by have := left_set hf; omega) ?_
    have he : (fun j => (l.setIfInBounds i true).getD j false) = upd (fun j => l.getD j false) i true := by
      funext j
      simp only [Array.getD_eq_getD_getElem?, Array.getElem?_setIfInBounds, upd]
      by_cases hj : i = j
      · subst hj; simp [hil]
      · simp [hj, Ne.symm hj]
    rw [he]
    exact h

theorem wp_region_inv3 {id : Nat} {a : Act} {w : World} (hm : P.follows .mixedOrders = true) (I : (Nat → Bool) → Act → World → Prop)
    (hback : ∀ (i : Nat) (o : Oper), ops[i]? = some o → ∀ e ∈ o.after, Region.binds .any e = true → e.on < i)
    (h0 : I (fun _ => false) a w.drew)
    (hstep : ∀ (L : Nat → Bool) (a : Act) (w : World) (i : Nat) (o : Oper), ops[i]? = some o → L i = false → (∀ e ∈ o.after, Region.binds .any e = true → L e.on = true) → I L a w →
      ∀ K : Act → World → Prop, (∀ a' w', I (upd L i true) a' w' → K a' w') → if Region.wanted o (yielded ops a.tmps) = true then Oper.wp P o a w K Q else K (a.put o.dst undef) w)
    (hend : ∀ L a w, (∀ i, i < ops.size → L i = true) → I L a w → Q .normal a w) : (Code.region id ops true).wp P Q a w := by
  refine wp_region_any hm (wpAny_inv3 I hback hstep hend _ _ _ _ (by simp) ?_ ?_)
  · unfold left; exact Nat.le_trans (List.length_filter_le _ _) (by simp)
  · have he : (fun j => (Array.replicate ops.size false).getD j false) = fun _ => false := by
      funext j
      simp only [Array.getD_eq_getD_getElem?, Array.getElem?_replicate]
      split <;> rfl
    rw [he]; exact h0
end


/-- All edges of a region that bind go back. -/
def backB3 (ops : Array Oper) : Bool := (List.range ops.size).all fun i => match ops[i]? with
  | some o => o.after.all fun e => decide (e.on < i) || !Region.binds .any e
  | none => true
theorem backB3_at {ops : Array Oper} (h : backB3 ops = true) (i : Nat) (o : Oper) (ho : ops[i]? = some o) : ∀ e ∈ o.after, Region.binds .any e = true → e.on < i := by
  intro e he hbi
  have hi : i < ops.size := (Array.getElem?_eq_some_iff.1 ho).1
  have := List.all_eq_true.1 h i (List.mem_range.2 hi)
  simp only [ho] at this
  have := Array.all_eq_true_iff_forall_mem.1 this e he
  simpa [hbi] using this

/-- What has come up has come up behind all that it waits for in each order. -/
def Down3 (ops : Array Oper) (L : Nat → Bool) : Prop := ∀ (i : Nat) (o : Oper), ops[i]? = some o → L i = true → ∀ e ∈ o.after, Region.binds .any e = true → L e.on = true
theorem Down3.upd {ops : Array Oper} {L : Nat → Bool} {i : Nat} {o : Oper} (h : Down3 ops L) (ho : ops[i]? = some o) (hp : ∀ e ∈ o.after, Region.binds .any e = true → L e.on = true) : Down3 ops (upd L i true) := by
  intro j oj hj hL e he hbi
  by_cases e1 : e.on = i
  · rw [e1, upd_same]
  · rw [upd_other _ _ e1]
    by_cases e2 : j = i
    · subst e2
      rw [ho] at hj
      injection hj with hj
      subst hj
      exact hp e he hbi
    · rw [upd_other _ _ e2] at hL
      exact h j oj hj hL e he hbi
theorem wp_region_inv4 {P : Program} {ops : Array Oper} {Q : Exit → Act → World → Prop} {id : Nat} {a : Act} {w : World} (hm : P.follows .mixedOrders = true) (I : (Nat → Bool) → Act → World → Prop) (hback : backB3 ops = true)
    (h0 : I (fun _ => false) a w.drew)
    (hstep : ∀ (L : Nat → Bool) (a : Act) (w : World) (i : Nat) (o : Oper), ops[i]? = some o → L i = false → (∀ e ∈ o.after, Region.binds .any e = true → L e.on = true) → Down3 ops L → I L a w →
      ∀ K : Act → World → Prop, (∀ a' w', I (upd L i true) a' w' → K a' w') → if Region.wanted o (yielded ops a.tmps) = true then Oper.wp P o a w K Q else K (a.put o.dst undef) w)
    (hend : ∀ L a w, (∀ i, i < ops.size → L i = true) → I L a w → Q .normal a w) : (Code.region id ops true).wp P Q a w :=
  wp_region_inv3 hm (fun L a w => Down3 ops L ∧ I L a w) (backB3_at hback) ⟨fun _ _ _ h => by simp at h, h0⟩
    (fun L a w i o ho hL hp hI K hK => hstep L a w i o ho hL hp hI.1 hI.2 K fun a' w' h => hK a' w' ⟨hI.1.upd ho hp, h⟩)
    (fun L a w hL hI => hend L a w hL hI.2)
def reach3 (ops : Array Oper) : Nat → Nat → Nat → Bool
  | 0, i, j => i == j
  | f + 1, i, j => i == j || (match ops[i]? with
    | some o => o.after.any fun e => Region.binds .any e && reach3 ops f e.on j
    | none => false)
theorem Down3.reach {ops : Array Oper} {L : Nat → Bool} (h : Down3 ops L) : ∀ (f i j : Nat), reach3 ops f i j = true → L i = true → L j = true := by
  intro f
  induction f with
  | zero => intro i j hr hL; simp [reach3] at hr; subst hr; exact hL
  | succ f ih =>
    intro i j hr hL
    unfold reach3 at hr
    rcases Bool.or_eq_true_iff.1 hr with h1 | h1
    · simp at h1; subst h1; exact hL
    · split at h1
      · next o ho =>
        obtain ⟨n, hn, he⟩ := Array.any_eq_true.1 h1
        rw [Bool.and_eq_true] at he
        exact ih _ _ he.2 (h i o ho hL _ (Array.getElem_mem hn) he.1)
      · cases h1
theorem Down3.not {ops : Array Oper} {L : Nat → Bool} (h : Down3 ops L) (f m i : Nat) (hr : reach3 ops f m i = true) (hL : L i = false) : L m = false := by
  cases hm : L m with
  | false => rfl
  | true => have := h.reach f m i hr hm; rw [hL] at this; cases this
theorem Down3.notYet {ops : Array Oper} {L : Nat → Bool} (h : Down3 ops L) (f n m : Nat) (hr : ((List.range n).all fun j => reach3 ops f m j) = true) {i : Nat} (hi : i < n) (hL : L i = false) : L m = false :=
  h.not f m i (List.all_eq_true.1 hr i (List.mem_range.2 hi)) hL

end Go.Proofs.YteccebjnopladaaGreat

/- Three places, a number, and something that is done are drawn. By drawglogen.py. -/
namespace Go.Proofs.YteccebjnopladaaGreat
open Go.RowKit

def gdGood (g : Nat) (VL : Value) (i : Nat) (w : World) (u : Value) : Prop :=
  match i with
  | 0 => u = VL
  | 1 => u = .pointer (some ⟨g, 0, none⟩)
  | 2 => intIn (0) (14) u
  | 3 => intIn (15) (29) u
  | 4 => u = .pointer (some ⟨g, 0, none⟩)
  | 5 => intIn (0) (10) u
  | 6 => rowIn w g 3 (-1) (30) u
  | 7 => rowIn w g 6 (0) (3) u
  | 8 => u = .pointer (some ⟨g, 0, none⟩)
  | 9 => intIn (0) (6) u
  | 10 => atIn w g (0) (3) u
  | 11 => intIn (0) (3) u
  | 12 => atIn w g (-1) (30) u
  | 13 => intIn (-1) (30) u
  | 14 => u = .pointer (some ⟨g, 0, none⟩)
  | 15 => ∃ o : Op, u = opV o
  | 16 => u = VL
  | 17 => intIn (-1) (30) u
  | _ => True
theorem gdGood_stable {g : Nat} {VL : Value} {w w' : World} (h : w.grownBy w' (some g)) (i : Nat) (u : Value) (hg : gdGood g VL i w u) : gdGood g VL i w' u := by
  match i, hg with
  | 0, hg => exact hg
  | 1, hg => exact hg
  | 2, hg => exact hg
  | 3, hg => exact hg
  | 4, hg => exact hg
  | 5, hg => exact hg
  | 6, hg => exact rowIn_stable h hg
  | 7, hg => exact rowIn_stable h hg
  | 8, hg => exact hg
  | 9, hg => exact hg
  | 10, hg => exact atIn_stable h hg
  | 11, hg => exact hg
  | 12, hg => exact atIn_stable h hg
  | 13, hg => exact hg
  | 14, hg => exact hg
  | 15, hg => exact hg
  | 16, hg => exact hg
  | 17, hg => exact hg
  | k + 18, _ => exact trivial
def gdCnt (L : Nat → Bool) : Int := (if L 2 then 1 else 0) + (if L 5 then 1 else 0) + (if L 9 then 1 else 0) + (if L 15 then 8 else 0)
theorem gdCnt_same {L : Nat → Bool} {i : Nat} (h2 : i ≠ 2) (h5 : i ≠ 5) (h9 : i ≠ 9) (h15 : i ≠ 15) : gdCnt (upd L i true) = gdCnt L := by
  unfold gdCnt
  rw [upd_other _ _ (Ne.symm h2), upd_other _ _ (Ne.symm h5), upd_other _ _ (Ne.symm h9), upd_other _ _ (Ne.symm h15)]
theorem gdCnt_2 {L : Nat → Bool} (hL : L 2 = false) : gdCnt (upd L 2 true) = gdCnt L + 1 := by
  unfold gdCnt
  simp [upd, hL] <;> omega
theorem gdCnt_5 {L : Nat → Bool} (hL : L 5 = false) : gdCnt (upd L 5 true) = gdCnt L + 1 := by
  unfold gdCnt
  simp [upd, hL] <;> omega
theorem gdCnt_9 {L : Nat → Bool} (hL : L 9 = false) : gdCnt (upd L 9 true) = gdCnt L + 1 := by
  unfold gdCnt
  simp [upd, hL] <;> omega
theorem gdCnt_15 {L : Nat → Bool} (hL : L 15 = false) : gdCnt (upd L 15 true) = gdCnt L + 8 := by
  unfold gdCnt
  simp [upd, hL] <;> omega
theorem gdCnt_bound (L : Nat → Bool) : 0 ≤ gdCnt L ∧ gdCnt L ≤ 11 := by
  unfold gdCnt; repeat' split
  all_goals omega

/-- What holds while the numbers are drawn; the last operation lays what is done into block R. -/
def gdInv (w : World) (g R : Nat) (P : Int) (VL : Value) (L : Nat → Bool) (U : Nat → Value) (W : World) : Prop :=
  (L 18 = false → (∀ j, L j = true → gdGood g VL j W (U j)) ∧ Rds W g (P + gdCnt L) ∧ w.grownBy W (some g)) ∧
    (L 18 = true → U 16 = VL ∧ intIn (-1) 30 (U 17) ∧ ∃ (o : Op) (W0 : World), w.grownBy W0 (some g) ∧ W = put7 W0 R (.int .i64 o.kind) (.int .i64 o.who) (.int .i64 o.inn) (.int .i64 o.code) (.int .i64 o.sec) (.int .i64 o.fam) (.int .i64 o.gen))
theorem gdStep {w : World} {g R : Nat} {P : Int} {VL : Value} {L : Nat → Bool} {U : Nat → Value} {W W' : World} {i : Nat} {u : Value} (hi : i < 18) (h18 : L 18 = false) (hG : ∀ j, L j = true → gdGood g VL j W (U j)) (hst : ∀ j u, gdGood g VL j W u → gdGood g VL j W' u) (hu : gdGood g VL i W' u)
    (hR : Rds W' g (P + gdCnt (upd L i true))) (hg : w.grownBy W' (some g)) : gdInv w g R P VL (upd L i true) (upd U i u) W' := by
  have e : upd L i true 18 = false := by rw [upd_other _ _ (by omega)]; exact h18
  refine ⟨fun _ => ⟨RInv.next (Good := fun j W u => gdGood g VL j W u) hG (fun j x h => hst j x h) hu, hR, hg⟩, fun h => ?_⟩
  rw [e] at h; cases h

/-- What is drawn. -/
def DrewGD (w : World) (e : Ending) (w' : World) : Prop :=
  ∃ (u : Value) (xs : List Sto) (tx : Int) (o : Op), e = .returned (.tuple #[u, .int .i64 tx, opV o]) ∧ xs.length = 3 ∧ (∀ x ∈ xs, x.items.length ≤ 13 ∨ x.items.length = 41) ∧ -1 ≤ tx ∧ tx < 30 ∧ stoSh.Row w' w'.heap.size u xs ∧ Below w.heap.size w w'

set_option maxRecDepth 100000 in
set_option maxHeartbeats 4000000 in
theorem drawGloDo_any (w : World) (v : Value) (n : Nat) (hv : Code8 w v n) : Calls Tryz.prog 29 #[v] w (DrewGD w) := by
  have HV := Lib.hid (hv.below (belowOne w (.cells #[.int .i64 0, .int .i64 0, .int .i64 0, .int .i64 0, .int .i64 0, .int .i64 0, .int .i64 0] 37)))
  have HH := Lib.hid (Held.new w #[.int .i64 0, .int .i64 0, .int .i64 0, .int .i64 0, .int .i64 0, .int .i64 0, .int .i64 0] 37)
  obtain ⟨A, c, f, rfl, h1, h2, -, -⟩ := hv
  go_enter Tryz.func29, Tryz.ntmps29
  go_wp2_with fail
  refine (l20Open_any _ _ _ HV.out).mono ?_
  rintro e w1 ⟨rfl, hr, hb1⟩
  have HH1 := Lib.hid (HH.out.below hb1 HH.out.1)
  have HB1 := Lib.hid (belowNext (belowOne _ _) hb1)
  rw [allocSize] at hr
  have HR := Lib.hid (show Rds w1 (w.heap.size + 1) 0 from ⟨0, by omega, by omega, hr⟩)
  have hz1 : w.heap.size + 1 < w1.heap.size := HR.out.lt
  clear hr hb1 HH HV
  go_wp2_with fail
  refine (l20Glo_any _ _ _ HR.out (by omega) (by omega)).mono ?_
  rintro e w2 ⟨ul, xs, rfl, hN, hL, hd⟩
  have HL2 := Lib.hid hL
  have HN := Lib.hid hN
  have HH2 := Lib.hid (HH1.out.drew hd (by omega))
  have HB2 := Lib.hid (HB1.out.trans (hd.below (by omega) HB1.out.size))
  have HR2 := Lib.hid hd.1
  have hz2 : w1.heap.size ≤ w2.heap.size := hd.2.size
  obtain ⟨Al, cl, hf, -, -⟩ := hL.row.form
  subst hf
  clear hN hL hd HH1 HB1 HR
  go_wp2_with fail
  refine (odd_any _ _ _ _ HR2.out (by omega) (by omega)).mono ?_
  rintro e w3 ⟨bb, rfl, -, hd⟩
  have HL3 := Lib.hid ((ownDrew HL2.out hd (fun h => by have := h.1; omega)).mono (S' := fun b => w1.heap.size ≤ b ∧ b < w3.heap.size) fun b hb => ⟨hb.1, Nat.lt_of_lt_of_le hb.2 hd.2.size⟩)
  have HH3 := Lib.hid (HH2.out.drew hd (by omega))
  have HB3 := Lib.hid (HB2.out.trans (hd.below (by omega) HB2.out.size))
  have HR3 := Lib.hid hd.1
  have hz3 : w2.heap.size ≤ w3.heap.size := hd.2.size
  clear hd HL2 HH2 HB2 HR2
  have hxl : xs.length = 3 := gloB_three HN.out.1
  have HX : Hid (∀ x ∈ xs, x.items.length ≤ 13 ∨ x.items.length = 41) := Lib.hid fun x hx => by have := HN.out.2 x hx; omega
  go_upto_if 12 with fail
  go_cut [] from 13 to 18 (fun wc => ∃ ys : List Sto, ys.length = 3 ∧ (∀ x ∈ ys, x.items.length ≤ 13 ∨ x.items.length = 41) ∧ lstoSh.Own 35 wc (fun b => w1.heap.size ≤ b ∧ b < wc.heap.size) (.slice Al 3 cl) ys ∧ Held wc w.heap.size [.int .i64 0, .int .i64 0, .int .i64 0, .int .i64 0, .int .i64 0, .int .i64 0, .int .i64 0] ∧ Below w.heap.size w wc ∧ Rds wc (w.heap.size + 1) 2000)
  case first =>
    cases bb
    · go_wp2
      go_meet
      case rel => exact ⟨xs, hxl, HX.out, by have h := HL3.out; rw [hxl] at h; exact h, HH3.out, HB3.out, HR3.out.more (by omega)⟩
    · go_wp2_with fail
      refine (pick_rds _ _ _ _ HR3.out (by omega) (by omega)).mono ?_
      rintro e w4 ⟨m, rfl, m0, m1, hd⟩
      have m2 : m < 3 := m1 (by omega)
      obtain ⟨i, rfl⟩ := Int.eq_ofNat_of_zero_le m0
      have HL4 := Lib.hid (ownDrew HL3.out hd (fun h => by have := h.1; omega))
      have HH4 := Lib.hid (HH3.out.drew hd (by omega))
      have HB4 := Lib.hid (HB3.out.trans (hd.below (by omega) HB3.out.size))
      have HR4 := Lib.hid hd.1
      have hz4 : w3.heap.size ≤ w4.heap.size := hd.2.size
      clear hd m1 HL3 HH3 HB3 HR3
      go_wp2_with fail
      refine (l20Sto_two _ _ _ _ HR4.out (by omega) (by omega) (by omega)).mono ?_
      rintro e w5 ⟨us, its, rfl, hil, -, ho, hd⟩
      obtain ⟨As, ns, cs, hsf⟩ := ownSlice ho
      subst hsf
      have HL5 := Lib.hid (ownDrew HL4.out hd (fun h => by have := h.1; omega))
      have HH5 := Lib.hid (HH4.out.drew hd (by omega))
      have HB5 := Lib.hid (HB4.out.trans (hd.below (by omega) HB4.out.size))
      have HR5 := Lib.hid hd.1
      have hz5 : w4.heap.size ≤ w5.heap.size := hd.2.size
      have HO5 := Lib.hid ((ho.toIn (S' := fun b => w4.heap.size ≤ b) (fun _ h => h) (fun _ h => h)).keep2 (w' := w5) (S' := fun b => w4.heap.size ≤ b ∧ b < w5.heap.size) (fun _ _ _ => rfl) (fun b hlt h => ⟨h, hlt⟩))
      clear ho hd HL4 HH4 HB4 HR4
      have hix : i < xs.length := by omega
      obtain ⟨g, cap, z, cz, Sj, e2, hz, hSg, hgw, hoz, -, hcz, hfr, -, -⟩ := HL5.out.at_ (j := i) hix
      obtain ⟨uz, rfl, huz⟩ := lsto_own.1 hoz
      rw [hxl] at e2
      injection e2 with e2a _ e2c
      subst e2a e2c
      have g0 : w5.cell? ⟨g, i, none⟩ = some uz := by
        have h := hcz 0 _ rfl
        rwa [show i * lstoSh.wd + 0 = i from Nat.mul_one _] at h
      have f1 : (i : Int) < 3 := by omega
      have f2 : (0 : Int) ≤ (i : Int) := by omega
      have hSg1 := hSg.1
      have HT := Lib.hid (show lstoSh.Own 35 (w5.setCell ⟨g, i, none⟩ (.slice As ns cs)) (fun b => w1.heap.size ≤ b ∧ b < (w5.setCell ⟨g, i, none⟩ (.slice As ns cs)).heap.size) (.slice (some ⟨g, 0, none⟩) 3 cl) (xs.set i ⟨its⟩) from by
        have h1 := HL5.out.cap.put hix rfl (w1 := w5) (fun b _ _ => rfl) (lsto_own (x := ⟨its⟩).2 ⟨_, rfl, HO5.out⟩) (fun b h1 h2 => by have := h2.1.2; omega)
        have e1 : i * lstoSh.wd = i := Nat.mul_one _
        rw [e1, hxl] at h1
        exact h1.mono fun b hb' => by
          rw [show (w5.setCell ⟨g, i, none⟩ (.slice As ns cs)).heap.size = w5.heap.size by simp [World.setCell]]
          rcases hb' with hb' | hb'
          · have := hb'.1.1; have := hb'.2; omega
          · omega)
      have HBs := Lib.hid (show Below w1.heap.size w5 (w5.setCell ⟨g, i, none⟩ (.slice As ns cs)) from (Below.refl _ _).setCell (p := ⟨g, i, none⟩) hSg1 _)
      clear huz hcz hoz hz
      go_wp2
      go_meet
      case rel => exact ⟨xs.set i ⟨its⟩, by rw [List.length_set]; exact hxl, fun x hx => by rcases List.mem_or_eq_of_mem_set hx with h | rfl; exact HX.out x h; exact hil, HT.out, HH5.out.below HBs.out (by omega), HB5.out.trans (HBs.out.mono (by omega)), (HR5.out.below HBs.out (by omega)).more (by omega)⟩
  case rest =>
    obtain ⟨ys, hyl, hyi, hyo, hyh, hyb, hyr⟩ := hcut
    have HYo := Lib.hid hyo
    have HYh := Lib.hid hyh
    have HYb := Lib.hid hyb
    have HYr := Lib.hid hyr
    have HYi := Lib.hid hyi
    have hyz : w.heap.size + 1 < wc.heap.size := hyr.lt
    have hw1c : w1.heap.size ≤ wc.heap.size := by
      rcases hyo.form with ⟨e0, e0'⟩ | ⟨g, cap, e0, hg1, hg2, -, -⟩
      · rw [e0'] at hyl; cases hyl
      · have := hg1.1; omega
    clear hyo hyh hyb hyr hyi HL3 HH3 HB3 HR3 HN HX
    generalize hgd : w.heap.size + 1 = g at *
    go_wp2
    refine wp_region_inv4 (by kernel_rfl) (fun L a W => ∃ U : Nat → Value, a = { tmps := #[.slice A n c, undef, U 16, U 17, .pointer (some ⟨w.heap.size, 0, none⟩), .pointer (some ⟨g, 0, none⟩), .slice Al 3 cl, .slice A n c, .pointer (some ⟨g, 0, none⟩), .pointer (some ⟨g, 0, none⟩), .slice Al 3 cl, .pointer (some ⟨g, 0, none⟩), .bool bb, u13, u14, u15, u16, u17, u18, U 0, U 1, U 2, U 3, U 4, U 5, U 6, U 7, U 8, U 9, U 10, U 11, U 12, U 13, U 14, U 15], defers := [] } ∧ gdInv wc g w.heap.size 2000 (.slice Al 3 cl) L U W) (by kernel_rfl) ?h0 ?hstep ?hend
    case h0 =>
      exact ⟨fun j => #[undef, undef, undef, undef, undef, undef, undef, undef, undef, undef, undef, undef, undef, undef, undef, undef, .slice none 0 0, .int .i64 0].getD j undef, rfl, fun _ => ⟨fun j h => absurd h (by simp), by have h := HYr.out; exact h.more (by have := gdCnt_bound (fun _ => false); omega), ⟨rfl, rfl, rfl, Nat.le_refl _, fun _ _ _ => rfl⟩⟩, fun h => absurd h (by simp)⟩
    case hstep =>
      rintro L a W i o ho hLi hpre hdn ⟨U, rfl, h1, -⟩ K hK
      have hi : i < 19 := (Array.getElem?_eq_some_iff.1 ho).1
      have hd18 : ∀ j, j < 18 → L j = false → L 18 = false := fun j hj hL => hdn.notYet 12 18 18 (by kernel_rfl) hj hL
      clear hdn
      have HK := Lib.hid hK
      clear hK
      have hcb := gdCnt_bound L
      by_cases hi18 : i < 18
      · have h18 := hd18 i hi18 hLi
        obtain ⟨hG, hRd, hGr⟩ := h1 h18
        have HG := Lib.hid hG
        have HRd := Lib.hid hRd
        have HGr := Lib.hid hGr
        clear hG hRd hGr h1 hd18
        rcases (by omega : i = 0 ∨ i = 1 ∨ i = 2 ∨ i = 3 ∨ i = 4 ∨ i = 5 ∨ i = 6 ∨ i = 7 ∨ i = 8 ∨ i = 9 ∨ i = 10 ∨ i = 11 ∨ i = 12 ∨ i = 13 ∨ i = 14 ∨ i = 15 ∨ i = 16 ∨ i = 17) with rfl | rfl | rfl | rfl | rfl | rfl | rfl | rfl | rfl | rfl | rfl | rfl | rfl | rfl | rfl | rfl | rfl | rfl
        all_goals (simp at ho; subst ho; simp [Region.binds] at hpre)
        · go_simp
          exact HK.out _ _ ⟨upd U 0 ((.slice Al 3 cl)), by simp [upd], gdStep (by decide) h18 HG.out (fun _ _ h => h) (rfl) (HRd.out.more (by rw [gdCnt_same (by decide) (by decide) (by decide) (by decide)]; omega)) (HGr.out)⟩
        · go_simp
          exact HK.out _ _ ⟨upd U 1 (.pointer (some ⟨g, 0, none⟩)), by simp [upd], gdStep (by decide) h18 HG.out (fun _ _ h => h) (rfl) (HRd.out.more (by rw [gdCnt_same (by decide) (by decide) (by decide) (by decide)]; omega)) (HGr.out)⟩
        · have e1 : U 1 = .pointer (some ⟨g, 0, none⟩) := HG.out 1 (by simp [hpre])
          have HC := Lib.hid (gdCnt_2 hLi)
          go_simp
          go_wp2_with (go_at_call 58; refine (pick_rds _ g _ _ HRd.out (by omega) (by omega)).mono ?_; rintro e w' ⟨m, rfl, hm0, hm1, hd⟩)
          exact HK.out _ _ ⟨upd U 2 (.int .i64 m), by simp [upd, e1], gdStep (by decide) h18 HG.out (fun j u h => gdGood_stable hd.2 j u h) (⟨m, rfl, hm0, by have := hm1 (by omega); omega⟩) (hd.1.more (by rw [HC.out]; omega)) (HGr.out.trans hd.2)⟩
        · obtain ⟨m, e1, hm0, hm1⟩ := HG.out 2 (by simp [hpre])
          have hwm : IntKind.i64.wrap (15 + m) = 15 + m := IntWalk.i64_in _ (by omega)
          go_simp
          exact HK.out _ _ ⟨upd U 3 (.int .i64 (15 + m)), by simp [upd, e1], gdStep (by decide) h18 HG.out (fun _ _ h => h) (⟨15 + m, rfl, by omega, by omega⟩) (HRd.out.more (by rw [gdCnt_same (by decide) (by decide) (by decide) (by decide)]; omega)) (HGr.out)⟩
        · go_simp
          exact HK.out _ _ ⟨upd U 4 (.pointer (some ⟨g, 0, none⟩)), by simp [upd], gdStep (by decide) h18 HG.out (fun _ _ h => h) (rfl) (HRd.out.more (by rw [gdCnt_same (by decide) (by decide) (by decide) (by decide)]; omega)) (HGr.out)⟩
        · have e1 : U 4 = .pointer (some ⟨g, 0, none⟩) := HG.out 4 (by simp [hpre])
          have HC := Lib.hid (gdCnt_5 hLi)
          go_simp
          go_wp2_with (go_at_call 58; refine (pick_rds _ g _ _ HRd.out (by omega) (by omega)).mono ?_; rintro e w' ⟨m, rfl, hm0, hm1, hd⟩)
          exact HK.out _ _ ⟨upd U 5 (.int .i64 m), by simp [upd, e1], gdStep (by decide) h18 HG.out (fun j u h => gdGood_stable hd.2 j u h) (⟨m, rfl, hm0, by have := hm1 (by omega); omega⟩) (hd.1.more (by rw [HC.out]; omega)) (HGr.out.trans hd.2)⟩
        · obtain ⟨m3, e3, ha3, hb3⟩ := HG.out 3 (by simp [hpre])
          obtain ⟨m5, e5, ha5, hb5⟩ := HG.out 5 (by simp [hpre])
          have hz := HRd.out.lt
          have hrow := rowIn_lit (w := W) (g := g) (lo := -1) (hi := 30) [m3, m5, (-1)] hz (by simp; omega)
          have HRw := Lib.hid hrow
          clear hrow
          go_simp
          exact HK.out _ _ ⟨upd U 6 (.slice (some ⟨W.heap.size, 0, none⟩) 3 3), by simp [upd, e3, e5], gdStep (by decide) h18 HG.out (fun j u h => gdGood_stable (World.grownBy_alloc _ _ _) j u h) (HRw.out) ((Rds.alloc HRd.out _).more (by rw [gdCnt_same (by decide) (by decide) (by decide) (by decide)]; omega)) (HGr.out.trans (World.grownBy_alloc _ _ _))⟩
        · have hz := HRd.out.lt
          have hrow := rowIn_lit (w := W) (g := g) (lo := 0) (hi := 3) [(0), (0), (0), (0), (1), (2)] hz (by decide)
          have HRw := Lib.hid hrow
          clear hrow
          go_simp
          exact HK.out _ _ ⟨upd U 7 (.slice (some ⟨W.heap.size, 0, none⟩) 6 6), by simp [upd], gdStep (by decide) h18 HG.out (fun j u h => gdGood_stable (World.grownBy_alloc _ _ _) j u h) (HRw.out) ((Rds.alloc HRd.out _).more (by rw [gdCnt_same (by decide) (by decide) (by decide) (by decide)]; omega)) (HGr.out.trans (World.grownBy_alloc _ _ _))⟩
        · go_simp
          exact HK.out _ _ ⟨upd U 8 (.pointer (some ⟨g, 0, none⟩)), by simp [upd], gdStep (by decide) h18 HG.out (fun _ _ h => h) (rfl) (HRd.out.more (by rw [gdCnt_same (by decide) (by decide) (by decide) (by decide)]; omega)) (HGr.out)⟩
        · have e1 : U 8 = .pointer (some ⟨g, 0, none⟩) := HG.out 8 (by simp [hpre])
          have HC := Lib.hid (gdCnt_9 hLi)
          go_simp
          go_wp2_with (go_at_call 58; refine (pick_rds _ g _ _ HRd.out (by omega) (by omega)).mono ?_; rintro e w' ⟨m, rfl, hm0, hm1, hd⟩)
          exact HK.out _ _ ⟨upd U 9 (.int .i64 m), by simp [upd, e1], gdStep (by decide) h18 HG.out (fun j u h => gdGood_stable hd.2 j u h) (⟨m, rfl, hm0, by have := hm1 (by omega); omega⟩) (hd.1.more (by rw [HC.out]; omega)) (HGr.out.trans hd.2)⟩
        · obtain ⟨B, e0, hB1, hB2, hB3⟩ := HG.out 7 (by simp [hpre])
          obtain ⟨m, e1, hm0, hm1⟩ := HG.out 9 (by simp [hpre])
          obtain ⟨k, rfl⟩ := Int.eq_ofNat_of_zero_le (show 0 ≤ m by omega)
          have hk : k < 6 := by omega
          have hk0 : (0 : Int) ≤ (k : Int) := by omega
          have hk1 : (k : Int) < 6 := by omega
          obtain ⟨x, hx, hxs⟩ := hB3 k hk
          have HB := Lib.hid (And.intro hx hxs)
          clear hB3 hm0 hx hxs
          go_simp
          exact HK.out _ _ ⟨upd U 10 (.pointer (some ⟨B, k, none⟩)), by simp [upd, e0, e1], gdStep (by decide) h18 HG.out (fun _ _ h => h) (⟨B, k, x, rfl, hB1, hB2, HB.out.1, HB.out.2⟩) (HRd.out.more (by rw [gdCnt_same (by decide) (by decide) (by decide) (by decide)]; omega)) (HGr.out)⟩
        · obtain ⟨B, j, x, e1, hB1, hB2, hx, m, rfl, hm0, hm1⟩ := HG.out 10 (by simp [hpre])
          go_simp
          exact HK.out _ _ ⟨upd U 11 (.int .i64 m), by simp [upd, e1], gdStep (by decide) h18 HG.out (fun _ _ h => h) (⟨m, rfl, hm0, hm1⟩) (HRd.out.more (by rw [gdCnt_same (by decide) (by decide) (by decide) (by decide)]; omega)) (HGr.out)⟩
        · obtain ⟨B, e0, hB1, hB2, hB3⟩ := HG.out 6 (by simp [hpre])
          obtain ⟨m, e1, hm0, hm1⟩ := HG.out 11 (by simp [hpre])
          obtain ⟨k, rfl⟩ := Int.eq_ofNat_of_zero_le (show 0 ≤ m by omega)
          have hk : k < 3 := by omega
          have hk0 : (0 : Int) ≤ (k : Int) := by omega
          have hk1 : (k : Int) < 3 := by omega
          obtain ⟨x, hx, hxs⟩ := hB3 k hk
          have HB := Lib.hid (And.intro hx hxs)
          clear hB3 hm0 hx hxs
          go_simp
          exact HK.out _ _ ⟨upd U 12 (.pointer (some ⟨B, k, none⟩)), by simp [upd, e0, e1], gdStep (by decide) h18 HG.out (fun _ _ h => h) (⟨B, k, x, rfl, hB1, hB2, HB.out.1, HB.out.2⟩) (HRd.out.more (by rw [gdCnt_same (by decide) (by decide) (by decide) (by decide)]; omega)) (HGr.out)⟩
        · obtain ⟨B, j, x, e1, hB1, hB2, hx, m, rfl, hm0, hm1⟩ := HG.out 12 (by simp [hpre])
          go_simp
          exact HK.out _ _ ⟨upd U 13 (.int .i64 m), by simp [upd, e1], gdStep (by decide) h18 HG.out (fun _ _ h => h) (⟨m, rfl, hm0, hm1⟩) (HRd.out.more (by rw [gdCnt_same (by decide) (by decide) (by decide) (by decide)]; omega)) (HGr.out)⟩
        · go_simp
          exact HK.out _ _ ⟨upd U 14 (.pointer (some ⟨g, 0, none⟩)), by simp [upd], gdStep (by decide) h18 HG.out (fun _ _ h => h) (rfl) (HRd.out.more (by rw [gdCnt_same (by decide) (by decide) (by decide) (by decide)]; omega)) (HGr.out)⟩
        · have e1 : U 14 = .pointer (some ⟨g, 0, none⟩) := HG.out 14 (by simp [hpre])
          have HC := Lib.hid (gdCnt_15 hLi)
          go_simp
          go_wp2_with (go_at_call 57; refine (l20Op_any _ g _ _ HRd.out (by omega) (by omega)).mono ?_; rintro e w' ⟨od, rfl, hd⟩)
          exact HK.out _ _ ⟨upd U 15 (opV od), by simp [upd, e1], gdStep (by decide) h18 HG.out (fun j u h => gdGood_stable hd.2 j u h) (⟨od, rfl⟩) (hd.1.more (by rw [HC.out]; omega)) (HGr.out.trans hd.2)⟩
        · have e1 : U 0 = (.slice Al 3 cl) := HG.out 0 (by simp [hpre])
          go_simp
          exact HK.out _ _ ⟨upd U 16 ((.slice Al 3 cl)), by simp [upd, e1], gdStep (by decide) h18 HG.out (fun _ _ h => h) (rfl) (HRd.out.more (by rw [gdCnt_same (by decide) (by decide) (by decide) (by decide)]; omega)) (HGr.out)⟩
        · obtain ⟨m, e1, hm0, hm1⟩ := HG.out 13 (by simp [hpre])
          go_simp
          exact HK.out _ _ ⟨upd U 17 (.int .i64 m), by simp [upd, e1], gdStep (by decide) h18 HG.out (fun _ _ h => h) (⟨m, rfl, hm0, hm1⟩) (HRd.out.more (by rw [gdCnt_same (by decide) (by decide) (by decide) (by decide)]; omega)) (HGr.out)⟩
      · obtain rfl : i = 18 := by omega
        obtain ⟨hG, hRd, hGr⟩ := h1 hLi
        simp at ho; subst ho; simp [Region.binds] at hpre
        have e16 : U 16 = .slice Al 3 cl := hG 16 (by simp [hpre])
        have e17 : intIn (-1) 30 (U 17) := hG 17 (by simp [hpre])
        obtain ⟨od, e15⟩ : ∃ o : Op, U 15 = opV o := hG 15 (by simp [hpre])
        have HHw := HYh.out.grown hGr (fun e => by have := Option.some.inj e; omega)
        obtain ⟨r0, r1, r2, r3, r4, r5, r6⟩ := HHw.seven
        have rf := HHw.2.1
        have HE := Lib.hid (And.intro e17 hGr)
        clear hG hRd hGr h1 hd18 e17 HHw
        go_simp
        exact HK.out _ _ ⟨U, by simp [e15, e16], fun h => absurd h (by simp [upd]), fun _ => ⟨e16, HE.out.1, od, W, HE.out.2, rfl⟩⟩
    case hend =>
      rintro L a W hL ⟨U, rfl, -, h⟩
      obtain ⟨e16, ⟨tx, e17, t0, t1⟩, od, W0, hg0, rfl⟩ := h (hL 18 (by decide))
      have HHw := Lib.hid (HYh.out.grown hg0 (fun e => by have := Option.some.inj e; omega))
      have HO0 := Lib.hid (HYo.out.keep (w' := W0) fun b hb hlt => hg0.block b hlt (fun e => by have h1 := hb.1; have h2 := Option.some.inj e; omega))
      have HB0 := Lib.hid ((HYb.out).grown hg0 (by omega) (fun k hk => by have := Option.some.inj hk; omega))
      have hz0 := hg0.size
      have HQ := HHw.out.put7 (.int .i64 od.kind) (.int .i64 od.who) (.int .i64 od.inn) (.int .i64 od.code) (.int .i64 od.sec) (.int .i64 od.fam) (.int .i64 od.gen)
      obtain ⟨q0, q1, q2, q3, q4, q5, q6⟩ := HQ.seven
      clear hg0 h HQ
      have HF := Lib.hid (show DrewGD w (.returned (.tuple #[.slice Al 3 cl, .int .i64 tx, opV od])) (put7 W0 w.heap.size (.int .i64 od.kind) (.int .i64 od.who) (.int .i64 od.inn) (.int .i64 od.code) (.int .i64 od.sec) (.int .i64 od.fam) (.int .i64 od.gen)) from
        ⟨_, ys, tx, od, rfl, hyl, HYi.out, t0, t1, lsto_row.1 (HO0.out.keep fun b hb _ => put7_far W0 w.heap.size _ _ _ _ _ _ _ (by have := hb.1; omega)).row, belowPut7 HB0.out w.heap.size (Nat.le_refl _) _ _ _ _ _ _ _⟩)
      simp only [e16, e17]
      go_wp2
      exact bodyPost_ret (v := .tuple #[.slice Al 3 cl, .int .i64 tx, opV od]) (by simp [results, Tryz.results29, go_sem, q0, q1, q2, q3, q4, q5, q6]) rfl HF.out

end Go.Proofs.YteccebjnopladaaGreat
