/- A place, what it keeps, a number, and what is done are drawn. By drawppgen.py. -/
import Derived.Test.YtecdibpiojgppaaGreatXDrawOp0
import Derived.Test.YtecdibpiojgppaaGreatXSpecPlaces
import Derived.Test.YtecdibpiojgppaaGreatXDrawOpen
import Derived.Deep.CutRange
import Derived.Deep.DeepCutAuto
namespace Go.Proofs.YtecdibpiojgppaaGreat
open Go.RowKit

/-- What stands while a place, and what it keeps, are drawn. -/
structure PPI (w : World) (g lo B8 B11 : Nat) (P : Int) (o : Op) (A : Option Addr) (n c : Nat) (its : List Item) (W : World) : Prop where
  r1 : Held W w.heap.size [.slice none 0 0]
  r2 : Held W (w.heap.size + 1) [.int .i64 0, .int .i64 0, .int .i64 0, .int .i64 0, .int .i64 0, .int .i64 0, .int .i64 0]
  op : Held W B8 [.int .i64 o.kind, .int .i64 o.who, .int .i64 o.inn, .int .i64 o.code, .int .i64 o.sec, .int .i64 o.fam, .int .i64 o.gen]
  bx : Held W B11 [.slice A n c]
  it : ItemsIn W (fun b => lo ≤ b ∧ b ≠ B11) (.slice A n c) its
  rd : Rds W g P
  bel : Below w.heap.size w W
section
variable {w W W' : World} {g lo B8 B11 : Nat} {P P' : Int} {o : Op} {A : Option Addr} {n c : Nat} {its : List Item}
theorem PPI.drew (h : PPI w g lo B8 B11 P o A n c its W) (hd : Drew g P' W W') (hg : w.heap.size + 1 < g) (h8 : g < lo) (hb8 : g ≠ B8) (hb11 : g ≠ B11) : PPI w g lo B8 B11 P' o A n c its W' :=
  ⟨h.r1.drew hd (by omega), h.r2.drew hd (by omega), h.op.drew hd (by omega), h.bx.drew hd (by omega), h.it.keep (w' := W') (fun b hb hS => hd.2.block b hb (fun e => by have := Option.some.inj e; omega)) hd.2.size (fun _ _ h => h), hd.1, h.bel.trans (hd.below (by omega) h.bel.size)⟩
end
/-- Rows, and places in them, in blocks from lo on. -/
def rowGe (w : World) (lo n : Nat) (a b : Int) (u : Value) : Prop := ∃ B, u = .slice (some ⟨B, 0, none⟩) n n ∧ lo ≤ B ∧ B < w.heap.size ∧ ∀ j, j < n → ∃ x, w.cell? ⟨B, j, none⟩ = some x ∧ intIn a b x
def atGe (w : World) (lo : Nat) (a b : Int) (u : Value) : Prop := ∃ B j x, u = .pointer (some ⟨B, j, none⟩) ∧ lo ≤ B ∧ B < w.heap.size ∧ w.cell? ⟨B, j, none⟩ = some x ∧ intIn a b x
theorem rowGe_stable {w w' : World} {lo n : Nat} {a b : Int} {u : Value} (h : Outs (fun b => b < lo) w w') : rowGe w lo n a b u → rowGe w' lo n a b u := by
  rintro ⟨B, h1, h2, h3, h4⟩
  exact ⟨B, h1, h2, Nat.lt_of_lt_of_le h3 h.size, fun j hj => by rw [World.cell?_of_block (h.block B h3 (by show ¬ B < lo; omega))]; exact h4 j hj⟩
theorem atGe_stable {w w' : World} {lo : Nat} {a b : Int} {u : Value} (h : Outs (fun b => b < lo) w w') : atGe w lo a b u → atGe w' lo a b u := by
  rintro ⟨B, j, x, h1, h2, h3, h4, h5⟩
  exact ⟨B, j, x, h1, h2, Nat.lt_of_lt_of_le h3 h.size, by rw [World.cell?_of_block (h.block B h3 (by show ¬ B < lo; omega))]; exact h4, h5⟩
theorem rowGe_lit {w : World} {lo : Nat} {a b : Int} (l : List Int) (hg : lo ≤ w.heap.size) (hl : ∀ x ∈ l, a ≤ x ∧ x < b) : rowGe (w.alloc (.cells (l.map (Value.int .i64)).toArray 3)) lo l.length a b (.slice (some ⟨w.heap.size, 0, none⟩) l.length l.length) := by
  refine ⟨w.heap.size, rfl, hg, by simp, fun j hj => ⟨.int .i64 l[j], ?_, l[j], rfl, hl _ (List.getElem_mem hj)⟩⟩
  exact (Held.new w (l.map (Value.int .i64)).toArray 3).of j _ (by simp [hj])
def ppGood (g lo : Nat) (p : Int) (s : Value) (o : Op) (i : Nat) (w : World) (u : Value) : Prop :=
  match i with
  | 0 => u = .int .i64 p
  | 1 => u = .agg #[s]
  | 2 => u = .pointer (some ⟨g, 0, none⟩)
  | 3 => intIn 0 14 u
  | 4 => intIn 15 29 u
  | 5 => u = .pointer (some ⟨g, 0, none⟩)
  | 6 => intIn 0 10 u
  | 7 => rowGe w lo 4 (-1) 31 u
  | 8 => rowGe w lo 7 0 4 u
  | 9 => u = .pointer (some ⟨g, 0, none⟩)
  | 10 => intIn 0 7 u
  | 11 => atGe w lo 0 4 u
  | 12 => intIn 0 4 u
  | 13 => atGe w lo (-1) 31 u
  | 14 => intIn (-1) 31 u
  | 15 => u = opV o
  | 16 => u = .int .i64 p
  | 18 => intIn (-1) 31 u
  | _ => True
theorem ppGood_stable {g lo : Nat} {p : Int} {s : Value} {o : Op} {w w' : World} (h : Outs (fun b => b < lo) w w') (i : Nat) (u : Value) (hg : ppGood g lo p s o i w u) : ppGood g lo p s o i w' u := by
  match i, hg with
  | 0, hg => exact hg
  | 1, hg => exact hg
  | 2, hg => exact hg
  | 3, hg => exact hg
  | 4, hg => exact hg
  | 5, hg => exact hg
  | 6, hg => exact hg
  | 7, hg => exact rowGe_stable h hg
  | 8, hg => exact rowGe_stable h hg
  | 9, hg => exact hg
  | 10, hg => exact hg
  | 11, hg => exact atGe_stable h hg
  | 12, hg => exact hg
  | 13, hg => exact atGe_stable h hg
  | 14, hg => exact hg
  | 15, hg => exact hg
  | 16, hg => exact hg
  | 17, hg => exact trivial
  | 18, hg => exact hg
  | k + 19, _ => exact trivial
def ppCnt (L : Nat → Bool) : Int := (if L 3 then 1 else 0) + (if L 6 then 1 else 0) + (if L 10 then 1 else 0)
theorem ppCnt_same {L : Nat → Bool} {i : Nat} (h3 : i ≠ 3) (h6 : i ≠ 6) (h10 : i ≠ 10) : ppCnt (upd L i true) = ppCnt L := by
  unfold ppCnt
  rw [upd_other _ _ (Ne.symm h3), upd_other _ _ (Ne.symm h6), upd_other _ _ (Ne.symm h10)]
theorem ppCnt_3 {L : Nat → Bool} (hL : L 3 = false) : ppCnt (upd L 3 true) = ppCnt L + 1 := by
  unfold ppCnt
  simp [upd, hL] <;> omega
theorem ppCnt_6 {L : Nat → Bool} (hL : L 6 = false) : ppCnt (upd L 6 true) = ppCnt L + 1 := by
  unfold ppCnt
  simp [upd, hL] <;> omega
theorem ppCnt_10 {L : Nat → Bool} (hL : L 10 = false) : ppCnt (upd L 10 true) = ppCnt L + 1 := by
  unfold ppCnt
  simp [upd, hL] <;> omega
theorem ppCnt_bound (L : Nat → Bool) : 0 ≤ ppCnt L ∧ ppCnt L ≤ 3 := by
  unfold ppCnt; repeat' split
  all_goals omega
def ppCell (b : Bool) (s : Value) : Value := if b = true then s else .slice none 0 0
/-- What holds while all is drawn: operation 17 lays what is kept into block R1, operation 19 what is done into block R2. -/
def ppInv (wc : World) (g lo R1 R2 : Nat) (p : Int) (s : Value) (o : Op) (P : Int) (L : Nat → Bool) (U : Nat → Value) (W : World) : Prop :=
  (L 19 = false → (∀ j, L j = true → ppGood g lo p s o j W (U j)) ∧ (L 17 = false → Rds W g (P + ppCnt L)) ∧ Outs (fun b => b = g ∨ b = R1) wc W ∧ Held W R1 [ppCell (L 17) s]) ∧
    (L 19 = true → U 16 = .int .i64 p ∧ intIn (-1) 31 (U 18) ∧ ∃ W0, Outs (fun b => b = g ∨ b = R1) wc W0 ∧ Held W0 R1 [s] ∧ W = put7 W0 R2 (.int .i64 o.kind) (.int .i64 o.who) (.int .i64 o.inn) (.int .i64 o.code) (.int .i64 o.sec) (.int .i64 o.fam) (.int .i64 o.gen))
theorem ppStep {wc : World} {g lo R1 R2 : Nat} {p : Int} {s : Value} {o : Op} {P : Int} {L : Nat → Bool} {U : Nat → Value} {W W' : World} {i : Nat} {u : Value} (h17 : i ≠ 17) (h19 : i ≠ 19) (hL19 : L 19 = false) (hG : ∀ j, L j = true → ppGood g lo p s o j W (U j)) (hst : Outs (fun b => b < lo) W W') (hu : ppGood g lo p s o i W' u)
    (hR : L 17 = false → Rds W' g (P + ppCnt (upd L i true))) (hO : Outs (fun b => b = g ∨ b = R1) wc W') (hH : Held W' R1 [ppCell (L 17) s]) : ppInv wc g lo R1 R2 p s o P (upd L i true) (upd U i u) W' := by
  have e19 : upd L i true 19 = false := by rw [upd_other _ _ (Ne.symm h19)]; exact hL19
  have e17 : upd L i true 17 = L 17 := by rw [upd_other _ _ (Ne.symm h17)]
  refine ⟨fun _ => ⟨RInv.next (Good := fun j W u => ppGood g lo p s o j W u) hG (fun j x h => ppGood_stable hst j x h) hu, fun h => hR (by rw [e17] at h; exact h), hO, by rw [e17]; exact hH⟩, fun h => ?_⟩
  rw [e19] at h; cases h
theorem ppLay {wc : World} {g lo R1 R2 : Nat} {p : Int} {s : Value} {o : Op} {P : Int} {L : Nat → Bool} {U : Nat → Value} {W : World} (hL19 : L 19 = false) (hlo : R1 < lo) (hG : ∀ j, L j = true → ppGood g lo p s o j W (U j)) (hO : Outs (fun b => b = g ∨ b = R1) wc W) (hH : Held W R1 [.slice none 0 0]) : ppInv wc g lo R1 R2 p s o P (upd L 17 true) U (W.setCell ⟨R1, 0, none⟩ s) := by
  have e19 : upd L 17 true 19 = false := by rw [upd_other _ _ (by decide)]; exact hL19
  refine ⟨fun _ => ⟨fun j hj => ?_, fun h => ?_, hO.trans (Outs.of_set W _ _ (.inr rfl)), ?_⟩, fun h => ?_⟩
  · by_cases e : j = 17
    · subst e; exact trivial
    · rw [upd_other _ _ e] at hj
      exact ppGood_stable (Outs.of_set W ⟨R1, 0, none⟩ s (S := fun b => b < lo) hlo) j _ (hG j hj)
  · rw [upd_same] at h; cases h
  · rw [upd_same]
    exact hH.set_ (i := 0) s
  · rw [e19] at h; cases h

/-- What is drawn. -/
def DrewPP (w : World) (e : Ending) (w' : World) : Prop :=
  ∃ (p : Int) (u : Value) (its : List Item) (tx : Int) (o : Op), e = .returned (.tuple #[.int .i64 p, .agg #[u], .int .i64 tx, opV o]) ∧ 0 ≤ p ∧ p < 5 ∧ (its.length ≤ 13 ∨ its.length = 41) ∧ -1 ≤ tx ∧ tx < 31 ∧ Items w' w'.heap.size u its ∧ Below w.heap.size w w'

set_option maxRecDepth 100000 in
set_option maxHeartbeats 8000000 in
theorem drawPlcPlan_any (w : World) (v : Value) (n : Nat) (hv : Code8 w v n) : Calls Tryz.prog 12 #[v] w (DrewPP w) := by
  have hzA : ((w.alloc (.cells #[.slice none 0 0] 35)).alloc (.cells #[.int .i64 0, .int .i64 0, .int .i64 0, .int .i64 0, .int .i64 0, .int .i64 0, .int .i64 0] 25)).heap.size = w.heap.size + 2 := by simp
  have HV := Lib.hid (hv.below (belowTwo w (.cells #[.slice none 0 0] 35) (.cells #[.int .i64 0, .int .i64 0, .int .i64 0, .int .i64 0, .int .i64 0, .int .i64 0, .int .i64 0] 25)))
  have H1 := Lib.hid ((Held.new w #[.slice none 0 0] 35).after (.cells #[.int .i64 0, .int .i64 0, .int .i64 0, .int .i64 0, .int .i64 0, .int .i64 0, .int .i64 0] 25))
  have H2 := Lib.hid (show Held ((w.alloc (.cells #[.slice none 0 0] 35)).alloc (.cells #[.int .i64 0, .int .i64 0, .int .i64 0, .int .i64 0, .int .i64 0, .int .i64 0, .int .i64 0] 25)) (w.heap.size + 1) [.int .i64 0, .int .i64 0, .int .i64 0, .int .i64 0, .int .i64 0, .int .i64 0, .int .i64 0] from by have h := Held.new (w.alloc (.cells #[.slice none 0 0] 35)) #[.int .i64 0, .int .i64 0, .int .i64 0, .int .i64 0, .int .i64 0, .int .i64 0, .int .i64 0] 25; rwa [allocSize] at h)
  have HB0 := Lib.hid (belowTwo w (.cells #[.slice none 0 0] 35) (.cells #[.int .i64 0, .int .i64 0, .int .i64 0, .int .i64 0, .int .i64 0, .int .i64 0, .int .i64 0] 25))
  obtain ⟨Ac, cc, f, rfl, h1, h2, -, -⟩ := hv
  go_enter Tryz.func12, Tryz.ntmps12
  go_wp2_with fail
  refine (l20Open_any _ _ _ HV.out).mono ?_
  rintro e w1 ⟨rfl, hr, hb1⟩
  rw [hzA] at hr ⊢
  obtain ⟨g, hg⟩ : ∃ g, w.heap.size + 2 = g := ⟨_, rfl⟩
  rw [hg] at hr ⊢
  have H11 := Lib.hid (H1.out.below hb1 H1.out.1)
  have H21 := Lib.hid (H2.out.below hb1 H2.out.1)
  have HB1 := Lib.hid (belowNext HB0.out hb1)
  have HR := Lib.hid (show Rds w1 g 0 from ⟨0, by omega, by omega, hr⟩)
  have hz1 : g < w1.heap.size := HR.out.lt
  clear hr hb1 H1 H2 HV HB0 hzA
  go_wp2_with fail
  refine (l20Glo_any _ g _ HR.out (by omega) (by omega)).mono ?_
  rintro e w2 ⟨ul, xs, rfl, hN, hL, hd⟩
  have hxl : xs.length = 3 := gloB_three hN.1
  have HL2 := Lib.hid hL
  have HN := Lib.hid hN
  have H12 := Lib.hid (H11.out.drew hd (by omega))
  have H22 := Lib.hid (H21.out.drew hd (by omega))
  have HB2 := Lib.hid (HB1.out.trans (hd.below (by omega) HB1.out.size))
  have HR2 := Lib.hid hd.1
  have hz2 : w1.heap.size ≤ w2.heap.size := hd.2.size
  obtain ⟨Al, cl, hf, -, -⟩ := hL.row.form
  rw [hxl] at hf
  subst hf
  clear hN hL hd H11 H21 HB1 HR
  go_wp2_with fail
  refine (l20Op_any _ g _ _ HR2.out (by omega) (by omega)).mono ?_
  rintro e w3 ⟨o, rfl, hd⟩
  have HL3 := Lib.hid ((ownDrew HL2.out hd (fun h => by have := h.1; omega)).below (belowOne w3 (.cells #[.int .i64 o.kind, .int .i64 o.who, .int .i64 o.inn, .int .i64 o.code, .int .i64 o.sec, .int .i64 o.fam, .int .i64 o.gen] 25)))
  have H13 := Lib.hid ((H12.out.drew hd (by omega)).after (.cells #[.int .i64 o.kind, .int .i64 o.who, .int .i64 o.inn, .int .i64 o.code, .int .i64 o.sec, .int .i64 o.fam, .int .i64 o.gen] 25))
  have H23 := Lib.hid ((H22.out.drew hd (by omega)).after (.cells #[.int .i64 o.kind, .int .i64 o.who, .int .i64 o.inn, .int .i64 o.code, .int .i64 o.sec, .int .i64 o.fam, .int .i64 o.gen] 25))
  have HO3 := Lib.hid (Held.new w3 #[.int .i64 o.kind, .int .i64 o.who, .int .i64 o.inn, .int .i64 o.code, .int .i64 o.sec, .int .i64 o.fam, .int .i64 o.gen] 25)
  have HB3 := Lib.hid ((HB2.out.trans (hd.below (by omega) HB2.out.size)).alloc (Nat.le_trans HB2.out.size hd.2.size) (.cells #[.int .i64 o.kind, .int .i64 o.who, .int .i64 o.inn, .int .i64 o.code, .int .i64 o.sec, .int .i64 o.fam, .int .i64 o.gen] 25))
  have HR3 := Lib.hid (hd.1.alloc (.cells #[.int .i64 o.kind, .int .i64 o.who, .int .i64 o.inn, .int .i64 o.code, .int .i64 o.sec, .int .i64 o.fam, .int .i64 o.gen] 25))
  have hz3 : w2.heap.size ≤ w3.heap.size := hd.2.size
  clear hd HL2 H12 H22 HB2 HR2
  unfold opV
  obtain ⟨q0, q1, q2, q3, q4, q5, q6⟩ := HO3.out.seven
  go_wp2_with fail
  clear q0 q1 q2 q3 q4 q5 q6
  refine (specOpPlaces_own _ o).mono ?_
  rintro e w4 ⟨u4, rfl, ho4, hb⟩
  rw [allocSize] at ho4
  have hz4 : w3.heap.size + 1 ≤ w4.heap.size := by have := hb.size; rw [allocSize] at this; exact this
  have HL4 := Lib.hid ((HL3.out.below hb).below (belowOne w4 (.cells #[.int .i64 1] 3)))
  have H14 := Lib.hid ((H13.out.below hb H13.out.1).after (.cells #[.int .i64 1] 3))
  have H24 := Lib.hid ((H23.out.below hb H23.out.1).after (.cells #[.int .i64 1] 3))
  have HO4 := Lib.hid ((HO3.out.below hb HO3.out.1).after (.cells #[.int .i64 1] 3))
  have HB4 := Lib.hid ((belowNext HB3.out hb).alloc (belowNext HB3.out hb).size (.cells #[.int .i64 1] 3))
  have HR4 := Lib.hid ((HR3.out.below hb (by rw [allocSize]; omega)).alloc (.cells #[.int .i64 1] 3))
  have HP4 := Lib.hid (ho4.alloc (.cells #[.int .i64 1] 3))
  have HI4 := Lib.hid (Ints.one w4 1)
  have hpl := places_len o
  obtain ⟨Lp, hLd⟩ : ∃ Lp, placesP o ++ [1] = Lp := ⟨_, rfl⟩
  have hLl : 0 < Lp.length ∧ Lp.length ≤ 4 := by rw [← hLd]; simp; omega
  have hLa : ∀ x ∈ Lp, 1 ≤ x ∧ x ≤ 3 := by
    rw [← hLd]; intro x hx
    rcases List.mem_append.1 hx with h | h
    · exact places_in x h
    · have : x = 1 := by simpa using h
      omega
  clear hb ho4 HL3 H13 H23 HO3 HB3 HR3
  go_wp2_with (at_builtin; refine wpl_append_ints rfl _ _ rfl (w3.heap.size + 1) _ (placesP o) rfl HP4.out _ _ _ [1] rfl HI4.out (by simp; omega) (by rw [allocSize]; omega) ?_; intro u5 w5 hown5 hg5; rw [hLd] at hown5; obtain ⟨A5, c5, hf5, hc5, -⟩ := hown5.ints.form; subst hf5; have HP5 := Lib.hid hown5; have HG5 := Lib.hid hg5; clear hown5 hg5)
  have hrow4 : ∀ k, u4.ownBlock = some k → w3.heap.size + 1 ≤ k := fun k hk => (World.ownsRow.lt HP4.out k hk).1
  have HL5 := Lib.hid (HL4.out.keep (w' := w5) fun b hb hlt => HG5.out.block b hlt (fun e => by have := hrow4 b e.symm; have := hb.2; omega))
  have H15 := Lib.hid (H14.out.grown HG5.out (fun e => by have := hrow4 _ e; omega))
  have H25 := Lib.hid (H24.out.grown HG5.out (fun e => by have := hrow4 _ e; omega))
  have HO5 := Lib.hid (HO4.out.grown HG5.out (fun e => by have := hrow4 _ e; omega))
  have HB5 := Lib.hid (HB4.out.grown HG5.out (by rw [allocSize]; omega) (fun k hk => by have := hrow4 k hk; omega))
  have HR5 := Lib.hid (HR4.out.grown HG5.out (fun k hk => by have := hrow4 k hk; omega))
  have hz5 : w4.heap.size + 1 ≤ w5.heap.size := by have := HG5.out.size; rw [allocSize] at this; exact this
  unfold maxLen at hc5
  clear HL4 H14 H24 HO4 HB4 HR4 HP4 HI4 HG5 hrow4
  go_wp2_with fail
  refine (pick_rds _ g _ _ HR5.out (by omega) (by omega)).mono ?_
  rintro e w6 ⟨i, rfl, i0, i1, hd⟩
  have i2 : i < (Lp.length : Int) := i1 (by omega)
  obtain ⟨i, rfl⟩ := Int.eq_ofNat_of_zero_le i0
  have hil : i < Lp.length := by omega
  have HP6 := Lib.hid (HP5.out.drew hd (by omega))
  have HL6 := Lib.hid (ownDrew HL5.out hd (fun h => by have := h.1; omega))
  have H16 := Lib.hid (H15.out.drew hd (by omega))
  have H26 := Lib.hid (H25.out.drew hd (by omega))
  have HO6 := Lib.hid (HO5.out.drew hd (by omega))
  have HB6 := Lib.hid (HB5.out.trans (hd.below (by omega) HB5.out.size))
  have HR6 := Lib.hid hd.1
  have hz6 : w5.heap.size ≤ w6.heap.size := hd.2.size
  obtain ⟨Aq, cq, e5, -, -, hrw5⟩ := HP6.out.ints
  injection e5 with e5a e5b e5c
  subst e5a
  obtain ⟨b5, o5, hA5, hb5, hcl⟩ := hrw5 (by omega)
  subst hA5
  have hpm : 1 ≤ nth Lp i ∧ nth Lp i ≤ 3 := by rw [nth_get hil]; exact hLa _ (List.getElem_mem hil)
  obtain ⟨k, hk⟩ : ∃ k : Nat, nth Lp i = (k : Int) + 1 := ⟨(nth Lp i - 1).toNat, by omega⟩
  have hk3 : k < 3 := by omega
  have hc6 : w6.cell? ⟨b5, o5 + i, none⟩ = some (.int .i64 ((k : Int) + 1)) := by rw [← hk]; exact hcl i hil
  have hkx : k < xs.length := by omega
  obtain ⟨gl, cap, z, cz, Sj, e2, hz, hSg, hgw, hoz, hSj, hcz, -, -, -⟩ := HL6.out.at_ (j := k) hkx
  obtain ⟨uz, rfl, huz⟩ := lsto_own.1 hoz
  have hzl : z.items.length ≤ 13 := HN.out.2 z (List.mem_of_getElem? hz)
  have g0 : w6.cell? ⟨gl, k, none⟩ = some uz := by
    have h := hcz 0 _ rfl
    rwa [show k * lstoSh.wd + 0 = k from Nat.mul_one _] at h
  rw [hxl] at e2
  injection e2 with e2a e2b e2c
  subst e2a e2c
  have f1 : (i : Int) < (Lp.length : Int) := i2
  have f2 : (0 : Int) ≤ (i : Int) := by omega
  have f3 : (k : Int) < 3 := by omega
  have f4 : (0 : Int) ≤ (k : Int) := by omega
  have hsub : (k : Int) + 1 - 1 = (k : Int) := by omega
  have hwk : IntKind.i64.wrap (k : Int) = (k : Int) := IntWalk.i64_in _ (by omega)
  obtain ⟨Az, nz, cz2, hsf⟩ : ∃ A n c, uz = .slice A n c := by obtain ⟨A, c, e, -, -⟩ := huz.items.form; exact ⟨A, _, c, e⟩
  subst hsf
  have hbx := belowOne w6 (.cells #[.slice Az nz cz2] 35)
  have HPP := Lib.hid (show PPI w g w1.heap.size w3.heap.size w6.heap.size _ o Az nz cz2 z.items (w6.alloc (.cells #[.slice Az nz cz2] 35)) from
    ⟨H16.out.after _, H26.out.after _, HO6.out.after _, Held.new w6 #[.slice Az nz cz2] 35, huz.keep (fun b hlt _ => hbx.block b hlt) hbx.size (fun b hlt hS => by have h1 := (hSj b hS).1; exact ⟨h1.1, by omega⟩), HR6.out.alloc _, HB6.out.alloc HB6.out.size _⟩)
  have HZl := Lib.hid (show z.items.length ≤ 13 ∨ z.items.length = 41 from .inl hzl)
  have hz8 : g < w3.heap.size := by omega
  have hz11 : w3.heap.size < w6.heap.size := by omega
  have hzA : (w6.alloc (.cells #[.slice Az nz cz2] 35)).heap.size = w6.heap.size + 1 := by simp
  have HzA := Lib.hid hzA
  clear hrw5 hcl hk hpm hz hSg hoz hSj hcz huz hbx hzA hd HL6 H16 H26 HO6 HB6 HR6 HP6 HP5 HL5 H15 H25 HO5 HB5 HR5 HN hzl e5b e5c i1 i0 hLa e2b
  go_wp2_with fail
  refine (odd_any _ g _ _ HPP.out.rd (by omega) (by omega)).mono ?_
  rintro e w7 ⟨bb, rfl, -, hd⟩
  have HQ := Lib.hid (HPP.out.drew hd (by omega) (by omega) (by omega) (by omega))
  have hz7 : w6.heap.size + 1 ≤ w7.heap.size := by have := hd.2.size; have := HzA.out; omega
  clear hd HPP hc6 g0 hgw hb5
  go_upto_if 35 with fail
  go_cut [10] from 36 to 37 (fun u wc => ∃ p P : Int, u = .int .i64 p ∧ 0 ≤ p ∧ p < 5 ∧ P ≤ 1000 ∧ 0 ≤ P ∧ PPI w g w1.heap.size w3.heap.size w6.heap.size P o Az nz cz2 z.items wc ∧ w6.heap.size + 1 ≤ wc.heap.size)
  case first =>
    cases bb
    · go_wp2
      go_meet
      case rel => exact ⟨(k : Int) + 1, _, rfl, by omega, by omega, by omega, by omega, HQ.out, hz7⟩
    · go_wp2_with fail
      refine (pick_rds _ g _ _ HQ.out.rd (by omega) (by omega)).mono ?_
      rintro e w8 ⟨p, rfl, p0, p1, hd⟩
      have p5 : p < 5 := p1 (by omega)
      have HQ8 := Lib.hid (HQ.out.drew hd (by omega) (by omega) (by omega) (by omega))
      have hz8 : w6.heap.size + 1 ≤ w8.heap.size := by have := hd.2.size; omega
      clear hd p1 HQ
      go_wp2
      go_meet
      case rel => exact ⟨p, _, rfl, p0, p5, by omega, by omega, HQ8.out, hz8⟩
  case rest =>
    obtain ⟨p, P, rfl, p0, p5, P9, P0, hq, hzc⟩ := hcut
    have HQc := Lib.hid hq
    clear hq HQ
    go_wp2_with fail
    refine (odd_any _ g _ _ HQc.out.rd (by omega) (by omega)).mono ?_
    rintro e w9 ⟨b2, rfl, -, hd⟩
    have HQ9 := Lib.hid (HQc.out.drew hd (by omega) (by omega) (by omega) (by omega))
    have hz9 : w6.heap.size + 1 ≤ w9.heap.size := by have := hd.2.size; omega
    clear hd HQc
    go_upto_if 39 with fail
    go_cut [] from 40 to 41 (fun wd => ∃ (A : Option Addr) (m c : Nat) (its : List Item) (P : Int), P ≤ 3000 ∧ 0 ≤ P ∧ (its.length ≤ 13 ∨ its.length = 41) ∧ PPI w g w1.heap.size w3.heap.size w6.heap.size P o A m c its wd ∧ w6.heap.size + 1 ≤ wd.heap.size)
    case first =>
      cases b2
      · go_wp2
        go_meet
        case rel => exact ⟨Az, nz, cz2, z.items, _, by omega, by omega, HZl.out, HQ9.out, hz9⟩
      · go_wp2_with fail
        refine (l20Sto_two _ g _ _ HQ9.out.rd (by omega) (by omega) (by omega)).mono ?_
        rintro e wx ⟨us, its, rfl, hil2, -, ho, hd⟩
        obtain ⟨As, ns, cs, hsf⟩ := ownSlice ho
        subst hsf
        have HQx := Lib.hid (HQ9.out.drew hd (by omega) (by omega) (by omega) (by omega))
        have hzx : w6.heap.size + 1 ≤ wx.heap.size := by have := hd.2.size; omega
        have HOx := Lib.hid ((ho.toIn (S' := fun b => w9.heap.size ≤ b) (fun _ h => h) (fun _ h => h)))
        have r0 := HQx.out.bx.of 0 _ rfl
        have rf := HQx.out.bx.2.1 0
        have HQy := Lib.hid (show PPI w g w1.heap.size w3.heap.size w6.heap.size _ o As ns cs its (wx.setCell ⟨w6.heap.size, 0, none⟩ (.slice As ns cs)) from
          ⟨HQx.out.r1.far (p := ⟨w6.heap.size, 0, none⟩) (by show w.heap.size ≠ w6.heap.size; omega) _, HQx.out.r2.far (p := ⟨w6.heap.size, 0, none⟩) (by show w.heap.size + 1 ≠ w6.heap.size; omega) _, HQx.out.op.far (p := ⟨w6.heap.size, 0, none⟩) (by show w3.heap.size ≠ w6.heap.size; omega) _, HQx.out.bx.set_ (i := 0) (.slice As ns cs),
            HOx.out.keep (w' := wx.setCell ⟨w6.heap.size, 0, none⟩ (.slice As ns cs)) (fun b hlt hS => Below.heap_setCell _ _ _ _ (by show b ≠ w6.heap.size; omega)) (by simp [World.setCell]) (fun b hlt hS => by omega),
            HQx.out.rd.below ((Below.refl w6.heap.size wx).setCell (p := ⟨w6.heap.size, 0, none⟩) (Nat.le_refl _) _) (by omega), HQx.out.bel.setCell (p := ⟨w6.heap.size, 0, none⟩) (by show w.heap.size ≤ w6.heap.size; omega) _⟩)
        have hzy : (wx.setCell ⟨w6.heap.size, 0, none⟩ (.slice As ns cs)).heap.size = wx.heap.size := by simp [World.setCell]
        clear ho hd HQ9 HOx
        go_wp2
        go_meet
        case rel => exact ⟨As, ns, cs, its, _, by omega, by omega, hil2, HQy.out, by rw [hzy]; exact hzx⟩
    case rest =>
      obtain ⟨As, ns, cs, its, P2, P9', P0', hil2, hq, hzd⟩ := hcut
      have HQd := Lib.hid hq
      have HIl := Lib.hid hil2
      clear hq hil2 HQ9 HZl
      go_wp2
      have hzr : g < wc.heap.size := by omega
      have hB11 : w6.heap.size < wc.heap.size := by omega
      have H0 := Lib.hid (show Held wc.drew w.heap.size [ppCell false (.slice As ns cs)] from HQd.out.r1)
      have HRd0 := Lib.hid (show Rds wc.drew g P2 from HQd.out.rd)
      refine wp_region_inv4 (by kernel_rfl) (fun L a W => ∃ U : Nat → Value, a = { tmps := #[.slice Ac n cc, undef, U 16, .pointer (some ⟨w.heap.size, 0, none⟩), U 18, .pointer (some ⟨w.heap.size + 1, 0, none⟩), .pointer (some ⟨g, 0, none⟩), .slice (some ⟨gl, 0, none⟩) 3 cl, .pointer (some ⟨w3.heap.size, 0, none⟩), .slice (some ⟨b5, o5, none⟩) Lp.length c5, .int .i64 p, .pointer (some ⟨w6.heap.size, 0, none⟩), .slice Ac n cc, .pointer (some ⟨g, 0, none⟩), .pointer (some ⟨g, 0, none⟩), .slice (some ⟨gl, 0, none⟩) 3 cl, .pointer (some ⟨g, 0, none⟩), .agg #[.int .i64 o.kind, .int .i64 o.who, .int .i64 o.inn, .int .i64 o.code, .int .i64 o.sec, .int .i64 o.fam, .int .i64 o.gen], .agg #[.int .i64 o.kind, .int .i64 o.who, .int .i64 o.inn, .int .i64 o.code, .int .i64 o.sec, .int .i64 o.fam, .int .i64 o.gen], u4, .slice (some ⟨w4.heap.size, 0, none⟩) 1 1, .slice (some ⟨b5, o5, none⟩) Lp.length c5, .slice (some ⟨b5, o5, none⟩) Lp.length c5, .pointer (some ⟨g, 0, none⟩), .slice (some ⟨b5, o5, none⟩) Lp.length c5, .int .i64 Lp.length, .int .i64 i, .pointer (some ⟨b5, o5 + i, none⟩), .int .i64 ((k : Int) + 1), .slice (some ⟨gl, 0, none⟩) 3 cl, .int .i64 ((k : Int) + 1), .int .i64 k, .pointer (some ⟨gl, k, none⟩), .agg #[.slice Az nz cz2], .pointer (some ⟨g, 0, none⟩), .bool bb, u36, u37, .pointer (some ⟨g, 0, none⟩), .bool b2, u40, u41, U 0, U 1, U 2, U 3, U 4, U 5, U 6, U 7, U 8, U 9, U 10, U 11, U 12, U 13, U 14, U 15], defers := [] } ∧ ppInv wc g wc.heap.size w.heap.size (w.heap.size + 1) p (.slice As ns cs) o P2 L U W) (by kernel_rfl) ?h0 ?hstep ?hend
      case h0 =>
        exact ⟨fun j => #[undef, undef, undef, undef, undef, undef, undef, undef, undef, undef, undef, undef, undef, undef, undef, undef, .int .i64 0, undef, .int .i64 0].getD j undef, rfl, fun _ => ⟨fun j h => absurd h (by simp), fun _ => HRd0.out.more (by have := ppCnt_bound (fun _ => false); omega), (Outs.refl _ wc).drew, H0.out⟩, fun h => absurd h (by simp)⟩
      case hstep =>
        rintro L a W i ow ho hLi hpre hdn ⟨U, rfl, h1, -⟩ K hK
        have hi : i < 20 := (Array.getElem?_eq_some_iff.1 ho).1
        have hd19 : ∀ j, j < 19 → L j = false → L 19 = false := fun j hj hL => hdn.notYet 12 19 19 (by kernel_rfl) hj hL
        have hd3 : L 3 = false → L 17 = false := hdn.not 12 17 3 (by kernel_rfl)
        have hd6 : L 6 = false → L 17 = false := hdn.not 12 17 6 (by kernel_rfl)
        have hd10 : L 10 = false → L 17 = false := hdn.not 12 17 10 (by kernel_rfl)
        clear hdn
        have HK := Lib.hid hK
        clear hK
        have hcb := ppCnt_bound L
        by_cases hi19 : i = 19
        · subst hi19
          obtain ⟨hG, -, hO, hH⟩ := h1 hLi
          simp at ho; subst ho; simp [Region.binds] at hpre
          have e15 : U 15 = opV o := hG 15 (by simp [hpre])
          have e16 : U 16 = .int .i64 p := hG 16 (by simp [hpre])
          have e18 : intIn (-1) 31 (U 18) := hG 18 (by simp [hpre])
          have l17 : L 17 = true := by simp [hpre]
          rw [l17] at hH
          have HHw := (HQd.out.r2.outs hO (by omega))
          obtain ⟨r0, r1, r2, r3, r4, r5, r6⟩ := HHw.seven
          have rf := HHw.2.1
          have HE := Lib.hid (And.intro e18 (And.intro hO (show Held W w.heap.size [.slice As ns cs] from hH)))
          clear hG h1 hd19 e18 HHw hO hH l17
          go_simp
          exact HK.out _ _ ⟨U, by simp [e15, e16], fun h => absurd h (by simp [upd]), fun _ => ⟨e16, HE.out.1, W, HE.out.2.1, HE.out.2.2, rfl⟩⟩
        have h19 := hd19 i (by omega) hLi
        obtain ⟨hG, hR, hO, hH⟩ := h1 h19
        have HG := Lib.hid hG
        have HRr := Lib.hid hR
        have HOo := Lib.hid hO
        have HHh := Lib.hid hH
        have hWz : wc.heap.size ≤ W.heap.size := hO.size
        clear hG hR hO hH h1 hd19
        by_cases hi17 : i = 17
        · subst hi17
          simp at ho; subst ho; simp [Region.binds] at hpre
          have e1 : U 1 = .agg #[.slice As ns cs] := HG.out 1 (by simp [hpre])
          have hH := HHh.out
          rw [hLi] at hH
          have HHl := Lib.hid (show Held W w.heap.size [.slice none 0 0] from hH)
          have r0 := HHl.out.of 0 _ rfl
          have rf := HHl.out.2.1 0
          clear hH
          go_simp
          exact HK.out _ _ ⟨U, by simp [e1], ppLay h19 (by omega) HG.out HOo.out HHl.out⟩
        rcases (by omega : i = 0 ∨ i = 1 ∨ i = 2 ∨ i = 3 ∨ i = 4 ∨ i = 5 ∨ i = 6 ∨ i = 7 ∨ i = 8 ∨ i = 9 ∨ i = 10 ∨ i = 11 ∨ i = 12 ∨ i = 13 ∨ i = 14 ∨ i = 15 ∨ i = 16 ∨ i = 18) with rfl | rfl | rfl | rfl | rfl | rfl | rfl | rfl | rfl | rfl | rfl | rfl | rfl | rfl | rfl | rfl | rfl | rfl
        all_goals (simp at ho; subst ho; simp [Region.binds] at hpre)
        · go_simp
          exact HK.out _ _ ⟨upd U 0 (.int .i64 p), by simp [upd], ppStep (by decide) (by decide) h19 HG.out (Outs.refl _ _) (rfl) (fun h => (HRr.out h).more (by rw [ppCnt_same (by decide) (by decide) (by decide)]; omega)) (HOo.out) (HHh.out)⟩
        · have hbx := HQd.out.bx.outs HOo.out (by omega)
          have r0 := hbx.of 0 _ rfl
          clear hbx
          go_simp
          exact HK.out _ _ ⟨upd U 1 (.agg #[.slice As ns cs]), by simp [upd], ppStep (by decide) (by decide) h19 HG.out (Outs.refl _ _) (rfl) (fun h => (HRr.out h).more (by rw [ppCnt_same (by decide) (by decide) (by decide)]; omega)) (HOo.out) (HHh.out)⟩
        · go_simp
          exact HK.out _ _ ⟨upd U 2 (.pointer (some ⟨g, 0, none⟩)), by simp [upd], ppStep (by decide) (by decide) h19 HG.out (Outs.refl _ _) (rfl) (fun h => (HRr.out h).more (by rw [ppCnt_same (by decide) (by decide) (by decide)]; omega)) (HOo.out) (HHh.out)⟩
        · have e1 : U 2 = .pointer (some ⟨g, 0, none⟩) := HG.out 2 (by simp [hpre])
          have HC := Lib.hid (ppCnt_3 hLi)
          have HRd := Lib.hid (HRr.out (hd3 hLi))
          have HL17 := Lib.hid (hd3 hLi)
          go_simp
          go_wp2_with (go_at_call 32; refine (pick_rds _ g _ _ HRd.out (by omega) (by omega)).mono ?_; rintro e w' ⟨m, rfl, hm0, hm1, hd⟩)
          exact HK.out _ _ ⟨upd U 3 (.int .i64 m), by simp [upd, e1], ppStep (by decide) (by decide) h19 HG.out (Outs.of_grown hd.2 (fun k hk => by have := Option.some.inj hk; show k < wc.heap.size; omega)) (⟨m, rfl, hm0, by have := hm1 (by omega); omega⟩) (fun _ => hd.1.more (by rw [HC.out]; omega)) (HOo.out.trans (Outs.of_grown hd.2 (fun k hk => .inl (Option.some.inj hk).symm))) (HHh.out.outs (S := fun b => b = g) (Outs.of_grown hd.2 (fun k hk => (Option.some.inj hk).symm)) (by omega))⟩
        · obtain ⟨m, e1, hm0, hm1⟩ := HG.out 3 (by simp [hpre])
          have hwm : IntKind.i64.wrap (15 + m) = 15 + m := IntWalk.i64_in _ (by omega)
          go_simp
          exact HK.out _ _ ⟨upd U 4 (.int .i64 (15 + m)), by simp [upd, e1], ppStep (by decide) (by decide) h19 HG.out (Outs.refl _ _) (⟨15 + m, rfl, by omega, by omega⟩) (fun h => (HRr.out h).more (by rw [ppCnt_same (by decide) (by decide) (by decide)]; omega)) (HOo.out) (HHh.out)⟩
        · go_simp
          exact HK.out _ _ ⟨upd U 5 (.pointer (some ⟨g, 0, none⟩)), by simp [upd], ppStep (by decide) (by decide) h19 HG.out (Outs.refl _ _) (rfl) (fun h => (HRr.out h).more (by rw [ppCnt_same (by decide) (by decide) (by decide)]; omega)) (HOo.out) (HHh.out)⟩
        · have e1 : U 5 = .pointer (some ⟨g, 0, none⟩) := HG.out 5 (by simp [hpre])
          have HC := Lib.hid (ppCnt_6 hLi)
          have HRd := Lib.hid (HRr.out (hd6 hLi))
          have HL17 := Lib.hid (hd6 hLi)
          go_simp
          go_wp2_with (go_at_call 32; refine (pick_rds _ g _ _ HRd.out (by omega) (by omega)).mono ?_; rintro e w' ⟨m, rfl, hm0, hm1, hd⟩)
          exact HK.out _ _ ⟨upd U 6 (.int .i64 m), by simp [upd, e1], ppStep (by decide) (by decide) h19 HG.out (Outs.of_grown hd.2 (fun k hk => by have := Option.some.inj hk; show k < wc.heap.size; omega)) (⟨m, rfl, hm0, by have := hm1 (by omega); omega⟩) (fun _ => hd.1.more (by rw [HC.out]; omega)) (HOo.out.trans (Outs.of_grown hd.2 (fun k hk => .inl (Option.some.inj hk).symm))) (HHh.out.outs (S := fun b => b = g) (Outs.of_grown hd.2 (fun k hk => (Option.some.inj hk).symm)) (by omega))⟩
        · obtain ⟨m4, e4, ha4, hb4⟩ := HG.out 4 (by simp [hpre])
          obtain ⟨m6, e6, ha6, hb6⟩ := HG.out 6 (by simp [hpre])
          have hrow := rowGe_lit (w := W) (lo := wc.heap.size) (a := -1) (b := 31) [m4, m6, -1, 30] hWz (by simp; omega)
          have HRw := Lib.hid hrow
          clear hrow
          go_simp
          exact HK.out _ _ ⟨upd U 7 (.slice (some ⟨W.heap.size, 0, none⟩) 4 4), by simp [upd, e4, e6], ppStep (by decide) (by decide) h19 HG.out (Outs.of_below (belowOne W _)) (HRw.out) (fun h => (Rds.alloc (HRr.out h) _).more (by rw [ppCnt_same (by decide) (by decide) (by decide)]; omega)) (HOo.out.trans (Outs.of_below (belowOne W _))) (HHh.out.after _)⟩
        · have hrow := rowGe_lit (w := W) (lo := wc.heap.size) (a := 0) (b := 4) [0, 0, 0, 0, 1, 2, 3] hWz (by decide)
          have HRw := Lib.hid hrow
          clear hrow
          go_simp
          exact HK.out _ _ ⟨upd U 8 (.slice (some ⟨W.heap.size, 0, none⟩) 7 7), by simp [upd], ppStep (by decide) (by decide) h19 HG.out (Outs.of_below (belowOne W _)) (HRw.out) (fun h => (Rds.alloc (HRr.out h) _).more (by rw [ppCnt_same (by decide) (by decide) (by decide)]; omega)) (HOo.out.trans (Outs.of_below (belowOne W _))) (HHh.out.after _)⟩
        · go_simp
          exact HK.out _ _ ⟨upd U 9 (.pointer (some ⟨g, 0, none⟩)), by simp [upd], ppStep (by decide) (by decide) h19 HG.out (Outs.refl _ _) (rfl) (fun h => (HRr.out h).more (by rw [ppCnt_same (by decide) (by decide) (by decide)]; omega)) (HOo.out) (HHh.out)⟩
        · have e1 : U 9 = .pointer (some ⟨g, 0, none⟩) := HG.out 9 (by simp [hpre])
          have HC := Lib.hid (ppCnt_10 hLi)
          have HRd := Lib.hid (HRr.out (hd10 hLi))
          have HL17 := Lib.hid (hd10 hLi)
          go_simp
          go_wp2_with (go_at_call 32; refine (pick_rds _ g _ _ HRd.out (by omega) (by omega)).mono ?_; rintro e w' ⟨m, rfl, hm0, hm1, hd⟩)
          exact HK.out _ _ ⟨upd U 10 (.int .i64 m), by simp [upd, e1], ppStep (by decide) (by decide) h19 HG.out (Outs.of_grown hd.2 (fun k hk => by have := Option.some.inj hk; show k < wc.heap.size; omega)) (⟨m, rfl, hm0, by have := hm1 (by omega); omega⟩) (fun _ => hd.1.more (by rw [HC.out]; omega)) (HOo.out.trans (Outs.of_grown hd.2 (fun k hk => .inl (Option.some.inj hk).symm))) (HHh.out.outs (S := fun b => b = g) (Outs.of_grown hd.2 (fun k hk => (Option.some.inj hk).symm)) (by omega))⟩
        · obtain ⟨B, e0, hB1, hB2, hB3⟩ := HG.out 8 (by simp [hpre])
          obtain ⟨m, e1, hm0, hm1⟩ := HG.out 10 (by simp [hpre])
          obtain ⟨j, rfl⟩ := Int.eq_ofNat_of_zero_le (show 0 ≤ m by omega)
          have hj : j < 7 := by omega
          have hj0 : (0 : Int) ≤ (j : Int) := by omega
          have hj1 : (j : Int) < 7 := by omega
          obtain ⟨x, hx, hxs⟩ := hB3 j hj
          have HB := Lib.hid (And.intro hx hxs)
          clear hB3 hm0 hx hxs
          go_simp
          exact HK.out _ _ ⟨upd U 11 (.pointer (some ⟨B, j, none⟩)), by simp [upd, e0, e1], ppStep (by decide) (by decide) h19 HG.out (Outs.refl _ _) (⟨B, j, x, rfl, hB1, hB2, HB.out.1, HB.out.2⟩) (fun h => (HRr.out h).more (by rw [ppCnt_same (by decide) (by decide) (by decide)]; omega)) (HOo.out) (HHh.out)⟩
        · obtain ⟨B, j, x, e1, hB1, hB2, hx, m, rfl, hm0, hm1⟩ := HG.out 11 (by simp [hpre])
          go_simp
          exact HK.out _ _ ⟨upd U 12 (.int .i64 m), by simp [upd, e1], ppStep (by decide) (by decide) h19 HG.out (Outs.refl _ _) (⟨m, rfl, hm0, hm1⟩) (fun h => (HRr.out h).more (by rw [ppCnt_same (by decide) (by decide) (by decide)]; omega)) (HOo.out) (HHh.out)⟩
        · obtain ⟨B, e0, hB1, hB2, hB3⟩ := HG.out 7 (by simp [hpre])
          obtain ⟨m, e1, hm0, hm1⟩ := HG.out 12 (by simp [hpre])
          obtain ⟨j, rfl⟩ := Int.eq_ofNat_of_zero_le (show 0 ≤ m by omega)
          have hj : j < 4 := by omega
          have hj0 : (0 : Int) ≤ (j : Int) := by omega
          have hj1 : (j : Int) < 4 := by omega
          obtain ⟨x, hx, hxs⟩ := hB3 j hj
          have HB := Lib.hid (And.intro hx hxs)
          clear hB3 hm0 hx hxs
          go_simp
          exact HK.out _ _ ⟨upd U 13 (.pointer (some ⟨B, j, none⟩)), by simp [upd, e0, e1], ppStep (by decide) (by decide) h19 HG.out (Outs.refl _ _) (⟨B, j, x, rfl, hB1, hB2, HB.out.1, HB.out.2⟩) (fun h => (HRr.out h).more (by rw [ppCnt_same (by decide) (by decide) (by decide)]; omega)) (HOo.out) (HHh.out)⟩
        · obtain ⟨B, j, x, e1, hB1, hB2, hx, m, rfl, hm0, hm1⟩ := HG.out 13 (by simp [hpre])
          go_simp
          exact HK.out _ _ ⟨upd U 14 (.int .i64 m), by simp [upd, e1], ppStep (by decide) (by decide) h19 HG.out (Outs.refl _ _) (⟨m, rfl, hm0, hm1⟩) (fun h => (HRr.out h).more (by rw [ppCnt_same (by decide) (by decide) (by decide)]; omega)) (HOo.out) (HHh.out)⟩
        · have hbx := HQd.out.op.outs HOo.out (by omega)
          obtain ⟨r0, r1, r2, r3, r4, r5, r6⟩ := hbx.seven
          clear hbx
          go_simp
          exact HK.out _ _ ⟨upd U 15 (opV o), by simp [upd, opV], ppStep (by decide) (by decide) h19 HG.out (Outs.refl _ _) (rfl) (fun h => (HRr.out h).more (by rw [ppCnt_same (by decide) (by decide) (by decide)]; omega)) (HOo.out) (HHh.out)⟩
        · have e1 : U 0 = .int .i64 p := HG.out 0 (by simp [hpre])
          go_simp
          exact HK.out _ _ ⟨upd U 16 (.int .i64 p), by simp [upd, e1], ppStep (by decide) (by decide) h19 HG.out (Outs.refl _ _) (rfl) (fun h => (HRr.out h).more (by rw [ppCnt_same (by decide) (by decide) (by decide)]; omega)) (HOo.out) (HHh.out)⟩
        · obtain ⟨m, e1, hm0, hm1⟩ := HG.out 14 (by simp [hpre])
          go_simp
          exact HK.out _ _ ⟨upd U 18 (.int .i64 m), by simp [upd, e1], ppStep (by decide) (by decide) h19 HG.out (Outs.refl _ _) (⟨m, rfl, hm0, hm1⟩) (fun h => (HRr.out h).more (by rw [ppCnt_same (by decide) (by decide) (by decide)]; omega)) (HOo.out) (HHh.out)⟩
      case hend =>
        rintro L a W hL ⟨U, rfl, -, h⟩
        obtain ⟨e16, ⟨tx, e18, t0, t1⟩, W0, hO0, hH0, rfl⟩ := h (hL 19 (by decide))
        have HHw := Lib.hid (HQd.out.r2.outs hO0 (by omega))
        have HI0 := Lib.hid (HQd.out.it.keep (w' := W0) (S' := fun b => w1.heap.size ≤ b) (fun b hb hS => hO0.block b hb (by omega)) hO0.size (fun b _ h => h.1))
        have HB0 := Lib.hid (HQd.out.bel.trans (hO0.below HQd.out.bel.size (fun i h => by omega)))
        have hz0 := hO0.size
        have HQ := HHw.out.put7 (.int .i64 o.kind) (.int .i64 o.who) (.int .i64 o.inn) (.int .i64 o.code) (.int .i64 o.sec) (.int .i64 o.fam) (.int .i64 o.gen)
        obtain ⟨q0, q1, q2, q3, q4, q5, q6⟩ := HQ.seven
        have s0 : (put7 W0 (w.heap.size + 1) (.int .i64 o.kind) (.int .i64 o.who) (.int .i64 o.inn) (.int .i64 o.code) (.int .i64 o.sec) (.int .i64 o.fam) (.int .i64 o.gen)).cell? ⟨w.heap.size, 0, none⟩ = some (.slice As ns cs) := (World.cell?_of_block (put7_far W0 (w.heap.size + 1) _ _ _ _ _ _ _ (show w.heap.size ≠ w.heap.size + 1 by omega))).trans (hH0.of 0 _ rfl)
        clear h HQ
        have hzp : (put7 W0 (w.heap.size + 1) (.int .i64 o.kind) (.int .i64 o.who) (.int .i64 o.inn) (.int .i64 o.code) (.int .i64 o.sec) (.int .i64 o.fam) (.int .i64 o.gen)).heap.size = W0.heap.size := by unfold put7; simp [World.setCell]
        have HF := Lib.hid (show DrewPP w (.returned (.tuple #[.int .i64 p, .agg #[.slice As ns cs], .int .i64 tx, opV o])) (put7 W0 (w.heap.size + 1) (.int .i64 o.kind) (.int .i64 o.who) (.int .i64 o.inn) (.int .i64 o.code) (.int .i64 o.sec) (.int .i64 o.fam) (.int .i64 o.gen)) from
          ⟨p, _, its, tx, o, rfl, p0, p5, HIl.out, t0, t1, (HI0.out.keep (w' := put7 W0 (w.heap.size + 1) (.int .i64 o.kind) (.int .i64 o.who) (.int .i64 o.inn) (.int .i64 o.code) (.int .i64 o.sec) (.int .i64 o.fam) (.int .i64 o.gen)) (S' := fun _ => True) (fun b hlt hS => put7_far W0 (w.heap.size + 1) _ _ _ _ _ _ _ (by have h1 : w1.heap.size ≤ b := hS; omega)) (by rw [hzp]; exact Nat.le_refl _) (fun _ _ _ => trivial)).items, belowPut7 HB0.out (w.heap.size + 1) (by omega) _ _ _ _ _ _ _⟩)
        simp only [e16, e18]
        go_wp2
        exact bodyPost_ret (v := .tuple #[.int .i64 p, .agg #[.slice As ns cs], .int .i64 tx, opV o]) (by simp [results, Tryz.results12, go_sem, q0, q1, q2, q3, q4, q5, q6, s0]) rfl HF.out

end Go.Proofs.YtecdibpiojgppaaGreat
