/- Texts that follow each other, merged: DrawGloDo, JaSto, JaOk, Play. -/
import Derived.Test.YtecdibpiojgppaaGreatXDrawOp0
import Derived.Test.YtecdibpiojgppaaGreatXDrawOpen
import Derived.Deep.CutRange
import Derived.Deep.DeepCutAuto
import Derived.Test.YtecdibpiojgppaaGreatXPlanLaw
import Derived.Test.YtecdibpiojgppaaGreatXWrts
import Derived.Test.YtecdibpiojgppaaGreatXVal
import Derived.Test.YtecdibpiojgppaaGreatXExItems
import Derived.Test.YtecdibpiojgppaaGreatXIntsOne
import Derived.Test.YtecdibpiojgppaaGreatXGlo

/- Three places, a number, and something that is done are drawn. By drawglogen.py. -/
namespace Go.Proofs.YtecdibpiojgppaaGreat
open Go.RowKit

def gdGood (g : Nat) (VL : Value) (i : Nat) (w : World) (u : Value) : Prop :=
  match i with
  | 0 => u = VL
  | 1 => u = .pointer (some ⟨g, 0, none⟩)
  | 2 => intIn (0) (14) u
  | 3 => intIn (15) (29) u
  | 4 => u = .pointer (some ⟨g, 0, none⟩)
  | 5 => intIn (0) (10) u
  | 6 => rowIn w g 3 (-1) (30) u
  | 7 => rowIn w g 6 (0) (3) u
  | 8 => u = .pointer (some ⟨g, 0, none⟩)
  | 9 => intIn (0) (6) u
  | 10 => atIn w g (0) (3) u
  | 11 => intIn (0) (3) u
  | 12 => atIn w g (-1) (30) u
  | 13 => intIn (-1) (30) u
  | 14 => u = .pointer (some ⟨g, 0, none⟩)
  | 15 => ∃ o : Op, u = opV o
  | 16 => u = VL
  | 17 => intIn (-1) (30) u
  | _ => True
theorem gdGood_stable {g : Nat} {VL : Value} {w w' : World} (h : w.grownBy w' (some g)) (i : Nat) (u : Value) (hg : gdGood g VL i w u) : gdGood g VL i w' u := by
  match i, hg with
  | 0, hg => exact hg
  | 1, hg => exact hg
  | 2, hg => exact hg
  | 3, hg => exact hg
  | 4, hg => exact hg
  | 5, hg => exact hg
  | 6, hg => exact rowIn_stable h hg
  | 7, hg => exact rowIn_stable h hg
  | 8, hg => exact hg
  | 9, hg => exact hg
  | 10, hg => exact atIn_stable h hg
  | 11, hg => exact hg
  | 12, hg => exact atIn_stable h hg
  | 13, hg => exact hg
  | 14, hg => exact hg
  | 15, hg => exact hg
  | 16, hg => exact hg
  | 17, hg => exact hg
  | k + 18, _ => exact trivial
def gdCnt (L : Nat → Bool) : Int := (if L 2 then 1 else 0) + (if L 5 then 1 else 0) + (if L 9 then 1 else 0) + (if L 15 then 8 else 0)
theorem gdCnt_same {L : Nat → Bool} {i : Nat} (h2 : i ≠ 2) (h5 : i ≠ 5) (h9 : i ≠ 9) (h15 : i ≠ 15) : gdCnt (upd L i true) = gdCnt L := by
  unfold gdCnt
  rw [upd_other _ _ (Ne.symm h2), upd_other _ _ (Ne.symm h5), upd_other _ _ (Ne.symm h9), upd_other _ _ (Ne.symm h15)]
theorem gdCnt_2 {L : Nat → Bool} (hL : L 2 = false) : gdCnt (upd L 2 true) = gdCnt L + 1 := by
  unfold gdCnt
  simp [upd, hL] <;> omega
theorem gdCnt_5 {L : Nat → Bool} (hL : L 5 = false) : gdCnt (upd L 5 true) = gdCnt L + 1 := by
  unfold gdCnt
  simp [upd, hL] <;> omega
theorem gdCnt_9 {L : Nat → Bool} (hL : L 9 = false) : gdCnt (upd L 9 true) = gdCnt L + 1 := by
  unfold gdCnt
  simp [upd, hL] <;> omega
theorem gdCnt_15 {L : Nat → Bool} (hL : L 15 = false) : gdCnt (upd L 15 true) = gdCnt L + 8 := by
  unfold gdCnt
  simp [upd, hL] <;> omega
theorem gdCnt_bound (L : Nat → Bool) : 0 ≤ gdCnt L ∧ gdCnt L ≤ 11 := by
  unfold gdCnt; repeat' split
  all_goals omega

/-- What holds while the numbers are drawn; the last operation lays what is done into block R. -/
def gdInv (w : World) (g R : Nat) (P : Int) (VL : Value) (L : Nat → Bool) (U : Nat → Value) (W : World) : Prop :=
  (L 18 = false → (∀ j, L j = true → gdGood g VL j W (U j)) ∧ Rds W g (P + gdCnt L) ∧ w.grownBy W (some g)) ∧
    (L 18 = true → U 16 = VL ∧ intIn (-1) 30 (U 17) ∧ ∃ (o : Op) (W0 : World), w.grownBy W0 (some g) ∧ W = put7 W0 R (.int .i64 o.kind) (.int .i64 o.who) (.int .i64 o.inn) (.int .i64 o.code) (.int .i64 o.sec) (.int .i64 o.fam) (.int .i64 o.gen))
theorem gdStep {w : World} {g R : Nat} {P : Int} {VL : Value} {L : Nat → Bool} {U : Nat → Value} {W W' : World} {i : Nat} {u : Value} (hi : i < 18) (h18 : L 18 = false) (hG : ∀ j, L j = true → gdGood g VL j W (U j)) (hst : ∀ j u, gdGood g VL j W u → gdGood g VL j W' u) (hu : gdGood g VL i W' u)
    (hR : Rds W' g (P + gdCnt (upd L i true))) (hg : w.grownBy W' (some g)) : gdInv w g R P VL (upd L i true) (upd U i u) W' := by
  have e : upd L i true 18 = false := by rw [upd_other _ _ (by omega)]; exact h18
  refine ⟨fun _ => ⟨RInv.next (Good := fun j W u => gdGood g VL j W u) hG (fun j x h => hst j x h) hu, hR, hg⟩, fun h => ?_⟩
  rw [e] at h; cases h

/-- What is drawn. -/
def DrewGD (w : World) (e : Ending) (w' : World) : Prop :=
  ∃ (u : Value) (xs : List Sto) (tx : Int) (o : Op), e = .returned (.tuple #[u, .int .i64 tx, opV o]) ∧ xs.length = 3 ∧ (∀ x ∈ xs, x.items.length ≤ 13 ∨ x.items.length = 41) ∧ -1 ≤ tx ∧ tx < 30 ∧ stoSh.Row w' w'.heap.size u xs ∧ Below w.heap.size w w'

set_option maxRecDepth 100000 in
set_option maxHeartbeats 4000000 in
theorem drawGloDo_any (w : World) (v : Value) (n : Nat) (hv : Code8 w v n) : Calls Tryz.prog 7 #[v] w (DrewGD w) := by
  have HV := Lib.hid (hv.below (belowOne w (.cells #[.int .i64 0, .int .i64 0, .int .i64 0, .int .i64 0, .int .i64 0, .int .i64 0, .int .i64 0] 25)))
  have HH := Lib.hid (Held.new w #[.int .i64 0, .int .i64 0, .int .i64 0, .int .i64 0, .int .i64 0, .int .i64 0, .int .i64 0] 25)
  obtain ⟨A, c, f, rfl, h1, h2, -, -⟩ := hv
  go_enter Tryz.func7, Tryz.ntmps7
  go_wp2_with fail
  refine (l20Open_any _ _ _ HV.out).mono ?_
  rintro e w1 ⟨rfl, hr, hb1⟩
  have HH1 := Lib.hid (HH.out.below hb1 HH.out.1)
  have HB1 := Lib.hid (belowNext (belowOne _ _) hb1)
  rw [allocSize] at hr
  have HR := Lib.hid (show Rds w1 (w.heap.size + 1) 0 from ⟨0, by omega, by omega, hr⟩)
  have hz1 : w.heap.size + 1 < w1.heap.size := HR.out.lt
  clear hr hb1 HH HV
  go_wp2_with fail
  refine (l20Glo_any _ _ _ HR.out (by omega) (by omega)).mono ?_
  rintro e w2 ⟨ul, xs, rfl, hN, hL, hd⟩
  have HL2 := Lib.hid hL
  have HN := Lib.hid hN
  have HH2 := Lib.hid (HH1.out.drew hd (by omega))
  have HB2 := Lib.hid (HB1.out.trans (hd.below (by omega) HB1.out.size))
  have HR2 := Lib.hid hd.1
  have hz2 : w1.heap.size ≤ w2.heap.size := hd.2.size
  obtain ⟨Al, cl, hf, -, -⟩ := hL.row.form
  subst hf
  clear hN hL hd HH1 HB1 HR
  go_wp2_with fail
  refine (odd_any _ _ _ _ HR2.out (by omega) (by omega)).mono ?_
  rintro e w3 ⟨bb, rfl, -, hd⟩
  have HL3 := Lib.hid ((ownDrew HL2.out hd (fun h => by have := h.1; omega)).mono (S' := fun b => w1.heap.size ≤ b ∧ b < w3.heap.size) fun b hb => ⟨hb.1, Nat.lt_of_lt_of_le hb.2 hd.2.size⟩)
  have HH3 := Lib.hid (HH2.out.drew hd (by omega))
  have HB3 := Lib.hid (HB2.out.trans (hd.below (by omega) HB2.out.size))
  have HR3 := Lib.hid hd.1
  have hz3 : w2.heap.size ≤ w3.heap.size := hd.2.size
  clear hd HL2 HH2 HB2 HR2
  have hxl : xs.length = 3 := gloB_three HN.out.1
  have HX : Hid (∀ x ∈ xs, x.items.length ≤ 13 ∨ x.items.length = 41) := Lib.hid fun x hx => by have := HN.out.2 x hx; omega
  go_upto_if 12 with fail
  go_cut [] from 13 to 18 (fun wc => ∃ ys : List Sto, ys.length = 3 ∧ (∀ x ∈ ys, x.items.length ≤ 13 ∨ x.items.length = 41) ∧ lstoSh.Own 35 wc (fun b => w1.heap.size ≤ b ∧ b < wc.heap.size) (.slice Al 3 cl) ys ∧ Held wc w.heap.size [.int .i64 0, .int .i64 0, .int .i64 0, .int .i64 0, .int .i64 0, .int .i64 0, .int .i64 0] ∧ Below w.heap.size w wc ∧ Rds wc (w.heap.size + 1) 2000)
  case first =>
    cases bb
    · go_wp2
      go_meet
      case rel => exact ⟨xs, hxl, HX.out, by have h := HL3.out; rw [hxl] at h; exact h, HH3.out, HB3.out, HR3.out.more (by omega)⟩
    · go_wp2_with fail
      refine (pick_rds _ _ _ _ HR3.out (by omega) (by omega)).mono ?_
      rintro e w4 ⟨m, rfl, m0, m1, hd⟩
      have m2 : m < 3 := m1 (by omega)
      obtain ⟨i, rfl⟩ := Int.eq_ofNat_of_zero_le m0
      have HL4 := Lib.hid (ownDrew HL3.out hd (fun h => by have := h.1; omega))
      have HH4 := Lib.hid (HH3.out.drew hd (by omega))
      have HB4 := Lib.hid (HB3.out.trans (hd.below (by omega) HB3.out.size))
      have HR4 := Lib.hid hd.1
      have hz4 : w3.heap.size ≤ w4.heap.size := hd.2.size
      clear hd m1 HL3 HH3 HB3 HR3
      go_wp2_with fail
      refine (l20Sto_two _ _ _ _ HR4.out (by omega) (by omega) (by omega)).mono ?_
      rintro e w5 ⟨us, its, rfl, hil, -, ho, hd⟩
      obtain ⟨As, ns, cs, hsf⟩ := ownSlice ho
      subst hsf
      have HL5 := Lib.hid (ownDrew HL4.out hd (fun h => by have := h.1; omega))
      have HH5 := Lib.hid (HH4.out.drew hd (by omega))
      have HB5 := Lib.hid (HB4.out.trans (hd.below (by omega) HB4.out.size))
      have HR5 := Lib.hid hd.1
      have hz5 : w4.heap.size ≤ w5.heap.size := hd.2.size
      have HO5 := Lib.hid ((ho.toIn (S' := fun b => w4.heap.size ≤ b) (fun _ h => h) (fun _ h => h)).keep2 (w' := w5) (S' := fun b => w4.heap.size ≤ b ∧ b < w5.heap.size) (fun _ _ _ => rfl) (fun b hlt h => ⟨h, hlt⟩))
      clear ho hd HL4 HH4 HB4 HR4
      have hix : i < xs.length := by omega
      obtain ⟨g, cap, z, cz, Sj, e2, hz, hSg, hgw, hoz, -, hcz, hfr, -, -⟩ := HL5.out.at_ (j := i) hix
      obtain ⟨uz, rfl, huz⟩ := lsto_own.1 hoz
      rw [hxl] at e2
      injection e2 with e2a _ e2c
      subst e2a e2c
      have g0 : w5.cell? ⟨g, i, none⟩ = some uz := by
        have h := hcz 0 _ rfl
        rwa [show i * lstoSh.wd + 0 = i from Nat.mul_one _] at h
      have f1 : (i : Int) < 3 := by omega
      have f2 : (0 : Int) ≤ (i : Int) := by omega
      have hSg1 := hSg.1
      have HT := Lib.hid (show lstoSh.Own 35 (w5.setCell ⟨g, i, none⟩ (.slice As ns cs)) (fun b => w1.heap.size ≤ b ∧ b < (w5.setCell ⟨g, i, none⟩ (.slice As ns cs)).heap.size) (.slice (some ⟨g, 0, none⟩) 3 cl) (xs.set i ⟨its⟩) from by
        have h1 := HL5.out.cap.put hix rfl (w1 := w5) (fun b _ _ => rfl) (lsto_own (x := ⟨its⟩).2 ⟨_, rfl, HO5.out⟩) (fun b h1 h2 => by have := h2.1.2; omega)
        have e1 : i * lstoSh.wd = i := Nat.mul_one _
        rw [e1, hxl] at h1
        exact h1.mono fun b hb' => by
          rw [show (w5.setCell ⟨g, i, none⟩ (.slice As ns cs)).heap.size = w5.heap.size by simp [World.setCell]]
          rcases hb' with hb' | hb'
          · have := hb'.1.1; have := hb'.2; omega
          · omega)
      have HBs := Lib.hid (show Below w1.heap.size w5 (w5.setCell ⟨g, i, none⟩ (.slice As ns cs)) from (Below.refl _ _).setCell (p := ⟨g, i, none⟩) hSg1 _)
      clear huz hcz hoz hz
      go_wp2
      go_meet
      case rel => exact ⟨xs.set i ⟨its⟩, by rw [List.length_set]; exact hxl, fun x hx => by rcases List.mem_or_eq_of_mem_set hx with h | rfl; exact HX.out x h; exact hil, HT.out, HH5.out.below HBs.out (by omega), HB5.out.trans (HBs.out.mono (by omega)), (HR5.out.below HBs.out (by omega)).more (by omega)⟩
  case rest =>
    obtain ⟨ys, hyl, hyi, hyo, hyh, hyb, hyr⟩ := hcut
    have HYo := Lib.hid hyo
    have HYh := Lib.hid hyh
    have HYb := Lib.hid hyb
    have HYr := Lib.hid hyr
    have HYi := Lib.hid hyi
    have hyz : w.heap.size + 1 < wc.heap.size := hyr.lt
    have hw1c : w1.heap.size ≤ wc.heap.size := by
      rcases hyo.form with ⟨e0, e0'⟩ | ⟨g, cap, e0, hg1, hg2, -, -⟩
      · rw [e0'] at hyl; cases hyl
      · have := hg1.1; omega
    clear hyo hyh hyb hyr hyi HL3 HH3 HB3 HR3 HN HX
    generalize hgd : w.heap.size + 1 = g at *
    go_wp2
    refine wp_region_inv4 (by kernel_rfl) (fun L a W => ∃ U : Nat → Value, a = { tmps := #[.slice A n c, undef, U 16, U 17, .pointer (some ⟨w.heap.size, 0, none⟩), .pointer (some ⟨g, 0, none⟩), .slice Al 3 cl, .slice A n c, .pointer (some ⟨g, 0, none⟩), .pointer (some ⟨g, 0, none⟩), .slice Al 3 cl, .pointer (some ⟨g, 0, none⟩), .bool bb, u13, u14, u15, u16, u17, u18, U 0, U 1, U 2, U 3, U 4, U 5, U 6, U 7, U 8, U 9, U 10, U 11, U 12, U 13, U 14, U 15], defers := [] } ∧ gdInv wc g w.heap.size 2000 (.slice Al 3 cl) L U W) (by kernel_rfl) ?h0 ?hstep ?hend
    case h0 =>
      exact ⟨fun j => #[undef, undef, undef, undef, undef, undef, undef, undef, undef, undef, undef, undef, undef, undef, undef, undef, .slice none 0 0, .int .i64 0].getD j undef, rfl, fun _ => ⟨fun j h => absurd h (by simp), by have h := HYr.out; exact h.more (by have := gdCnt_bound (fun _ => false); omega), ⟨rfl, rfl, rfl, Nat.le_refl _, fun _ _ _ => rfl⟩⟩, fun h => absurd h (by simp)⟩
    case hstep =>
      rintro L a W i o ho hLi hpre hdn ⟨U, rfl, h1, -⟩ K hK
      have hi : i < 19 := (Array.getElem?_eq_some_iff.1 ho).1
      have hd18 : ∀ j, j < 18 → L j = false → L 18 = false := fun j hj hL => hdn.notYet 12 18 18 (by kernel_rfl) hj hL
      clear hdn
      have HK := Lib.hid hK
      clear hK
      have hcb := gdCnt_bound L
      by_cases hi18 : i < 18
      · have h18 := hd18 i hi18 hLi
        obtain ⟨hG, hRd, hGr⟩ := h1 h18
        have HG := Lib.hid hG
        have HRd := Lib.hid hRd
        have HGr := Lib.hid hGr
        clear hG hRd hGr h1 hd18
        rcases (by omega : i = 0 ∨ i = 1 ∨ i = 2 ∨ i = 3 ∨ i = 4 ∨ i = 5 ∨ i = 6 ∨ i = 7 ∨ i = 8 ∨ i = 9 ∨ i = 10 ∨ i = 11 ∨ i = 12 ∨ i = 13 ∨ i = 14 ∨ i = 15 ∨ i = 16 ∨ i = 17) with rfl | rfl | rfl | rfl | rfl | rfl | rfl | rfl | rfl | rfl | rfl | rfl | rfl | rfl | rfl | rfl | rfl | rfl
        all_goals (simp at ho; subst ho; simp [Region.binds] at hpre)
        · go_simp
          exact HK.out _ _ ⟨upd U 0 ((.slice Al 3 cl)), by simp [upd], gdStep (by decide) h18 HG.out (fun _ _ h => h) (rfl) (HRd.out.more (by rw [gdCnt_same (by decide) (by decide) (by decide) (by decide)]; omega)) (HGr.out)⟩
        · go_simp
          exact HK.out _ _ ⟨upd U 1 (.pointer (some ⟨g, 0, none⟩)), by simp [upd], gdStep (by decide) h18 HG.out (fun _ _ h => h) (rfl) (HRd.out.more (by rw [gdCnt_same (by decide) (by decide) (by decide) (by decide)]; omega)) (HGr.out)⟩
        · have e1 : U 1 = .pointer (some ⟨g, 0, none⟩) := HG.out 1 (by simp [hpre])
          have HC := Lib.hid (gdCnt_2 hLi)
          go_simp
          go_wp2_with (go_at_call 32; refine (pick_rds _ g _ _ HRd.out (by omega) (by omega)).mono ?_; rintro e w' ⟨m, rfl, hm0, hm1, hd⟩)
          exact HK.out _ _ ⟨upd U 2 (.int .i64 m), by simp [upd, e1], gdStep (by decide) h18 HG.out (fun j u h => gdGood_stable hd.2 j u h) (⟨m, rfl, hm0, by have := hm1 (by omega); omega⟩) (hd.1.more (by rw [HC.out]; omega)) (HGr.out.trans hd.2)⟩
        · obtain ⟨m, e1, hm0, hm1⟩ := HG.out 2 (by simp [hpre])
          have hwm : IntKind.i64.wrap (15 + m) = 15 + m := IntWalk.i64_in _ (by omega)
          go_simp
          exact HK.out _ _ ⟨upd U 3 (.int .i64 (15 + m)), by simp [upd, e1], gdStep (by decide) h18 HG.out (fun _ _ h => h) (⟨15 + m, rfl, by omega, by omega⟩) (HRd.out.more (by rw [gdCnt_same (by decide) (by decide) (by decide) (by decide)]; omega)) (HGr.out)⟩
        · go_simp
          exact HK.out _ _ ⟨upd U 4 (.pointer (some ⟨g, 0, none⟩)), by simp [upd], gdStep (by decide) h18 HG.out (fun _ _ h => h) (rfl) (HRd.out.more (by rw [gdCnt_same (by decide) (by decide) (by decide) (by decide)]; omega)) (HGr.out)⟩
        · have e1 : U 4 = .pointer (some ⟨g, 0, none⟩) := HG.out 4 (by simp [hpre])
          have HC := Lib.hid (gdCnt_5 hLi)
          go_simp
          go_wp2_with (go_at_call 32; refine (pick_rds _ g _ _ HRd.out (by omega) (by omega)).mono ?_; rintro e w' ⟨m, rfl, hm0, hm1, hd⟩)
          exact HK.out _ _ ⟨upd U 5 (.int .i64 m), by simp [upd, e1], gdStep (by decide) h18 HG.out (fun j u h => gdGood_stable hd.2 j u h) (⟨m, rfl, hm0, by have := hm1 (by omega); omega⟩) (hd.1.more (by rw [HC.out]; omega)) (HGr.out.trans hd.2)⟩
        · obtain ⟨m3, e3, ha3, hb3⟩ := HG.out 3 (by simp [hpre])
          obtain ⟨m5, e5, ha5, hb5⟩ := HG.out 5 (by simp [hpre])
          have hz := HRd.out.lt
          have hrow := rowIn_lit (w := W) (g := g) (lo := -1) (hi := 30) [m3, m5, (-1)] hz (by simp; omega)
          have HRw := Lib.hid hrow
          clear hrow
          go_simp
          exact HK.out _ _ ⟨upd U 6 (.slice (some ⟨W.heap.size, 0, none⟩) 3 3), by simp [upd, e3, e5], gdStep (by decide) h18 HG.out (fun j u h => gdGood_stable (World.grownBy_alloc _ _ _) j u h) (HRw.out) ((Rds.alloc HRd.out _).more (by rw [gdCnt_same (by decide) (by decide) (by decide) (by decide)]; omega)) (HGr.out.trans (World.grownBy_alloc _ _ _))⟩
        · have hz := HRd.out.lt
          have hrow := rowIn_lit (w := W) (g := g) (lo := 0) (hi := 3) [(0), (0), (0), (0), (1), (2)] hz (by decide)
          have HRw := Lib.hid hrow
          clear hrow
          go_simp
          exact HK.out _ _ ⟨upd U 7 (.slice (some ⟨W.heap.size, 0, none⟩) 6 6), by simp [upd], gdStep (by decide) h18 HG.out (fun j u h => gdGood_stable (World.grownBy_alloc _ _ _) j u h) (HRw.out) ((Rds.alloc HRd.out _).more (by rw [gdCnt_same (by decide) (by decide) (by decide) (by decide)]; omega)) (HGr.out.trans (World.grownBy_alloc _ _ _))⟩
        · go_simp
          exact HK.out _ _ ⟨upd U 8 (.pointer (some ⟨g, 0, none⟩)), by simp [upd], gdStep (by decide) h18 HG.out (fun _ _ h => h) (rfl) (HRd.out.more (by rw [gdCnt_same (by decide) (by decide) (by decide) (by decide)]; omega)) (HGr.out)⟩
        · have e1 : U 8 = .pointer (some ⟨g, 0, none⟩) := HG.out 8 (by simp [hpre])
          have HC := Lib.hid (gdCnt_9 hLi)
          go_simp
          go_wp2_with (go_at_call 32; refine (pick_rds _ g _ _ HRd.out (by omega) (by omega)).mono ?_; rintro e w' ⟨m, rfl, hm0, hm1, hd⟩)
          exact HK.out _ _ ⟨upd U 9 (.int .i64 m), by simp [upd, e1], gdStep (by decide) h18 HG.out (fun j u h => gdGood_stable hd.2 j u h) (⟨m, rfl, hm0, by have := hm1 (by omega); omega⟩) (hd.1.more (by rw [HC.out]; omega)) (HGr.out.trans hd.2)⟩
        · obtain ⟨B, e0, hB1, hB2, hB3⟩ := HG.out 7 (by simp [hpre])
          obtain ⟨m, e1, hm0, hm1⟩ := HG.out 9 (by simp [hpre])
          obtain ⟨k, rfl⟩ := Int.eq_ofNat_of_zero_le (show 0 ≤ m by omega)
          have hk : k < 6 := by omega
          have hk0 : (0 : Int) ≤ (k : Int) := by omega
          have hk1 : (k : Int) < 6 := by omega
          obtain ⟨x, hx, hxs⟩ := hB3 k hk
          have HB := Lib.hid (And.intro hx hxs)
          clear hB3 hm0 hx hxs
          go_simp
          exact HK.out _ _ ⟨upd U 10 (.pointer (some ⟨B, k, none⟩)), by simp [upd, e0, e1], gdStep (by decide) h18 HG.out (fun _ _ h => h) (⟨B, k, x, rfl, hB1, hB2, HB.out.1, HB.out.2⟩) (HRd.out.more (by rw [gdCnt_same (by decide) (by decide) (by decide) (by decide)]; omega)) (HGr.out)⟩
        · obtain ⟨B, j, x, e1, hB1, hB2, hx, m, rfl, hm0, hm1⟩ := HG.out 10 (by simp [hpre])
          go_simp
          exact HK.out _ _ ⟨upd U 11 (.int .i64 m), by simp [upd, e1], gdStep (by decide) h18 HG.out (fun _ _ h => h) (⟨m, rfl, hm0, hm1⟩) (HRd.out.more (by rw [gdCnt_same (by decide) (by decide) (by decide) (by decide)]; omega)) (HGr.out)⟩
        · obtain ⟨B, e0, hB1, hB2, hB3⟩ := HG.out 6 (by simp [hpre])
          obtain ⟨m, e1, hm0, hm1⟩ := HG.out 11 (by simp [hpre])
          obtain ⟨k, rfl⟩ := Int.eq_ofNat_of_zero_le (show 0 ≤ m by omega)
          have hk : k < 3 := by omega
          have hk0 : (0 : Int) ≤ (k : Int) := by omega
          have hk1 : (k : Int) < 3 := by omega
          obtain ⟨x, hx, hxs⟩ := hB3 k hk
          have HB := Lib.hid (And.intro hx hxs)
          clear hB3 hm0 hx hxs
          go_simp
          exact HK.out _ _ ⟨upd U 12 (.pointer (some ⟨B, k, none⟩)), by simp [upd, e0, e1], gdStep (by decide) h18 HG.out (fun _ _ h => h) (⟨B, k, x, rfl, hB1, hB2, HB.out.1, HB.out.2⟩) (HRd.out.more (by rw [gdCnt_same (by decide) (by decide) (by decide) (by decide)]; omega)) (HGr.out)⟩
        · obtain ⟨B, j, x, e1, hB1, hB2, hx, m, rfl, hm0, hm1⟩ := HG.out 12 (by simp [hpre])
          go_simp
          exact HK.out _ _ ⟨upd U 13 (.int .i64 m), by simp [upd, e1], gdStep (by decide) h18 HG.out (fun _ _ h => h) (⟨m, rfl, hm0, hm1⟩) (HRd.out.more (by rw [gdCnt_same (by decide) (by decide) (by decide) (by decide)]; omega)) (HGr.out)⟩
        · go_simp
          exact HK.out _ _ ⟨upd U 14 (.pointer (some ⟨g, 0, none⟩)), by simp [upd], gdStep (by decide) h18 HG.out (fun _ _ h => h) (rfl) (HRd.out.more (by rw [gdCnt_same (by decide) (by decide) (by decide) (by decide)]; omega)) (HGr.out)⟩
        · have e1 : U 14 = .pointer (some ⟨g, 0, none⟩) := HG.out 14 (by simp [hpre])
          have HC := Lib.hid (gdCnt_15 hLi)
          go_simp
          go_wp2_with (go_at_call 33; refine (l20Op_any _ g _ _ HRd.out (by omega) (by omega)).mono ?_; rintro e w' ⟨od, rfl, hd⟩)
          exact HK.out _ _ ⟨upd U 15 (opV od), by simp [upd, e1], gdStep (by decide) h18 HG.out (fun j u h => gdGood_stable hd.2 j u h) (⟨od, rfl⟩) (hd.1.more (by rw [HC.out]; omega)) (HGr.out.trans hd.2)⟩
        · have e1 : U 0 = (.slice Al 3 cl) := HG.out 0 (by simp [hpre])
          go_simp
          exact HK.out _ _ ⟨upd U 16 ((.slice Al 3 cl)), by simp [upd, e1], gdStep (by decide) h18 HG.out (fun _ _ h => h) (rfl) (HRd.out.more (by rw [gdCnt_same (by decide) (by decide) (by decide) (by decide)]; omega)) (HGr.out)⟩
        · obtain ⟨m, e1, hm0, hm1⟩ := HG.out 13 (by simp [hpre])
          go_simp
          exact HK.out _ _ ⟨upd U 17 (.int .i64 m), by simp [upd, e1], gdStep (by decide) h18 HG.out (fun _ _ h => h) (⟨m, rfl, hm0, hm1⟩) (HRd.out.more (by rw [gdCnt_same (by decide) (by decide) (by decide) (by decide)]; omega)) (HGr.out)⟩
      · obtain rfl : i = 18 := by omega
        obtain ⟨hG, hRd, hGr⟩ := h1 hLi
        simp at ho; subst ho; simp [Region.binds] at hpre
        have e16 : U 16 = .slice Al 3 cl := hG 16 (by simp [hpre])
        have e17 : intIn (-1) 30 (U 17) := hG 17 (by simp [hpre])
        obtain ⟨od, e15⟩ : ∃ o : Op, U 15 = opV o := hG 15 (by simp [hpre])
        have HHw := HYh.out.grown hGr (fun e => by have := Option.some.inj e; omega)
        obtain ⟨r0, r1, r2, r3, r4, r5, r6⟩ := HHw.seven
        have rf := HHw.2.1
        have HE := Lib.hid (And.intro e17 hGr)
        clear hG hRd hGr h1 hd18 e17 HHw
        go_simp
        exact HK.out _ _ ⟨U, by simp [e15, e16], fun h => absurd h (by simp [upd]), fun _ => ⟨e16, HE.out.1, od, W, HE.out.2, rfl⟩⟩
    case hend =>
      rintro L a W hL ⟨U, rfl, -, h⟩
      obtain ⟨e16, ⟨tx, e17, t0, t1⟩, od, W0, hg0, rfl⟩ := h (hL 18 (by decide))
      have HHw := Lib.hid (HYh.out.grown hg0 (fun e => by have := Option.some.inj e; omega))
      have HO0 := Lib.hid (HYo.out.keep (w' := W0) fun b hb hlt => hg0.block b hlt (fun e => by have h1 := hb.1; have h2 := Option.some.inj e; omega))
      have HB0 := Lib.hid ((HYb.out).grown hg0 (by omega) (fun k hk => by have := Option.some.inj hk; omega))
      have hz0 := hg0.size
      have HQ := HHw.out.put7 (.int .i64 od.kind) (.int .i64 od.who) (.int .i64 od.inn) (.int .i64 od.code) (.int .i64 od.sec) (.int .i64 od.fam) (.int .i64 od.gen)
      obtain ⟨q0, q1, q2, q3, q4, q5, q6⟩ := HQ.seven
      clear hg0 h HQ
      have HF := Lib.hid (show DrewGD w (.returned (.tuple #[.slice Al 3 cl, .int .i64 tx, opV od])) (put7 W0 w.heap.size (.int .i64 od.kind) (.int .i64 od.who) (.int .i64 od.inn) (.int .i64 od.code) (.int .i64 od.sec) (.int .i64 od.fam) (.int .i64 od.gen)) from
        ⟨_, ys, tx, od, rfl, hyl, HYi.out, t0, t1, lsto_row.1 (HO0.out.keep fun b hb _ => put7_far W0 w.heap.size _ _ _ _ _ _ _ (by have := hb.1; omega)).row, belowPut7 HB0.out w.heap.size (Nat.le_refl _) _ _ _ _ _ _ _⟩)
      simp only [e16, e17]
      go_wp2
      exact bodyPost_ret (v := .tuple #[.slice Al 3 cl, .int .i64 tx, opV od]) (by simp [results, Tryz.results7, go_sem, q0, q1, q2, q3, q4, q5, q6]) rfl HF.out

end Go.Proofs.YtecdibpiojgppaaGreat

/- jaSto of what is the same. -/
namespace Go.Proofs.YtecdibpiojgppaaGreat
open Go.RowKit

set_option maxRecDepth 100000 in
set_option maxHeartbeats 4000000 in
theorem jaSto_same (w : World) (v u : Value) (its : List Item) (hv : Items w w.heap.size v its) (hu : Items w w.heap.size u its) :
    Calls Tryz.prog 18 #[.agg #[v], .agg #[u]] w fun e w' => e = .returned (.bool true) ∧ Below w.heap.size w w' := by
  obtain ⟨A, c, rfl, hc2, hc1⟩ := hv.form
  obtain ⟨A', c', rfl, hc2', hc1'⟩ := hu.form
  unfold maxLen at hc2 hc2'
  have HB := Lib.hid (belowTwo w (.cells #[.slice A its.length c] 35) (.cells #[.slice A' its.length c'] 35))
  have HX := Lib.hid ((Held.new w #[.slice A its.length c] 35).after (.cells #[.slice A' its.length c'] 35))
  have HY := Lib.hid (show Held ((w.alloc (.cells #[.slice A its.length c] 35)).alloc (.cells #[.slice A' its.length c'] 35)) (w.heap.size + 1) [.slice A' its.length c'] from by have h := Held.new (w.alloc (.cells #[.slice A its.length c] 35)) #[.slice A' its.length c'] 35; rwa [show (w.alloc (.cells #[.slice A its.length c] 35)).heap.size = w.heap.size + 1 by simp] at h)
  go_enter Tryz.func18, Tryz.ntmps18
  go_wp2
  go_loopw [5] (fun i wr => ∃ k : Nat, k ≤ its.length ∧ i = .int .i64 k ∧ Below w.heap.size w wr ∧ Held wr w.heap.size [.slice A its.length c] ∧ Held wr (w.heap.size + 1) [.slice A' its.length c']) (fun i _ => its.length - (intOf i).toNat)
  case atStart => exact ⟨0, Nat.zero_le _, rfl, HB.out, HX.out, HY.out⟩
  case round =>
    clear HB HX HY
    obtain ⟨k, hk, rfl, hb, hx, hy⟩ := hrel
    have HX := Lib.hid hx
    have HY := Lib.hid hy
    have x0 := hx.of 0 _ rfl
    have y0 := hy.of 0 _ rfl
    clear hx hy
    by_cases hlt : k < its.length
    · obtain ⟨b, off, d, it, p, e1, hit, hB, hs, ck, cu, hp⟩ := (hv.below hb).at_ (k := k) hlt
      obtain ⟨b2, off2, d2, it2, p2, e2, hit2, hB2, hs2, ck2, cu2, hp2⟩ := (hu.below hb).at_ (k := k) hlt
      rw [hit] at hit2
      injection hit2 with hit2
      subst hit2
      obtain ⟨Ap, cp, rfl, -, -⟩ := hp.form
      obtain ⟨Ap2, cp2, rfl, -, -⟩ := hp2.form
      injection e1 with e1a e1b e1c
      injection e2 with e2a e2b e2c
      subst e1a e2a
      have HP := Lib.hid (show Ints wr.drew wr.drew.heap.size _ it.val from hp.more hb.size)
      have HP2 := Lib.hid (show Ints wr.drew wr.drew.heap.size _ it.val from hp2.more hb.size)
      have HB := Lib.hid hb
      have k0 := And.intro x0 (And.intro y0 (And.intro ck (And.intro cu (And.intro ck2 cu2))))
      have f3 : (0 : Int) ≤ (k : Int) := by omega
      have f4 : (k : Int) < (its.length : Int) := by omega
      clear e1b e1c e2b e2c hv hu hit hp hp2 hb ck cu ck2 cu2
      go_wp2
      refine wp_region_held_drew (S := (fun w' => w'.cell? ⟨w.heap.size, 0, none⟩ = some (.slice (some ⟨b, off, none⟩) its.length c) ∧ w'.cell? ⟨w.heap.size + 1, 0, none⟩ = some (.slice (some ⟨b2, off2, none⟩) its.length c') ∧ w'.cell? ⟨b, off + k * 2, none⟩ = some (.string it.key) ∧ w'.cell? ⟨b, off + k * 2 + 1, none⟩ = some (.slice Ap it.val.length cp) ∧ w'.cell? ⟨b2, off2 + k * 2, none⟩ = some (.string it.key) ∧ w'.cell? ⟨b2, off2 + k * 2 + 1, none⟩ = some (.slice Ap2 it.val.length cp2))) (by kernel_rfl) ?hSr (fun hHeldr => ?str)
      case hSr => (first | (dsimp only; (exact k0)) | (exact k0))
      refine take_first 0 20 (v := ?vr_1) rfl rfl (by kernel_rfl) (by kernel_rfl) (by kernel_rfl) (fun _ _ _ h => h) (by rfl) ?yr_1 (by assumption) ?rr_1
      case yr_1 => (intro w hSw; (try dsimp only at hSw); go_simp; (try with_reducible rfl))
      simp only [Act.put, List.setIfInBounds_toArray, List.set_cons_zero, List.set_cons_succ]
      refine take_first 1 21 (v := ?vr_2) rfl rfl (by kernel_rfl) (by kernel_rfl) (by kernel_rfl) (fun _ _ _ h => h) (by rfl) ?yr_2 (by assumption) ?rr_2
      case yr_2 => (intro w hSw; (try dsimp only at hSw); go_simp; (try with_reducible rfl))
      simp only [Act.put, List.setIfInBounds_toArray, List.set_cons_zero, List.set_cons_succ]
      refine take_first 2 22 (v := ?vr_3) rfl rfl (by kernel_rfl) (by kernel_rfl) (by kernel_rfl) (fun _ _ _ h => h) (by rfl) ?yr_3 (by assumption) ?rr_3
      case yr_3 => (intro w hSw; (try dsimp only at hSw); go_simp; (try with_reducible rfl))
      simp only [Act.put, List.setIfInBounds_toArray, List.set_cons_zero, List.set_cons_succ]
      refine take_first 3 23 (v := ?vr_4) rfl rfl (by kernel_rfl) (by kernel_rfl) (by kernel_rfl) (fun _ _ _ h => h) (by rfl) ?yr_4 (by assumption) ?rr_4
      case yr_4 => (intro w hSw; (try dsimp only at hSw); go_simp; (try with_reducible rfl))
      simp only [Act.put, List.setIfInBounds_toArray, List.set_cons_zero, List.set_cons_succ]
      refine take_first 4 24 (v := ?vr_5) rfl rfl (by kernel_rfl) (by kernel_rfl) (by kernel_rfl) (fun _ _ _ h => h) (by rfl) ?yr_5 (by assumption) ?rr_5
      case yr_5 => (intro w hSw; (try dsimp only at hSw); go_simp; (try with_reducible rfl))
      simp only [Act.put, List.setIfInBounds_toArray, List.set_cons_zero, List.set_cons_succ]
      refine take_first 5 25 (v := ?vr_6) rfl rfl (by kernel_rfl) (by kernel_rfl) (by kernel_rfl) (fun _ _ _ h => h) (by rfl) ?yr_6 (by assumption) ?rr_6
      case yr_6 => (intro w hSw; (try dsimp only at hSw); go_simp; (try with_reducible rfl))
      simp only [Act.put, List.setIfInBounds_toArray, List.set_cons_zero, List.set_cons_succ]
      refine take_first 6 26 (v := ?vr_7) rfl rfl (by kernel_rfl) (by kernel_rfl) (by kernel_rfl) (fun _ _ _ h => h) (by rfl) ?yr_7 (by assumption) ?rr_7
      case yr_7 => (intro w hSw; (try dsimp only at hSw); go_simp; (try with_reducible rfl))
      simp only [Act.put, List.setIfInBounds_toArray, List.set_cons_zero, List.set_cons_succ]
      refine take_first 7 27 (v := ?vr_8) rfl rfl (by kernel_rfl) (by kernel_rfl) (by kernel_rfl) (fun _ _ _ h => h) (by rfl) ?yr_8 (by assumption) ?rr_8
      case yr_8 => (intro w hSw; (try dsimp only at hSw); go_simp; (try with_reducible rfl))
      simp only [Act.put, List.setIfInBounds_toArray, List.set_cons_zero, List.set_cons_succ]
      refine take_first 8 28 (v := ?vr_9) rfl rfl (by kernel_rfl) (by kernel_rfl) (by kernel_rfl) (fun _ _ _ h => h) (by rfl) ?yr_9 (by assumption) ?rr_9
      case yr_9 => (intro w hSw; (try dsimp only at hSw); go_simp; (try with_reducible rfl))
      simp only [Act.put, List.setIfInBounds_toArray, List.set_cons_zero, List.set_cons_succ]
      refine take_first 9 29 (v := ?vr_10) rfl rfl (by kernel_rfl) (by kernel_rfl) (by kernel_rfl) (fun _ _ _ h => h) (by rfl) ?yr_10 (by assumption) ?rr_10
      case yr_10 => (intro w hSw; (try dsimp only at hSw); go_simp; (try with_reducible rfl))
      simp only [Act.put, List.setIfInBounds_toArray, List.set_cons_zero, List.set_cons_succ]
      refine take_first 10 30 (v := ?vr_11) rfl rfl (by kernel_rfl) (by kernel_rfl) (by kernel_rfl) (fun _ _ _ h => h) (by rfl) ?yr_11 (by assumption) ?rr_11
      case yr_11 => (intro w hSw; (try dsimp only at hSw); go_simp; (try with_reducible rfl))
      simp only [Act.put, List.setIfInBounds_toArray, List.set_cons_zero, List.set_cons_succ]
      refine take_first 11 31 (v := ?vr_12) rfl rfl (by kernel_rfl) (by kernel_rfl) (by kernel_rfl) (fun _ _ _ h => h) (by rfl) ?yr_12 (by assumption) ?rr_12
      case yr_12 => (intro w hSw; (try dsimp only at hSw); go_simp; (try with_reducible rfl))
      simp only [Act.put, List.setIfInBounds_toArray, List.set_cons_zero, List.set_cons_succ]
      refine take_first 12 32 (v := ?vr_13) rfl rfl (by kernel_rfl) (by kernel_rfl) (by kernel_rfl) (fun _ _ _ h => h) (by rfl) ?yr_13 (by assumption) ?rr_13
      case yr_13 => (intro w hSw; (try dsimp only at hSw); go_simp; (try with_reducible rfl))
      simp only [Act.put, List.setIfInBounds_toArray, List.set_cons_zero, List.set_cons_succ]
      refine take_first 13 33 (v := ?vr_14) rfl rfl (by kernel_rfl) (by kernel_rfl) (by kernel_rfl) (fun _ _ _ h => h) (by rfl) ?yr_14 (by assumption) ?rr_14
      case yr_14 => (intro w hSw; (try dsimp only at hSw); go_simp; (try with_reducible rfl))
      simp only [Act.put, List.setIfInBounds_toArray, List.set_cons_zero, List.set_cons_succ]
      refine take_first 14 34 (v := ?vr_15) rfl rfl (by kernel_rfl) (by kernel_rfl) (by kernel_rfl) (fun _ _ _ h => h) (by rfl) ?yr_15 (by assumption) ?rr_15
      case yr_15 => (intro w hSw; (try dsimp only at hSw); go_simp; (try with_reducible rfl))
      simp only [Act.put, List.setIfInBounds_toArray, List.set_cons_zero, List.set_cons_succ]
      refine take_first 15 35 (v := ?vr_16) rfl rfl (by kernel_rfl) (by kernel_rfl) (by kernel_rfl) (fun _ _ _ h => h) (by rfl) ?yr_16 (by assumption) ?rr_16
      case yr_16 => (intro w hSw; (try dsimp only at hSw); go_simp; (try with_reducible rfl))
      simp only [Act.put, List.setIfInBounds_toArray, List.set_cons_zero, List.set_cons_succ]
      refine take_first 16 36 (v := ?vr_17) rfl rfl (by kernel_rfl) (by kernel_rfl) (by kernel_rfl) (fun _ _ _ h => h) (by rfl) ?yr_17 (by assumption) ?rr_17
      case yr_17 => (intro w hSw; (try dsimp only at hSw); go_simp; (try with_reducible rfl))
      simp only [Act.put, List.setIfInBounds_toArray, List.set_cons_zero, List.set_cons_succ]
      refine take_first 17 37 (v := ?vr_18) rfl rfl (by kernel_rfl) (by kernel_rfl) (by kernel_rfl) (fun _ _ _ h => h) (by rfl) ?yr_18 (by assumption) ?rr_18
      case yr_18 => (intro w hSw; (try dsimp only at hSw); go_simp; (try with_reducible rfl))
      simp only [Act.put, List.setIfInBounds_toArray, List.set_cons_zero, List.set_cons_succ]
      refine take_first 18 38 (v := ?vr_19) rfl rfl (by kernel_rfl) (by kernel_rfl) (by kernel_rfl) (fun _ _ _ h => h) (by rfl) ?yr_19 (by assumption) ?rr_19
      case yr_19 => (intro w hSw; (try dsimp only at hSw); go_simp; (try with_reducible rfl))
      simp only [Act.put, List.setIfInBounds_toArray, List.set_cons_zero, List.set_cons_succ]
      refine take_first 19 39 (v := ?vr_20) rfl rfl (by kernel_rfl) (by kernel_rfl) (by kernel_rfl) (fun _ _ _ h => h) (by rfl) ?yr_20 (by assumption) ?rr_20
      case yr_20 => (intro w hSw; (try dsimp only at hSw); go_simp; (try with_reducible rfl))
      simp only [Act.put, List.setIfInBounds_toArray, List.set_cons_zero, List.set_cons_succ]
      refine take_first 20 40 (v := ?vr_21) rfl rfl (by kernel_rfl) (by kernel_rfl) (by kernel_rfl) (fun _ _ _ h => h) (by rfl) ?yr_21 (by assumption) ?rr_21
      case yr_21 => (intro w hSw; (try dsimp only at hSw); go_simp; (try with_reducible rfl))
      simp only [Act.put, List.setIfInBounds_toArray, List.set_cons_zero, List.set_cons_succ]
      refine take_first 21 41 (v := ?vr_22) rfl rfl (by kernel_rfl) (by kernel_rfl) (by kernel_rfl) (fun _ _ _ h => h) (by rfl) ?yr_22 (by assumption) ?rr_22
      case yr_22 => (intro w hSw; (try dsimp only at hSw); go_simp; (try with_reducible rfl))
      simp only [Act.put, List.setIfInBounds_toArray, List.set_cons_zero, List.set_cons_succ]
      refine take_first 22 42 (v := ?vr_23) rfl rfl (by kernel_rfl) (by kernel_rfl) (by kernel_rfl) (fun _ _ _ h => h) (by rfl) ?yr_23 (by assumption) ?rr_23
      case yr_23 => (intro w hSw; (try dsimp only at hSw); go_simp; (try with_reducible rfl))
      simp only [Act.put, List.setIfInBounds_toArray, List.set_cons_zero, List.set_cons_succ]
      refine take_first 23 43 (v := ?vr_24) rfl rfl (by kernel_rfl) (by kernel_rfl) (by kernel_rfl) (fun _ _ _ h => h) (by rfl) ?yr_24 (by assumption) ?rr_24
      case yr_24 => (intro w hSw; (try dsimp only at hSw); go_simp; (try with_reducible rfl))
      simp only [Act.put, List.setIfInBounds_toArray, List.set_cons_zero, List.set_cons_succ]
      refine take_first 24 44 (v := ?vr_25) rfl rfl (by kernel_rfl) (by kernel_rfl) (by kernel_rfl) (fun _ _ _ h => h) (by rfl) ?yr_25 (by assumption) ?rr_25
      case yr_25 => (intro w hSw; (try dsimp only at hSw); go_simp; (try with_reducible rfl))
      simp only [Act.put, List.setIfInBounds_toArray, List.set_cons_zero, List.set_cons_succ]
      refine take_first 25 45 (v := ?vr_26) rfl rfl (by kernel_rfl) (by kernel_rfl) (by kernel_rfl) (fun _ _ _ h => h) (by rfl) ?yr_26 (by assumption) ?rr_26
      case yr_26 => (intro w hSw; (try dsimp only at hSw); go_simp; (try with_reducible rfl))
      simp only [Act.put, List.setIfInBounds_toArray, List.set_cons_zero, List.set_cons_succ]
      refine wpAnyH_ready (rs := [26]) (by kernel_rfl) (by simp) ?_
      refine AllReadyH.cons (o := _) rfl (fun Kr_27 hKr_27 => ?cr_27) ?mr_27
      case mr_27 => exact AllReadyH.nil
      go_simp
      refine (jaInts_any _ _ _ _ it.val it.val HP.out HP2.out).mono ?_; rintro e w1 ⟨rfl, n, rfl⟩; rw [show decide (it.val = it.val) = true from decide_eq_true rfl]
      go_wp2_with fail
      refine hKr_27.out _ _ ?kr_27 (fun hHeldr_27 => ?dr_27)
      case kr_27 => (first | (dsimp only; (exact k0)) | (exact k0))
      clear hKr_27 Kr_27
      refine take_first 27 47 (v := ?vr_28) rfl rfl (by kernel_rfl) (by kernel_rfl) (by kernel_rfl) (fun _ _ _ h => h) (by rfl) ?yr_28 (by assumption) ?rr_28
      case yr_28 => (intro w hSw; (try dsimp only at hSw); go_simp; (try with_reducible rfl))
      simp only [Act.put, List.setIfInBounds_toArray, List.set_cons_zero, List.set_cons_succ]
      refine take_first 28 48 (v := ?vr_29) rfl rfl (by kernel_rfl) (by kernel_rfl) (by kernel_rfl) (fun _ _ _ h => h) (by rfl) ?yr_29 (by assumption) ?rr_29
      case yr_29 => (intro w hSw; (try dsimp only at hSw); go_simp; (try with_reducible rfl))
      simp only [Act.put, List.setIfInBounds_toArray, List.set_cons_zero, List.set_cons_succ]
      refine wpAnyH_done (by kernel_rfl) ?er _
      clear k0 x0 y0
      go_wp2
      go_roundw
      case rel => exact ⟨k + 1, by omega, by go_num, belowDraws HB.out (1 + n), HX.out, HY.out⟩
      case measure => simp [intOf]; omega
    · clear hv hu
      go_wp2
      go_ret
      exact ⟨rfl, hb⟩

end Go.Proofs.YtecdibpiojgppaaGreat

/- What every law of draws ends with. -/
namespace Go.Proofs.YtecdibpiojgppaaGreat
open Go.RowKit

set_option maxRecDepth 100000 in
theorem jaOk_any (w : World) : Calls Tryz.prog 11 #[] w fun e w' => e = .returned (.bool true) ∧ Below w.heap.size w w' := by
  have HI := Lib.hid (Ints.one w 1)
  have HK : Hid (wrtB ⟨#[97, 49]⟩ false [1] = true) := by show wrtB ⟨#[97, 49]⟩ false [1] = true; decide
  go_enter Tryz.func11, Tryz.ntmps11
  go_wp2_with fail
  refine (implWrtOk_any _ _ _ _ [1] (by show 2 ≤ _; unfold maxLen; omega) HI.out).mono ?_
  rintro e w1 ⟨rfl, hb1⟩
  rw [HK.out]
  have HB := Lib.hid (belowNext (belowOne _ _) hb1)
  clear hb1
  go_wp2
  go_ret
  exact ⟨rfl, HB.out⟩

end Go.Proofs.YtecdibpiojgppaaGreat

/- A play, one thing behind the other: in plain words, and by laws.jaGlo. -/
namespace Go.Proofs.YtecdibpiojgppaaGreat
open Go.RowKit

/-- What all places keep behind the first k things that are done, and which of these were so. -/
def playTo (os : List Op) : Nat → List Sto × List Bool
  | 0 => (newG, [])
  | k + 1 => match os[k]? with
    | none => playTo os k
    | some o => (if (gloDo (playTo os k).1 k o).2 = true then (gloDo (playTo os k).1 k o).1 else (playTo os k).1, (playTo os k).2 ++ [(gloDo (playTo os k).1 k o).2])
/-- While laws.jaGlo plays. -/
def JaI (w : World) (os : List Op) (k : Nat) (a b : Value) (W : World) : Prop :=
  ∃ S1 S2, stoSh.Own 35 W S1 a (playTo os k).1 ∧ Sh.bool.Own 4 W S2 b (playTo os k).2 ∧ (∀ i, S1 i → w.heap.size ≤ i ∧ i < W.heap.size) ∧ (∀ i, S2 i → w.heap.size ≤ i ∧ i < W.heap.size) ∧ (∀ i, S1 i → ¬ S2 i) ∧ Below w.heap.size w W
/-- What laws.jaGlo answers. -/
def JaMade (os : List Op) (w : World) (e : Ending) (w' : World) : Prop :=
  ∃ u d, e = .returned (.tuple #[u, d]) ∧ stoSh.Row w' w'.heap.size u (playTo os os.length).1 ∧ Sh.bool.Row w' w'.heap.size d (playTo os os.length).2 ∧ Below w.heap.size w w'
end Go.Proofs.YtecdibpiojgppaaGreat
