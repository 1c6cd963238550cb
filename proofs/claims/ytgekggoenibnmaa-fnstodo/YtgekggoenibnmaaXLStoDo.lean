/- The walk of FnStoDo. By dogen.py. -/
import Derived.Test.YtgekggoenibnmaaXDrawOpen
import Derived.Test.YtgekggoenibnmaaXJaInts
import Derived.Test.YtgekggoenibnmaaXStoDoI
import Derived.Test.YtgekggoenibnmaaXGet
namespace Go.Proofs.Ytgekggoenibnmaa
open Go.RowKit

theorem stoB_nil : stoB [] = true := by decide
theorem doStep_sto {o : Option (List Item)} {x : Wr} (h : ∀ cur, o = some cur → stoB cur = true) : ∀ cur, doStep o x = some cur → stoB cur = true := by
  intro cur hc
  cases o with
  | none => cases hc
  | some its =>
    obtain ⟨h1, h2, h3⟩ := stoB_three (h its rfl)
    simp only [doStep, Option.bind_some] at hc
    by_cases hx : x.ok = true
    · rw [if_pos hx] at hc
      by_cases hl : 40 < (wAll x.key x.del x.val its).length
      · rw [if_pos hl] at hc; cases hc
      · rw [if_neg hl] at hc
        injection hc with hc
        subst hc
        obtain ⟨f1, -, -, f4⟩ := wAll_facts (wk := x.key) (wv := x.val) h3 x.del
        refine stoB_of (by omega) (fun it hit => ?_) f1
        rcases f4 it hit with h' | ⟨hd, rfl⟩
        · exact h2 it h'
        · exact Wr.item hx hd
    · rw [if_neg hx] at hc; cases hc
theorem doFold_sto : ∀ (ws : List Wr) {o : Option (List Item)}, (∀ cur, o = some cur → stoB cur = true) → ∀ cur, ws.foldl doStep o = some cur → stoB cur = true
  | [], _, h => h
  | x :: ws, _, h => doFold_sto ws (doStep_sto (x := x) h)
theorem stoDo_sto (its : List Item) (ws : List Wr) : stoB (stoDo its ws) = true := by
  unfold stoDo doAll
  split
  · rename_i h
    cases hc : ws.foldl doStep (some its) with
    | none => exact stoB_nil
    | some cur => exact doFold_sto ws (fun c hc' => by injection hc' with e; rw [← e]; exact h) cur hc
  · exact stoB_nil
/-- No later write up to m has that name. -/
def lastTo (ws : List Wr) (key : ByteArray) (k m : Nat) : Bool := ((ws.take m).drop (k + 1)).all fun y => !decide (y.key = key)
theorem lastTo_start (ws : List Wr) (key : ByteArray) (k : Nat) : lastTo ws key k (k + 1) = true := by
  unfold lastTo
  rw [List.drop_of_length_le (by rw [List.length_take]; omega)]; rfl
theorem lastTo_step {ws : List Wr} {key : ByteArray} {k m : Nat} {y : Wr} (hm : k + 1 ≤ m) (hy : ws[m]? = some y) : lastTo ws key k (m + 1) = (lastTo ws key k m && !decide (y.key = key)) := by
  have hl : m < ws.length := (List.getElem?_eq_some_iff.1 hy).1
  unfold lastTo
  rw [take_snoc hy, List.drop_append_of_le_length (by rw [List.length_take]; omega), List.all_append]
  simp
theorem lastW {ws : List Wr} {k : Nat} {x : Wr} (hx : ws[k]? = some x) (h : lastTo ws x.key k ws.length = true) (d : Option Item) : lookW ws x.key d = if x.del = true then none else some ⟨x.key, x.val⟩ := by
  have hs : ws = ws.take (k + 1) ++ ws.drop (k + 1) := (List.take_append_drop _ _).symm
  unfold lastTo at h
  rw [List.take_length, List.all_eq_true] at h
  rw [hs, lookW_app, lookW_free (fun y hy => by simpa using h y hy), take_snoc hx, lookW_app]
  show (if x.key = x.key then _ else _) = _
  rw [if_pos rfl]
/-- Some write up to m has that name. -/
def wroteTo (ws : List Wr) (key : ByteArray) (m : Nat) : Bool := (ws.take m).any fun y => decide (y.key = key)
theorem wroteTo_step {ws : List Wr} {key : ByteArray} {m : Nat} {y : Wr} (hy : ws[m]? = some y) : wroteTo ws key (m + 1) = (wroteTo ws key m || decide (y.key = key)) := by
  unfold wroteTo
  rw [take_snoc hy, List.any_append]
  simp
theorem wroteW {ws : List Wr} {key : ByteArray} (h : wroteTo ws key ws.length = false) (d : Option Item) : lookW ws key d = d := by
  refine lookW_free (fun y hy => ?_) d
  unfold wroteTo at h
  rw [List.take_length, List.any_eq_false] at h
  simpa using h y hy

set_option maxRecDepth 100000 in
set_option maxHeartbeats 4000000 in
theorem lawStoDo_any (w : World) (v : Value) (n : Nat) (hv : Code8 w v n) :
    Calls Try.prog 6 #[v] w fun e w' => e = .returned (.bool true) ∧ Below w.heap.size w w' := by
  have HV := Lib.hid hv
  obtain ⟨A, c, f, rfl, h1, h2, -, -⟩ := hv
  unfold maxLen at h2
  by_cases hn : 1048576 < n
  · have hn' : (1048576 : Int) < (n : Int) := by omega
    go_enter Try.func6, Try.ntmps6
    go_wp2
    go_ret
    exact ⟨rfl, Below.refl _ _⟩
  have hn' : (n : Int) ≤ 1048576 := by omega
  clear hn
  go_enter Try.func6, Try.ntmps6
  go_wp2_with fail
  refine (drawStoDo_any _ _ n HV.out).mono ?_
  rintro e w1 ⟨u, its, l, ws, rfl, hil, hwl, hi, hwr, hb⟩
  obtain ⟨A1, c1, rfl, -, -⟩ := hi.form
  obtain ⟨A2, c2, rfl, -, -⟩ := hwr.form
  have HB := Lib.hid (hb.alloc hb.size (.cells #[.slice A1 its.length c1] 40))
  have HI := Lib.hid fun W (h : Below w1.heap.size w1 W) => (hi.below h).more h.size
  have HW := Lib.hid fun W (h : Below w1.heap.size w1 W) => wrts_row.1 (((wrts_row.2 hwr).below h).more h.size)
  have HX := Lib.hid (Held.new w1 #[.slice A1 its.length c1] 40)
  have HL := Lib.hid (belowOne w1 (.cells #[.slice A1 its.length c1] 40))
  clear hb hi hwr HV
  obtain ⟨R, hR⟩ : ∃ R, stoDo its ws = R := ⟨_, rfl⟩
  have HR := Lib.hid hR
  clear hR
  go_wp2_with fail
  refine (implStoDo_any _ _ _ its ws (HI.out _ HL.out) (HW.out _ HL.out)).mono ?_
  rintro e w2 ⟨u2, rfl, ho2, hb2⟩
  rw [HR.out] at ho2
  obtain ⟨A3, c3, hf3, -, -⟩ := ho2.row.form
  subst hf3
  replace HB := Lib.hid ((belowNext HB.out hb2).alloc (belowNext HB.out hb2).size (.cells #[.slice A3 R.length c3] 40))
  replace HL := Lib.hid ((belowNext HL.out hb2).alloc (belowNext HL.out hb2).size (.cells #[.slice A3 R.length c3] 40))
  replace HX := Lib.hid ((HX.out.below hb2 HX.out.1).after (.cells #[.slice A3 R.length c3] 40))
  have HY := Lib.hid (Held.new w2 #[.slice A3 R.length c3] 40)
  have HO := Lib.hid (items_row.1 ((ho2.below (belowOne w2 (.cells #[.slice A3 R.length c3] 40))).row))
  clear ho2 hb2
  -- what stands from here on: nothing more is written into what is there
  have KC := Lib.hid fun W (h : Below (w2.alloc (.cells #[.slice A3 R.length c3] 40)).heap.size (w2.alloc (.cells #[.slice A3 R.length c3] 40)) W) => And.intro ((HX.out.below h HX.out.1).of 0 _ rfl) ((HY.out.below h HY.out.1).of 0 _ rfl)
  have KI := Lib.hid fun W (h : Below (w2.alloc (.cells #[.slice A3 R.length c3] 40)).heap.size (w2.alloc (.cells #[.slice A3 R.length c3] 40)) W) => HI.out W (HL.out.trans (h.mono HL.out.size))
  have KW := Lib.hid fun W (h : Below (w2.alloc (.cells #[.slice A3 R.length c3] 40)).heap.size (w2.alloc (.cells #[.slice A3 R.length c3] 40)) W) => HW.out W (HL.out.trans (h.mono HL.out.size))
  have KB := Lib.hid fun W (h : Below (w2.alloc (.cells #[.slice A3 R.length c3] 40)).heap.size (w2.alloc (.cells #[.slice A3 R.length c3] 40)) W) => HB.out.trans (h.mono HB.out.size)
  have KR := Lib.hid fun W (h : Below (w2.alloc (.cells #[.slice A3 R.length c3] 40)).heap.size (w2.alloc (.cells #[.slice A3 R.length c3] 40)) W) => (HO.out.below h).more h.size
  clear HB HL HX HY HO HI HW
  have k0 : (w2.alloc (.cells #[.slice A3 R.length c3] 40)).drew.cell? ⟨w2.heap.size, 0, none⟩ = some (.slice A3 R.length c3) ∧ (w2.alloc (.cells #[.slice A3 R.length c3] 40)).drew.cell? ⟨w1.heap.size, 0, none⟩ = some (.slice A1 its.length c1) := And.intro (KC.out _ (Below.refl _ _)).2 (KC.out _ (Below.refl _ _)).1
  go_wp2
  refine wp_region_held_drew (S := (fun w' => w'.cell? ⟨w2.heap.size, 0, none⟩ = some (.slice A3 R.length c3) ∧ w'.cell? ⟨w1.heap.size, 0, none⟩ = some (.slice A1 its.length c1))) (by kernel_rfl) ?hSr (fun hHeldr => ?str)
  case hSr => (first | (dsimp only; (first | with_reducible exact k2 | with_reducible exact k1 | exact k0)) | (first | with_reducible exact k2 | with_reducible exact k1 | exact k0))
  refine take_first 0 28 (v := ?vr_1) rfl rfl (by kernel_rfl) (by kernel_rfl) (by kernel_rfl) (fun _ _ _ h => h) (by rfl) ?yr_1 (by assumption) ?rr_1
  case yr_1 => (intro w hSw; (try dsimp only at hSw); go_simp; (try with_reducible rfl))
  simp only [Act.put, List.setIfInBounds_toArray, List.set_cons_zero, List.set_cons_succ]
  refine take_first 1 29 (v := ?vr_2) rfl rfl (by kernel_rfl) (by kernel_rfl) (by kernel_rfl) (fun _ _ _ h => h) (by rfl) ?yr_2 (by assumption) ?rr_2
  case yr_2 => (intro w hSw; (try dsimp only at hSw); go_simp; (try with_reducible rfl))
  simp only [Act.put, List.setIfInBounds_toArray, List.set_cons_zero, List.set_cons_succ]
  refine take_first 2 30 (v := ?vr_3) rfl rfl (by kernel_rfl) (by kernel_rfl) (by kernel_rfl) (fun _ _ _ h => h) (by rfl) ?yr_3 (by assumption) ?rr_3
  case yr_3 => (intro w hSw; (try dsimp only at hSw); go_simp; (try with_reducible rfl))
  simp only [Act.put, List.setIfInBounds_toArray, List.set_cons_zero, List.set_cons_succ]
  refine wpAnyH_ready (rs := [3]) (by kernel_rfl) (by simp) ?_
  refine AllReadyH.cons (o := _) rfl (fun Kr_4 hKr_4 => ?cr_4) ?mr_4
  case mr_4 => exact AllReadyH.nil
  go_simp
  refine (specStoDo_any _ _ _ its ws (KI.out _ (Below.refl _ _).drew) (KW.out _ (Below.refl _ _).drew)).mono ?_; rintro e w3 ⟨u3, rfl, ho3, hb3⟩; rw [HR.out] at ho3; have HP3 := Lib.hid ho3.items; have HQ3 := Lib.hid (show Below (w2.alloc (.cells #[.slice A3 R.length c3] 40)).heap.size (w2.alloc (.cells #[.slice A3 R.length c3] 40)) w3 from (Below.refl _ (w2.alloc (.cells #[.slice A3 R.length c3] 40))).drew.trans hb3); have k1 := And.intro (KC.out _ HQ3.out).2 (KC.out _ HQ3.out).1; clear hb3 ho3
  go_wp2_with fail
  refine hKr_4.out _ _ ?kr_4 (fun hHeldr_4 => ?dr_4)
  case kr_4 => (first | (dsimp only; (first | with_reducible exact k2 | with_reducible exact k1 | exact k0)) | (first | with_reducible exact k2 | with_reducible exact k1 | exact k0))
  clear hKr_4 Kr_4
  refine wpAnyH_ready (rs := [4]) (by kernel_rfl) (by simp) ?_
  refine AllReadyH.cons (o := _) rfl (fun Kr_5 hKr_5 => ?cr_5) ?mr_5
  case mr_5 => exact AllReadyH.nil
  go_simp
  refine (jaSto_same _ _ _ R (KR.out _ HQ3.out) HP3.out).mono ?_; rintro e w4 ⟨rfl, hb4⟩; have HQ4 := Lib.hid (belowNext HQ3.out hb4); have k2 := And.intro (KC.out _ HQ4.out).2 (KC.out _ HQ4.out).1; clear hb4
  go_wp2_with fail
  refine hKr_5.out _ _ ?kr_5 (fun hHeldr_5 => ?dr_5)
  case kr_5 => (first | (dsimp only; (first | with_reducible exact k2 | with_reducible exact k1 | exact k0)) | (first | with_reducible exact k2 | with_reducible exact k1 | exact k0))
  clear hKr_5 Kr_5
  refine take_first 5 33 (v := ?vr_6) rfl rfl (by kernel_rfl) (by kernel_rfl) (by kernel_rfl) (fun _ _ _ h => h) (by rfl) ?yr_6 (by assumption) ?rr_6
  case yr_6 => (intro w hSw; (try dsimp only at hSw); go_simp; (try with_reducible rfl))
  simp only [Act.put, List.setIfInBounds_toArray, List.set_cons_zero, List.set_cons_succ]
  refine wpAnyH_done (by kernel_rfl) ?er _
  clear k0 k1 k2 HQ3 HP3
  have x3 := (KC.out _ HQ4.out).1
  go_wp2_with fail
  refine (specStoOk_any _ _ its (KI.out _ HQ4.out)).mono ?_
  rintro e w5 ⟨rfl, hb⟩
  have HQ5 := Lib.hid (belowNext HQ4.out hb)
  clear hb HQ4 x3
  cases hs : stoB its with
  | false =>
    have HR0 := Lib.hid (show R = [] from HR.out.symm.trans (doNot ws hs))
    have hr0 : (R.length : Int) = 0 := by rw [HR0.out]; rfl
    have y5 := (KC.out _ HQ5.out).2
    go_wp2_with fail
    refine (jaOk_any _).mono ?_
    rintro e w6 ⟨rfl, hb⟩
    have HQ6 := Lib.hid (belowNext HQ5.out hb)
    clear hb
    go_wp2
    go_ret
    exact ⟨rfl, KB.out _ HQ6.out⟩
  | true =>
    have HS := Lib.hid hs
    have HRs : Hid (stoB R = true) := Lib.hid (by rw [← HR.out]; exact stoDo_sto its ws)
    clear hs
    go_wp2
    go_loopw [6] (fun i wr => ∃ k : Nat, k ≤ ws.length ∧ i = .int .i64 k ∧ (∀ j x, j < k → ws[j]? = some x → x.ok = true) ∧ Below (w2.alloc (.cells #[.slice A3 R.length c3] 40)).heap.size (w2.alloc (.cells #[.slice A3 R.length c3] 40)) wr) (fun i _ => ws.length - (intOf i).toNat)
    case atStart => exact ⟨0, Nat.zero_le _, rfl, fun j _ h => absurd h (by omega), HQ5.out⟩
    case round =>
      clear HQ5
      obtain ⟨k, hk, rfl, he, hb⟩ := hrel
      have HQ := Lib.hid hb
      clear hb
      by_cases hlt : k < ws.length
      · obtain ⟨b, off, c', x, p, e1, hx, hB, hks, c0, c1', c2', hp⟩ := (KW.out _ HQ.out).at_ (k := k) hlt
        obtain ⟨A', c'', rfl, -, -⟩ := hp.form
        injection e1 with e1a e1b e1c
        subst e1a
        have HP := Lib.hid hp
        have HX := Lib.hid hx
        have HE := Lib.hid he
        clear e1b e1c hp hx he
        rcases hok : x.ok
        · have HR0 := Lib.hid (show R = [] from HR.out.symm.trans (doneBad HX.out hok))
          have hp' : wrtB x.key x.del x.val = false := hok
          clear hok
          go_wp2_with fail
          refine (specWrtOk_any _ _ _ _ _ hks HP.out).mono ?_
          rintro e w6 ⟨rfl, hb⟩
          rw [hp']
          have HQ6 := Lib.hid (belowNext HQ.out hb)
          clear hb
          have y5 := (KC.out _ HQ6.out).2
          have hr0 : (R.length : Int) = 0 := by rw [HR0.out]; rfl
          go_wp2_with fail
          refine (jaOk_any _).mono ?_
          rintro e w7 ⟨rfl, hb⟩
          have HQ7 := Lib.hid (belowNext HQ6.out hb)
          clear hb
          go_wp2
          go_ret
          exact ⟨rfl, KB.out _ HQ7.out⟩
        · have hp' : wrtB x.key x.del x.val = true := hok
          have HF : Hid (∀ j y, j < k + 1 → ws[j]? = some y → y.ok = true) := Lib.hid fun j y hj hy => by
            rcases Nat.lt_or_ge j k with h1 | h1
            · exact HE.out j y h1 hy
            · have : j = k := by omega
              subst this
              rw [HX.out] at hy
              injection hy with hy
              rw [← hy]; exact hok
          clear hok
          go_wp2_with fail
          refine (specWrtOk_any _ _ _ _ _ hks HP.out).mono ?_
          rintro e w6 ⟨rfl, hb⟩
          rw [hp']
          have HQ6 := Lib.hid (belowNext HQ.out hb)
          clear hb
          go_wp2
          go_roundw
          case rel => exact ⟨k + 1, by omega, by go_num, HF.out, HQ6.out⟩
          case measure => simp [intOf]; omega
      · have HOk : Hid (∀ x ∈ ws, x.ok = true) := Lib.hid fun x hx => by
          obtain ⟨j, hj, rfl⟩ := List.getElem_of_mem hx
          exact he j _ (by omega) (List.getElem?_eq_getElem hj)
        clear he
        have x3 := (KC.out _ HQ.out).1
        by_cases hsum : (ws.length : Int) + (its.length : Int) ≤ 40
        · have HLk : Hid (∀ key, look R key = lookW ws key (look its key)) := Lib.hid (by rw [← HR.out]; exact (stoDo_some HS.out HOk.out (by omega)).2.2)
          go_wp2
          clear x3
          go_loopw [7] (fun i wr => ∃ k : Nat, k ≤ ws.length ∧ i = .int .i64 k ∧ Below (w2.alloc (.cells #[.slice A3 R.length c3] 40)).heap.size (w2.alloc (.cells #[.slice A3 R.length c3] 40)) wr) (fun i _ => ws.length - (intOf i).toNat)
          case atStart => exact ⟨0, Nat.zero_le _, rfl, HQ.out⟩
          case round =>
            clear HQ
            obtain ⟨k, hk, rfl, hb⟩ := hrel
            have HQ := Lib.hid hb
            clear hb
            by_cases hlt : k < ws.length
            · obtain ⟨x, hx⟩ : ∃ x, ws[k]? = some x := ⟨_, List.getElem?_eq_getElem hlt⟩
              have HX := Lib.hid hx
              clear hx
              go_wp2
              go_loopw [8, 9] (fun l i wm => ∃ m : Nat, k + 1 ≤ m ∧ m ≤ ws.length ∧ i = .int .i64 m ∧ l = .bool (lastTo ws x.key k m) ∧ Below (w2.alloc (.cells #[.slice A3 R.length c3] 40)).heap.size (w2.alloc (.cells #[.slice A3 R.length c3] 40)) wm) (fun _ i _ => ws.length - (intOf i).toNat)
              case atStart => exact ⟨k + 1, Nat.le_refl _, hlt, by go_num, by rw [lastTo_start], HQ.out⟩
              case round =>
                clear HQ
                obtain ⟨m, hm1, hm2, rfl, rfl, hb⟩ := hrel
                have HQ := Lib.hid hb
                clear hb
                by_cases hlm : m < ws.length
                · obtain ⟨b, off, d, y, p, e1, hy, hB, hks2, c0, -, -, -⟩ := (KW.out _ HQ.out).at_ (k := m) hlm
                  obtain ⟨b', off', d', x', p', e1', hx', hB', -, c0', -, -, -⟩ := (KW.out _ HQ.out).at_ (k := k) hlt
                  obtain rfl : x' = x := by rw [HX.out] at hx'; injection hx' with e; exact e.symm
                  injection e1 with e1a e1b e1c
                  injection e1' with e2a e2b e2c
                  subst e1a
                  injection e2a with e2a
                  injection e2a with e2a e2d
                  subst e2a e2d
                  have HSt := Lib.hid (lastTo_step (key := x'.key) hm1 hy)
                  have HB0 := Lib.hid (And.intro c0 c0')
                  have f1 : (0 : Int) ≤ (m : Int) := by omega
                  have f2 : (m : Int) < (ws.length : Int) := by omega
                  have f3 : (0 : Int) ≤ (k : Int) := by omega
                  have f4 : (k : Int) < (ws.length : Int) := by omega
                  have k0 := HB0.out
                  clear e1b e1c e2b e2c hy c0 c0' hx'
                  cases hl : lastTo ws x'.key k m with
                  | true =>
                    go_wp2
                    refine wp_region_held_drew (S := (fun w' => w'.cell? ⟨b, off + m * 3, none⟩ = some (.string y.key) ∧ w'.cell? ⟨b, off + k * 3, none⟩ = some (.string x'.key))) (by kernel_rfl) ?hSu1 (fun hHeldu1 => ?stu1)
                    case hSu1 => (first | (dsimp only; (exact k0)) | (exact k0))
                    refine take_first 0 86 (v := ?vu1_1) rfl rfl (by kernel_rfl) (by kernel_rfl) (by kernel_rfl) (fun _ _ _ h => h) (by rfl) ?yu1_1 (by assumption) ?ru1_1
                    case yu1_1 => (intro w hSw; (try dsimp only at hSw); go_simp; (try with_reducible rfl))
                    simp only [Act.put, List.setIfInBounds_toArray, List.set_cons_zero, List.set_cons_succ]
                    refine take_first 1 87 (v := ?vu1_2) rfl rfl (by kernel_rfl) (by kernel_rfl) (by kernel_rfl) (fun _ _ _ h => h) (by rfl) ?yu1_2 (by assumption) ?ru1_2
                    case yu1_2 => (intro w hSw; (try dsimp only at hSw); go_simp; (try with_reducible rfl))
                    simp only [Act.put, List.setIfInBounds_toArray, List.set_cons_zero, List.set_cons_succ]
                    refine take_first 2 88 (v := ?vu1_3) rfl rfl (by kernel_rfl) (by kernel_rfl) (by kernel_rfl) (fun _ _ _ h => h) (by rfl) ?yu1_3 (by assumption) ?ru1_3
                    case yu1_3 => (intro w hSw; (try dsimp only at hSw); go_simp; (try with_reducible rfl))
                    simp only [Act.put, List.setIfInBounds_toArray, List.set_cons_zero, List.set_cons_succ]
                    refine take_first 3 89 (v := ?vu1_4) rfl rfl (by kernel_rfl) (by kernel_rfl) (by kernel_rfl) (fun _ _ _ h => h) (by rfl) ?yu1_4 (by assumption) ?ru1_4
                    case yu1_4 => (intro w hSw; (try dsimp only at hSw); go_simp; (try with_reducible rfl))
                    simp only [Act.put, List.setIfInBounds_toArray, List.set_cons_zero, List.set_cons_succ]
                    refine take_first 4 90 (v := ?vu1_5) rfl rfl (by kernel_rfl) (by kernel_rfl) (by kernel_rfl) (fun _ _ _ h => h) (by rfl) ?yu1_5 (by assumption) ?ru1_5
                    case yu1_5 => (intro w hSw; (try dsimp only at hSw); go_simp; (try with_reducible rfl))
                    simp only [Act.put, List.setIfInBounds_toArray, List.set_cons_zero, List.set_cons_succ]
                    refine take_first 5 91 (v := ?vu1_6) rfl rfl (by kernel_rfl) (by kernel_rfl) (by kernel_rfl) (fun _ _ _ h => h) (by rfl) ?yu1_6 (by assumption) ?ru1_6
                    case yu1_6 => (intro w hSw; (try dsimp only at hSw); go_simp; (try with_reducible rfl))
                    simp only [Act.put, List.setIfInBounds_toArray, List.set_cons_zero, List.set_cons_succ]
                    refine take_first 6 92 (v := ?vu1_7) rfl rfl (by kernel_rfl) (by kernel_rfl) (by kernel_rfl) (fun _ _ _ h => h) (by rfl) ?yu1_7 (by assumption) ?ru1_7
                    case yu1_7 => (intro w hSw; (try dsimp only at hSw); go_simp; (try with_reducible rfl))
                    simp only [Act.put, List.setIfInBounds_toArray, List.set_cons_zero, List.set_cons_succ]
                    refine take_first 7 93 (v := ?vu1_8) rfl rfl (by kernel_rfl) (by kernel_rfl) (by kernel_rfl) (fun _ _ _ h => h) (by rfl) ?yu1_8 (by assumption) ?ru1_8
                    case yu1_8 => (intro w hSw; (try dsimp only at hSw); go_simp; (try with_reducible rfl))
                    simp only [Act.put, List.setIfInBounds_toArray, List.set_cons_zero, List.set_cons_succ]
                    refine take_first 8 94 (v := ?vu1_9) rfl rfl (by kernel_rfl) (by kernel_rfl) (by kernel_rfl) (fun _ _ _ h => h) (by rfl) ?yu1_9 (by assumption) ?ru1_9
                    case yu1_9 => (intro w hSw; (try dsimp only at hSw); go_simp; (try with_reducible rfl))
                    simp only [Act.put, List.setIfInBounds_toArray, List.set_cons_zero, List.set_cons_succ]
                    refine take_first 9 95 (v := ?vu1_10) rfl rfl (by kernel_rfl) (by kernel_rfl) (by kernel_rfl) (fun _ _ _ h => h) (by rfl) ?yu1_10 (by assumption) ?ru1_10
                    case yu1_10 => (intro w hSw; (try dsimp only at hSw); go_simp; (try with_reducible rfl))
                    simp only [Act.put, List.setIfInBounds_toArray, List.set_cons_zero, List.set_cons_succ]
                    refine take_first 10 96 (v := ?vu1_11) rfl rfl (by kernel_rfl) (by kernel_rfl) (by kernel_rfl) (fun _ _ _ h => h) (by rfl) ?yu1_11 (by assumption) ?ru1_11
                    case yu1_11 => (intro w hSw; (try dsimp only at hSw); go_simp; (try with_reducible rfl))
                    simp only [Act.put, List.setIfInBounds_toArray, List.set_cons_zero, List.set_cons_succ]
                    refine take_first 11 97 (v := ?vu1_12) rfl rfl (by kernel_rfl) (by kernel_rfl) (by kernel_rfl) (fun _ _ _ h => h) (by rfl) ?yu1_12 (by assumption) ?ru1_12
                    case yu1_12 => (intro w hSw; (try dsimp only at hSw); go_simp; (try with_reducible rfl))
                    simp only [Act.put, List.setIfInBounds_toArray, List.set_cons_zero, List.set_cons_succ]
                    refine take_first 12 98 (v := ?vu1_13) rfl rfl (by kernel_rfl) (by kernel_rfl) (by kernel_rfl) (fun _ _ _ h => h) (by rfl) ?yu1_13 (by assumption) ?ru1_13
                    case yu1_13 => (intro w hSw; (try dsimp only at hSw); go_simp; (try with_reducible rfl))
                    simp only [Act.put, List.setIfInBounds_toArray, List.set_cons_zero, List.set_cons_succ]
                    refine take_first 13 99 (v := ?vu1_14) rfl rfl (by kernel_rfl) (by kernel_rfl) (by kernel_rfl) (fun _ _ _ h => h) (by rfl) ?yu1_14 (by assumption) ?ru1_14
                    case yu1_14 => (intro w hSw; (try dsimp only at hSw); go_simp; (try with_reducible rfl))
                    simp only [Act.put, List.setIfInBounds_toArray, List.set_cons_zero, List.set_cons_succ]
                    refine take_first 14 8 (v := ?vu1_15) rfl rfl (by kernel_rfl) (by kernel_rfl) (by kernel_rfl) (fun _ _ _ h => h) (by rfl) ?yu1_15 (by assumption) ?ru1_15
                    case yu1_15 => (intro w hSw; (try dsimp only at hSw); go_simp; (try with_reducible rfl))
                    simp only [Act.put, List.setIfInBounds_toArray, List.set_cons_zero, List.set_cons_succ]
                    refine wpAnyH_done (by kernel_rfl) ?eu1 _
                    clear k0
                    go_wp2
                    go_roundw
                    case rel => exact ⟨m + 1, by omega, by omega, by go_num, by rw [HSt.out, hl]; simp [eq_toList], HQ.out.drew⟩
                    case measure => simp [intOf]; omega
                  | false =>
                    go_wp2
                    refine wp_region_held_drew (S := (fun w' => w'.cell? ⟨b, off + m * 3, none⟩ = some (.string y.key) ∧ w'.cell? ⟨b, off + k * 3, none⟩ = some (.string x'.key))) (by kernel_rfl) ?hSu2 (fun hHeldu2 => ?stu2)
                    case hSu2 => (first | (dsimp only; (exact k0)) | (exact k0))
                    refine take_first 0 86 (v := ?vu2_1) rfl rfl (by kernel_rfl) (by kernel_rfl) (by kernel_rfl) (fun _ _ _ h => h) (by rfl) ?yu2_1 (by assumption) ?ru2_1
                    case yu2_1 => (intro w hSw; (try dsimp only at hSw); go_simp; (try with_reducible rfl))
                    simp only [Act.put, List.setIfInBounds_toArray, List.set_cons_zero, List.set_cons_succ]
                    refine take_first 1 87 (v := ?vu2_2) rfl rfl (by kernel_rfl) (by kernel_rfl) (by kernel_rfl) (fun _ _ _ h => h) (by rfl) ?yu2_2 (by assumption) ?ru2_2
                    case yu2_2 => (intro w hSw; (try dsimp only at hSw); go_simp; (try with_reducible rfl))
                    simp only [Act.put, List.setIfInBounds_toArray, List.set_cons_zero, List.set_cons_succ]
                    refine pass_over 2 88 rfl rfl (by kernel_rfl) (by kernel_rfl) (by kernel_rfl) (fun _ _ _ h => h) (by rfl) (by assumption) ?ru2_3
                    simp only [Act.put, List.setIfInBounds_toArray, List.set_cons_zero, List.set_cons_succ]
                    refine pass_over 3 89 rfl rfl (by kernel_rfl) (by kernel_rfl) (by kernel_rfl) (fun _ _ _ h => h) (by rfl) (by assumption) ?ru2_4
                    simp only [Act.put, List.setIfInBounds_toArray, List.set_cons_zero, List.set_cons_succ]
                    refine pass_over 4 90 rfl rfl (by kernel_rfl) (by kernel_rfl) (by kernel_rfl) (fun _ _ _ h => h) (by rfl) (by assumption) ?ru2_5
                    simp only [Act.put, List.setIfInBounds_toArray, List.set_cons_zero, List.set_cons_succ]
                    refine pass_over 5 91 rfl rfl (by kernel_rfl) (by kernel_rfl) (by kernel_rfl) (fun _ _ _ h => h) (by rfl) (by assumption) ?ru2_6
                    simp only [Act.put, List.setIfInBounds_toArray, List.set_cons_zero, List.set_cons_succ]
                    refine pass_over 6 92 rfl rfl (by kernel_rfl) (by kernel_rfl) (by kernel_rfl) (fun _ _ _ h => h) (by rfl) (by assumption) ?ru2_7
                    simp only [Act.put, List.setIfInBounds_toArray, List.set_cons_zero, List.set_cons_succ]
                    refine pass_over 7 93 rfl rfl (by kernel_rfl) (by kernel_rfl) (by kernel_rfl) (fun _ _ _ h => h) (by rfl) (by assumption) ?ru2_8
                    simp only [Act.put, List.setIfInBounds_toArray, List.set_cons_zero, List.set_cons_succ]
                    refine pass_over 8 94 rfl rfl (by kernel_rfl) (by kernel_rfl) (by kernel_rfl) (fun _ _ _ h => h) (by rfl) (by assumption) ?ru2_9
                    simp only [Act.put, List.setIfInBounds_toArray, List.set_cons_zero, List.set_cons_succ]
                    refine pass_over 9 95 rfl rfl (by kernel_rfl) (by kernel_rfl) (by kernel_rfl) (fun _ _ _ h => h) (by rfl) (by assumption) ?ru2_10
                    simp only [Act.put, List.setIfInBounds_toArray, List.set_cons_zero, List.set_cons_succ]
                    refine pass_over 10 96 rfl rfl (by kernel_rfl) (by kernel_rfl) (by kernel_rfl) (fun _ _ _ h => h) (by rfl) (by assumption) ?ru2_11
                    simp only [Act.put, List.setIfInBounds_toArray, List.set_cons_zero, List.set_cons_succ]
                    refine pass_over 11 97 rfl rfl (by kernel_rfl) (by kernel_rfl) (by kernel_rfl) (fun _ _ _ h => h) (by rfl) (by assumption) ?ru2_12
                    simp only [Act.put, List.setIfInBounds_toArray, List.set_cons_zero, List.set_cons_succ]
                    refine pass_over 12 98 rfl rfl (by kernel_rfl) (by kernel_rfl) (by kernel_rfl) (fun _ _ _ h => h) (by rfl) (by assumption) ?ru2_13
                    simp only [Act.put, List.setIfInBounds_toArray, List.set_cons_zero, List.set_cons_succ]
                    refine take_first 13 99 (v := ?vu2_14) rfl rfl (by kernel_rfl) (by kernel_rfl) (by kernel_rfl) (fun _ _ _ h => h) (by rfl) ?yu2_14 (by assumption) ?ru2_14
                    case yu2_14 => (intro w hSw; (try dsimp only at hSw); go_simp; (try with_reducible rfl))
                    simp only [Act.put, List.setIfInBounds_toArray, List.set_cons_zero, List.set_cons_succ]
                    refine take_first 14 8 (v := ?vu2_15) rfl rfl (by kernel_rfl) (by kernel_rfl) (by kernel_rfl) (fun _ _ _ h => h) (by rfl) ?yu2_15 (by assumption) ?ru2_15
                    case yu2_15 => (intro w hSw; (try dsimp only at hSw); go_simp; (try with_reducible rfl))
                    simp only [Act.put, List.setIfInBounds_toArray, List.set_cons_zero, List.set_cons_succ]
                    refine wpAnyH_done (by kernel_rfl) ?eu2 _
                    clear k0
                    go_wp2
                    go_roundw
                    case rel => exact ⟨m + 1, by omega, by omega, by go_num, by rw [HSt.out, hl]; rfl, HQ.out.drew⟩
                    case measure => simp [intOf]; omega
                · have hml : m = ws.length := by omega
                  subst hml
                  obtain ⟨b, off, d, x', p, e1, hx', hB, hks2, c0, c1d, c2v, hp⟩ := (KW.out _ HQ.out).at_ (k := k) hlt
                  obtain rfl : x' = x := by rw [HX.out] at hx'; injection hx' with e; exact e.symm
                  obtain ⟨Ap, cp, rfl, -, -⟩ := hp.form
                  injection e1 with e1a e1b e1c
                  subst e1a
                  have y5 := (KC.out _ HQ.out).2
                  have k0 := And.intro y5 c0
                  have hgo := getOk_yes (key := x'.key) HRs.out
                  have f3 : (0 : Int) ≤ (k : Int) := by omega
                  have f4 : (k : Int) < (ws.length : Int) := by omega
                  clear e1b e1c hx' hp y5 c0 c1d c2v
                  go_wp2
                  refine wp_region_held_drew (S := (fun w' => w'.cell? ⟨w2.heap.size, 0, none⟩ = some (.slice A3 R.length c3) ∧ w'.cell? ⟨b, off + k * 3, none⟩ = some (.string x'.key))) (by kernel_rfl) ?hSg (fun hHeldg => ?stg)
                  case hSg => (first | (dsimp only; (first | with_reducible exact k1 | exact k0)) | (first | with_reducible exact k1 | exact k0))
                  refine take_first 0 101 (v := ?vg_1) rfl rfl (by kernel_rfl) (by kernel_rfl) (by kernel_rfl) (fun _ _ _ h => h) (by rfl) ?yg_1 (by assumption) ?rg_1
                  case yg_1 => (intro w hSw; (try dsimp only at hSw); go_simp; (try with_reducible rfl))
                  simp only [Act.put, List.setIfInBounds_toArray, List.set_cons_zero, List.set_cons_succ]
                  refine take_first 1 102 (v := ?vg_2) rfl rfl (by kernel_rfl) (by kernel_rfl) (by kernel_rfl) (fun _ _ _ h => h) (by rfl) ?yg_2 (by assumption) ?rg_2
                  case yg_2 => (intro w hSw; (try dsimp only at hSw); go_simp; (try with_reducible rfl))
                  simp only [Act.put, List.setIfInBounds_toArray, List.set_cons_zero, List.set_cons_succ]
                  refine take_first 2 103 (v := ?vg_3) rfl rfl (by kernel_rfl) (by kernel_rfl) (by kernel_rfl) (fun _ _ _ h => h) (by rfl) ?yg_3 (by assumption) ?rg_3
                  case yg_3 => (intro w hSw; (try dsimp only at hSw); go_simp; (try with_reducible rfl))
                  simp only [Act.put, List.setIfInBounds_toArray, List.set_cons_zero, List.set_cons_succ]
                  refine take_first 3 104 (v := ?vg_4) rfl rfl (by kernel_rfl) (by kernel_rfl) (by kernel_rfl) (fun _ _ _ h => h) (by rfl) ?yg_4 (by assumption) ?rg_4
                  case yg_4 => (intro w hSw; (try dsimp only at hSw); go_simp; (try with_reducible rfl))
                  simp only [Act.put, List.setIfInBounds_toArray, List.set_cons_zero, List.set_cons_succ]
                  refine take_first 4 105 (v := ?vg_5) rfl rfl (by kernel_rfl) (by kernel_rfl) (by kernel_rfl) (fun _ _ _ h => h) (by rfl) ?yg_5 (by assumption) ?rg_5
                  case yg_5 => (intro w hSw; (try dsimp only at hSw); go_simp; (try with_reducible rfl))
                  simp only [Act.put, List.setIfInBounds_toArray, List.set_cons_zero, List.set_cons_succ]
                  refine take_first 5 106 (v := ?vg_6) rfl rfl (by kernel_rfl) (by kernel_rfl) (by kernel_rfl) (fun _ _ _ h => h) (by rfl) ?yg_6 (by assumption) ?rg_6
                  case yg_6 => (intro w hSw; (try dsimp only at hSw); go_simp; (try with_reducible rfl))
                  simp only [Act.put, List.setIfInBounds_toArray, List.set_cons_zero, List.set_cons_succ]
                  refine wpAnyH_ready (rs := [6]) (by kernel_rfl) (by simp) ?_
                  refine AllReadyH.cons (o := _) rfl (fun Kg_7 hKg_7 => ?cg_7) ?mg_7
                  case mg_7 => exact AllReadyH.nil
                  go_simp
                  refine (implStoGet_any _ _ R x'.key (KR.out _ HQ.out.drew)).mono ?_; rintro e w7 ⟨u7, rfl, ho7, hb7⟩; rw [hgo]; obtain ⟨A7, c7, hf7, -, -⟩ := ho7.ints.form; subst hf7; have HQ7 := Lib.hid (show Below (w2.alloc (.cells #[.slice A3 R.length c3] 40)).heap.size (w2.alloc (.cells #[.slice A3 R.length c3] 40)) w7 from HQ.out.drew.trans (hb7.mono HQ.out.size)); have HG7 := Lib.hid ho7.ints; have k1 : w7.cell? ⟨w2.heap.size, 0, none⟩ = some (.slice A3 R.length c3) ∧ w7.cell? ⟨b, off + k * 3, none⟩ = some (.string x'.key) := ⟨(KC.out _ HQ7.out).2, (hb7.cell (p := ⟨b, off + k * 3, none⟩) hB).trans k0.2⟩; clear ho7 hb7
                  go_wp2_with fail
                  refine hKg_7.out _ _ ?kg_7 (fun hHeldg_7 => ?dg_7)
                  case kg_7 => (first | (dsimp only; (first | with_reducible exact k1 | exact k0)) | (first | with_reducible exact k1 | exact k0))
                  clear hKg_7 Kg_7
                  refine take_first 7 100 (v := ?vg_8) rfl rfl (by kernel_rfl) (by kernel_rfl) (by kernel_rfl) (fun _ _ _ h => h) (by rfl) ?yg_8 (by assumption) ?rg_8
                  case yg_8 => (intro w hSw; (try dsimp only at hSw); go_simp; (try with_reducible rfl))
                  simp only [Act.put, List.setIfInBounds_toArray, List.set_cons_zero, List.set_cons_succ]
                  refine take_first 8 108 (v := ?vg_9) rfl rfl (by kernel_rfl) (by kernel_rfl) (by kernel_rfl) (fun _ _ _ h => h) (by rfl) ?yg_9 (by assumption) ?rg_9
                  case yg_9 => (intro w hSw; (try dsimp only at hSw); go_simp; (try with_reducible rfl))
                  simp only [Act.put, List.setIfInBounds_toArray, List.set_cons_zero, List.set_cons_succ]
                  refine take_first 9 109 (v := ?vg_10) rfl rfl (by kernel_rfl) (by kernel_rfl) (by kernel_rfl) (fun _ _ _ h => h) (by rfl) ?yg_10 (by assumption) ?rg_10
                  case yg_10 => (intro w hSw; (try dsimp only at hSw); go_simp; (try with_reducible rfl))
                  simp only [Act.put, List.setIfInBounds_toArray, List.set_cons_zero, List.set_cons_succ]
                  refine take_first 10 10 (v := ?vg_11) rfl rfl (by kernel_rfl) (by kernel_rfl) (by kernel_rfl) (fun _ _ _ h => h) (by rfl) ?yg_11 (by assumption) ?rg_11
                  case yg_11 => (intro w hSw; (try dsimp only at hSw); go_simp; (try with_reducible rfl))
                  simp only [Act.put, List.setIfInBounds_toArray, List.set_cons_zero, List.set_cons_succ]
                  refine take_first 11 11 (v := ?vg_12) rfl rfl (by kernel_rfl) (by kernel_rfl) (by kernel_rfl) (fun _ _ _ h => h) (by rfl) ?yg_12 (by assumption) ?rg_12
                  case yg_12 => (intro w hSw; (try dsimp only at hSw); go_simp; (try with_reducible rfl))
                  simp only [Act.put, List.setIfInBounds_toArray, List.set_cons_zero, List.set_cons_succ]
                  refine wpAnyH_done (by kernel_rfl) ?eg _
                  clear k0 k1 hgo
                  obtain ⟨b2, off2, d2, x2, p2, e2, hx2, hB2, -, -, c1d, c2v, hp2⟩ := (KW.out _ HQ7.out).at_ (k := k) hlt
                  obtain rfl : x2 = x' := by rw [HX.out] at hx2; injection hx2 with e; exact e.symm
                  obtain ⟨Ap2, cp2, rfl, -, -⟩ := hp2.form
                  injection e2 with e2a e2b e2c
                  injection e2a with e2a
                  injection e2a with e2a e2d
                  subst e2a e2d
                  have HP2 := Lib.hid hp2
                  clear e2b e2c hx2 hp2
                  cases hl : lastTo ws x2.key k ws.length with
                  | false =>
                    go_wp2
                    go_roundw
                    case rel => exact ⟨k + 1, by omega, by go_num, HQ7.out⟩
                    case measure => simp [intOf]; omega
                  | true =>
                    have HLo := Lib.hid ((HLk.out x2.key).trans (lastW HX.out hl _))
                    cases hd : x2.del with
                    | true =>
                      have hk7 : lookOk R x2.key = false := lookOk_none (by rw [HLo.out, hd]; rfl)
                      rw [hk7]
                      go_wp2
                      go_roundw
                      case rel => exact ⟨k + 1, by omega, by go_num, HQ7.out⟩
                      case measure => simp [intOf]; omega
                    | false =>
                      have hls : look R x2.key = some ⟨x2.key, x2.val⟩ := by rw [HLo.out, hd]; rfl
                      have hk7 : lookOk R x2.key = true := lookOk_some hls
                      have hv7 : getV R x2.key = x2.val := by unfold getV; rw [if_pos HRs.out, lookV_some hls]
                      rw [hk7]
                      rw [hv7] at HG7 ⊢
                      go_wp2_with fail
                      refine (jaInts_any _ _ _ _ x2.val x2.val HG7.out HP2.out).mono ?_
                      rintro e w8 ⟨rfl, n8, rfl⟩
                      rw [show decide (x2.val = x2.val) = true from decide_eq_true rfl]
                      go_wp2
                      go_roundw
                      case rel => exact ⟨k + 1, by omega, by go_num, belowDraws HQ7.out n8⟩
                      case measure => simp [intOf]; omega
            · go_wp2
              go_loopw [12] (fun i wr => ∃ q : Nat, q ≤ its.length ∧ i = .int .i64 q ∧ Below (w2.alloc (.cells #[.slice A3 R.length c3] 40)).heap.size (w2.alloc (.cells #[.slice A3 R.length c3] 40)) wr) (fun i _ => its.length - (intOf i).toNat)
              case atStart => exact ⟨0, Nat.zero_le _, rfl, HQ.out⟩
              case round =>
                clear HQ
                obtain ⟨q, hq, rfl, hb⟩ := hrel
                have HQ := Lib.hid hb
                clear hb
                have x3 := (KC.out _ HQ.out).1
                by_cases hlq : q < its.length
                · obtain ⟨it, hit⟩ : ∃ it, its[q]? = some it := ⟨_, List.getElem?_eq_getElem hlq⟩
                  have HIt := Lib.hid hit
                  clear hit
                  go_wp2
                  clear x3
                  go_loopw [13, 14] (fun l i wm => ∃ m : Nat, m ≤ ws.length ∧ i = .int .i64 m ∧ l = .bool (wroteTo ws it.key m) ∧ Below (w2.alloc (.cells #[.slice A3 R.length c3] 40)).heap.size (w2.alloc (.cells #[.slice A3 R.length c3] 40)) wm) (fun _ i _ => ws.length - (intOf i).toNat)
                  case atStart => exact ⟨0, Nat.zero_le _, rfl, rfl, HQ.out⟩
                  case round =>
                    clear HQ
                    obtain ⟨m, hm2, rfl, rfl, hb⟩ := hrel
                    have HQ := Lib.hid hb
                    clear hb
                    obtain ⟨b', off', d', it', p', e1', hit', hB', hks', ck', cu', hp'⟩ := (KI.out _ HQ.out).at_ (k := q) hlq
                    obtain rfl : it' = it := by rw [HIt.out] at hit'; injection hit' with e; exact e.symm
                    obtain ⟨Ap, cp, rfl, -, -⟩ := hp'.form
                    injection e1' with e2a e2b e2c
                    subst e2a
                    have x3 := (KC.out _ HQ.out).1
                    have f3 : (0 : Int) ≤ (q : Int) := by omega
                    have f4 : (q : Int) < (its.length : Int) := by omega
                    clear e2b e2c hit'
                    by_cases hlm : m < ws.length
                    · obtain ⟨b, off, d, y, p, e1, hy, hB, hks2, c0, -, -, -⟩ := (KW.out _ HQ.out).at_ (k := m) hlm
                      injection e1 with e1a e1b e1c
                      subst e1a
                      have HSt := Lib.hid (wroteTo_step (key := it'.key) hy)
                      have k0 := And.intro c0 (And.intro x3 ck')
                      have f1 : (0 : Int) ≤ (m : Int) := by omega
                      have f2 : (m : Int) < (ws.length : Int) := by omega
                      clear e1b e1c hy c0 x3 ck' cu' hp'
                      cases hl : wroteTo ws it'.key m with
                      | false =>
                        go_wp2
                        refine wp_region_held_drew (S := (fun w' => w'.cell? ⟨b, off + m * 3, none⟩ = some (.string y.key) ∧ w'.cell? ⟨w1.heap.size, 0, none⟩ = some (.slice (some ⟨b', off', none⟩) its.length c1) ∧ w'.cell? ⟨b', off' + q * 2, none⟩ = some (.string it'.key))) (by kernel_rfl) ?hSv1 (fun hHeldv1 => ?stv1)
                        case hSv1 => (first | (dsimp only; (exact k0)) | (exact k0))
                        refine take_first 0 151 (v := ?vv1_1) rfl rfl (by kernel_rfl) (by kernel_rfl) (by kernel_rfl) (fun _ _ _ h => h) (by rfl) ?yv1_1 (by assumption) ?rv1_1
                        case yv1_1 => (intro w hSw; (try dsimp only at hSw); go_simp; (try with_reducible rfl))
                        simp only [Act.put, List.setIfInBounds_toArray, List.set_cons_zero, List.set_cons_succ]
                        refine take_first 1 152 (v := ?vv1_2) rfl rfl (by kernel_rfl) (by kernel_rfl) (by kernel_rfl) (fun _ _ _ h => h) (by rfl) ?yv1_2 (by assumption) ?rv1_2
                        case yv1_2 => (intro w hSw; (try dsimp only at hSw); go_simp; (try with_reducible rfl))
                        simp only [Act.put, List.setIfInBounds_toArray, List.set_cons_zero, List.set_cons_succ]
                        refine take_first 2 153 (v := ?vv1_3) rfl rfl (by kernel_rfl) (by kernel_rfl) (by kernel_rfl) (fun _ _ _ h => h) (by rfl) ?yv1_3 (by assumption) ?rv1_3
                        case yv1_3 => (intro w hSw; (try dsimp only at hSw); go_simp; (try with_reducible rfl))
                        simp only [Act.put, List.setIfInBounds_toArray, List.set_cons_zero, List.set_cons_succ]
                        refine take_first 3 154 (v := ?vv1_4) rfl rfl (by kernel_rfl) (by kernel_rfl) (by kernel_rfl) (fun _ _ _ h => h) (by rfl) ?yv1_4 (by assumption) ?rv1_4
                        case yv1_4 => (intro w hSw; (try dsimp only at hSw); go_simp; (try with_reducible rfl))
                        simp only [Act.put, List.setIfInBounds_toArray, List.set_cons_zero, List.set_cons_succ]
                        refine take_first 4 155 (v := ?vv1_5) rfl rfl (by kernel_rfl) (by kernel_rfl) (by kernel_rfl) (fun _ _ _ h => h) (by rfl) ?yv1_5 (by assumption) ?rv1_5
                        case yv1_5 => (intro w hSw; (try dsimp only at hSw); go_simp; (try with_reducible rfl))
                        simp only [Act.put, List.setIfInBounds_toArray, List.set_cons_zero, List.set_cons_succ]
                        refine take_first 5 156 (v := ?vv1_6) rfl rfl (by kernel_rfl) (by kernel_rfl) (by kernel_rfl) (fun _ _ _ h => h) (by rfl) ?yv1_6 (by assumption) ?rv1_6
                        case yv1_6 => (intro w hSw; (try dsimp only at hSw); go_simp; (try with_reducible rfl))
                        simp only [Act.put, List.setIfInBounds_toArray, List.set_cons_zero, List.set_cons_succ]
                        refine take_first 6 157 (v := ?vv1_7) rfl rfl (by kernel_rfl) (by kernel_rfl) (by kernel_rfl) (fun _ _ _ h => h) (by rfl) ?yv1_7 (by assumption) ?rv1_7
                        case yv1_7 => (intro w hSw; (try dsimp only at hSw); go_simp; (try with_reducible rfl))
                        simp only [Act.put, List.setIfInBounds_toArray, List.set_cons_zero, List.set_cons_succ]
                        refine take_first 7 158 (v := ?vv1_8) rfl rfl (by kernel_rfl) (by kernel_rfl) (by kernel_rfl) (fun _ _ _ h => h) (by rfl) ?yv1_8 (by assumption) ?rv1_8
                        case yv1_8 => (intro w hSw; (try dsimp only at hSw); go_simp; (try with_reducible rfl))
                        simp only [Act.put, List.setIfInBounds_toArray, List.set_cons_zero, List.set_cons_succ]
                        refine take_first 8 159 (v := ?vv1_9) rfl rfl (by kernel_rfl) (by kernel_rfl) (by kernel_rfl) (fun _ _ _ h => h) (by rfl) ?yv1_9 (by assumption) ?rv1_9
                        case yv1_9 => (intro w hSw; (try dsimp only at hSw); go_simp; (try with_reducible rfl))
                        simp only [Act.put, List.setIfInBounds_toArray, List.set_cons_zero, List.set_cons_succ]
                        refine take_first 9 160 (v := ?vv1_10) rfl rfl (by kernel_rfl) (by kernel_rfl) (by kernel_rfl) (fun _ _ _ h => h) (by rfl) ?yv1_10 (by assumption) ?rv1_10
                        case yv1_10 => (intro w hSw; (try dsimp only at hSw); go_simp; (try with_reducible rfl))
                        simp only [Act.put, List.setIfInBounds_toArray, List.set_cons_zero, List.set_cons_succ]
                        refine take_first 10 161 (v := ?vv1_11) rfl rfl (by kernel_rfl) (by kernel_rfl) (by kernel_rfl) (fun _ _ _ h => h) (by rfl) ?yv1_11 (by assumption) ?rv1_11
                        case yv1_11 => (intro w hSw; (try dsimp only at hSw); go_simp; (try with_reducible rfl))
                        simp only [Act.put, List.setIfInBounds_toArray, List.set_cons_zero, List.set_cons_succ]
                        refine take_first 11 162 (v := ?vv1_12) rfl rfl (by kernel_rfl) (by kernel_rfl) (by kernel_rfl) (fun _ _ _ h => h) (by rfl) ?yv1_12 (by assumption) ?rv1_12
                        case yv1_12 => (intro w hSw; (try dsimp only at hSw); go_simp; (try with_reducible rfl))
                        simp only [Act.put, List.setIfInBounds_toArray, List.set_cons_zero, List.set_cons_succ]
                        refine take_first 12 163 (v := ?vv1_13) rfl rfl (by kernel_rfl) (by kernel_rfl) (by kernel_rfl) (fun _ _ _ h => h) (by rfl) ?yv1_13 (by assumption) ?rv1_13
                        case yv1_13 => (intro w hSw; (try dsimp only at hSw); go_simp; (try with_reducible rfl))
                        simp only [Act.put, List.setIfInBounds_toArray, List.set_cons_zero, List.set_cons_succ]
                        refine take_first 13 164 (v := ?vv1_14) rfl rfl (by kernel_rfl) (by kernel_rfl) (by kernel_rfl) (fun _ _ _ h => h) (by rfl) ?yv1_14 (by assumption) ?rv1_14
                        case yv1_14 => (intro w hSw; (try dsimp only at hSw); go_simp; (try with_reducible rfl))
                        simp only [Act.put, List.setIfInBounds_toArray, List.set_cons_zero, List.set_cons_succ]
                        refine take_first 14 165 (v := ?vv1_15) rfl rfl (by kernel_rfl) (by kernel_rfl) (by kernel_rfl) (fun _ _ _ h => h) (by rfl) ?yv1_15 (by assumption) ?rv1_15
                        case yv1_15 => (intro w hSw; (try dsimp only at hSw); go_simp; (try with_reducible rfl))
                        simp only [Act.put, List.setIfInBounds_toArray, List.set_cons_zero, List.set_cons_succ]
                        refine take_first 15 13 (v := ?vv1_16) rfl rfl (by kernel_rfl) (by kernel_rfl) (by kernel_rfl) (fun _ _ _ h => h) (by rfl) ?yv1_16 (by assumption) ?rv1_16
                        case yv1_16 => (intro w hSw; (try dsimp only at hSw); go_simp; (try with_reducible rfl))
                        simp only [Act.put, List.setIfInBounds_toArray, List.set_cons_zero, List.set_cons_succ]
                        refine wpAnyH_done (by kernel_rfl) ?ev1 _
                        clear k0
                        go_wp2
                        go_roundw
                        case rel => exact ⟨m + 1, by omega, by go_num, by rw [HSt.out, hl]; simp [eq_toList], HQ.out.drew⟩
                        case measure => simp [intOf]; omega
                      | true =>
                        go_wp2
                        refine wp_region_held_drew (S := (fun w' => w'.cell? ⟨b, off + m * 3, none⟩ = some (.string y.key) ∧ w'.cell? ⟨w1.heap.size, 0, none⟩ = some (.slice (some ⟨b', off', none⟩) its.length c1) ∧ w'.cell? ⟨b', off' + q * 2, none⟩ = some (.string it'.key))) (by kernel_rfl) ?hSv2 (fun hHeldv2 => ?stv2)
                        case hSv2 => (first | (dsimp only; (exact k0)) | (exact k0))
                        refine take_first 0 151 (v := ?vv2_1) rfl rfl (by kernel_rfl) (by kernel_rfl) (by kernel_rfl) (fun _ _ _ h => h) (by rfl) ?yv2_1 (by assumption) ?rv2_1
                        case yv2_1 => (intro w hSw; (try dsimp only at hSw); go_simp; (try with_reducible rfl))
                        simp only [Act.put, List.setIfInBounds_toArray, List.set_cons_zero, List.set_cons_succ]
                        refine take_first 1 152 (v := ?vv2_2) rfl rfl (by kernel_rfl) (by kernel_rfl) (by kernel_rfl) (fun _ _ _ h => h) (by rfl) ?yv2_2 (by assumption) ?rv2_2
                        case yv2_2 => (intro w hSw; (try dsimp only at hSw); go_simp; (try with_reducible rfl))
                        simp only [Act.put, List.setIfInBounds_toArray, List.set_cons_zero, List.set_cons_succ]
                        refine pass_over 2 153 rfl rfl (by kernel_rfl) (by kernel_rfl) (by kernel_rfl) (fun _ _ _ h => h) (by rfl) (by assumption) ?rv2_3
                        simp only [Act.put, List.setIfInBounds_toArray, List.set_cons_zero, List.set_cons_succ]
                        refine pass_over 3 154 rfl rfl (by kernel_rfl) (by kernel_rfl) (by kernel_rfl) (fun _ _ _ h => h) (by rfl) (by assumption) ?rv2_4
                        simp only [Act.put, List.setIfInBounds_toArray, List.set_cons_zero, List.set_cons_succ]
                        refine pass_over 4 155 rfl rfl (by kernel_rfl) (by kernel_rfl) (by kernel_rfl) (fun _ _ _ h => h) (by rfl) (by assumption) ?rv2_5
                        simp only [Act.put, List.setIfInBounds_toArray, List.set_cons_zero, List.set_cons_succ]
                        refine pass_over 5 156 rfl rfl (by kernel_rfl) (by kernel_rfl) (by kernel_rfl) (fun _ _ _ h => h) (by rfl) (by assumption) ?rv2_6
                        simp only [Act.put, List.setIfInBounds_toArray, List.set_cons_zero, List.set_cons_succ]
                        refine pass_over 6 157 rfl rfl (by kernel_rfl) (by kernel_rfl) (by kernel_rfl) (fun _ _ _ h => h) (by rfl) (by assumption) ?rv2_7
                        simp only [Act.put, List.setIfInBounds_toArray, List.set_cons_zero, List.set_cons_succ]
                        refine pass_over 7 158 rfl rfl (by kernel_rfl) (by kernel_rfl) (by kernel_rfl) (fun _ _ _ h => h) (by rfl) (by assumption) ?rv2_8
                        simp only [Act.put, List.setIfInBounds_toArray, List.set_cons_zero, List.set_cons_succ]
                        refine pass_over 8 159 rfl rfl (by kernel_rfl) (by kernel_rfl) (by kernel_rfl) (fun _ _ _ h => h) (by rfl) (by assumption) ?rv2_9
                        simp only [Act.put, List.setIfInBounds_toArray, List.set_cons_zero, List.set_cons_succ]
                        refine pass_over 9 160 rfl rfl (by kernel_rfl) (by kernel_rfl) (by kernel_rfl) (fun _ _ _ h => h) (by rfl) (by assumption) ?rv2_10
                        simp only [Act.put, List.setIfInBounds_toArray, List.set_cons_zero, List.set_cons_succ]
                        refine pass_over 10 161 rfl rfl (by kernel_rfl) (by kernel_rfl) (by kernel_rfl) (fun _ _ _ h => h) (by rfl) (by assumption) ?rv2_11
                        simp only [Act.put, List.setIfInBounds_toArray, List.set_cons_zero, List.set_cons_succ]
                        refine pass_over 11 162 rfl rfl (by kernel_rfl) (by kernel_rfl) (by kernel_rfl) (fun _ _ _ h => h) (by rfl) (by assumption) ?rv2_12
                        simp only [Act.put, List.setIfInBounds_toArray, List.set_cons_zero, List.set_cons_succ]
                        refine pass_over 12 163 rfl rfl (by kernel_rfl) (by kernel_rfl) (by kernel_rfl) (fun _ _ _ h => h) (by rfl) (by assumption) ?rv2_13
                        simp only [Act.put, List.setIfInBounds_toArray, List.set_cons_zero, List.set_cons_succ]
                        refine pass_over 13 164 rfl rfl (by kernel_rfl) (by kernel_rfl) (by kernel_rfl) (fun _ _ _ h => h) (by rfl) (by assumption) ?rv2_14
                        simp only [Act.put, List.setIfInBounds_toArray, List.set_cons_zero, List.set_cons_succ]
                        refine take_first 14 165 (v := ?vv2_15) rfl rfl (by kernel_rfl) (by kernel_rfl) (by kernel_rfl) (fun _ _ _ h => h) (by rfl) ?yv2_15 (by assumption) ?rv2_15
                        case yv2_15 => (intro w hSw; (try dsimp only at hSw); go_simp; (try with_reducible rfl))
                        simp only [Act.put, List.setIfInBounds_toArray, List.set_cons_zero, List.set_cons_succ]
                        refine take_first 15 13 (v := ?vv2_16) rfl rfl (by kernel_rfl) (by kernel_rfl) (by kernel_rfl) (fun _ _ _ h => h) (by rfl) ?yv2_16 (by assumption) ?rv2_16
                        case yv2_16 => (intro w hSw; (try dsimp only at hSw); go_simp; (try with_reducible rfl))
                        simp only [Act.put, List.setIfInBounds_toArray, List.set_cons_zero, List.set_cons_succ]
                        refine wpAnyH_done (by kernel_rfl) ?ev2 _
                        clear k0
                        go_wp2
                        go_roundw
                        case rel => exact ⟨m + 1, by omega, by go_num, by rw [HSt.out, hl]; rfl, HQ.out.drew⟩
                        case measure => simp [intOf]; omega
                    · have hml : m = ws.length := by omega
                      subst hml
                      have y5 := (KC.out _ HQ.out).2
                      have k0 := And.intro y5 (And.intro x3 ck')
                      have hgo := getOk_yes (key := it'.key) HRs.out
                      clear x3 y5 ck' cu' hp'
                      go_wp2
                      refine wp_region_held_drew (S := (fun w' => w'.cell? ⟨w2.heap.size, 0, none⟩ = some (.slice A3 R.length c3) ∧ w'.cell? ⟨w1.heap.size, 0, none⟩ = some (.slice (some ⟨b', off', none⟩) its.length c1) ∧ w'.cell? ⟨b', off' + q * 2, none⟩ = some (.string it'.key))) (by kernel_rfl) ?hSh (fun hHeldh => ?sth)
                      case hSh => (first | (dsimp only; (first | with_reducible exact k1 | exact k0)) | (first | with_reducible exact k1 | exact k0))
                      refine take_first 0 167 (v := ?vh_1) rfl rfl (by kernel_rfl) (by kernel_rfl) (by kernel_rfl) (fun _ _ _ h => h) (by rfl) ?yh_1 (by assumption) ?rh_1
                      case yh_1 => (intro w hSw; (try dsimp only at hSw); go_simp; (try with_reducible rfl))
                      simp only [Act.put, List.setIfInBounds_toArray, List.set_cons_zero, List.set_cons_succ]
                      refine take_first 1 168 (v := ?vh_2) rfl rfl (by kernel_rfl) (by kernel_rfl) (by kernel_rfl) (fun _ _ _ h => h) (by rfl) ?yh_2 (by assumption) ?rh_2
                      case yh_2 => (intro w hSw; (try dsimp only at hSw); go_simp; (try with_reducible rfl))
                      simp only [Act.put, List.setIfInBounds_toArray, List.set_cons_zero, List.set_cons_succ]
                      refine take_first 2 169 (v := ?vh_3) rfl rfl (by kernel_rfl) (by kernel_rfl) (by kernel_rfl) (fun _ _ _ h => h) (by rfl) ?yh_3 (by assumption) ?rh_3
                      case yh_3 => (intro w hSw; (try dsimp only at hSw); go_simp; (try with_reducible rfl))
                      simp only [Act.put, List.setIfInBounds_toArray, List.set_cons_zero, List.set_cons_succ]
                      refine take_first 3 170 (v := ?vh_4) rfl rfl (by kernel_rfl) (by kernel_rfl) (by kernel_rfl) (fun _ _ _ h => h) (by rfl) ?yh_4 (by assumption) ?rh_4
                      case yh_4 => (intro w hSw; (try dsimp only at hSw); go_simp; (try with_reducible rfl))
                      simp only [Act.put, List.setIfInBounds_toArray, List.set_cons_zero, List.set_cons_succ]
                      refine take_first 4 171 (v := ?vh_5) rfl rfl (by kernel_rfl) (by kernel_rfl) (by kernel_rfl) (fun _ _ _ h => h) (by rfl) ?yh_5 (by assumption) ?rh_5
                      case yh_5 => (intro w hSw; (try dsimp only at hSw); go_simp; (try with_reducible rfl))
                      simp only [Act.put, List.setIfInBounds_toArray, List.set_cons_zero, List.set_cons_succ]
                      refine take_first 5 172 (v := ?vh_6) rfl rfl (by kernel_rfl) (by kernel_rfl) (by kernel_rfl) (fun _ _ _ h => h) (by rfl) ?yh_6 (by assumption) ?rh_6
                      case yh_6 => (intro w hSw; (try dsimp only at hSw); go_simp; (try with_reducible rfl))
                      simp only [Act.put, List.setIfInBounds_toArray, List.set_cons_zero, List.set_cons_succ]
                      refine take_first 6 173 (v := ?vh_7) rfl rfl (by kernel_rfl) (by kernel_rfl) (by kernel_rfl) (fun _ _ _ h => h) (by rfl) ?yh_7 (by assumption) ?rh_7
                      case yh_7 => (intro w hSw; (try dsimp only at hSw); go_simp; (try with_reducible rfl))
                      simp only [Act.put, List.setIfInBounds_toArray, List.set_cons_zero, List.set_cons_succ]
                      refine wpAnyH_ready (rs := [7]) (by kernel_rfl) (by simp) ?_
                      refine AllReadyH.cons (o := _) rfl (fun Kh_8 hKh_8 => ?ch_8) ?mh_8
                      case mh_8 => exact AllReadyH.nil
                      go_simp
                      refine (implStoGet_any _ _ R it'.key (KR.out _ HQ.out.drew)).mono ?_; rintro e w7 ⟨u7, rfl, ho7, hb7⟩; rw [hgo]; obtain ⟨A7, c7, hf7, -, -⟩ := ho7.ints.form; subst hf7; have HQ7 := Lib.hid (show Below (w2.alloc (.cells #[.slice A3 R.length c3] 40)).heap.size (w2.alloc (.cells #[.slice A3 R.length c3] 40)) w7 from HQ.out.drew.trans (hb7.mono HQ.out.size)); have HG7 := Lib.hid ho7.ints; have k1 : w7.cell? ⟨w2.heap.size, 0, none⟩ = some (.slice A3 R.length c3) ∧ w7.cell? ⟨w1.heap.size, 0, none⟩ = some (.slice (some ⟨b', off', none⟩) its.length c1) ∧ w7.cell? ⟨b', off' + q * 2, none⟩ = some (.string it'.key) := ⟨(KC.out _ HQ7.out).2, (KC.out _ HQ7.out).1, (hb7.cell (p := ⟨b', off' + q * 2, none⟩) hB').trans k0.2.2⟩; clear ho7 hb7
                      go_wp2_with fail
                      refine hKh_8.out _ _ ?kh_8 (fun hHeldh_8 => ?dh_8)
                      case kh_8 => (first | (dsimp only; (first | with_reducible exact k1 | exact k0)) | (first | with_reducible exact k1 | exact k0))
                      clear hKh_8 Kh_8
                      refine take_first 8 166 (v := ?vh_9) rfl rfl (by kernel_rfl) (by kernel_rfl) (by kernel_rfl) (fun _ _ _ h => h) (by rfl) ?yh_9 (by assumption) ?rh_9
                      case yh_9 => (intro w hSw; (try dsimp only at hSw); go_simp; (try with_reducible rfl))
                      simp only [Act.put, List.setIfInBounds_toArray, List.set_cons_zero, List.set_cons_succ]
                      refine take_first 9 175 (v := ?vh_10) rfl rfl (by kernel_rfl) (by kernel_rfl) (by kernel_rfl) (fun _ _ _ h => h) (by rfl) ?yh_10 (by assumption) ?rh_10
                      case yh_10 => (intro w hSw; (try dsimp only at hSw); go_simp; (try with_reducible rfl))
                      simp only [Act.put, List.setIfInBounds_toArray, List.set_cons_zero, List.set_cons_succ]
                      refine take_first 10 176 (v := ?vh_11) rfl rfl (by kernel_rfl) (by kernel_rfl) (by kernel_rfl) (fun _ _ _ h => h) (by rfl) ?yh_11 (by assumption) ?rh_11
                      case yh_11 => (intro w hSw; (try dsimp only at hSw); go_simp; (try with_reducible rfl))
                      simp only [Act.put, List.setIfInBounds_toArray, List.set_cons_zero, List.set_cons_succ]
                      refine take_first 11 15 (v := ?vh_12) rfl rfl (by kernel_rfl) (by kernel_rfl) (by kernel_rfl) (fun _ _ _ h => h) (by rfl) ?yh_12 (by assumption) ?rh_12
                      case yh_12 => (intro w hSw; (try dsimp only at hSw); go_simp; (try with_reducible rfl))
                      simp only [Act.put, List.setIfInBounds_toArray, List.set_cons_zero, List.set_cons_succ]
                      refine take_first 12 16 (v := ?vh_13) rfl rfl (by kernel_rfl) (by kernel_rfl) (by kernel_rfl) (fun _ _ _ h => h) (by rfl) ?yh_13 (by assumption) ?rh_13
                      case yh_13 => (intro w hSw; (try dsimp only at hSw); go_simp; (try with_reducible rfl))
                      simp only [Act.put, List.setIfInBounds_toArray, List.set_cons_zero, List.set_cons_succ]
                      refine wpAnyH_done (by kernel_rfl) ?eh _
                      clear k0 k1 hgo
                      obtain ⟨b2, off2, d2, it2, p2, e2, hit2, hB2, -, -, cu2, hp2⟩ := (KI.out _ HQ7.out).at_ (k := q) hlq
                      obtain rfl : it2 = it' := by rw [HIt.out] at hit2; injection hit2 with e; exact e.symm
                      obtain ⟨Ap2, cp2, rfl, -, -⟩ := hp2.form
                      injection e2 with e2a e2b e2c
                      injection e2a with e2a
                      injection e2a with e2a e2d
                      subst e2a e2d
                      have HP2 := Lib.hid hp2
                      have x3 := (KC.out _ HQ7.out).1
                      clear e2b e2c hit2 hp2
                      cases hl : wroteTo ws it2.key ws.length with
                      | true =>
                        go_wp2
                        go_roundw
                        case rel => exact ⟨q + 1, by omega, by go_num, HQ7.out⟩
                        case measure => simp [intOf]; omega
                      | false =>
                        have hls : look R it2.key = some it2 := by rw [HLk.out, wroteW hl]; exact look_self (stoB_three HS.out).2.2 (List.mem_of_getElem? HIt.out)
                        have HLs := Lib.hid hls
                        clear hls
                        have hk7 : lookOk R it2.key = true := lookOk_some HLs.out
                        have hv7 : getV R it2.key = it2.val := by unfold getV; rw [if_pos HRs.out, lookV_some HLs.out]
                        rw [hk7]
                        rw [hv7] at HG7 ⊢
                        go_wp2_with fail
                        refine (jaInts_any _ _ _ _ it2.val it2.val HG7.out HP2.out).mono ?_
                        rintro e w8 ⟨rfl, n8, rfl⟩
                        rw [show decide (it2.val = it2.val) = true from decide_eq_true rfl]
                        go_wp2
                        go_roundw
                        case rel => exact ⟨q + 1, by omega, by go_num, belowDraws HQ7.out n8⟩
                        case measure => simp [intOf]; omega
                · have y5 := (KC.out _ HQ.out).2
                  go_wp2_with fail
                  refine (implStoOk_any _ _ R (KR.out _ HQ.out)).mono ?_
                  rintro e w6 ⟨rfl, hb⟩
                  rw [HRs.out]
                  have HQ6 := Lib.hid (belowNext HQ.out hb)
                  clear hb
                  go_wp2
                  go_ret
                  exact ⟨rfl, KB.out _ HQ6.out⟩
        · have hsum' : (40 : Int) < (ws.length : Int) + (its.length : Int) := by omega
          have y5 := (KC.out _ HQ.out).2
          go_wp2_with fail
          refine (implStoOk_any _ _ R (KR.out _ HQ.out)).mono ?_
          rintro e w6 ⟨rfl, hb⟩
          rw [HRs.out]
          have HQ6 := Lib.hid (belowNext HQ.out hb)
          clear hb
          go_wp2
          go_ret
          exact ⟨rfl, KB.out _ HQ6.out⟩

end Go.Proofs.Ytgekggoenibnmaa
