/- The walk of FnStoAgain. -/
import Derived.Test.YtgekggoenibnmaaXDrawOpen
import Derived.Test.YtgekggoenibnmaaXJaInts
import Derived.Test.YtgekggoenibnmaaXStoDoI
import Derived.Deep.RegionWith
namespace Go.Proofs.Ytgekggoenibnmaa
open Go.RowKit

theorem sto_again {its : List Item} {ws : List Wr} (h : stoB its = true) (hw : ∀ x ∈ ws, x.ok = true) (hl : its.length + 2 * ws.length ≤ 40) : stoDo (stoDo its ws) ws = stoDo its ws := by
  obtain ⟨a1, a2, a3⟩ := stoDo_some h hw (by omega)
  obtain ⟨b1, -, b3⟩ := stoDo_some a1 hw (by omega)
  refine sto_ext (stoB_three b1).2.2 (stoB_three a1).2.2 fun key => ?_
  rw [b3, a3]
  by_cases hk : ∃ x ∈ ws, x.key = key
  · exact lookW_hit hk _ _
  · have hf : ∀ x ∈ ws, x.key ≠ key := fun x hx e => hk ⟨x, hx, e⟩
    rw [lookW_free hf, lookW_free hf]
theorem sto_less {its : List Item} {it : Item} (h : stoB its = true) (h0 : its[0]? = some it) : (stoDo its [⟨it.key, true, []⟩]).length = its.length - 1 := by
  obtain ⟨h1, h2, h3⟩ := stoB_three h
  have hm := List.mem_of_getElem? h0
  have hk : keyB it.key = true := by have := h2 it hm; unfold itemB at this; simp only [Bool.and_eq_true] at this; exact this.1
  have hok : (⟨it.key, true, []⟩ : Wr).ok = true := by simp [Wr.ok, wrtB, hk]
  obtain ⟨-, -, f3, -⟩ := wAll_facts (wk := it.key) (wv := []) h3 true
  rw [look_self h3 hm] at f3
  simp only [Option.isSome_some, if_true, Nat.add_zero] at f3
  have : stoDo its [⟨it.key, true, []⟩] = wAll it.key true [] its := by
    unfold stoDo doAll
    rw [if_pos h]
    simp only [List.foldl_cons, List.foldl_nil, doStep, Option.bind_some, hok, if_true]
    rw [if_neg (by omega)]; rfl
  rw [this]; omega
/-- One write that takes a thing out, as it lies. -/
theorem dropWr {W : World} {B : Nat} {key : ByteArray} (h : Held W B [.string key, .bool true, .slice none 0 0]) (hk : key.size ≤ maxLen) : Wrts W W.heap.size (.slice (some ⟨B, 0, none⟩) 1 1) [⟨key, true, []⟩] := by
  refine ⟨some ⟨B, 0, none⟩, 1, rfl, by simp, by unfold maxLen; omega, fun _ => ⟨B, 0, rfl, h.1, fun j x hx => ?_⟩⟩
  have hj : j = 0 := by have := (List.getElem?_eq_some_iff.1 hx).1; simp at this; exact this
  subst hj
  have hx' : (⟨key, true, []⟩ : Wr) = x := by simpa using hx
  subst hx'
  exact ⟨hk, h.of 0 _ rfl, h.of 1 _ rfl, _, h.of 2 _ rfl, ⟨none, 0, rfl, Nat.le_refl _, Nat.zero_le _, fun h => absurd h (by simp)⟩⟩

set_option maxRecDepth 100000 in
set_option maxHeartbeats 4000000 in
theorem lawStoAgain_any (w : World) (v : Value) (n : Nat) (hv : Code8 w v n) :
    Calls Try.prog 8 #[v] w fun e w' => e = .returned (.bool true) ∧ Below w.heap.size w w' := by
  have HV := Lib.hid hv
  obtain ⟨A, c, f, rfl, h1, h2, -, -⟩ := hv
  unfold maxLen at h2
  by_cases hn : 1048576 < n
  · have hn' : (1048576 : Int) < (n : Int) := by omega
    go_enter Try.func8, Try.ntmps8
    go_wp2
    go_ret
    exact ⟨rfl, Below.refl _ _⟩
  have hn' : (n : Int) ≤ 1048576 := by omega
  clear hn
  go_enter Try.func8, Try.ntmps8
  go_wp2_with fail
  refine (drawStoDo_any _ _ n HV.out).mono ?_
  rintro e w1 ⟨u, its, l, ws, rfl, hil, hwl, hi, hwr, hb⟩
  obtain ⟨A1, c1, rfl, -, -⟩ := hi.form
  obtain ⟨A2, c2, rfl, -, -⟩ := hwr.form
  have HB := Lib.hid (hb.alloc hb.size (.cells #[.slice A1 its.length c1] 40))
  have HI := Lib.hid fun W (h : Below w1.heap.size w1 W) => (hi.below h).more h.size
  have HW := Lib.hid fun W (h : Below w1.heap.size w1 W) => wrts_row.1 (((wrts_row.2 hwr).below h).more h.size)
  have HX := Lib.hid (Held.new w1 #[.slice A1 its.length c1] 40)
  have HL := Lib.hid (belowOne w1 (.cells #[.slice A1 its.length c1] 40))
  clear hb hi hwr HV
  obtain ⟨R, hR⟩ : ∃ R, stoDo its ws = R := ⟨_, rfl⟩
  have HR := Lib.hid hR
  clear hR
  go_wp2_with fail
  refine (implStoDo_any _ _ _ its ws (HI.out _ HL.out) (HW.out _ HL.out)).mono ?_
  rintro e w2 ⟨u2, rfl, ho2, hb2⟩
  rw [HR.out] at ho2
  obtain ⟨A3, c3, hf3, -, -⟩ := ho2.row.form
  subst hf3
  replace HB := Lib.hid ((belowNext HB.out hb2).alloc (belowNext HB.out hb2).size (.cells #[.slice A3 R.length c3] 40))
  replace HL := Lib.hid ((belowNext HL.out hb2).alloc (belowNext HL.out hb2).size (.cells #[.slice A3 R.length c3] 40))
  replace HX := Lib.hid ((HX.out.below hb2 HX.out.1).after (.cells #[.slice A3 R.length c3] 40))
  have HY := Lib.hid (Held.new w2 #[.slice A3 R.length c3] 40)
  have HO := Lib.hid (items_row.1 ((ho2.below (belowOne w2 (.cells #[.slice A3 R.length c3] 40))).row))
  clear ho2 hb2
  -- what stands from here on: nothing more is written into what is there
  have KC := Lib.hid fun W (h : Below (w2.alloc (.cells #[.slice A3 R.length c3] 40)).heap.size (w2.alloc (.cells #[.slice A3 R.length c3] 40)) W) => And.intro ((HX.out.below h HX.out.1).of 0 _ rfl) ((HY.out.below h HY.out.1).of 0 _ rfl)
  have KI := Lib.hid fun W (h : Below (w2.alloc (.cells #[.slice A3 R.length c3] 40)).heap.size (w2.alloc (.cells #[.slice A3 R.length c3] 40)) W) => HI.out W (HL.out.trans (h.mono HL.out.size))
  have KW := Lib.hid fun W (h : Below (w2.alloc (.cells #[.slice A3 R.length c3] 40)).heap.size (w2.alloc (.cells #[.slice A3 R.length c3] 40)) W) => HW.out W (HL.out.trans (h.mono HL.out.size))
  have KB := Lib.hid fun W (h : Below (w2.alloc (.cells #[.slice A3 R.length c3] 40)).heap.size (w2.alloc (.cells #[.slice A3 R.length c3] 40)) W) => HB.out.trans (h.mono HB.out.size)
  have KR := Lib.hid fun W (h : Below (w2.alloc (.cells #[.slice A3 R.length c3] 40)).heap.size (w2.alloc (.cells #[.slice A3 R.length c3] 40)) W) => (HO.out.below h).more h.size
  clear HB HL HX HY HO HI HW
  have k0 : (w2.alloc (.cells #[.slice A3 R.length c3] 40)).drew.cell? ⟨w2.heap.size, 0, none⟩ = some (.slice A3 R.length c3) ∧ (w2.alloc (.cells #[.slice A3 R.length c3] 40)).drew.cell? ⟨w1.heap.size, 0, none⟩ = some (.slice A1 its.length c1) := And.intro (KC.out _ (Below.refl _ _)).2 (KC.out _ (Below.refl _ _)).1
  go_wp2
  refine wp_region_held_drew (S := (fun w' => w'.cell? ⟨w2.heap.size, 0, none⟩ = some (.slice A3 R.length c3) ∧ w'.cell? ⟨w1.heap.size, 0, none⟩ = some (.slice A1 its.length c1))) (by kernel_rfl) ?hSr (fun hHeldr => ?str)
  case hSr => (first | (dsimp only; (first | with_reducible exact k2 | with_reducible exact k1 | exact k0)) | (first | with_reducible exact k2 | with_reducible exact k1 | exact k0))
  refine take_first 0 19 (v := ?vr_1) rfl rfl (by kernel_rfl) (by kernel_rfl) (by kernel_rfl) (fun _ _ _ h => h) (by rfl) ?yr_1 (by assumption) ?rr_1
  case yr_1 => (intro w hSw; (try dsimp only at hSw); go_simp; (try with_reducible rfl))
  simp only [Act.put, List.setIfInBounds_toArray, List.set_cons_zero, List.set_cons_succ]
  refine take_first 1 20 (v := ?vr_2) rfl rfl (by kernel_rfl) (by kernel_rfl) (by kernel_rfl) (fun _ _ _ h => h) (by rfl) ?yr_2 (by assumption) ?rr_2
  case yr_2 => (intro w hSw; (try dsimp only at hSw); go_simp; (try with_reducible rfl))
  simp only [Act.put, List.setIfInBounds_toArray, List.set_cons_zero, List.set_cons_succ]
  refine take_first 2 21 (v := ?vr_3) rfl rfl (by kernel_rfl) (by kernel_rfl) (by kernel_rfl) (fun _ _ _ h => h) (by rfl) ?yr_3 (by assumption) ?rr_3
  case yr_3 => (intro w hSw; (try dsimp only at hSw); go_simp; (try with_reducible rfl))
  simp only [Act.put, List.setIfInBounds_toArray, List.set_cons_zero, List.set_cons_succ]
  refine wpAnyH_ready (rs := [3]) (by kernel_rfl) (by simp) ?_
  refine AllReadyH.cons (o := _) rfl (fun Kr_4 hKr_4 => ?cr_4) ?mr_4
  case mr_4 => exact AllReadyH.nil
  go_simp
  refine (specStoDo_any _ _ _ its ws (KI.out _ (Below.refl _ _).drew) (KW.out _ (Below.refl _ _).drew)).mono ?_; rintro e w3 ⟨u3, rfl, ho3, hb3⟩; rw [HR.out] at ho3; have HP3 := Lib.hid ho3.items; have HQ3 := Lib.hid (show Below (w2.alloc (.cells #[.slice A3 R.length c3] 40)).heap.size (w2.alloc (.cells #[.slice A3 R.length c3] 40)) w3 from (Below.refl _ (w2.alloc (.cells #[.slice A3 R.length c3] 40))).drew.trans hb3); have k1 := And.intro (KC.out _ HQ3.out).2 (KC.out _ HQ3.out).1; clear hb3 ho3
  go_wp2_with fail
  refine hKr_4.out _ _ ?kr_4 (fun hHeldr_4 => ?dr_4)
  case kr_4 => (first | (dsimp only; (first | with_reducible exact k2 | with_reducible exact k1 | exact k0)) | (first | with_reducible exact k2 | with_reducible exact k1 | exact k0))
  clear hKr_4 Kr_4
  refine wpAnyH_ready (rs := [4]) (by kernel_rfl) (by simp) ?_
  refine AllReadyH.cons (o := _) rfl (fun Kr_5 hKr_5 => ?cr_5) ?mr_5
  case mr_5 => exact AllReadyH.nil
  go_simp
  refine (jaSto_same _ _ _ R (KR.out _ HQ3.out) HP3.out).mono ?_; rintro e w4 ⟨rfl, hb4⟩; have HQ4 := Lib.hid (belowNext HQ3.out hb4); have k2 := And.intro (KC.out _ HQ4.out).2 (KC.out _ HQ4.out).1; clear hb4
  go_wp2_with fail
  refine hKr_5.out _ _ ?kr_5 (fun hHeldr_5 => ?dr_5)
  case kr_5 => (first | (dsimp only; (first | with_reducible exact k2 | with_reducible exact k1 | exact k0)) | (first | with_reducible exact k2 | with_reducible exact k1 | exact k0))
  clear hKr_5 Kr_5
  refine take_first 5 24 (v := ?vr_6) rfl rfl (by kernel_rfl) (by kernel_rfl) (by kernel_rfl) (fun _ _ _ h => h) (by rfl) ?yr_6 (by assumption) ?rr_6
  case yr_6 => (intro w hSw; (try dsimp only at hSw); go_simp; (try with_reducible rfl))
  simp only [Act.put, List.setIfInBounds_toArray, List.set_cons_zero, List.set_cons_succ]
  refine wpAnyH_done (by kernel_rfl) ?er _
  clear k0 k1 k2 HQ3 HP3
  have x3 := (KC.out _ HQ4.out).1
  go_wp2_with fail
  refine (specStoOk_any _ _ its (KI.out _ HQ4.out)).mono ?_
  rintro e w5 ⟨rfl, hb⟩
  have HQ5 := Lib.hid (belowNext HQ4.out hb)
  clear hb HQ4 x3
  cases hs : stoB its with
  | false =>
    go_wp2_with fail
    refine (jaOk_any _).mono ?_
    rintro e w6 ⟨rfl, hb⟩
    have HQ6 := Lib.hid (belowNext HQ5.out hb)
    clear hb
    go_wp2
    go_ret
    exact ⟨rfl, KB.out _ HQ6.out⟩
  | true =>
    have x3 := (KC.out _ HQ5.out).1
    by_cases hsum : (its.length : Int) + 2 * (ws.length : Int) ≤ 40
    · have HS := Lib.hid hs
      clear hs
      go_wp2
      clear x3
      go_loopw [6] (fun i wr => ∃ k : Nat, k ≤ ws.length ∧ i = .int .i64 k ∧ (∀ j x, j < k → ws[j]? = some x → x.ok = true) ∧ Below (w2.alloc (.cells #[.slice A3 R.length c3] 40)).heap.size (w2.alloc (.cells #[.slice A3 R.length c3] 40)) wr) (fun i _ => ws.length - (intOf i).toNat)
      case atStart => exact ⟨0, Nat.zero_le _, rfl, fun j _ h => absurd h (by omega), HQ5.out⟩
      case round =>
        clear HQ5
        obtain ⟨k, hk, rfl, he, hb⟩ := hrel
        have HQ := Lib.hid hb
        clear hb
        by_cases hlt : k < ws.length
        · obtain ⟨b, off, c', x, p, e1, hx, hB, hks, c0, c1', c2', hp⟩ := (KW.out _ HQ.out).at_ (k := k) hlt
          obtain ⟨A', c'', rfl, -, -⟩ := hp.form
          injection e1 with e1a e1b e1c
          subst e1a
          have HP := Lib.hid hp
          have HX := Lib.hid hx
          have HE := Lib.hid he
          clear e1b e1c hp hx he
          rcases hok : x.ok
          · have HR0 := Lib.hid (show R = [] from HR.out.symm.trans (doneBad HX.out hok))
            have hp' : wrtB x.key x.del x.val = false := hok
            clear hok
            go_wp2_with fail
            refine (specWrtOk_any _ _ _ _ _ hks HP.out).mono ?_
            rintro e w6 ⟨rfl, hb⟩
            rw [hp']
            have HQ6 := Lib.hid (belowNext HQ.out hb)
            clear hb
            have y5 := (KC.out _ HQ6.out).2
            have hr0 : (R.length : Int) = 0 := by rw [HR0.out]; rfl
            go_wp2
            go_ret
            exact ⟨rfl, KB.out _ HQ6.out⟩
          · have hp' : wrtB x.key x.del x.val = true := hok
            have HF : Hid (∀ j y, j < k + 1 → ws[j]? = some y → y.ok = true) := Lib.hid fun j y hj hy => by
              rcases Nat.lt_or_ge j k with h1 | h1
              · exact HE.out j y h1 hy
              · have : j = k := by omega
                subst this
                rw [HX.out] at hy
                injection hy with hy
                rw [← hy]; exact hok
            clear hok
            go_wp2_with fail
            refine (specWrtOk_any _ _ _ _ _ hks HP.out).mono ?_
            rintro e w6 ⟨rfl, hb⟩
            rw [hp']
            have HQ6 := Lib.hid (belowNext HQ.out hb)
            clear hb
            go_wp2
            go_roundw
            case rel => exact ⟨k + 1, by omega, by go_num, HF.out, HQ6.out⟩
            case measure => simp [intOf]; omega
        · have HOk : Hid (∀ x ∈ ws, x.ok = true) := Lib.hid fun x hx => by
            obtain ⟨j, hj, rfl⟩ := List.getElem_of_mem hx
            exact he j _ (by omega) (List.getElem?_eq_getElem hj)
          clear he
          have HRs : Hid (stoB R = true) := Lib.hid (by rw [← HR.out]; exact (stoDo_some HS.out HOk.out (by omega)).1)
          have HAg : Hid (stoDo R ws = R) := Lib.hid (by rw [← HR.out]; exact sto_again HS.out HOk.out (by omega))
          have y5 := (KC.out _ HQ.out).2
          have hRl : (R.length : Int) ≤ 40 := by have := (stoB_three HRs.out).1; omega
          by_cases h0 : 0 < R.length
          · obtain ⟨b, off, c', it, p, e1, hit, hB, hks, ck, cu, hp⟩ := (KR.out _ HQ.out).at_ (k := 0) h0
            injection e1 with e1a e1b e1c
            subst e1a
            simp only [Nat.zero_mul, Nat.add_zero] at ck
            obtain ⟨M, hM⟩ : ∃ M, stoDo R [⟨it.key, true, []⟩] = M := ⟨_, rfl⟩
            have hMl : (M.length : Int) = (R.length : Int) - 1 := by have h := sto_less HRs.out hit; rw [hM] at h; omega
            have HMl := Lib.hid hMl
            have HM := Lib.hid hM
            have hr1 : (0 : Int) < (R.length : Int) := by omega
            have hz2r : w2.heap.size < wr.heap.size := by have h := HQ.out.size; rw [allocSize] at h; omega
            have KS := Lib.hid fun V (h : Below wr.heap.size wr V) => And.intro ((h.cell (p := ⟨w2.heap.size, 0, none⟩) hz2r).trans y5) ((h.cell (p := ⟨b, off, none⟩) hB).trans ck)
            have k0 := And.intro y5 ck
            clear e1b e1c hit cu hp hM hMl y5 ck
            go_wp2
            refine wp_region_held_drew (S := (fun w' => w'.cell? ⟨w2.heap.size, 0, none⟩ = some (.slice (some ⟨b, off, none⟩) R.length c3) ∧ w'.cell? ⟨b, off, none⟩ = some (.string it.key))) (by kernel_rfl) ?hSz (fun hHeldz => ?stz)
            case hSz => (first | (dsimp only; (exact k0)) | (exact k0))
            refine take_first 0 59 (v := ?vz_1) rfl rfl (by kernel_rfl) (by kernel_rfl) (by kernel_rfl) (fun _ _ _ h => h) (by rfl) ?yz_1 (by assumption) ?rz_1
            case yz_1 => (intro w hSw; (try dsimp only at hSw); go_simp; (try with_reducible rfl))
            simp only [Act.put, List.setIfInBounds_toArray, List.set_cons_zero, List.set_cons_succ]
            refine take_first 1 60 (v := ?vz_2) rfl rfl (by kernel_rfl) (by kernel_rfl) (by kernel_rfl) (fun _ _ _ h => h) (by rfl) ?yz_2 (by assumption) ?rz_2
            case yz_2 => (intro w hSw; (try dsimp only at hSw); go_simp; (try with_reducible rfl))
            simp only [Act.put, List.setIfInBounds_toArray, List.set_cons_zero, List.set_cons_succ]
            refine take_first 2 61 (v := ?vz_3) rfl rfl (by kernel_rfl) (by kernel_rfl) (by kernel_rfl) (fun _ _ _ h => h) (by rfl) ?yz_3 (by assumption) ?rz_3
            case yz_3 => (intro w hSw; (try dsimp only at hSw); go_simp; (try with_reducible rfl))
            simp only [Act.put, List.setIfInBounds_toArray, List.set_cons_zero, List.set_cons_succ]
            refine take_first 3 62 (v := ?vz_4) rfl rfl (by kernel_rfl) (by kernel_rfl) (by kernel_rfl) (fun _ _ _ h => h) (by rfl) ?yz_4 (by assumption) ?rz_4
            case yz_4 => (intro w hSw; (try dsimp only at hSw); go_simp; (try with_reducible rfl))
            simp only [Act.put, List.setIfInBounds_toArray, List.set_cons_zero, List.set_cons_succ]
            refine take_first 4 63 (v := ?vz_5) rfl rfl (by kernel_rfl) (by kernel_rfl) (by kernel_rfl) (fun _ _ _ h => h) (by rfl) ?yz_5 (by assumption) ?rz_5
            case yz_5 => (intro w hSw; (try dsimp only at hSw); go_simp; (try with_reducible rfl))
            simp only [Act.put, List.setIfInBounds_toArray, List.set_cons_zero, List.set_cons_succ]
            refine take_first 5 64 (v := ?vz_6) rfl rfl (by kernel_rfl) (by kernel_rfl) (by kernel_rfl) (fun _ _ _ h => h) (by rfl) ?yz_6 (by assumption) ?rz_6
            case yz_6 => (intro w hSw; (try dsimp only at hSw); go_simp; (try with_reducible rfl))
            simp only [Act.put, List.setIfInBounds_toArray, List.set_cons_zero, List.set_cons_succ]
            refine take_first 6 65 (v := ?vz_7) rfl rfl (by kernel_rfl) (by kernel_rfl) (by kernel_rfl) (fun _ _ _ h => h) (by rfl) ?yz_7 (by assumption) ?rz_7
            case yz_7 => (intro w hSw; (try dsimp only at hSw); go_simp; (try with_reducible rfl))
            simp only [Act.put, List.setIfInBounds_toArray, List.set_cons_zero, List.set_cons_succ]
            refine wpAnyH_ready (rs := [7, 9]) (by kernel_rfl) (by simp) ?_
            refine AllReadyH.cons (o := _) rfl (fun Ka hKa => ?pKa) (AllReadyH.cons (o := _) rfl (fun Kb hKb => ?pKb) AllReadyH.nil)
            case pKa =>
              have HNa := Lib.hid (show Below wr.heap.size wr (wr.alloc (.cells #[.string it.key, .bool true, .slice none 0 0] 57)).drew from (belowOne wr (.cells #[.string it.key, .bool true, .slice none 0 0] 57)).drew)
              have HLa := Lib.hid (show Held (wr.alloc (.cells #[.string it.key, .bool true, .slice none 0 0] 57)).drew wr.heap.size [.string it.key, .bool true, .slice none 0 0] from Held.new wr #[.string it.key, .bool true, .slice none 0 0] 57)
              go_simp
              go_wp2_with fail
              refine hKa.out _ _ ?kKa (fun _ => ?dKa)
              case kKa => exact KS.out _ HNa.out
              clear hKa Ka
              refine wpAnyH_ready (rs := [8, 9]) (by kernel_rfl) (by simp) ?_
              refine AllReadyH.cons (o := _) rfl (fun Kc hKc => ?pKc) (AllReadyH.cons (o := _) rfl (fun Kd hKd => ?pKd) AllReadyH.nil)
              case pKc =>
                go_simp
                refine (implStoDo_any _ _ _ R [⟨it.key, true, []⟩] (KR.out _ (HQ.out.trans (HNa.out.mono HQ.out.size))) (dropWr HLa.out hks)).mono ?_
                rintro e w8 ⟨u8, rfl, ho8, hb8⟩
                rw [HM.out] at ho8
                obtain ⟨A8, c8, hf8, -, -⟩ := ho8.row.form
                subst hf8
                have HN8 := Lib.hid (show Below wr.heap.size wr w8 from HNa.out.trans (hb8.mono HNa.out.size))
                clear ho8 hb8
                go_wp2_with fail
                refine hKc.out _ _ ?kKc (fun _ => ?dKc)
                case kKc => exact KS.out _ HN8.out
                clear hKc Kc
                have HN9 := Lib.hid (show Below wr.heap.size wr (w8.alloc (.cells #[.slice none 0 0] 40)) from HN8.out.alloc HN8.out.size _)
                refine wpAnyH_ready (rs := [9]) (by kernel_rfl) (by simp) ?_
                refine AllReadyH.cons (o := _) rfl (fun Ke1 hKe1 => ?pKe1) ?mKe1
                case mKe1 => exact AllReadyH.nil
                go_simp
                go_wp2_with fail
                refine hKe1.out _ _ ?kKe1 (fun _ => ?dKe1)
                case kKe1 => exact KS.out _ HN9.out
                clear hKe1 Ke1
                refine wpAnyH_ready (rs := [10]) (by kernel_rfl) (by simp) ?_
                refine AllReadyH.cons (o := _) rfl (fun Kf1 hKf1 => ?pKf1) ?mKf1
                case mKf1 => exact AllReadyH.nil
                have HNf := Lib.hid (show Below wr.heap.size wr (w8.alloc (.cells #[.slice A8 M.length c8] 40)) from HN8.out.alloc HN8.out.size _)
                have HQf := Lib.hid (HQ.out.trans (HNf.out.mono HQ.out.size))
                go_simp
                go_wp2_with fail
                refine hKf1.out _ _ ?kKf1 (fun _ => ?dKf1)
                case kKf1 => exact KS.out _ HNf.out
                clear hKf1 Kf1
                refine wpAnyH_done (by kernel_rfl) ?eKf1 _
                have y5 := (KC.out _ HQf.out).2
                have k0 : (w8.alloc (.cells #[.slice A8 M.length c8] 40)).drew.cell? ⟨w2.heap.size, 0, none⟩ = some (.slice (some ⟨b, off, none⟩) R.length c3) := y5
                skip
                have hm := HMl.out
                go_wp2
                refine wp_region_held_drew (S := (fun w' => w'.cell? ⟨w2.heap.size, 0, none⟩ = some (.slice (some ⟨b, off, none⟩) R.length c3))) (by kernel_rfl) ?hSqa (fun hHeldqa => ?stqa)
                case hSqa => (first | (dsimp only; (first | with_reducible exact k3 | with_reducible exact k2 | with_reducible exact k1 | exact k0)) | (first | with_reducible exact k3 | with_reducible exact k2 | with_reducible exact k1 | exact k0))
                refine take_first 0 76 (v := ?vqa_1) rfl rfl (by kernel_rfl) (by kernel_rfl) (by kernel_rfl) (fun _ _ _ h => h) (by rfl) ?yqa_1 (by assumption) ?rqa_1
                case yqa_1 => (intro w hSw; (try dsimp only at hSw); go_simp; (try with_reducible rfl))
                simp only [Act.put, List.setIfInBounds_toArray, List.set_cons_zero, List.set_cons_succ]
                refine take_first 1 77 (v := ?vqa_2) rfl rfl (by kernel_rfl) (by kernel_rfl) (by kernel_rfl) (fun _ _ _ h => h) (by rfl) ?yqa_2 (by assumption) ?rqa_2
                case yqa_2 => (intro w hSw; (try dsimp only at hSw); go_simp; (try with_reducible rfl))
                simp only [Act.put, List.setIfInBounds_toArray, List.set_cons_zero, List.set_cons_succ]
                refine take_first 3 79 (v := ?vqa_3) rfl rfl (by kernel_rfl) (by kernel_rfl) (by kernel_rfl) (fun _ _ _ h => h) (by rfl) ?yqa_3 (by assumption) ?rqa_3
                case yqa_3 => (intro w hSw; (try dsimp only at hSw); go_simp; (try with_reducible rfl))
                simp only [Act.put, List.setIfInBounds_toArray, List.set_cons_zero, List.set_cons_succ]
                refine wpAnyH_ready (rs := [2]) (by kernel_rfl) (by simp) ?_
                refine AllReadyH.cons (o := _) rfl (fun Kqa_4 hKqa_4 => ?cqa_4) ?mqa_4
                case mqa_4 => exact AllReadyH.nil
                go_simp
                refine (implStoDo_any _ _ _ R ws (KR.out _ HQf.out.drew) (KW.out _ HQf.out.drew)).mono ?_; rintro e wa ⟨ua, rfl, hoa, hba⟩; rw [HAg.out] at hoa; have HPa := Lib.hid (items_row.1 hoa.row); have HQa := Lib.hid (HQf.out.drew.trans (hba.mono HQf.out.size)); have k1 := (KC.out _ HQa.out).2; clear hoa hba
                go_wp2_with fail
                refine hKqa_4.out _ _ ?kqa_4 (fun hHeldqa_4 => ?dqa_4)
                case kqa_4 => (first | (dsimp only; (first | with_reducible exact k3 | with_reducible exact k2 | with_reducible exact k1 | exact k0)) | (first | with_reducible exact k3 | with_reducible exact k2 | with_reducible exact k1 | exact k0))
                clear hKqa_4 Kqa_4
                refine wpAnyH_ready (rs := [4]) (by kernel_rfl) (by simp) ?_
                refine AllReadyH.cons (o := _) rfl (fun Kqa_5 hKqa_5 => ?cqa_5) ?mqa_5
                case mqa_5 => exact AllReadyH.nil
                go_simp
                refine (jaSto_same _ _ _ R HPa.out (KR.out _ HQa.out)).mono ?_; rintro e wb ⟨rfl, hbb⟩; have HQb := Lib.hid (belowNext HQa.out hbb); have k2 := (KC.out _ HQb.out).2; clear hbb
                go_wp2_with fail
                refine hKqa_5.out _ _ ?kqa_5 (fun hHeldqa_5 => ?dqa_5)
                case kqa_5 => (first | (dsimp only; (first | with_reducible exact k3 | with_reducible exact k2 | with_reducible exact k1 | exact k0)) | (first | with_reducible exact k3 | with_reducible exact k2 | with_reducible exact k1 | exact k0))
                clear hKqa_5 Kqa_5
                refine take_first 5 81 (v := ?vqa_6) rfl rfl (by kernel_rfl) (by kernel_rfl) (by kernel_rfl) (fun _ _ _ h => h) (by rfl) ?yqa_6 (by assumption) ?rqa_6
                case yqa_6 => (intro w hSw; (try dsimp only at hSw); go_simp; (try with_reducible rfl))
                simp only [Act.put, List.setIfInBounds_toArray, List.set_cons_zero, List.set_cons_succ]
                refine wpAnyH_ready (rs := [6]) (by kernel_rfl) (by simp) ?_
                refine AllReadyH.cons (o := _) rfl (fun Kqa_7 hKqa_7 => ?cqa_7) ?mqa_7
                case mqa_7 => exact AllReadyH.nil
                go_simp
                refine (jaOk_any _).mono ?_; rintro e wc ⟨rfl, hbc⟩; have HQc := Lib.hid (belowNext HQb.out hbc); have k3 := (KC.out _ HQc.out).2; clear hbc
                go_wp2_with fail
                refine hKqa_7.out _ _ ?kqa_7 (fun hHeldqa_7 => ?dqa_7)
                case kqa_7 => (first | (dsimp only; (first | with_reducible exact k3 | with_reducible exact k2 | with_reducible exact k1 | exact k0)) | (first | with_reducible exact k3 | with_reducible exact k2 | with_reducible exact k1 | exact k0))
                clear hKqa_7 Kqa_7
                refine take_first 7 83 (v := ?vqa_8) rfl rfl (by kernel_rfl) (by kernel_rfl) (by kernel_rfl) (fun _ _ _ h => h) (by rfl) ?yqa_8 (by assumption) ?rqa_8
                case yqa_8 => (intro w hSw; (try dsimp only at hSw); go_simp; (try with_reducible rfl))
                simp only [Act.put, List.setIfInBounds_toArray, List.set_cons_zero, List.set_cons_succ]
                refine take_first 8 2 (v := ?vqa_9) rfl rfl (by kernel_rfl) (by kernel_rfl) (by kernel_rfl) (fun _ _ _ h => h) (by rfl) ?yqa_9 (by assumption) ?rqa_9
                case yqa_9 => (intro w hSw; (try dsimp only at hSw); go_simp; (try with_reducible rfl))
                simp only [Act.put, List.setIfInBounds_toArray, List.set_cons_zero, List.set_cons_succ]
                refine wpAnyH_done (by kernel_rfl) ?eqa _
                go_wp2
                go_ret
                exact ⟨rfl, KB.out _ HQc.out⟩
              case pKd =>
                have HNb := Lib.hid (show Below wr.heap.size wr ((wr.alloc (.cells #[.string it.key, .bool true, .slice none 0 0] 57)).alloc (.cells #[.slice none 0 0] 40)).drew from (belowTwo wr (.cells #[.string it.key, .bool true, .slice none 0 0] 57) (.cells #[.slice none 0 0] 40)).drew)
                have HLb := Lib.hid (show Held ((wr.alloc (.cells #[.string it.key, .bool true, .slice none 0 0] 57)).alloc (.cells #[.slice none 0 0] 40)).drew wr.heap.size [.string it.key, .bool true, .slice none 0 0] from HLa.out.after (.cells #[.slice none 0 0] 40))
                have HXb := Lib.hid (show Held ((wr.alloc (.cells #[.string it.key, .bool true, .slice none 0 0] 57)).alloc (.cells #[.slice none 0 0] 40)).drew (wr.heap.size + 1) [.slice none 0 0] from by have h := Held.new (wr.alloc (.cells #[.string it.key, .bool true, .slice none 0 0] 57)) #[.slice none 0 0] 40; rwa [allocSize] at h)
                go_simp
                go_wp2_with fail
                refine hKd.out _ _ ?kKd (fun _ => ?dKd)
                case kKd => exact KS.out _ HNb.out
                clear hKd Kd
                refine wpAnyH_ready (rs := [8]) (by kernel_rfl) (by simp) ?_
                refine AllReadyH.cons (o := _) rfl (fun Ke2 hKe2 => ?pKe2) ?mKe2
                case mKe2 => exact AllReadyH.nil
                go_simp
                refine (implStoDo_any _ _ _ R [⟨it.key, true, []⟩] (KR.out _ (HQ.out.trans (HNb.out.mono HQ.out.size))) (dropWr HLb.out hks)).mono ?_
                rintro e w8 ⟨u8, rfl, ho8, hb8⟩
                rw [HM.out] at ho8
                obtain ⟨A8, c8, hf8, -, -⟩ := ho8.row.form
                subst hf8
                have HN8 := Lib.hid (show Below wr.heap.size wr w8 from HNb.out.trans (hb8.mono HNb.out.size))
                have HX8 := Lib.hid (HXb.out.below hb8 HXb.out.1)
                clear ho8 hb8
                go_wp2_with fail
                refine hKe2.out _ _ ?kKe2 (fun _ => ?dKe2)
                case kKe2 => exact KS.out _ HN8.out
                clear hKe2 Ke2
                have r0 := HX8.out.of 0 _ rfl
                have rf := HX8.out.2.1
                refine wpAnyH_ready (rs := [10]) (by kernel_rfl) (by simp) ?_
                refine AllReadyH.cons (o := _) rfl (fun Kf2 hKf2 => ?pKf2) ?mKf2
                case mKf2 => exact AllReadyH.nil
                have HXf := Lib.hid (HX8.out.set_ (i := 0) (.slice A8 M.length c8))
                have HNf := Lib.hid (show Below wr.heap.size wr (w8.setCell ⟨wr.heap.size + 1, 0, none⟩ (.slice A8 M.length c8)) from HN8.out.setCell (by show wr.heap.size ≤ wr.heap.size + 1; omega) _)
                have HQf := Lib.hid (HQ.out.trans (HNf.out.mono HQ.out.size))
                go_simp
                go_wp2_with fail
                refine hKf2.out _ _ ?kKf2 (fun _ => ?dKf2)
                case kKf2 => exact KS.out _ HNf.out
                clear hKf2 Kf2
                refine wpAnyH_done (by kernel_rfl) ?eKf2 _
                have y5 := (KC.out _ HQf.out).2
                have k0 : (w8.setCell ⟨wr.heap.size + 1, 0, none⟩ (.slice A8 M.length c8)).drew.cell? ⟨w2.heap.size, 0, none⟩ = some (.slice (some ⟨b, off, none⟩) R.length c3) := y5
                clear r0 rf
                have t7 := HXf.out.of 0 _ rfl
                have hm := HMl.out
                go_wp2
                refine wp_region_held_drew (S := (fun w' => w'.cell? ⟨w2.heap.size, 0, none⟩ = some (.slice (some ⟨b, off, none⟩) R.length c3))) (by kernel_rfl) ?hSqb (fun hHeldqb => ?stqb)
                case hSqb => (first | (dsimp only; (first | with_reducible exact k3 | with_reducible exact k2 | with_reducible exact k1 | exact k0)) | (first | with_reducible exact k3 | with_reducible exact k2 | with_reducible exact k1 | exact k0))
                refine take_first 0 76 (v := ?vqb_1) rfl rfl (by kernel_rfl) (by kernel_rfl) (by kernel_rfl) (fun _ _ _ h => h) (by rfl) ?yqb_1 (by assumption) ?rqb_1
                case yqb_1 => (intro w hSw; (try dsimp only at hSw); go_simp; (try with_reducible rfl))
                simp only [Act.put, List.setIfInBounds_toArray, List.set_cons_zero, List.set_cons_succ]
                refine take_first 1 77 (v := ?vqb_2) rfl rfl (by kernel_rfl) (by kernel_rfl) (by kernel_rfl) (fun _ _ _ h => h) (by rfl) ?yqb_2 (by assumption) ?rqb_2
                case yqb_2 => (intro w hSw; (try dsimp only at hSw); go_simp; (try with_reducible rfl))
                simp only [Act.put, List.setIfInBounds_toArray, List.set_cons_zero, List.set_cons_succ]
                refine take_first 3 79 (v := ?vqb_3) rfl rfl (by kernel_rfl) (by kernel_rfl) (by kernel_rfl) (fun _ _ _ h => h) (by rfl) ?yqb_3 (by assumption) ?rqb_3
                case yqb_3 => (intro w hSw; (try dsimp only at hSw); go_simp; (try with_reducible rfl))
                simp only [Act.put, List.setIfInBounds_toArray, List.set_cons_zero, List.set_cons_succ]
                refine wpAnyH_ready (rs := [2]) (by kernel_rfl) (by simp) ?_
                refine AllReadyH.cons (o := _) rfl (fun Kqb_4 hKqb_4 => ?cqb_4) ?mqb_4
                case mqb_4 => exact AllReadyH.nil
                go_simp
                refine (implStoDo_any _ _ _ R ws (KR.out _ HQf.out.drew) (KW.out _ HQf.out.drew)).mono ?_; rintro e wa ⟨ua, rfl, hoa, hba⟩; rw [HAg.out] at hoa; have HPa := Lib.hid (items_row.1 hoa.row); have HQa := Lib.hid (HQf.out.drew.trans (hba.mono HQf.out.size)); have k1 := (KC.out _ HQa.out).2; clear hoa hba
                go_wp2_with fail
                refine hKqb_4.out _ _ ?kqb_4 (fun hHeldqb_4 => ?dqb_4)
                case kqb_4 => (first | (dsimp only; (first | with_reducible exact k3 | with_reducible exact k2 | with_reducible exact k1 | exact k0)) | (first | with_reducible exact k3 | with_reducible exact k2 | with_reducible exact k1 | exact k0))
                clear hKqb_4 Kqb_4
                refine wpAnyH_ready (rs := [4]) (by kernel_rfl) (by simp) ?_
                refine AllReadyH.cons (o := _) rfl (fun Kqb_5 hKqb_5 => ?cqb_5) ?mqb_5
                case mqb_5 => exact AllReadyH.nil
                go_simp
                refine (jaSto_same _ _ _ R HPa.out (KR.out _ HQa.out)).mono ?_; rintro e wb ⟨rfl, hbb⟩; have HQb := Lib.hid (belowNext HQa.out hbb); have k2 := (KC.out _ HQb.out).2; clear hbb
                go_wp2_with fail
                refine hKqb_5.out _ _ ?kqb_5 (fun hHeldqb_5 => ?dqb_5)
                case kqb_5 => (first | (dsimp only; (first | with_reducible exact k3 | with_reducible exact k2 | with_reducible exact k1 | exact k0)) | (first | with_reducible exact k3 | with_reducible exact k2 | with_reducible exact k1 | exact k0))
                clear hKqb_5 Kqb_5
                refine take_first 5 81 (v := ?vqb_6) rfl rfl (by kernel_rfl) (by kernel_rfl) (by kernel_rfl) (fun _ _ _ h => h) (by rfl) ?yqb_6 (by assumption) ?rqb_6
                case yqb_6 => (intro w hSw; (try dsimp only at hSw); go_simp; (try with_reducible rfl))
                simp only [Act.put, List.setIfInBounds_toArray, List.set_cons_zero, List.set_cons_succ]
                refine wpAnyH_ready (rs := [6]) (by kernel_rfl) (by simp) ?_
                refine AllReadyH.cons (o := _) rfl (fun Kqb_7 hKqb_7 => ?cqb_7) ?mqb_7
                case mqb_7 => exact AllReadyH.nil
                go_simp
                refine (jaOk_any _).mono ?_; rintro e wc ⟨rfl, hbc⟩; have HQc := Lib.hid (belowNext HQb.out hbc); have k3 := (KC.out _ HQc.out).2; clear hbc
                go_wp2_with fail
                refine hKqb_7.out _ _ ?kqb_7 (fun hHeldqb_7 => ?dqb_7)
                case kqb_7 => (first | (dsimp only; (first | with_reducible exact k3 | with_reducible exact k2 | with_reducible exact k1 | exact k0)) | (first | with_reducible exact k3 | with_reducible exact k2 | with_reducible exact k1 | exact k0))
                clear hKqb_7 Kqb_7
                refine take_first 7 83 (v := ?vqb_8) rfl rfl (by kernel_rfl) (by kernel_rfl) (by kernel_rfl) (fun _ _ _ h => h) (by rfl) ?yqb_8 (by assumption) ?rqb_8
                case yqb_8 => (intro w hSw; (try dsimp only at hSw); go_simp; (try with_reducible rfl))
                simp only [Act.put, List.setIfInBounds_toArray, List.set_cons_zero, List.set_cons_succ]
                refine take_first 8 2 (v := ?vqb_9) rfl rfl (by kernel_rfl) (by kernel_rfl) (by kernel_rfl) (fun _ _ _ h => h) (by rfl) ?yqb_9 (by assumption) ?rqb_9
                case yqb_9 => (intro w hSw; (try dsimp only at hSw); go_simp; (try with_reducible rfl))
                simp only [Act.put, List.setIfInBounds_toArray, List.set_cons_zero, List.set_cons_succ]
                refine wpAnyH_done (by kernel_rfl) ?eqb _
                go_wp2
                go_ret
                exact ⟨rfl, KB.out _ HQc.out⟩
            case pKb =>
              have HNa := Lib.hid (show Below wr.heap.size wr (wr.alloc (.cells #[.slice none 0 0] 40)).drew from (belowOne wr (.cells #[.slice none 0 0] 40)).drew)
              go_simp
              go_wp2_with fail
              refine hKb.out _ _ ?kKb (fun _ => ?dKb)
              case kKb => exact KS.out _ HNa.out
              clear hKb Kb
              refine wpAnyH_ready (rs := [7]) (by kernel_rfl) (by simp) ?_
              refine AllReadyH.cons (o := _) rfl (fun Kg hKg => ?pKg) ?mKg
              case mKg => exact AllReadyH.nil
              have HNb := Lib.hid (show Below wr.heap.size wr ((wr.alloc (.cells #[.slice none 0 0] 40)).alloc (.cells #[.string it.key, .bool true, .slice none 0 0] 57)).drew from (belowTwo wr (.cells #[.slice none 0 0] 40) (.cells #[.string it.key, .bool true, .slice none 0 0] 57)).drew)
              have HLb := Lib.hid (show Held ((wr.alloc (.cells #[.slice none 0 0] 40)).alloc (.cells #[.string it.key, .bool true, .slice none 0 0] 57)).drew (wr.heap.size + 1) [.string it.key, .bool true, .slice none 0 0] from by have h := Held.new (wr.alloc (.cells #[.slice none 0 0] 40)) #[.string it.key, .bool true, .slice none 0 0] 57; rwa [allocSize] at h)
              have HXb := Lib.hid (show Held ((wr.alloc (.cells #[.slice none 0 0] 40)).alloc (.cells #[.string it.key, .bool true, .slice none 0 0] 57)).drew wr.heap.size [.slice none 0 0] from (Held.new wr #[.slice none 0 0] 40).after (.cells #[.string it.key, .bool true, .slice none 0 0] 57))
              go_simp
              go_wp2_with fail
              refine hKg.out _ _ ?kKg (fun _ => ?dKg)
              case kKg => exact KS.out _ HNb.out
              clear hKg Kg
              refine wpAnyH_ready (rs := [8]) (by kernel_rfl) (by simp) ?_
              refine AllReadyH.cons (o := _) rfl (fun Ke3 hKe3 => ?pKe3) ?mKe3
              case mKe3 => exact AllReadyH.nil
              go_simp
              refine (implStoDo_any _ _ _ R [⟨it.key, true, []⟩] (KR.out _ (HQ.out.trans (HNb.out.mono HQ.out.size))) (dropWr HLb.out hks)).mono ?_
              rintro e w8 ⟨u8, rfl, ho8, hb8⟩
              rw [HM.out] at ho8
              obtain ⟨A8, c8, hf8, -, -⟩ := ho8.row.form
              subst hf8
              have HN8 := Lib.hid (show Below wr.heap.size wr w8 from HNb.out.trans (hb8.mono HNb.out.size))
              have HX8 := Lib.hid (HXb.out.below hb8 HXb.out.1)
              clear ho8 hb8
              go_wp2_with fail
              refine hKe3.out _ _ ?kKe3 (fun _ => ?dKe3)
              case kKe3 => exact KS.out _ HN8.out
              clear hKe3 Ke3
              have r0 := HX8.out.of 0 _ rfl
              have rf := HX8.out.2.1
              refine wpAnyH_ready (rs := [10]) (by kernel_rfl) (by simp) ?_
              refine AllReadyH.cons (o := _) rfl (fun Kf3 hKf3 => ?pKf3) ?mKf3
              case mKf3 => exact AllReadyH.nil
              have HXf := Lib.hid (HX8.out.set_ (i := 0) (.slice A8 M.length c8))
              have HNf := Lib.hid (show Below wr.heap.size wr (w8.setCell ⟨wr.heap.size, 0, none⟩ (.slice A8 M.length c8)) from HN8.out.setCell (by show wr.heap.size ≤ wr.heap.size; omega) _)
              have HQf := Lib.hid (HQ.out.trans (HNf.out.mono HQ.out.size))
              go_simp
              go_wp2_with fail
              refine hKf3.out _ _ ?kKf3 (fun _ => ?dKf3)
              case kKf3 => exact KS.out _ HNf.out
              clear hKf3 Kf3
              refine wpAnyH_done (by kernel_rfl) ?eKf3 _
              have y5 := (KC.out _ HQf.out).2
              have k0 : (w8.setCell ⟨wr.heap.size, 0, none⟩ (.slice A8 M.length c8)).drew.cell? ⟨w2.heap.size, 0, none⟩ = some (.slice (some ⟨b, off, none⟩) R.length c3) := y5
              clear r0 rf
              have t7 := HXf.out.of 0 _ rfl
              have hm := HMl.out
              go_wp2
              refine wp_region_held_drew (S := (fun w' => w'.cell? ⟨w2.heap.size, 0, none⟩ = some (.slice (some ⟨b, off, none⟩) R.length c3))) (by kernel_rfl) ?hSqd (fun hHeldqd => ?stqd)
              case hSqd => (first | (dsimp only; (first | with_reducible exact k3 | with_reducible exact k2 | with_reducible exact k1 | exact k0)) | (first | with_reducible exact k3 | with_reducible exact k2 | with_reducible exact k1 | exact k0))
              refine take_first 0 76 (v := ?vqd_1) rfl rfl (by kernel_rfl) (by kernel_rfl) (by kernel_rfl) (fun _ _ _ h => h) (by rfl) ?yqd_1 (by assumption) ?rqd_1
              case yqd_1 => (intro w hSw; (try dsimp only at hSw); go_simp; (try with_reducible rfl))
              simp only [Act.put, List.setIfInBounds_toArray, List.set_cons_zero, List.set_cons_succ]
              refine take_first 1 77 (v := ?vqd_2) rfl rfl (by kernel_rfl) (by kernel_rfl) (by kernel_rfl) (fun _ _ _ h => h) (by rfl) ?yqd_2 (by assumption) ?rqd_2
              case yqd_2 => (intro w hSw; (try dsimp only at hSw); go_simp; (try with_reducible rfl))
              simp only [Act.put, List.setIfInBounds_toArray, List.set_cons_zero, List.set_cons_succ]
              refine take_first 3 79 (v := ?vqd_3) rfl rfl (by kernel_rfl) (by kernel_rfl) (by kernel_rfl) (fun _ _ _ h => h) (by rfl) ?yqd_3 (by assumption) ?rqd_3
              case yqd_3 => (intro w hSw; (try dsimp only at hSw); go_simp; (try with_reducible rfl))
              simp only [Act.put, List.setIfInBounds_toArray, List.set_cons_zero, List.set_cons_succ]
              refine wpAnyH_ready (rs := [2]) (by kernel_rfl) (by simp) ?_
              refine AllReadyH.cons (o := _) rfl (fun Kqd_4 hKqd_4 => ?cqd_4) ?mqd_4
              case mqd_4 => exact AllReadyH.nil
              go_simp
              refine (implStoDo_any _ _ _ R ws (KR.out _ HQf.out.drew) (KW.out _ HQf.out.drew)).mono ?_; rintro e wa ⟨ua, rfl, hoa, hba⟩; rw [HAg.out] at hoa; have HPa := Lib.hid (items_row.1 hoa.row); have HQa := Lib.hid (HQf.out.drew.trans (hba.mono HQf.out.size)); have k1 := (KC.out _ HQa.out).2; clear hoa hba
              go_wp2_with fail
              refine hKqd_4.out _ _ ?kqd_4 (fun hHeldqd_4 => ?dqd_4)
              case kqd_4 => (first | (dsimp only; (first | with_reducible exact k3 | with_reducible exact k2 | with_reducible exact k1 | exact k0)) | (first | with_reducible exact k3 | with_reducible exact k2 | with_reducible exact k1 | exact k0))
              clear hKqd_4 Kqd_4
              refine wpAnyH_ready (rs := [4]) (by kernel_rfl) (by simp) ?_
              refine AllReadyH.cons (o := _) rfl (fun Kqd_5 hKqd_5 => ?cqd_5) ?mqd_5
              case mqd_5 => exact AllReadyH.nil
              go_simp
              refine (jaSto_same _ _ _ R HPa.out (KR.out _ HQa.out)).mono ?_; rintro e wb ⟨rfl, hbb⟩; have HQb := Lib.hid (belowNext HQa.out hbb); have k2 := (KC.out _ HQb.out).2; clear hbb
              go_wp2_with fail
              refine hKqd_5.out _ _ ?kqd_5 (fun hHeldqd_5 => ?dqd_5)
              case kqd_5 => (first | (dsimp only; (first | with_reducible exact k3 | with_reducible exact k2 | with_reducible exact k1 | exact k0)) | (first | with_reducible exact k3 | with_reducible exact k2 | with_reducible exact k1 | exact k0))
              clear hKqd_5 Kqd_5
              refine take_first 5 81 (v := ?vqd_6) rfl rfl (by kernel_rfl) (by kernel_rfl) (by kernel_rfl) (fun _ _ _ h => h) (by rfl) ?yqd_6 (by assumption) ?rqd_6
              case yqd_6 => (intro w hSw; (try dsimp only at hSw); go_simp; (try with_reducible rfl))
              simp only [Act.put, List.setIfInBounds_toArray, List.set_cons_zero, List.set_cons_succ]
              refine wpAnyH_ready (rs := [6]) (by kernel_rfl) (by simp) ?_
              refine AllReadyH.cons (o := _) rfl (fun Kqd_7 hKqd_7 => ?cqd_7) ?mqd_7
              case mqd_7 => exact AllReadyH.nil
              go_simp
              refine (jaOk_any _).mono ?_; rintro e wc ⟨rfl, hbc⟩; have HQc := Lib.hid (belowNext HQb.out hbc); have k3 := (KC.out _ HQc.out).2; clear hbc
              go_wp2_with fail
              refine hKqd_7.out _ _ ?kqd_7 (fun hHeldqd_7 => ?dqd_7)
              case kqd_7 => (first | (dsimp only; (first | with_reducible exact k3 | with_reducible exact k2 | with_reducible exact k1 | exact k0)) | (first | with_reducible exact k3 | with_reducible exact k2 | with_reducible exact k1 | exact k0))
              clear hKqd_7 Kqd_7
              refine take_first 7 83 (v := ?vqd_8) rfl rfl (by kernel_rfl) (by kernel_rfl) (by kernel_rfl) (fun _ _ _ h => h) (by rfl) ?yqd_8 (by assumption) ?rqd_8
              case yqd_8 => (intro w hSw; (try dsimp only at hSw); go_simp; (try with_reducible rfl))
              simp only [Act.put, List.setIfInBounds_toArray, List.set_cons_zero, List.set_cons_succ]
              refine take_first 8 2 (v := ?vqd_9) rfl rfl (by kernel_rfl) (by kernel_rfl) (by kernel_rfl) (fun _ _ _ h => h) (by rfl) ?yqd_9 (by assumption) ?rqd_9
              case yqd_9 => (intro w hSw; (try dsimp only at hSw); go_simp; (try with_reducible rfl))
              simp only [Act.put, List.setIfInBounds_toArray, List.set_cons_zero, List.set_cons_succ]
              refine wpAnyH_done (by kernel_rfl) ?eqd _
              go_wp2
              go_ret
              exact ⟨rfl, KB.out _ HQc.out⟩
          · have hr0 : ¬ ((0 : Int) < (R.length : Int)) := by omega
            clear y5
            have y5 := (KC.out _ HQ.out).2
            have k0 : wr.drew.cell? ⟨w2.heap.size, 0, none⟩ = some (.slice A3 R.length c3) := y5
            go_wp2
            refine wp_region_held_drew (S := (fun w' => w'.cell? ⟨w2.heap.size, 0, none⟩ = some (.slice A3 R.length c3))) (by kernel_rfl) ?hSqn (fun hHeldqn => ?stqn)
            case hSqn => (first | (dsimp only; (first | with_reducible exact k3 | with_reducible exact k2 | with_reducible exact k1 | exact k0)) | (first | with_reducible exact k3 | with_reducible exact k2 | with_reducible exact k1 | exact k0))
            refine take_first 0 76 (v := ?vqn_1) rfl rfl (by kernel_rfl) (by kernel_rfl) (by kernel_rfl) (fun _ _ _ h => h) (by rfl) ?yqn_1 (by assumption) ?rqn_1
            case yqn_1 => (intro w hSw; (try dsimp only at hSw); go_simp; (try with_reducible rfl))
            simp only [Act.put, List.setIfInBounds_toArray, List.set_cons_zero, List.set_cons_succ]
            refine take_first 1 77 (v := ?vqn_2) rfl rfl (by kernel_rfl) (by kernel_rfl) (by kernel_rfl) (fun _ _ _ h => h) (by rfl) ?yqn_2 (by assumption) ?rqn_2
            case yqn_2 => (intro w hSw; (try dsimp only at hSw); go_simp; (try with_reducible rfl))
            simp only [Act.put, List.setIfInBounds_toArray, List.set_cons_zero, List.set_cons_succ]
            refine take_first 3 79 (v := ?vqn_3) rfl rfl (by kernel_rfl) (by kernel_rfl) (by kernel_rfl) (fun _ _ _ h => h) (by rfl) ?yqn_3 (by assumption) ?rqn_3
            case yqn_3 => (intro w hSw; (try dsimp only at hSw); go_simp; (try with_reducible rfl))
            simp only [Act.put, List.setIfInBounds_toArray, List.set_cons_zero, List.set_cons_succ]
            refine wpAnyH_ready (rs := [2]) (by kernel_rfl) (by simp) ?_
            refine AllReadyH.cons (o := _) rfl (fun Kqn_4 hKqn_4 => ?cqn_4) ?mqn_4
            case mqn_4 => exact AllReadyH.nil
            go_simp
            refine (implStoDo_any _ _ _ R ws (KR.out _ HQ.out.drew) (KW.out _ HQ.out.drew)).mono ?_; rintro e wa ⟨ua, rfl, hoa, hba⟩; rw [HAg.out] at hoa; have HPa := Lib.hid (items_row.1 hoa.row); have HQa := Lib.hid (HQ.out.drew.trans (hba.mono HQ.out.size)); have k1 := (KC.out _ HQa.out).2; clear hoa hba
            go_wp2_with fail
            refine hKqn_4.out _ _ ?kqn_4 (fun hHeldqn_4 => ?dqn_4)
            case kqn_4 => (first | (dsimp only; (first | with_reducible exact k3 | with_reducible exact k2 | with_reducible exact k1 | exact k0)) | (first | with_reducible exact k3 | with_reducible exact k2 | with_reducible exact k1 | exact k0))
            clear hKqn_4 Kqn_4
            refine wpAnyH_ready (rs := [4]) (by kernel_rfl) (by simp) ?_
            refine AllReadyH.cons (o := _) rfl (fun Kqn_5 hKqn_5 => ?cqn_5) ?mqn_5
            case mqn_5 => exact AllReadyH.nil
            go_simp
            refine (jaSto_same _ _ _ R HPa.out (KR.out _ HQa.out)).mono ?_; rintro e wb ⟨rfl, hbb⟩; have HQb := Lib.hid (belowNext HQa.out hbb); have k2 := (KC.out _ HQb.out).2; clear hbb
            go_wp2_with fail
            refine hKqn_5.out _ _ ?kqn_5 (fun hHeldqn_5 => ?dqn_5)
            case kqn_5 => (first | (dsimp only; (first | with_reducible exact k3 | with_reducible exact k2 | with_reducible exact k1 | exact k0)) | (first | with_reducible exact k3 | with_reducible exact k2 | with_reducible exact k1 | exact k0))
            clear hKqn_5 Kqn_5
            refine take_first 5 81 (v := ?vqn_6) rfl rfl (by kernel_rfl) (by kernel_rfl) (by kernel_rfl) (fun _ _ _ h => h) (by rfl) ?yqn_6 (by assumption) ?rqn_6
            case yqn_6 => (intro w hSw; (try dsimp only at hSw); go_simp; (try with_reducible rfl))
            simp only [Act.put, List.setIfInBounds_toArray, List.set_cons_zero, List.set_cons_succ]
            refine wpAnyH_ready (rs := [6]) (by kernel_rfl) (by simp) ?_
            refine AllReadyH.cons (o := _) rfl (fun Kqn_7 hKqn_7 => ?cqn_7) ?mqn_7
            case mqn_7 => exact AllReadyH.nil
            go_simp
            refine (jaOk_any _).mono ?_; rintro e wc ⟨rfl, hbc⟩; have HQc := Lib.hid (belowNext HQb.out hbc); have k3 := (KC.out _ HQc.out).2; clear hbc
            go_wp2_with fail
            refine hKqn_7.out _ _ ?kqn_7 (fun hHeldqn_7 => ?dqn_7)
            case kqn_7 => (first | (dsimp only; (first | with_reducible exact k3 | with_reducible exact k2 | with_reducible exact k1 | exact k0)) | (first | with_reducible exact k3 | with_reducible exact k2 | with_reducible exact k1 | exact k0))
            clear hKqn_7 Kqn_7
            refine take_first 7 83 (v := ?vqn_8) rfl rfl (by kernel_rfl) (by kernel_rfl) (by kernel_rfl) (fun _ _ _ h => h) (by rfl) ?yqn_8 (by assumption) ?rqn_8
            case yqn_8 => (intro w hSw; (try dsimp only at hSw); go_simp; (try with_reducible rfl))
            simp only [Act.put, List.setIfInBounds_toArray, List.set_cons_zero, List.set_cons_succ]
            refine take_first 8 2 (v := ?vqn_9) rfl rfl (by kernel_rfl) (by kernel_rfl) (by kernel_rfl) (fun _ _ _ h => h) (by rfl) ?yqn_9 (by assumption) ?rqn_9
            case yqn_9 => (intro w hSw; (try dsimp only at hSw); go_simp; (try with_reducible rfl))
            simp only [Act.put, List.setIfInBounds_toArray, List.set_cons_zero, List.set_cons_succ]
            refine wpAnyH_done (by kernel_rfl) ?eqn _
            go_wp2
            go_ret
            exact ⟨rfl, KB.out _ HQc.out⟩
    · have hsum' : (40 : Int) < (its.length : Int) + 2 * (ws.length : Int) := by omega
      go_wp2_with fail
      refine (jaOk_any _).mono ?_
      rintro e w6 ⟨rfl, hb⟩
      have HQ6 := Lib.hid (belowNext HQ5.out hb)
      clear hb
      go_wp2
      go_ret
      exact ⟨rfl, KB.out _ HQ6.out⟩

end Go.Proofs.Ytgekggoenibnmaa
