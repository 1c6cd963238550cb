/- The walk of FnStoTwo. By twogen.py. -/
import Derived.Test.YtgekggoenibnmaaXDrawOpen
import Derived.Test.YtgekggoenibnmaaXJaInts
import Derived.Test.YtgekggoenibnmaaXStoDoI
import Derived.Test.YtgekggoenibnmaaXStoTwoW
import Derived.Test.YtgekggoenibnmaaXCmp
import Derived.Test.YtgekggoenibnmaaXDrawKey
import Derived.Deep.RegionWith
import Derived.Deep.CutRange
import Derived.Deep.DeepCutAuto
namespace Go.Proofs.Ytgekggoenibnmaa
open Go.RowKit
set_option maxRecDepth 100000 in
set_option maxHeartbeats 4000000 in
theorem lawStoTwo_any (w : World) (v : Value) (n : Nat) (hv : Code8 w v n) (v' : Value) (n' : Nat) (hv' : Code8 w v' n') :
    Calls Try.prog 7 #[v, v'] w fun e w' => e = .returned (.bool true) ∧ Below w.heap.size w w' := by
  have HV := Lib.hid hv
  have HV2 := Lib.hid hv'
  obtain ⟨A, c, f, rfl, h1, h2, -, -⟩ := hv
  obtain ⟨A', c', f', rfl, h1', h2', -, -⟩ := hv'
  unfold maxLen at h2 h2'
  by_cases hn : 1048576 < n
  · have hn' : (1048576 : Int) < (n : Int) := by omega
    go_enter Try.func7, Try.ntmps7
    go_wp2
    go_ret
    exact ⟨rfl, Below.refl _ _⟩
  have hn' : (n : Int) ≤ 1048576 := by omega
  clear hn
  by_cases hm : 1048576 < n'
  · have hm' : (1048576 : Int) < (n' : Int) := by omega
    go_enter Try.func7, Try.ntmps7
    go_wp2
    go_ret
    exact ⟨rfl, Below.refl _ _⟩
  have hm' : (n' : Int) ≤ 1048576 := by omega
  clear hm
  go_enter Try.func7, Try.ntmps7
  go_wp2_with fail
  refine (drawStoDo_any _ _ n HV.out).mono ?_
  rintro e w1 ⟨u, its, l, ws, rfl, hil, hwl, hi, hwr, hb⟩
  obtain ⟨A1, c1, rfl, -, -⟩ := hi.form
  obtain ⟨A2, c2, rfl, -, -⟩ := hwr.form
  have HB := Lib.hid (hb.alloc hb.size (.cells #[.slice A1 its.length c1] 40))
  have HI := Lib.hid fun W (h : Below w1.heap.size w1 W) => (hi.below h).more h.size
  have HW := Lib.hid fun W (h : Below w1.heap.size w1 W) => wrts_row.1 (((wrts_row.2 hwr).below h).more h.size)
  have HX := Lib.hid (Held.new w1 #[.slice A1 its.length c1] 40)
  have HL := Lib.hid (belowOne w1 (.cells #[.slice A1 its.length c1] 40))
  clear hb hi hwr HV
  go_wp2_with fail
  refine (drawStoDo_any _ _ n' (HV2.out.below HB.out)).mono ?_
  rintro e w2 ⟨u', itb, l', bs, rfl, hil', hwl', hi', hwr', hb'⟩
  obtain ⟨A5, c5, rfl, -, -⟩ := hi'.form
  obtain ⟨A4, c4, rfl, -, -⟩ := hwr'.form
  replace HB := Lib.hid ((belowNext HB.out hb').alloc (belowNext HB.out hb').size (.cells #[.slice A5 itb.length c5] 40))
  replace HL := Lib.hid ((belowNext HL.out hb').alloc (belowNext HL.out hb').size (.cells #[.slice A5 itb.length c5] 40))
  replace HX := Lib.hid ((HX.out.below hb' HX.out.1).after (.cells #[.slice A5 itb.length c5] 40))
  have HVv := Lib.hid fun W (h : Below w2.heap.size w2 W) => wrts_row.1 (((wrts_row.2 hwr').below h).more h.size)
  have HL2 := Lib.hid (belowOne w2 (.cells #[.slice A5 itb.length c5] 40))
  clear hb' hi' hwr' HV2
  obtain ⟨R, hR⟩ : ∃ R, stoDo its ws = R := ⟨_, rfl⟩
  have HR := Lib.hid hR
  clear hR
  have x1 := HX.out.of 0 _ rfl
  go_wp2_with fail
  clear x1
  refine (implStoDo_any _ _ _ its ws (HI.out _ HL.out) (HW.out _ HL.out)).mono ?_
  rintro e w3 ⟨u3, rfl, ho2, hb2⟩
  rw [HR.out] at ho2
  obtain ⟨A3, c3, hf3, -, -⟩ := ho2.row.form
  subst hf3
  replace HB := Lib.hid ((belowNext HB.out hb2).alloc (belowNext HB.out hb2).size (.cells #[.slice A3 R.length c3] 40))
  replace HL := Lib.hid ((belowNext HL.out hb2).alloc (belowNext HL.out hb2).size (.cells #[.slice A3 R.length c3] 40))
  replace HL2 := Lib.hid ((belowNext HL2.out hb2).alloc (belowNext HL2.out hb2).size (.cells #[.slice A3 R.length c3] 40))
  replace HX := Lib.hid ((HX.out.below hb2 HX.out.1).after (.cells #[.slice A3 R.length c3] 40))
  have HY := Lib.hid (Held.new w3 #[.slice A3 R.length c3] 40)
  have HO := Lib.hid (items_row.1 ((ho2.below (belowOne w3 (.cells #[.slice A3 R.length c3] 40))).row))
  clear ho2 hb2
  have KC := Lib.hid fun W (h : Below (w3.alloc (.cells #[.slice A3 R.length c3] 40)).heap.size (w3.alloc (.cells #[.slice A3 R.length c3] 40)) W) => And.intro ((HX.out.below h HX.out.1).of 0 _ rfl) ((HY.out.below h HY.out.1).of 0 _ rfl)
  have KI := Lib.hid fun W (h : Below (w3.alloc (.cells #[.slice A3 R.length c3] 40)).heap.size (w3.alloc (.cells #[.slice A3 R.length c3] 40)) W) => HI.out W (HL.out.trans (h.mono HL.out.size))
  have KW := Lib.hid fun W (h : Below (w3.alloc (.cells #[.slice A3 R.length c3] 40)).heap.size (w3.alloc (.cells #[.slice A3 R.length c3] 40)) W) => HW.out W (HL.out.trans (h.mono HL.out.size))
  have KV := Lib.hid fun W (h : Below (w3.alloc (.cells #[.slice A3 R.length c3] 40)).heap.size (w3.alloc (.cells #[.slice A3 R.length c3] 40)) W) => HVv.out W (HL2.out.trans (h.mono HL2.out.size))
  have KB := Lib.hid fun W (h : Below (w3.alloc (.cells #[.slice A3 R.length c3] 40)).heap.size (w3.alloc (.cells #[.slice A3 R.length c3] 40)) W) => HB.out.trans (h.mono HB.out.size)
  have KR := Lib.hid fun W (h : Below (w3.alloc (.cells #[.slice A3 R.length c3] 40)).heap.size (w3.alloc (.cells #[.slice A3 R.length c3] 40)) W) => (HO.out.below h).more h.size
  clear HB HL HL2 HX HY HO HI HW HVv
  have k0 : (w3.alloc (.cells #[.slice A3 R.length c3] 40)).drew.cell? ⟨w3.heap.size, 0, none⟩ = some (.slice A3 R.length c3) ∧ (w3.alloc (.cells #[.slice A3 R.length c3] 40)).drew.cell? ⟨w1.heap.size, 0, none⟩ = some (.slice A1 its.length c1) := And.intro (KC.out _ (Below.refl _ _)).2 (KC.out _ (Below.refl _ _)).1
  go_wp2
  refine wp_region_held_drew (S := (fun w' => w'.cell? ⟨w3.heap.size, 0, none⟩ = some (.slice A3 R.length c3) ∧ w'.cell? ⟨w1.heap.size, 0, none⟩ = some (.slice A1 its.length c1))) (by kernel_rfl) ?hSr (fun hHeldr => ?str)
  case hSr => (first | (dsimp only; (first | with_reducible exact k2 | with_reducible exact k1 | exact k0)) | (first | with_reducible exact k2 | with_reducible exact k1 | exact k0))
  refine take_first 0 35 (v := ?vr_1) rfl rfl (by kernel_rfl) (by kernel_rfl) (by kernel_rfl) (fun _ _ _ h => h) (by rfl) ?yr_1 (by assumption) ?rr_1
  case yr_1 => (intro w hSw; (try dsimp only at hSw); go_simp; (try with_reducible rfl))
  simp only [Act.put, List.setIfInBounds_toArray, List.set_cons_zero, List.set_cons_succ]
  refine take_first 1 36 (v := ?vr_2) rfl rfl (by kernel_rfl) (by kernel_rfl) (by kernel_rfl) (fun _ _ _ h => h) (by rfl) ?yr_2 (by assumption) ?rr_2
  case yr_2 => (intro w hSw; (try dsimp only at hSw); go_simp; (try with_reducible rfl))
  simp only [Act.put, List.setIfInBounds_toArray, List.set_cons_zero, List.set_cons_succ]
  refine take_first 2 37 (v := ?vr_3) rfl rfl (by kernel_rfl) (by kernel_rfl) (by kernel_rfl) (fun _ _ _ h => h) (by rfl) ?yr_3 (by assumption) ?rr_3
  case yr_3 => (intro w hSw; (try dsimp only at hSw); go_simp; (try with_reducible rfl))
  simp only [Act.put, List.setIfInBounds_toArray, List.set_cons_zero, List.set_cons_succ]
  refine wpAnyH_ready (rs := [3]) (by kernel_rfl) (by simp) ?_
  refine AllReadyH.cons (o := _) rfl (fun Kr_4 hKr_4 => ?cr_4) ?mr_4
  case mr_4 => exact AllReadyH.nil
  go_simp
  refine (specStoDo_any _ _ _ its ws (KI.out _ (Below.refl _ _).drew) (KW.out _ (Below.refl _ _).drew)).mono ?_; rintro e w4 ⟨u4, rfl, ho3, hb3⟩; rw [HR.out] at ho3; have HP3 := Lib.hid ho3.items; have HQ3 := Lib.hid (show Below (w3.alloc (.cells #[.slice A3 R.length c3] 40)).heap.size (w3.alloc (.cells #[.slice A3 R.length c3] 40)) w4 from (Below.refl _ (w3.alloc (.cells #[.slice A3 R.length c3] 40))).drew.trans hb3); have k1 := And.intro (KC.out _ HQ3.out).2 (KC.out _ HQ3.out).1; clear hb3 ho3
  go_wp2_with fail
  refine hKr_4.out _ _ ?kr_4 (fun hHeldr_4 => ?dr_4)
  case kr_4 => (first | (dsimp only; (first | with_reducible exact k2 | with_reducible exact k1 | exact k0)) | (first | with_reducible exact k2 | with_reducible exact k1 | exact k0))
  clear hKr_4 Kr_4
  refine wpAnyH_ready (rs := [4]) (by kernel_rfl) (by simp) ?_
  refine AllReadyH.cons (o := _) rfl (fun Kr_5 hKr_5 => ?cr_5) ?mr_5
  case mr_5 => exact AllReadyH.nil
  go_simp
  refine (jaSto_same _ _ _ R (KR.out _ HQ3.out) HP3.out).mono ?_; rintro e w5 ⟨rfl, hb4⟩; have HQ4 := Lib.hid (belowNext HQ3.out hb4); have k2 := And.intro (KC.out _ HQ4.out).2 (KC.out _ HQ4.out).1; clear hb4
  go_wp2_with fail
  refine hKr_5.out _ _ ?kr_5 (fun hHeldr_5 => ?dr_5)
  case kr_5 => (first | (dsimp only; (first | with_reducible exact k2 | with_reducible exact k1 | exact k0)) | (first | with_reducible exact k2 | with_reducible exact k1 | exact k0))
  clear hKr_5 Kr_5
  refine take_first 5 40 (v := ?vr_6) rfl rfl (by kernel_rfl) (by kernel_rfl) (by kernel_rfl) (fun _ _ _ h => h) (by rfl) ?yr_6 (by assumption) ?rr_6
  case yr_6 => (intro w hSw; (try dsimp only at hSw); go_simp; (try with_reducible rfl))
  simp only [Act.put, List.setIfInBounds_toArray, List.set_cons_zero, List.set_cons_succ]
  refine wpAnyH_done (by kernel_rfl) ?er _
  clear k0 k1 k2 HQ3 HP3
  have x3 := (KC.out _ HQ4.out).1
  go_wp2_with fail
  refine (specStoOk_any _ _ its (KI.out _ HQ4.out)).mono ?_
  rintro e w6 ⟨rfl, hb⟩
  have HQ5 := Lib.hid (belowNext HQ4.out hb)
  clear hb HQ4 x3
  cases hs : stoB its with
  | false =>
    go_wp2_with fail
    refine (jaOk_any _).mono ?_
    rintro e w7 ⟨rfl, hb⟩
    have HQ6 := Lib.hid (belowNext HQ5.out hb)
    clear hb
    go_wp2
    go_ret
    exact ⟨rfl, KB.out _ HQ6.out⟩
  | true =>
    have x3 := (KC.out _ HQ5.out).1
    have HS := Lib.hid hs
    clear hs
    by_cases hsum : (its.length : Int) + (ws.length : Int) + (bs.length : Int) ≤ 40
    case neg =>
      have hsum' : (40 : Int) < (its.length : Int) + (ws.length : Int) + (bs.length : Int) := by omega
      go_wp2_with fail
      refine (jaOk_any _).mono ?_
      rintro e w7 ⟨rfl, hb⟩
      have HQ6 := Lib.hid (belowNext HQ5.out hb)
      clear hb
      go_wp2
      go_ret
      exact ⟨rfl, KB.out _ HQ6.out⟩
    go_wp2
    clear x3
    go_loopw [10] (fun i wr => ∃ k : Nat, k ≤ ws.length + bs.length ∧ i = .int .i64 k ∧ (∀ j x, j < k → (ws ++ bs)[j]? = some x → x.ok = true) ∧ Below (w3.alloc (.cells #[.slice A3 R.length c3] 40)).heap.size (w3.alloc (.cells #[.slice A3 R.length c3] 40)) wr) (fun i _ => ws.length + bs.length - (intOf i).toNat)
    case atStart => exact ⟨0, Nat.zero_le _, rfl, fun j _ h => absurd h (by omega), HQ5.out⟩
    case round =>
      clear HQ5
      obtain ⟨k, hk, rfl, he, hb⟩ := hrel
      have HQ := Lib.hid hb
      have HE := Lib.hid he
      clear hb he
      have HRa := Lib.hid fun W (h : Below wr.heap.size wr W) => (wrts_row.2 (KW.out _ HQ.out)).below h
      have HRb := Lib.hid fun W (h : Below wr.heap.size wr W) => (wrts_row.2 (KV.out _ HQ.out)).below h
      by_cases hlt : k < ws.length + bs.length
      · have hlt' : (k : Int) < (ws.length : Int) + (bs.length : Int) := by omega
        have hk0 : (0 : Int) ≤ (k : Int) := by omega
        have HLA := Lib.hid (show k < (ws ++ bs).length by rw [List.length_append]; exact hlt)
        have HS0 := Lib.hid (show wrSh.Shal 57 (wr.alloc (.cells #[] 57 (0, 0))) wr.heap.size (.slice (some ⟨wr.heap.size, 0, none⟩) 0 0) [] from Sh.Shal.empty (Go.Deep.blk_alloc_new wr _) (Nat.le_refl _))
        have HB0 := Lib.hid (belowOne wr (.cells #[] 57 (0, 0)))
        go_wp2_with (at_builtin; first | (refine shalW_wpl rfl _ _ rfl wr.heap.size (.slice (some ⟨wr.heap.size, 0, none⟩) 0 0) [] ws rfl HS0.out HB0.out.size A2 ws.length c2 rfl rfl (HRa.out _ HB0.out) (by simp; omega) ?_; intro v1 W1 hs1 hb1; have HS1 := Lib.hid (show wrSh.Shal 57 W1 wr.heap.size v1 ws from hs1); have HB1 := Lib.hid (HB0.out.trans hb1); clear hs1 hb1) | (refine shalW_wpl rfl _ _ rfl wr.heap.size v1 ws bs rfl HS1.out HB1.out.size A4 bs.length c4 rfl rfl (HRb.out _ HB1.out) (by omega) ?_; intro v2 W2 hs2 hb2; have HB2 := Lib.hid (HB1.out.trans hb2); obtain ⟨b, off, cc, x, p, e1, hx, hB, hks, d0, d1, d2, hp⟩ := (wrts_row.1 (hs2.row HB2.out.size)).at_ (k := k) HLA.out; rw [List.length_append] at e1; subst e1; obtain ⟨Ap, cp, rfl, -, -⟩ := hp.form; have HX := Lib.hid hx; have HP := Lib.hid ((hp.below (belowOne W2 (.cells #[.string x.key, .bool x.del, .slice Ap x.val.length cp] 57))).more (belowOne W2 (.cells #[.string x.key, .bool x.del, .slice Ap x.val.length cp] 57)).size); have HT := Lib.hid (Held.new W2 #[.string x.key, .bool x.del, .slice Ap x.val.length cp] 57); have t0 := HT.out.of 0 _ rfl; have t1 := HT.out.of 1 _ rfl; have t2 := HT.out.of 2 _ rfl; have HB3 := Lib.hid (HB2.out.alloc HB2.out.size (.cells #[.string x.key, .bool x.del, .slice Ap x.val.length cp] 57)); clear hs2 hb2 hp hx HT))
        clear d0 d1 d2 t0 t1 t2
        refine (specWrtOk_any _ _ _ _ _ hks HP.out).mono ?_
        rintro e w7 ⟨rfl, hb⟩
        have HQ6 := Lib.hid (belowNext (HQ.out.trans (HB3.out.mono HQ.out.size)) hb)
        clear hb
        cases hok : wrtB x.key x.del x.val with
        | false =>
          go_wp2_with fail
          refine (jaOk_any _).mono ?_
          rintro e w8 ⟨rfl, hb⟩
          have HQ7 := Lib.hid (belowNext HQ6.out hb)
          clear hb
          go_wp2
          go_ret
          exact ⟨rfl, KB.out _ HQ7.out⟩
        | true =>
          have HF : Hid (∀ j y, j < k + 1 → (ws ++ bs)[j]? = some y → y.ok = true) := Lib.hid fun j y hj hy => by
            rcases Nat.lt_or_ge j k with h1 | h1
            · exact HE.out j y h1 hy
            · have : j = k := by omega
              subst this
              rw [HX.out] at hy
              injection hy with hy
              rw [← hy]; exact hok
          clear hok
          go_wp2
          go_roundw
          case rel => exact ⟨k + 1, by omega, by go_num, HF.out, HQ6.out⟩
          case measure => simp [intOf]; omega
      · have HAll : Hid (∀ x ∈ ws ++ bs, x.ok = true) := Lib.hid fun x hx => by
          obtain ⟨j, hj, rfl⟩ := List.getElem_of_mem hx
          exact HE.out j _ (by rw [List.length_append] at hj; omega) (List.getElem?_eq_getElem hj)
        have HOa : Hid (∀ x ∈ ws, x.ok = true) := Lib.hid fun x hx => HAll.out x (List.mem_append_left _ hx)
        have HOb : Hid (∀ x ∈ bs, x.ok = true) := Lib.hid fun x hx => HAll.out x (List.mem_append_right _ hx)
        clear HE HAll
        obtain ⟨M, hM⟩ : ∃ M, stoDo R bs = M := ⟨_, rfl⟩
        have HM := Lib.hid hM
        have HM2 : Hid (stoDo its (ws ++ bs) = M) := Lib.hid (by rw [← hM, ← HR.out]; exact (stoDo_two HS.out HOa.out (by omega)).symm)
        clear hM
        have KS := Lib.hid fun V (h : Below wr.heap.size wr V) => And.intro (KC.out _ (belowNext HQ.out h)).2 (KC.out _ (belowNext HQ.out h)).1
        have k0 := KS.out _ (Below.refl _ wr)
        go_upto_region 16 with fail
        go_cut [89] (fun u wc => u = .bool false ∧ Below (w3.alloc (.cells #[.slice A3 R.length c3] 40)).heap.size (w3.alloc (.cells #[.slice A3 R.length c3] 40)) wc)
        case first =>
          refine wp_region_held_drew (S := (fun w' => w'.cell? ⟨w3.heap.size, 0, none⟩ = some (.slice A3 R.length c3) ∧ w'.cell? ⟨w1.heap.size, 0, none⟩ = some (.slice A1 its.length c1))) (by kernel_rfl) ?hSz (fun hHeldz => ?stz)
          case hSz => (first | (dsimp only; (exact k0)) | (exact k0))
          refine take_first 0 78 (v := ?vz_1) rfl rfl (by kernel_rfl) (by kernel_rfl) (by kernel_rfl) (fun _ _ _ h => h) (by rfl) ?yz_1 (by assumption) ?rz_1
          case yz_1 => (intro w hSw; (try dsimp only at hSw); go_simp; (try with_reducible rfl))
          simp only [Act.put, List.setIfInBounds_toArray, List.set_cons_zero, List.set_cons_succ]
          refine take_first 1 79 (v := ?vz_2) rfl rfl (by kernel_rfl) (by kernel_rfl) (by kernel_rfl) (fun _ _ _ h => h) (by rfl) ?yz_2 (by assumption) ?rz_2
          case yz_2 => (intro w hSw; (try dsimp only at hSw); go_simp; (try with_reducible rfl))
          simp only [Act.put, List.setIfInBounds_toArray, List.set_cons_zero, List.set_cons_succ]
          refine take_first 3 81 (v := ?vz_3) rfl rfl (by kernel_rfl) (by kernel_rfl) (by kernel_rfl) (fun _ _ _ h => h) (by rfl) ?yz_3 (by assumption) ?rz_3
          case yz_3 => (intro w hSw; (try dsimp only at hSw); go_simp; (try with_reducible rfl))
          simp only [Act.put, List.setIfInBounds_toArray, List.set_cons_zero, List.set_cons_succ]
          refine take_first 5 83 (v := ?vz_4) rfl rfl (by kernel_rfl) (by kernel_rfl) (by kernel_rfl) (fun _ _ _ h => h) (by rfl) ?yz_4 (by assumption) ?rz_4
          case yz_4 => (intro w hSw; (try dsimp only at hSw); go_simp; (try with_reducible rfl))
          simp only [Act.put, List.setIfInBounds_toArray, List.set_cons_zero, List.set_cons_succ]
          refine take_first 7 85 (v := ?vz_5) rfl rfl (by kernel_rfl) (by kernel_rfl) (by kernel_rfl) (fun _ _ _ h => h) (by rfl) ?yz_5 (by assumption) ?rz_5
          case yz_5 => (intro w hSw; (try dsimp only at hSw); go_simp; (try with_reducible rfl))
          simp only [Act.put, List.setIfInBounds_toArray, List.set_cons_zero, List.set_cons_succ]
          have H0 := Lib.hid (show R0 wr M none wr.drew from (R0.start wr M).drew)
          refine wpAnyH_ready (rs := [2, 4]) (by kernel_rfl) (by simp) ?_
          refine AllReadyH.cons (o := _) rfl (fun Kq1 hKq1 => ?pq1) (AllReadyH.cons (o := _) rfl (fun Kq2 hKq2 => ?pq2) AllReadyH.nil)
          case pq1 =>
            go_simp
            refine (implStoDo_any _ _ _ R bs (KR.out _ (belowNext HQ.out H0.out.low)) (KV.out _ (belowNext HQ.out H0.out.low))).mono ?_
            rintro e Wq1 ⟨xq1, rfl, ho, hb⟩
            rw [HM.out] at ho
            obtain ⟨Aq1, cq1, hf, -, -⟩ := ho.row.form
            subst hf
            have Hq1 := Lib.hid (H0.out.call ho hb)
            clear ho hb
            go_wp2_with fail
            refine hKq1.out _ _ ?kq1 (fun _ => ?dq1)
            case kq1 => exact KS.out _ Hq1.out.low
            clear hKq1 Kq1
            refine wpAnyH_ready (rs := [4]) (by kernel_rfl) (by simp) ?_
            refine AllReadyH.cons (o := _) rfl (fun Kq3 hKq3 => ?pq3) AllReadyH.nil
            case pq3 =>
              have Hq3 := Lib.hid Hq1.out.lit
              go_simp
              go_wp2_with fail
              refine hKq3.out _ _ ?kq3 (fun _ => ?dq3)
              case kq3 => exact KS.out _ Hq3.out.low
              clear hKq3 Kq3
              refine wpAnyH_ready (rs := [6]) (by kernel_rfl) (by simp) ?_
              refine AllReadyH.cons (o := _) rfl (fun Kq4 hKq4 => ?pq4) AllReadyH.nil
              case pq4 =>
                rw [if_pos (by rfl)]
                refine shalW_wp (.tmp 82) (.tmp 83) rfl wr.heap.size _ [] ws rfl Hq3.out.sh Hq3.out.low.size A2 ws.length c2 rfl rfl (HRa.out _ Hq3.out.low) (by simp; omega) ?_
                intro xq4 Wq4 hs1 hb1 ho1 hg1
                have Hq4 := Lib.hid (show R1 wr M ws xq4 _ Wq4 from Hq3.out.grow hs1 hb1 ho1 hg1)
                clear hs1 hb1 ho1 hg1
                refine hKq4.out _ _ ?kq4 (fun _ => ?dq4)
                case kq4 => exact KS.out _ Hq4.out.low
                clear hKq4 Kq4
                simp only [Act.put, List.setIfInBounds_toArray]
                refine wpAnyH_ready (rs := [8]) (by kernel_rfl) (by simp) ?_
                refine AllReadyH.cons (o := _) rfl (fun Kq5 hKq5 => ?pq5) AllReadyH.nil
                case pq5 =>
                  rw [if_pos (by rfl)]
                  refine shalW_wp (.tmp 84) (.tmp 85) rfl wr.heap.size _ ws bs rfl Hq4.out.sh Hq4.out.low.size A4 bs.length c4 rfl rfl (HRb.out _ Hq4.out.low) (by omega) ?_
                  intro xq5 Wq5 hs1 hb1 ho1 hg1
                  have Hq5 := Lib.hid (show R1 wr M (ws ++ bs) xq5 _ Wq5 from Hq4.out.grow hs1 hb1 ho1 hg1)
                  clear hs1 hb1 ho1 hg1
                  refine hKq5.out _ _ ?kq5 (fun _ => ?dq5)
                  case kq5 => exact KS.out _ Hq5.out.low
                  clear hKq5 Kq5
                  simp only [Act.put]
                  refine wpAnyH_ready (rs := [9]) (by kernel_rfl) (by simp) ?_
                  refine AllReadyH.cons (o := _) rfl (fun Kq6 hKq6 => ?pq6) AllReadyH.nil
                  case pq6 =>
                    go_simp
                    refine (implStoDo_any _ _ _ its (ws ++ bs) (KI.out _ (belowNext HQ.out Hq5.out.low)) (wrts_row.1 (Hq5.out.sh.row Hq5.out.low.size))).mono ?_
                    rintro e Wq6 ⟨xq6, rfl, ho, hb⟩
                    rw [HM2.out] at ho
                    obtain ⟨Aq6, cq6, hf, -, -⟩ := ho.row.form
                    subst hf
                    have Hq6 := Lib.hid (Hq5.out.next hb)
                    have HIq6 := Lib.hid (items_row.1 ho.row)
                    clear ho hb
                    go_wp2_with fail
                    refine hKq6.out _ _ ?kq6 (fun _ => ?dq6)
                    case kq6 => exact KS.out _ Hq6.out.low
                    clear hKq6 Kq6
                    refine wpAnyH_ready (rs := [10]) (by kernel_rfl) (by simp) ?_
                    refine AllReadyH.cons (o := _) rfl (fun Kq7 hKq7 => ?pq7) AllReadyH.nil
                    case pq7 =>
                      go_simp
                      refine (jaSto_same _ _ _ M Hq6.out.items HIq6.out).mono ?_
                      rintro e Wq7 ⟨rfl, hb⟩
                      have Hq7 := Lib.hid (Hq6.out.next hb)
                      clear hb
                      go_wp2_with fail
                      refine hKq7.out _ _ ?kq7 (fun _ => ?dq7)
                      case kq7 => exact KS.out _ Hq7.out.low
                      clear hKq7 Kq7
                      refine wpAnyH_ready (rs := [11]) (by kernel_rfl) (by simp) ?_
                      refine AllReadyH.cons (o := _) rfl (fun Kq8 hKq8 => ?pq8) AllReadyH.nil
                      case pq8 =>
                        go_simp
                        go_wp2_with fail
                        refine hKq8.out _ _ ?kq8 (fun _ => ?dq8)
                        case kq8 => exact KS.out _ Hq7.out.low
                        clear hKq8 Kq8
                        refine wpAnyH_done (by kernel_rfl) ?e9 _
                        go_wp2
                        go_meet
                        case rel => exact ⟨rfl, belowNext HQ.out Hq7.out.low⟩
          case pq2 =>
            have Hq2 := Lib.hid (show R1 wr M [] (.slice (some ⟨wr.heap.size, 0, none⟩) 0 0) none (wr.alloc (.cells #[] 57 (0, 0))).drew from (R0.start wr M).lit.drew)
            go_simp
            go_wp2_with fail
            refine hKq2.out _ _ ?kq2 (fun _ => ?dq2)
            case kq2 => exact KS.out _ Hq2.out.low
            clear hKq2 Kq2
            refine wpAnyH_ready (rs := [2]) (by kernel_rfl) (by simp) ?_
            refine AllReadyH.cons (o := _) rfl (fun Kq10 hKq10 => ?pq10) AllReadyH.nil
            case pq10 =>
              go_simp
              refine (implStoDo_any _ _ _ R bs (KR.out _ (belowNext HQ.out Hq2.out.low)) (KV.out _ (belowNext HQ.out Hq2.out.low))).mono ?_
              rintro e Wq10 ⟨xq10, rfl, ho, hb⟩
              rw [HM.out] at ho
              obtain ⟨Aq10, cq10, hf, -, -⟩ := ho.row.form
              subst hf
              have Hq10 := Lib.hid (Hq2.out.call ho hb)
              clear ho hb
              go_wp2_with fail
              refine hKq10.out _ _ ?kq10 (fun _ => ?dq10)
              case kq10 => exact KS.out _ Hq10.out.low
              clear hKq10 Kq10
              refine wpAnyH_ready (rs := [6]) (by kernel_rfl) (by simp) ?_
              refine AllReadyH.cons (o := _) rfl (fun Kq11 hKq11 => ?pq11) AllReadyH.nil
              case pq11 =>
                rw [if_pos (by rfl)]
                refine shalW_wp (.tmp 82) (.tmp 83) rfl wr.heap.size _ [] ws rfl Hq10.out.sh Hq10.out.low.size A2 ws.length c2 rfl rfl (HRa.out _ Hq10.out.low) (by simp; omega) ?_
                intro xq11 Wq11 hs1 hb1 ho1 hg1
                have Hq11 := Lib.hid (show R1 wr M ws xq11 _ Wq11 from Hq10.out.grow hs1 hb1 ho1 hg1)
                clear hs1 hb1 ho1 hg1
                refine hKq11.out _ _ ?kq11 (fun _ => ?dq11)
                case kq11 => exact KS.out _ Hq11.out.low
                clear hKq11 Kq11
                simp only [Act.put, List.setIfInBounds_toArray]
                refine wpAnyH_ready (rs := [8]) (by kernel_rfl) (by simp) ?_
                refine AllReadyH.cons (o := _) rfl (fun Kq12 hKq12 => ?pq12) AllReadyH.nil
                case pq12 =>
                  rw [if_pos (by rfl)]
                  refine shalW_wp (.tmp 84) (.tmp 85) rfl wr.heap.size _ ws bs rfl Hq11.out.sh Hq11.out.low.size A4 bs.length c4 rfl rfl (HRb.out _ Hq11.out.low) (by omega) ?_
                  intro xq12 Wq12 hs1 hb1 ho1 hg1
                  have Hq12 := Lib.hid (show R1 wr M (ws ++ bs) xq12 _ Wq12 from Hq11.out.grow hs1 hb1 ho1 hg1)
                  clear hs1 hb1 ho1 hg1
                  refine hKq12.out _ _ ?kq12 (fun _ => ?dq12)
                  case kq12 => exact KS.out _ Hq12.out.low
                  clear hKq12 Kq12
                  simp only [Act.put]
                  refine wpAnyH_ready (rs := [9]) (by kernel_rfl) (by simp) ?_
                  refine AllReadyH.cons (o := _) rfl (fun Kq13 hKq13 => ?pq13) AllReadyH.nil
                  case pq13 =>
                    go_simp
                    refine (implStoDo_any _ _ _ its (ws ++ bs) (KI.out _ (belowNext HQ.out Hq12.out.low)) (wrts_row.1 (Hq12.out.sh.row Hq12.out.low.size))).mono ?_
                    rintro e Wq13 ⟨xq13, rfl, ho, hb⟩
                    rw [HM2.out] at ho
                    obtain ⟨Aq13, cq13, hf, -, -⟩ := ho.row.form
                    subst hf
                    have Hq13 := Lib.hid (Hq12.out.next hb)
                    have HIq13 := Lib.hid (items_row.1 ho.row)
                    clear ho hb
                    go_wp2_with fail
                    refine hKq13.out _ _ ?kq13 (fun _ => ?dq13)
                    case kq13 => exact KS.out _ Hq13.out.low
                    clear hKq13 Kq13
                    refine wpAnyH_ready (rs := [10]) (by kernel_rfl) (by simp) ?_
                    refine AllReadyH.cons (o := _) rfl (fun Kq14 hKq14 => ?pq14) AllReadyH.nil
                    case pq14 =>
                      go_simp
                      refine (jaSto_same _ _ _ M Hq13.out.items HIq13.out).mono ?_
                      rintro e Wq14 ⟨rfl, hb⟩
                      have Hq14 := Lib.hid (Hq13.out.next hb)
                      clear hb
                      go_wp2_with fail
                      refine hKq14.out _ _ ?kq14 (fun _ => ?dq14)
                      case kq14 => exact KS.out _ Hq14.out.low
                      clear hKq14 Kq14
                      refine wpAnyH_ready (rs := [11]) (by kernel_rfl) (by simp) ?_
                      refine AllReadyH.cons (o := _) rfl (fun Kq15 hKq15 => ?pq15) AllReadyH.nil
                      case pq15 =>
                        go_simp
                        go_wp2_with fail
                        refine hKq15.out _ _ ?kq15 (fun _ => ?dq15)
                        case kq15 => exact KS.out _ Hq14.out.low
                        clear hKq15 Kq15
                        refine wpAnyH_done (by kernel_rfl) ?e16 _
                        go_wp2
                        go_meet
                        case rel => exact ⟨rfl, belowNext HQ.out Hq14.out.low⟩
        case rest =>
          obtain ⟨rfl, hbc⟩ := hcut
          have HQc := Lib.hid hbc
          clear hbc KS k0 HRa HRb HQ
          go_wp2
          go_loopw [12] (fun i wr => ∃ k : Nat, k ≤ ws.length ∧ i = .int .i64 k ∧ (∀ j x, j < k → ws[j]? = some x → ∀ y ∈ bs, x.key ≠ y.key) ∧ Below (w3.alloc (.cells #[.slice A3 R.length c3] 40)).heap.size (w3.alloc (.cells #[.slice A3 R.length c3] 40)) wr) (fun i _ => ws.length - (intOf i).toNat)
          case atStart => exact ⟨0, Nat.zero_le _, rfl, fun j _ h => absurd h (by omega), HQc.out⟩
          case round =>
            clear HQc
            obtain ⟨k2, hk2, rfl, he, hb⟩ := hrel
            have HQ := Lib.hid hb
            have HE := Lib.hid he
            clear hb he
            by_cases hlt2 : k2 < ws.length
            · obtain ⟨x, hx⟩ : ∃ x, ws[k2]? = some x := ⟨_, List.getElem?_eq_getElem hlt2⟩
              have HX := Lib.hid hx
              clear hx
              go_wp2
              go_loopw [13] (fun i wm => ∃ m : Nat, m ≤ bs.length ∧ i = .int .i64 m ∧ (∀ j y, j < m → bs[j]? = some y → x.key ≠ y.key) ∧ Below (w3.alloc (.cells #[.slice A3 R.length c3] 40)).heap.size (w3.alloc (.cells #[.slice A3 R.length c3] 40)) wm) (fun i _ => bs.length - (intOf i).toNat)
              case atStart => exact ⟨0, Nat.zero_le _, rfl, fun j _ h => absurd h (by omega), HQ.out⟩
              case round =>
                clear HQ
                obtain ⟨m, hm2, rfl, hne, hb⟩ := hrel
                have HQ := Lib.hid hb
                have HNe := Lib.hid hne
                clear hb hne
                by_cases hlm : m < bs.length
                · obtain ⟨b, off, d, x', p, e1, hx', hB, -, c0, -, -, -⟩ := (KW.out _ HQ.out).at_ (k := k2) hlt2
                  obtain ⟨b', off', d', y, p', e1', hy, hB', -, c0', -, -, -⟩ := (KV.out _ HQ.out).at_ (k := m) hlm
                  obtain rfl : x' = x := by rw [HX.out] at hx'; injection hx' with e; exact e.symm
                  injection e1 with e1a e1b e1c
                  subst e1a
                  injection e1' with e2a e2b e2c
                  subst e2a
                  have HY := Lib.hid hy
                  have f1 : (0 : Int) ≤ (m : Int) := by omega
                  have f2 : (m : Int) < (bs.length : Int) := by omega
                  have f3 : (0 : Int) ≤ (k2 : Int) := by omega
                  have f4 : (k2 : Int) < (ws.length : Int) := by omega
                  have k0 := And.intro c0 c0'
                  clear e1b e1c e2b e2c hy c0 c0' hx'
                  by_cases hkey : x'.key = y.key
                  · have hq : (x'.key.toList == y.key.toList) = true := by rw [hkey]; simp
                    clear hkey
                    go_wp2
                    refine wp_region_held_drew (S := (fun w' => w'.cell? ⟨b, off + k2 * 3, none⟩ = some (.string x'.key) ∧ w'.cell? ⟨b', off' + m * 3, none⟩ = some (.string y.key))) (by kernel_rfl) ?hSt1 (fun hHeldt1 => ?stt1)
                    case hSt1 => (first | (dsimp only; (exact k0)) | (exact k0))
                    refine take_first 0 102 (v := ?vt1_1) rfl rfl (by kernel_rfl) (by kernel_rfl) (by kernel_rfl) (fun _ _ _ h => h) (by rfl) ?yt1_1 (by assumption) ?rt1_1
                    case yt1_1 => (intro w hSw; (try dsimp only at hSw); go_simp; (try with_reducible rfl))
                    simp only [Act.put, List.setIfInBounds_toArray, List.set_cons_zero, List.set_cons_succ]
                    refine take_first 1 103 (v := ?vt1_2) rfl rfl (by kernel_rfl) (by kernel_rfl) (by kernel_rfl) (fun _ _ _ h => h) (by rfl) ?yt1_2 (by assumption) ?rt1_2
                    case yt1_2 => (intro w hSw; (try dsimp only at hSw); go_simp; (try with_reducible rfl))
                    simp only [Act.put, List.setIfInBounds_toArray, List.set_cons_zero, List.set_cons_succ]
                    refine take_first 2 104 (v := ?vt1_3) rfl rfl (by kernel_rfl) (by kernel_rfl) (by kernel_rfl) (fun _ _ _ h => h) (by rfl) ?yt1_3 (by assumption) ?rt1_3
                    case yt1_3 => (intro w hSw; (try dsimp only at hSw); go_simp; (try with_reducible rfl))
                    simp only [Act.put, List.setIfInBounds_toArray, List.set_cons_zero, List.set_cons_succ]
                    refine take_first 3 105 (v := ?vt1_4) rfl rfl (by kernel_rfl) (by kernel_rfl) (by kernel_rfl) (fun _ _ _ h => h) (by rfl) ?yt1_4 (by assumption) ?rt1_4
                    case yt1_4 => (intro w hSw; (try dsimp only at hSw); go_simp; (try with_reducible rfl))
                    simp only [Act.put, List.setIfInBounds_toArray, List.set_cons_zero, List.set_cons_succ]
                    refine take_first 4 106 (v := ?vt1_5) rfl rfl (by kernel_rfl) (by kernel_rfl) (by kernel_rfl) (fun _ _ _ h => h) (by rfl) ?yt1_5 (by assumption) ?rt1_5
                    case yt1_5 => (intro w hSw; (try dsimp only at hSw); go_simp; (try with_reducible rfl))
                    simp only [Act.put, List.setIfInBounds_toArray, List.set_cons_zero, List.set_cons_succ]
                    refine take_first 5 107 (v := ?vt1_6) rfl rfl (by kernel_rfl) (by kernel_rfl) (by kernel_rfl) (fun _ _ _ h => h) (by rfl) ?yt1_6 (by assumption) ?rt1_6
                    case yt1_6 => (intro w hSw; (try dsimp only at hSw); go_simp; (try with_reducible rfl))
                    simp only [Act.put, List.setIfInBounds_toArray, List.set_cons_zero, List.set_cons_succ]
                    refine take_first 6 108 (v := ?vt1_7) rfl rfl (by kernel_rfl) (by kernel_rfl) (by kernel_rfl) (fun _ _ _ h => h) (by rfl) ?yt1_7 (by assumption) ?rt1_7
                    case yt1_7 => (intro w hSw; (try dsimp only at hSw); go_simp; (try with_reducible rfl))
                    simp only [Act.put, List.setIfInBounds_toArray, List.set_cons_zero, List.set_cons_succ]
                    refine take_first 7 109 (v := ?vt1_8) rfl rfl (by kernel_rfl) (by kernel_rfl) (by kernel_rfl) (fun _ _ _ h => h) (by rfl) ?yt1_8 (by assumption) ?rt1_8
                    case yt1_8 => (intro w hSw; (try dsimp only at hSw); go_simp; (try with_reducible rfl))
                    simp only [Act.put, List.setIfInBounds_toArray, List.set_cons_zero, List.set_cons_succ]
                    refine take_first 8 110 (v := ?vt1_9) rfl rfl (by kernel_rfl) (by kernel_rfl) (by kernel_rfl) (fun _ _ _ h => h) (by rfl) ?yt1_9 (by assumption) ?rt1_9
                    case yt1_9 => (intro w hSw; (try dsimp only at hSw); go_simp; (try with_reducible rfl))
                    simp only [Act.put, List.setIfInBounds_toArray, List.set_cons_zero, List.set_cons_succ]
                    refine take_first 9 111 (v := ?vt1_10) rfl rfl (by kernel_rfl) (by kernel_rfl) (by kernel_rfl) (fun _ _ _ h => h) (by rfl) ?yt1_10 (by assumption) ?rt1_10
                    case yt1_10 => (intro w hSw; (try dsimp only at hSw); go_simp; (try with_reducible rfl))
                    simp only [Act.put, List.setIfInBounds_toArray, List.set_cons_zero, List.set_cons_succ]
                    refine take_first 10 112 (v := ?vt1_11) rfl rfl (by kernel_rfl) (by kernel_rfl) (by kernel_rfl) (fun _ _ _ h => h) (by rfl) ?yt1_11 (by assumption) ?rt1_11
                    case yt1_11 => (intro w hSw; (try dsimp only at hSw); go_simp; (try with_reducible rfl))
                    simp only [Act.put, List.setIfInBounds_toArray, List.set_cons_zero, List.set_cons_succ]
                    refine wpAnyH_done (by kernel_rfl) ?et1 _
                    clear k0
                    go_wp2
                    go_ret
                    exact ⟨rfl, KB.out _ HQ.out.drew⟩
                  · have hq : (x'.key.toList == y.key.toList) = false := by rw [eq_toList]; simpa using hkey
                    have HF : Hid (∀ j z, j < m + 1 → bs[j]? = some z → x'.key ≠ z.key) := Lib.hid fun j z hj hz => by
                      rcases Nat.lt_or_ge j m with h1 | h1
                      · exact HNe.out j z h1 hz
                      · have : j = m := by omega
                        subst this
                        rw [HY.out] at hz
                        injection hz with hz
                        rw [← hz]; exact hkey
                    clear hkey
                    go_wp2
                    refine wp_region_held_drew (S := (fun w' => w'.cell? ⟨b, off + k2 * 3, none⟩ = some (.string x'.key) ∧ w'.cell? ⟨b', off' + m * 3, none⟩ = some (.string y.key))) (by kernel_rfl) ?hSt2 (fun hHeldt2 => ?stt2)
                    case hSt2 => (first | (dsimp only; (exact k0)) | (exact k0))
                    refine take_first 0 102 (v := ?vt2_1) rfl rfl (by kernel_rfl) (by kernel_rfl) (by kernel_rfl) (fun _ _ _ h => h) (by rfl) ?yt2_1 (by assumption) ?rt2_1
                    case yt2_1 => (intro w hSw; (try dsimp only at hSw); go_simp; (try with_reducible rfl))
                    simp only [Act.put, List.setIfInBounds_toArray, List.set_cons_zero, List.set_cons_succ]
                    refine take_first 1 103 (v := ?vt2_2) rfl rfl (by kernel_rfl) (by kernel_rfl) (by kernel_rfl) (fun _ _ _ h => h) (by rfl) ?yt2_2 (by assumption) ?rt2_2
                    case yt2_2 => (intro w hSw; (try dsimp only at hSw); go_simp; (try with_reducible rfl))
                    simp only [Act.put, List.setIfInBounds_toArray, List.set_cons_zero, List.set_cons_succ]
                    refine take_first 2 104 (v := ?vt2_3) rfl rfl (by kernel_rfl) (by kernel_rfl) (by kernel_rfl) (fun _ _ _ h => h) (by rfl) ?yt2_3 (by assumption) ?rt2_3
                    case yt2_3 => (intro w hSw; (try dsimp only at hSw); go_simp; (try with_reducible rfl))
                    simp only [Act.put, List.setIfInBounds_toArray, List.set_cons_zero, List.set_cons_succ]
                    refine take_first 3 105 (v := ?vt2_4) rfl rfl (by kernel_rfl) (by kernel_rfl) (by kernel_rfl) (fun _ _ _ h => h) (by rfl) ?yt2_4 (by assumption) ?rt2_4
                    case yt2_4 => (intro w hSw; (try dsimp only at hSw); go_simp; (try with_reducible rfl))
                    simp only [Act.put, List.setIfInBounds_toArray, List.set_cons_zero, List.set_cons_succ]
                    refine take_first 4 106 (v := ?vt2_5) rfl rfl (by kernel_rfl) (by kernel_rfl) (by kernel_rfl) (fun _ _ _ h => h) (by rfl) ?yt2_5 (by assumption) ?rt2_5
                    case yt2_5 => (intro w hSw; (try dsimp only at hSw); go_simp; (try with_reducible rfl))
                    simp only [Act.put, List.setIfInBounds_toArray, List.set_cons_zero, List.set_cons_succ]
                    refine take_first 5 107 (v := ?vt2_6) rfl rfl (by kernel_rfl) (by kernel_rfl) (by kernel_rfl) (fun _ _ _ h => h) (by rfl) ?yt2_6 (by assumption) ?rt2_6
                    case yt2_6 => (intro w hSw; (try dsimp only at hSw); go_simp; (try with_reducible rfl))
                    simp only [Act.put, List.setIfInBounds_toArray, List.set_cons_zero, List.set_cons_succ]
                    refine take_first 6 108 (v := ?vt2_7) rfl rfl (by kernel_rfl) (by kernel_rfl) (by kernel_rfl) (fun _ _ _ h => h) (by rfl) ?yt2_7 (by assumption) ?rt2_7
                    case yt2_7 => (intro w hSw; (try dsimp only at hSw); go_simp; (try with_reducible rfl))
                    simp only [Act.put, List.setIfInBounds_toArray, List.set_cons_zero, List.set_cons_succ]
                    refine take_first 7 109 (v := ?vt2_8) rfl rfl (by kernel_rfl) (by kernel_rfl) (by kernel_rfl) (fun _ _ _ h => h) (by rfl) ?yt2_8 (by assumption) ?rt2_8
                    case yt2_8 => (intro w hSw; (try dsimp only at hSw); go_simp; (try with_reducible rfl))
                    simp only [Act.put, List.setIfInBounds_toArray, List.set_cons_zero, List.set_cons_succ]
                    refine take_first 8 110 (v := ?vt2_9) rfl rfl (by kernel_rfl) (by kernel_rfl) (by kernel_rfl) (fun _ _ _ h => h) (by rfl) ?yt2_9 (by assumption) ?rt2_9
                    case yt2_9 => (intro w hSw; (try dsimp only at hSw); go_simp; (try with_reducible rfl))
                    simp only [Act.put, List.setIfInBounds_toArray, List.set_cons_zero, List.set_cons_succ]
                    refine take_first 9 111 (v := ?vt2_10) rfl rfl (by kernel_rfl) (by kernel_rfl) (by kernel_rfl) (fun _ _ _ h => h) (by rfl) ?yt2_10 (by assumption) ?rt2_10
                    case yt2_10 => (intro w hSw; (try dsimp only at hSw); go_simp; (try with_reducible rfl))
                    simp only [Act.put, List.setIfInBounds_toArray, List.set_cons_zero, List.set_cons_succ]
                    refine take_first 10 112 (v := ?vt2_11) rfl rfl (by kernel_rfl) (by kernel_rfl) (by kernel_rfl) (fun _ _ _ h => h) (by rfl) ?yt2_11 (by assumption) ?rt2_11
                    case yt2_11 => (intro w hSw; (try dsimp only at hSw); go_simp; (try with_reducible rfl))
                    simp only [Act.put, List.setIfInBounds_toArray, List.set_cons_zero, List.set_cons_succ]
                    refine wpAnyH_done (by kernel_rfl) ?et2 _
                    clear k0
                    go_wp2
                    go_roundw
                    case rel => exact ⟨m + 1, by omega, by go_num, HF.out, HQ.out.drew⟩
                    case measure => simp [intOf]; omega
                · have HF : Hid (∀ j z, j < k2 + 1 → ws[j]? = some z → ∀ y ∈ bs, z.key ≠ y.key) := Lib.hid fun j z hj hz => by
                    rcases Nat.lt_or_ge j k2 with h1 | h1
                    · exact HE.out j z h1 hz
                    · have : j = k2 := by omega
                      subst this
                      rw [HX.out] at hz
                      injection hz with hz
                      subst hz
                      intro y hy
                      obtain ⟨q, hq, rfl⟩ := List.getElem_of_mem hy
                      exact HNe.out q _ (by omega) (List.getElem?_eq_getElem hq)
                  go_wp2
                  go_roundw
                  case rel => exact ⟨k2 + 1, by omega, by go_num, HF.out, HQ.out⟩
                  case measure => simp [intOf]; omega
            · obtain ⟨N, hN⟩ : ∃ N, stoDo its bs = N := ⟨_, rfl⟩
              have HN := Lib.hid hN
              have HM3 : Hid (stoDo N ws = M) := Lib.hid (by
                rw [← hN, ← HM.out, ← HR.out]
                refine (sto_swap HS.out HOa.out HOb.out (by omega) fun x hx y hy => ?_).symm
                obtain ⟨j, hj, rfl⟩ := List.getElem_of_mem hx
                exact HE.out j _ (by omega) (List.getElem?_eq_getElem hj) y hy)
              clear hN HE
              have KS := Lib.hid fun V (h : Below (w3.alloc (.cells #[.slice A3 R.length c3] 40)).heap.size (w3.alloc (.cells #[.slice A3 R.length c3] 40)) V) => And.intro (KC.out _ h).2 (KC.out _ h).1
              have k0 := KS.out _ HQ.out
              go_wp2
              refine wp_region_held_drew (S := (fun w' => w'.cell? ⟨w3.heap.size, 0, none⟩ = some (.slice A3 R.length c3) ∧ w'.cell? ⟨w1.heap.size, 0, none⟩ = some (.slice A1 its.length c1))) (by kernel_rfl) ?hSy (fun hHeldy => ?sty)
              case hSy => (first | (dsimp only; (exact k0)) | (exact k0))
              refine take_first 0 113 (v := ?vy_1) rfl rfl (by kernel_rfl) (by kernel_rfl) (by kernel_rfl) (fun _ _ _ h => h) (by rfl) ?yy_1 (by assumption) ?ry_1
              case yy_1 => (intro w hSw; (try dsimp only at hSw); go_simp; (try with_reducible rfl))
              simp only [Act.put, List.setIfInBounds_toArray, List.set_cons_zero, List.set_cons_succ]
              refine take_first 1 114 (v := ?vy_2) rfl rfl (by kernel_rfl) (by kernel_rfl) (by kernel_rfl) (fun _ _ _ h => h) (by rfl) ?yy_2 (by assumption) ?ry_2
              case yy_2 => (intro w hSw; (try dsimp only at hSw); go_simp; (try with_reducible rfl))
              simp only [Act.put, List.setIfInBounds_toArray, List.set_cons_zero, List.set_cons_succ]
              refine take_first 3 116 (v := ?vy_3) rfl rfl (by kernel_rfl) (by kernel_rfl) (by kernel_rfl) (fun _ _ _ h => h) (by rfl) ?yy_3 (by assumption) ?ry_3
              case yy_3 => (intro w hSw; (try dsimp only at hSw); go_simp; (try with_reducible rfl))
              simp only [Act.put, List.setIfInBounds_toArray, List.set_cons_zero, List.set_cons_succ]
              refine take_first 4 117 (v := ?vy_4) rfl rfl (by kernel_rfl) (by kernel_rfl) (by kernel_rfl) (fun _ _ _ h => h) (by rfl) ?yy_4 (by assumption) ?ry_4
              case yy_4 => (intro w hSw; (try dsimp only at hSw); go_simp; (try with_reducible rfl))
              simp only [Act.put, List.setIfInBounds_toArray, List.set_cons_zero, List.set_cons_succ]
              refine take_first 6 119 (v := ?vy_5) rfl rfl (by kernel_rfl) (by kernel_rfl) (by kernel_rfl) (fun _ _ _ h => h) (by rfl) ?yy_5 (by assumption) ?ry_5
              case yy_5 => (intro w hSw; (try dsimp only at hSw); go_simp; (try with_reducible rfl))
              simp only [Act.put, List.setIfInBounds_toArray, List.set_cons_zero, List.set_cons_succ]
              have HQ0 := Lib.hid HQ.out.drew
              refine wpAnyH_ready (rs := [2]) (by kernel_rfl) (by simp) ?_
              refine AllReadyH.cons (o := _) rfl (fun Kq17 hKq17 => ?pq17) AllReadyH.nil
              case pq17 =>
                go_simp
                refine (implStoDo_any _ _ _ R bs (KR.out _ HQ0.out) (KV.out _ HQ0.out)).mono ?_
                rintro e Wq17 ⟨xq17, rfl, ho, hb⟩
                rw [HM.out] at ho
                obtain ⟨Aq17, cq17, hf, -, -⟩ := ho.row.form
                subst hf
                have HQq17 := Lib.hid (belowNext HQ0.out hb)
                have Haq17 := Lib.hid (items_row.1 ho.row)
                clear ho hb
                go_wp2_with fail
                refine hKq17.out _ _ ?kq17 (fun _ => ?dq17)
                case kq17 => exact KS.out _ HQq17.out
                clear hKq17 Kq17
                refine wpAnyH_ready (rs := [5]) (by kernel_rfl) (by simp) ?_
                refine AllReadyH.cons (o := _) rfl (fun Kq18 hKq18 => ?pq18) AllReadyH.nil
                case pq18 =>
                  go_simp
                  refine (implStoDo_any _ _ _ its bs (KI.out _ HQq17.out) (KV.out _ HQq17.out)).mono ?_
                  rintro e Wq18 ⟨xq18, rfl, ho, hb⟩
                  rw [HN.out] at ho
                  obtain ⟨Aq18, cq18, hf, -, -⟩ := ho.row.form
                  subst hf
                  have HQq18 := Lib.hid (belowNext HQq17.out hb)
                  have Haq18 := Lib.hid ((Haq17.out.below hb).more hb.size)
                  have Hnq18 := Lib.hid (items_row.1 ho.row)
                  clear ho hb
                  go_wp2_with fail
                  refine hKq18.out _ _ ?kq18 (fun _ => ?dq18)
                  case kq18 => exact KS.out _ HQq18.out
                  clear hKq18 Kq18
                  refine wpAnyH_ready (rs := [7]) (by kernel_rfl) (by simp) ?_
                  refine AllReadyH.cons (o := _) rfl (fun Kq19 hKq19 => ?pq19) AllReadyH.nil
                  case pq19 =>
                    go_simp
                    refine (implStoDo_any _ _ _ N ws (Hnq18.out) (KW.out _ HQq18.out)).mono ?_
                    rintro e Wq19 ⟨xq19, rfl, ho, hb⟩
                    rw [HM3.out] at ho
                    obtain ⟨Aq19, cq19, hf, -, -⟩ := ho.row.form
                    subst hf
                    have HQq19 := Lib.hid (belowNext HQq18.out hb)
                    have Haq19 := Lib.hid ((Haq18.out.below hb).more hb.size)
                    have Hbq19 := Lib.hid (items_row.1 ho.row)
                    clear ho hb
                    go_wp2_with fail
                    refine hKq19.out _ _ ?kq19 (fun _ => ?dq19)
                    case kq19 => exact KS.out _ HQq19.out
                    clear hKq19 Kq19
                    refine wpAnyH_ready (rs := [8]) (by kernel_rfl) (by simp) ?_
                    refine AllReadyH.cons (o := _) rfl (fun Kq20 hKq20 => ?pq20) AllReadyH.nil
                    case pq20 =>
                      go_simp
                      refine (jaSto_same _ _ _ M Haq19.out Hbq19.out).mono ?_
                      rintro e Wq20 ⟨rfl, hb⟩
                      have HQq20 := Lib.hid (belowNext HQq19.out hb)
                      clear hb
                      go_wp2_with fail
                      refine hKq20.out _ _ ?kq20 (fun _ => ?dq20)
                      case kq20 => exact KS.out _ HQq20.out
                      clear hKq20 Kq20
                      refine wpAnyH_ready (rs := [9]) (by kernel_rfl) (by simp) ?_
                      refine AllReadyH.cons (o := _) rfl (fun Kq21 hKq21 => ?pq21) AllReadyH.nil
                      case pq21 =>
                        go_simp
                        go_wp2_with fail
                        refine hKq21.out _ _ ?kq21 (fun _ => ?dq21)
                        case kq21 => exact KS.out _ HQq20.out
                        clear hKq21 Kq21
                        refine wpAnyH_done (by kernel_rfl) ?e22 _
                        go_wp2
                        go_ret
                        exact ⟨rfl, KB.out _ HQq20.out⟩

end Go.Proofs.Ytgekggoenibnmaa
