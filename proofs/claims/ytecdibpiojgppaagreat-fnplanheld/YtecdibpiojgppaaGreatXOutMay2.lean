/- Texts that follow each other, merged: OutMay2, OpPlaces, PlanAt52, PlcPlanI. -/
import Derived.Test.YtecdibpiojgppaaGreatXShal
import Derived.Test.YtecdibpiojgppaaGreatXPlanAt
import Derived.Test.YtecdibpiojgppaaGreatXIntsOne
import Derived.Test.YtecdibpiojgppaaGreatXPlcIt

/- The walk of going out at the place that keeps who may what. -/
namespace Go.Proofs.YtecdibpiojgppaaGreat
open Go.RowKit

def famsTo (o : Op) (its : List Item) (k : Nat) : List Item := (its.take k).filter (famB o.who)
def outL (o : Op) (its : List Item) (k : Nat) : List ByteArray := keyN 117 o.who :: (famsTo o its k).map (·.key)
def outM (o : Op) (its : List Item) (k : Nat) : List Wr := (famsTo o its k).map fun it => ⟨it.key, false, [nth it.val 0, nth it.val 1, 0]⟩
theorem famsTo_yes {o : Op} {its : List Item} {k : Nat} {it : Item} (h : its[k]? = some it) (hf : famB o.who it = true) : famsTo o its (k + 1) = famsTo o its k ++ [it] := by
  unfold famsTo; rw [take_snoc h, List.filter_append]; simp [hf]
theorem famsTo_no {o : Op} {its : List Item} {k : Nat} {it : Item} (h : its[k]? = some it) (hf : famB o.who it = false) : famsTo o its (k + 1) = famsTo o its k := by
  unfold famsTo; rw [take_snoc h, List.filter_append]; simp [hf]
theorem out_all (o : Op) (its : List Item) : mayP5 its o = ⟨true, outL o its its.length, outM o its its.length⟩ := by
  unfold mayP5 outL outM famsTo; rw [List.take_length]
theorem famB_eq {o : Op} {it : Item} (h : 0 < it.key.size) : famB o.who it = (decide (chr0 it.key = 102) && (nth it.val 0 == o.who && nth it.val 2 == 1)) := by
  unfold famB
  congr 1
  rw [decide_eq_decide, chr0_at h]
  have h' : 0 < it.key.data.size := h
  rw [Array.getElem?_eq_getElem h']
  constructor
  · intro e
    have e1 : it.key.data[0] = 102 := Option.some.inj e
    show ((it.key.data[0].toNat : Nat) : Int) = 102
    rw [e1]; rfl
  · intro e
    have e1 : it.key.data[0].toNat = 102 := by
      have : ((it.key.data[0].toNat : Nat) : Int) = 102 := e
      omega
    congr 1
    exact UInt8.toNat_inj.1 e1

theorem OutI.start (w : World) (o : Op) (v : Value) : OutI w o v [keyN 117 o.who] [] (.slice (some ⟨w.heap.size + 1 + 1 + 1, 0, none⟩) 1 1) (.slice none 0 0) (fun b => b = w.heap.size + 1 + 1 + 1) (fun _ => False)
    (((((w.alloc (.cells #[.int .i64 o.kind, .int .i64 o.who, .int .i64 o.inn, .int .i64 o.code, .int .i64 o.sec, .int .i64 o.fam, .int .i64 o.gen] 129)).alloc (.cells #[v] 35)).alloc (.cells #[.bool false, .slice none 0 0, .slice none 0 0] 41)).alloc (.cells #[.string (keyN 117 o.who)] 9)).alloc (.cells #[.bool true, .slice (some ⟨w.heap.size + 1 + 1 + 1, 0, none⟩) 1 1, .slice none 0 0] 41)) := by
  have hL := strs_lit (((w.alloc (.cells #[.int .i64 o.kind, .int .i64 o.who, .int .i64 o.inn, .int .i64 o.code, .int .i64 o.sec, .int .i64 o.fam, .int .i64 o.gen] 129)).alloc (.cells #[v] 35)).alloc (.cells #[.bool false, .slice none 0 0, .slice none 0 0] 41)) [keyN 117 o.who] #[.string (keyN 117 o.who)] rfl (by simp [keyN_max]) (by unfold maxLen; simp)
  rw [alloc_size, alloc_size, alloc_size] at hL
  refine ⟨((((Held.new w _ _).after _).after _).after _).after _, (((Held.new1 w _ _ _).after _).after _).after _, ((Held.new2 w _ _ _ _).after _).after _, ?_, ?_, hL.below (belowOne _ _), Sh.Own.nil _ _, fun b hb => ?_, fun b hb => hb.elim, fun b _ hb => hb⟩
  · exact ((belowThree _ _ _ _).alloc (by simp; omega) _).alloc (by simp; omega) _
  · have h := Held.new2 ((w.alloc (.cells #[.int .i64 o.kind, .int .i64 o.who, .int .i64 o.inn, .int .i64 o.code, .int .i64 o.sec, .int .i64 o.fam, .int .i64 o.gen] 129)).alloc (.cells #[v] 35)) (.cells #[.bool false, .slice none 0 0, .slice none 0 0] 41) (.cells #[.string (keyN 117 o.who)] 9) #[.bool true, .slice (some ⟨w.heap.size + 1 + 1 + 1, 0, none⟩) 1 1, .slice none 0 0] 41
    rw [alloc_size, alloc_size] at h
    exact h
  · simp only [alloc_size]; omega

set_option maxRecDepth 100000 in
set_option maxHeartbeats 2000000 in
theorem outMay_any (w : World) (o : Op) (v : Value) (its : List Item) (hv : Items w w.heap.size v its) (hs : stoB its = true) (ho : opB o = true) (hf : formB 2 its = true) :
    Calls Tryz.prog 170 #[opV o, .agg #[v]] w (Planned (mayP5 its o) true w) := by
  obtain ⟨A, c, rfl, hc2, hc1⟩ := hv.form
  obtain ⟨b0, b1, b2, b3, b4, b5, b6, b7, b8, b9, b10, b11⟩ := opB_parts ho
  unfold maxLen at hc2
  have HV := Lib.hid hv
  have HF := Lib.hid (And.intro hs hf)
  have HS := Lib.hid (OutI.start w o (.slice A its.length c))
  clear hv ho hs hf
  go_enter Tryz.func170, Tryz.ntmps170
  go_wp2_with (go_at_call 143; refine (numbered_any _ _ _ (by omega) (by omega)).mono ?_; rintro e w' ⟨rfl, rfl⟩)
  go_loopw [19] (fun i wr => ∃ (k : Nat) (ul uw : Value) (S1 S2 : Nat → Prop), k ≤ its.length ∧ i = .int .i64 k ∧ OutI w o (.slice A its.length c) (outL o its k) (outM o its k) ul uw S1 S2 wr) (fun i _ => its.length - (intOf i).toNat)
  case atStart => exact ⟨0, _, _, _, _, Nat.zero_le _, rfl, HS.out⟩
  case round =>
    obtain ⟨k, ul, uw, S1, S2, hk, rfl, hI⟩ := hrel
    have HI := Lib.hid hI
    clear hI HS
    by_cases hlt : k < its.length
    · obtain ⟨b, off, c', it, u, e1, hit, hB, hsz, ck, cu, hu⟩ := (HV.out.below HI.out.bel).at_ (k := k) hlt
      injection e1 with e1a e1b e1c
      subst e1a
      clear e1b e1c
      have HIt := Lib.hid hit
      obtain ⟨k2, k3, n1, n3, hnn⟩ := itemB_parts ((stoB_parts HF.out.1).2.1 k it hlt hit)
      have hform : itP 2 it.key it.val = true := by
        have h := HF.out.2
        unfold formB at h
        exact List.all_eq_true.1 h it (List.mem_of_getElem? hit)
      rw [itP2, decide_eq_true_iff] at hform
      obtain ⟨A', c'', rfl, d1, d2, hrow⟩ := hu
      obtain ⟨b', off', rfl, hb', hcell⟩ := hrow (by omega)
      have hzr : w.heap.size ≤ wr.heap.size := HI.out.bel.size
      have hbr : b' < wr.heap.size := by omega
      have hbr2 : b < wr.heap.size := by omega
      have v0 := hcell 0 (by omega)
      rw [Nat.add_zero] at v0
      have HC := Lib.hid hcell
      have h0 : 0 < it.key.size := by omega
      have HFb := Lib.hid (famB_eq (o := o) h0)
      obtain ⟨ch, hch⟩ : ∃ ch : Int, ((it.key[0]'h0).toNat : Int) = ch := ⟨_, rfl⟩
      have hc0 := (chr0_at h0).trans hch
      rw [hc0] at hform HFb
      have HFo := Lib.hid hform
      unfold maxLen at d2
      have o1 := HI.out.op.of 1 _ rfl
      have hzo : w.heap.size < wr.heap.size := HI.out.op.1
      clear hcell hnn hrow hit hc0 hform
      by_cases h102 : ch = 102
      · subst h102
        have hl3 : it.val.length = 3 := by have := HFo.out; omega
        have l0 : 0 < it.val.length := by omega
        have l1 : 1 < it.val.length := by omega
        have l2 : 2 < it.val.length := by omega
        have l4 : (2 : Int) < (it.val.length : Int) := by omega
        have l5 : (1 : Int) < (it.val.length : Int) := by omega
        have v1 := HC.out 1 l1
        have v2 := HC.out 2 l2
        have HL3 := Lib.hid hl3
        clear hl3
        rcases e0 : (nth it.val 0 == o.who)
        · have g0 : (nth it.val 0 != o.who) = true := by simp only [bne, e0]; rfl
          have HN := Lib.hid (famsTo_no HIt.out (by rw [HFb.out, e0]; simp))
          clear v1 v2
          go_wp2
          go_quiet (fail)
          go_wp2
          go_roundw
          case rel => exact ⟨k + 1, ul, uw, S1, S2, by omega, by go_num, by unfold outL outM; rw [HN.out]; exact (HI.out.call (belowOne _ _)).drewN _⟩
          case measure => simp [intOf]; omega
        have g0 : (nth it.val 0 != o.who) = false := by simp only [bne, e0]; rfl
        rcases e2 : (nth it.val 2 == 1)
        · have g2 : (nth it.val 2 != 1) = true := by simp only [bne, e2]; rfl
          have HN := Lib.hid (famsTo_no HIt.out (by rw [HFb.out, e0, e2]; simp))
          clear v1
          go_wp2
          go_quiet (fail)
          go_wp2
          go_roundw
          case rel => exact ⟨k + 1, ul, uw, S1, S2, by omega, by go_num, by unfold outL outM; rw [HN.out]; exact (HI.out.call (belowOne _ _)).drewN _⟩
          case measure => simp [intOf]; omega
        · have g2 : (nth it.val 2 != 1) = false := by simp only [bne, e2]; rfl
          have HN := Lib.hid (famsTo_yes HIt.out (by rw [HFb.out, e0, e2]; simp))
          go_wp2
          go_quiet (fail)
          have HI6 := Lib.hid ((HI.out.call (belowOne wr (.cells #[.string it.key, .slice (some ⟨b', off', none⟩) it.val.length c''] 95))).drewN nq)
          have HX6 := Lib.hid (show Held ((wr.alloc (.cells #[.string it.key, .slice (some ⟨b', off', none⟩) it.val.length c''] 95)).drewN nq) wr.heap.size [.string it.key, .slice (some ⟨b', off', none⟩) it.val.length c''] from Held.new wr #[.string it.key, .slice (some ⟨b', off', none⟩) it.val.length c''] 95)
          have HS1 := Lib.hid (fun b hb => (HI.out.s1 b hb).2.2)
          have HS2 := Lib.hid (fun b hb => (HI.out.s2 b hb).2.2)
          have hpw : w.heap.size + 1 + 1 + 1 + 1 < wr.heap.size := HI.out.pb.1
          have HCC := Lib.hid (fun (W : World) (hb : Below w.heap.size w W) (j : Nat) (hj : j < it.val.length) => (hb.cell (p := ⟨b', off' + j, none⟩) hb').trans ((HI.out.bel.cell (p := ⟨b', off' + j, none⟩) hb').symm.trans (HC.out j hj)))
          clear v0 v1 v2 o1 hzo hzr
          generalize (wr.alloc (.cells #[.string it.key, .slice (some ⟨b', off', none⟩) it.val.length c''] 95)).drewN nq = w6 at *
          have hx6 : wr.heap.size < w6.heap.size := HX6.out.1
          have hp6 : w.heap.size + 1 + 1 + 1 + 1 < w6.heap.size := HI6.out.pb.1
          obtain ⟨A1, c1, hA1, -, -⟩ := HI6.out.lk.row.form
          obtain ⟨A2, c2, hA2, -, -⟩ := HI6.out.wr.row.form
          subst hA1 hA2
          have hLn : (outL o its k).length ≤ 1048576 := by
            have h40 := (stoB_parts HF.out.1).1
            have := List.length_filter_le (famB o.who) (its.take k)
            have h2 : (its.take k).length ≤ its.length := List.length_take_le' _ _
            simp only [outL, famsTo, List.length_cons, List.length_map]; omega
          have HLM := Lib.hid (show (outM o its k).length ≤ 1048576 by simp only [outL, outM, List.length_cons, List.length_map] at hLn ⊢; omega)
          have HL6 := Lib.hid (HI6.out.call (belowOne w6 (.cells #[.string it.key] 9)))
          have HR6 := Lib.hid (strs_lit w6 [it.key] #[.string it.key] rfl (by simpa using hsz) (by unfold maxLen; simp)).row
          have p1 := HI6.out.pb.of 1 _ rfl
          have x0 := HX6.out.of 0 _ rfl
          go_upto_region 7 with (at_builtin; refine wpl_append_strs rfl _ _ rfl S1 _ (outL o its k) [it.key] rfl HL6.out.lk _ _ _ _ rfl rfl HR6.out (by simp only [List.length_cons, List.length_nil]; omega) ?_; intro u' w7 hu' hg7 hw7; obtain ⟨A7, c7, hf7, -, -⟩ := hu'.row.form; subst hf7; have HU7 := Lib.hid hu'; have HG7 := Lib.hid hg7; have HP7 := Lib.hid (HL6.out.pb.grown hg7 (fun e => by have := HL6.out.s1 _ (HL6.out.own1 _ e); omega)); have q1 := HP7.out.of 1 _ rfl; have qf := HP7.out.2.1; clear hu' hg7 hw7)
          have HI8 := Lib.hid (show OutI w o (.slice (some ⟨b, off, none⟩) its.length c) (outL o its k ++ [it.key]) (outM o its k) (.slice A7 ((outL o its k).length + 1) c7) (.slice A2 (outM o its k).length c2) (fun b => (S1 b ∨ b = (w6.alloc (.cells #[.string it.key] 9)).heap.size) ∧ b < w7.heap.size) S2 (w7.setCell ⟨w.heap.size + 1 + 1 + 1 + 1, 1, none⟩ (.slice A7 ((outL o its k).length + 1) c7)) from by have h := HL6.out.lock HG7.out HU7.out; rw [List.length_append] at h; exact h)
          have HX8 := Lib.hid (show Held (w7.setCell ⟨w.heap.size + 1 + 1 + 1 + 1, 1, none⟩ (.slice A7 ((outL o its k).length + 1) c7)) wr.heap.size [.string it.key, .slice (some ⟨b', off', none⟩) it.val.length c''] from ((HX6.out.after (.cells #[.string it.key] 9)).grown HG7.out (fun e => by have := HS1.out _ (HL6.out.own1 _ e); omega)).far (by show wr.heap.size ≠ w.heap.size + 1 + 1 + 1 + 1; omega) _)
          clear q1 qf p1 x0 HP7 HU7 HG7 HL6 HR6 HI6 HX6 hx6 hp6
          generalize hw8 : (w7.setCell ⟨w.heap.size + 1 + 1 + 1 + 1, 1, none⟩ (.slice A7 ((outL o its k).length + 1) c7)) = w8 at *
          clear hw8
          have hx8 : wr.heap.size < w8.heap.size := HX8.out.1
          have hp8 : w.heap.size + 1 + 1 + 1 + 1 < w8.heap.size := HI8.out.pb.1
          have KK := Lib.hid (fun (W : World) (h1 : OutI w o (.slice (some ⟨b, off, none⟩) its.length c) (outL o its k ++ [it.key]) (outM o its k) (.slice A7 ((outL o its k).length + 1) c7) (.slice A2 (outM o its k).length c2) (fun b => (S1 b ∨ b = (w6.alloc (.cells #[.string it.key] 9)).heap.size) ∧ b < w7.heap.size) S2 W) (h2 : Held W wr.heap.size [.string it.key, .slice (some ⟨b', off', none⟩) it.val.length c'']) => show W.cell? ⟨w.heap.size + 1 + 1 + 1 + 1, 2, none⟩ = some (.slice A2 (outM o its k).length c2) ∧ W.cell? ⟨wr.heap.size, 0, none⟩ = some (.string it.key) ∧ W.cell? ⟨wr.heap.size, 1, none⟩ = some (.slice (some ⟨b', off', none⟩) it.val.length c'') ∧ W.cell? ⟨b', off', none⟩ = some (.int .i64 (nth it.val 0)) ∧ W.cell? ⟨b', off' + 1, none⟩ = some (.int .i64 (nth it.val 1)) from ⟨h1.pb.of 2 _ rfl, h2.of 0 _ rfl, h2.of 1 _ rfl, by simpa using HCC.out W h1.bel 0 (by omega), HCC.out W h1.bel 1 l1⟩)
          have k0 := KK.out w8.drew HI8.out.drewOne HX8.out
          have k1 := KK.out (w8.alloc (.cells #[.int .i64 (nth it.val 0), .int .i64 (nth it.val 1), .int .i64 0] 3)).drew (HI8.out.call (belowOne w8 (.cells #[.int .i64 (nth it.val 0), .int .i64 (nth it.val 1), .int .i64 0] 3))).drewOne (HX8.out.after _)
          have HI9 := Lib.hid ((HI8.out.call (belowOne w8 (.cells #[.int .i64 (nth it.val 0), .int .i64 (nth it.val 1), .int .i64 0] 3))).call (belowOne _ (.cells #[.string it.key, .bool false, .slice (some ⟨w8.heap.size, 0, none⟩) 3 3] 77))).drewOne
          have HX9 := Lib.hid (show Held ((w8.alloc (.cells #[.int .i64 (nth it.val 0), .int .i64 (nth it.val 1), .int .i64 0] 3)).alloc (.cells #[.string it.key, .bool false, .slice (some ⟨w8.heap.size, 0, none⟩) 3 3] 77)).drew wr.heap.size [.string it.key, .slice (some ⟨b', off', none⟩) it.val.length c''] from (HX8.out.after _).after _)
          have k2 := KK.out (((w8.alloc (.cells #[.int .i64 (nth it.val 0), .int .i64 (nth it.val 1), .int .i64 0] 3)).alloc (.cells #[.string it.key, .bool false, .slice (some ⟨w8.heap.size, 0, none⟩) 3 3] 77)).drew) HI9.out HX9.out
          have HY9 := Lib.hid (show Sh.int.Own 3 (((w8.alloc (.cells #[.int .i64 (nth it.val 0), .int .i64 (nth it.val 1), .int .i64 0] 3)).alloc (.cells #[.string it.key, .bool false, .slice (some ⟨w8.heap.size, 0, none⟩) 3 3] 77)).drew) (fun b => b = w8.heap.size) (.slice (some ⟨w8.heap.size, 0, none⟩) 3 3) [nth it.val 0, nth it.val 1, 0] from ((ints_lit w8 [nth it.val 0, nth it.val 1, 0] #[.int .i64 (nth it.val 0), .int .i64 (nth it.val 1), .int .i64 0] rfl (by unfold maxLen; simp)).below (belowOne _ _)).below ((Below.refl _ _).drew))
          have HB9 := Lib.hid (show Held (((w8.alloc (.cells #[.int .i64 (nth it.val 0), .int .i64 (nth it.val 1), .int .i64 0] 3)).alloc (.cells #[.string it.key, .bool false, .slice (some ⟨w8.heap.size, 0, none⟩) 3 3] 77)).drew) (w8.heap.size + 1) [.string it.key, .bool false, .slice (some ⟨w8.heap.size, 0, none⟩) 3 3] from Held.new1 w8 _ _ _)
          refine region_l (S := (fun w' => w'.cell? ⟨w.heap.size + 1 + 1 + 1 + 1, 2, none⟩ = some (.slice A2 (outM o its k).length c2) ∧ w'.cell? ⟨wr.heap.size, 0, none⟩ = some (.string it.key) ∧ w'.cell? ⟨wr.heap.size, 1, none⟩ = some (.slice (some ⟨b', off', none⟩) it.val.length c'') ∧ w'.cell? ⟨b', off', none⟩ = some (.int .i64 (nth it.val 0)) ∧ w'.cell? ⟨b', off' + 1, none⟩ = some (.int .i64 (nth it.val 1)))) 17 (by kernel_rfl) ?hSr7 (fun hHeldr7 => ?str7)
          case hSr7 => (first | (dsimp only; (first | with_reducible exact k3 | with_reducible exact k2 | with_reducible exact k1 | with_reducible exact k0)) | (first | with_reducible exact k3 | with_reducible exact k2 | with_reducible exact k1 | with_reducible exact k0))
          refine take_l 0 52 (v := ?vr7_1) rfl rfl (by kernel_rfl) (by kernel_rfl) (by kernel_rfl) (by kernel_rfl) (fun _ _ _ h => h) (by rfl) ?yr7_1 (by assumption) ?rr7_1
          case yr7_1 => (intro w hSw; (try dsimp only at hSw); go_simp; (try with_reducible rfl))
          simp only [Act.put, List.setIfInBounds_toArray, List.set_cons_zero, List.set_cons_succ]
          refine take_l 1 53 (v := ?vr7_2) rfl rfl (by kernel_rfl) (by kernel_rfl) (by kernel_rfl) (by kernel_rfl) (fun _ _ _ h => h) (by rfl) ?yr7_2 (by assumption) ?rr7_2
          case yr7_2 => (intro w hSw; (try dsimp only at hSw); go_simp; (try with_reducible rfl))
          simp only [Act.put, List.setIfInBounds_toArray, List.set_cons_zero, List.set_cons_succ]
          refine take_l 2 54 (v := ?vr7_3) rfl rfl (by kernel_rfl) (by kernel_rfl) (by kernel_rfl) (by kernel_rfl) (fun _ _ _ h => h) (by rfl) ?yr7_3 (by assumption) ?rr7_3
          case yr7_3 => (intro w hSw; (try dsimp only at hSw); go_simp; (try with_reducible rfl))
          simp only [Act.put, List.setIfInBounds_toArray, List.set_cons_zero, List.set_cons_succ]
          refine take_l 3 55 (v := ?vr7_4) rfl rfl (by kernel_rfl) (by kernel_rfl) (by kernel_rfl) (by kernel_rfl) (fun _ _ _ h => h) (by rfl) ?yr7_4 (by assumption) ?rr7_4
          case yr7_4 => (intro w hSw; (try dsimp only at hSw); go_simp; (try with_reducible rfl))
          simp only [Act.put, List.setIfInBounds_toArray, List.set_cons_zero, List.set_cons_succ]
          refine take_l 4 56 (v := ?vr7_5) rfl rfl (by kernel_rfl) (by kernel_rfl) (by kernel_rfl) (by kernel_rfl) (fun _ _ _ h => h) (by rfl) ?yr7_5 (by assumption) ?rr7_5
          case yr7_5 => (intro w hSw; (try dsimp only at hSw); go_simp; (try with_reducible rfl))
          simp only [Act.put, List.setIfInBounds_toArray, List.set_cons_zero, List.set_cons_succ]
          refine take_l 5 57 (v := ?vr7_6) rfl rfl (by kernel_rfl) (by kernel_rfl) (by kernel_rfl) (by kernel_rfl) (fun _ _ _ h => h) (by rfl) ?yr7_6 (by assumption) ?rr7_6
          case yr7_6 => (intro w hSw; (try dsimp only at hSw); go_simp; (try with_reducible rfl))
          simp only [Act.put, List.setIfInBounds_toArray, List.set_cons_zero, List.set_cons_succ]
          refine take_l 6 58 (v := ?vr7_7) rfl rfl (by kernel_rfl) (by kernel_rfl) (by kernel_rfl) (by kernel_rfl) (fun _ _ _ h => h) (by rfl) ?yr7_7 (by assumption) ?rr7_7
          case yr7_7 => (intro w hSw; (try dsimp only at hSw); go_simp; (try with_reducible rfl))
          simp only [Act.put, List.setIfInBounds_toArray, List.set_cons_zero, List.set_cons_succ]
          refine take_l 7 59 (v := ?vr7_8) rfl rfl (by kernel_rfl) (by kernel_rfl) (by kernel_rfl) (by kernel_rfl) (fun _ _ _ h => h) (by rfl) ?yr7_8 (by assumption) ?rr7_8
          case yr7_8 => (intro w hSw; (try dsimp only at hSw); go_simp; (try with_reducible rfl))
          simp only [Act.put, List.setIfInBounds_toArray, List.set_cons_zero, List.set_cons_succ]
          refine take_l 8 60 (v := ?vr7_9) rfl rfl (by kernel_rfl) (by kernel_rfl) (by kernel_rfl) (by kernel_rfl) (fun _ _ _ h => h) (by rfl) ?yr7_9 (by assumption) ?rr7_9
          case yr7_9 => (intro w hSw; (try dsimp only at hSw); go_simp; (try with_reducible rfl))
          simp only [Act.put, List.setIfInBounds_toArray, List.set_cons_zero, List.set_cons_succ]
          refine take_l 9 61 (v := ?vr7_10) rfl rfl (by kernel_rfl) (by kernel_rfl) (by kernel_rfl) (by kernel_rfl) (fun _ _ _ h => h) (by rfl) ?yr7_10 (by assumption) ?rr7_10
          case yr7_10 => (intro w hSw; (try dsimp only at hSw); go_simp; (try with_reducible rfl))
          simp only [Act.put, List.setIfInBounds_toArray, List.set_cons_zero, List.set_cons_succ]
          refine take_l 10 62 (v := ?vr7_11) rfl rfl (by kernel_rfl) (by kernel_rfl) (by kernel_rfl) (by kernel_rfl) (fun _ _ _ h => h) (by rfl) ?yr7_11 (by assumption) ?rr7_11
          case yr7_11 => (intro w hSw; (try dsimp only at hSw); go_simp; (try with_reducible rfl))
          simp only [Act.put, List.setIfInBounds_toArray, List.set_cons_zero, List.set_cons_succ]
          refine take_l 11 63 (v := ?vr7_12) rfl rfl (by kernel_rfl) (by kernel_rfl) (by kernel_rfl) (by kernel_rfl) (fun _ _ _ h => h) (by rfl) ?yr7_12 (by assumption) ?rr7_12
          case yr7_12 => (intro w hSw; (try dsimp only at hSw); go_simp; (try with_reducible rfl))
          simp only [Act.put, List.setIfInBounds_toArray, List.set_cons_zero, List.set_cons_succ]
          refine one_l 12 rfl (by kernel_rfl) (fun Kr7_13 hKr7_13 => ?cr7_13)
          go_simp
          skip
          go_wp2_with fail
          refine hKr7_13.out _ _ ?kr7_13 (fun hHoldr7_13 => ?dr7_13)
          case kr7_13 => (intro _; (first | (dsimp only; (first | with_reducible exact k3 | with_reducible exact k2 | with_reducible exact k1 | with_reducible exact k0)) | (first | with_reducible exact k3 | with_reducible exact k2 | with_reducible exact k1 | with_reducible exact k0)))
          clear hKr7_13 Kr7_13
          have hHeldr7_13 := hHoldr7_13 (by decide)
          clear hHoldr7_13
          refine take_l 13 65 (v := ?vr7_14) rfl rfl (by kernel_rfl) (by kernel_rfl) (by kernel_rfl) (by kernel_rfl) (fun _ _ _ h => h) (by rfl) ?yr7_14 (by assumption) ?rr7_14
          case yr7_14 => (intro w hSw; (try dsimp only at hSw); go_simp; (try with_reducible rfl))
          simp only [Act.put, List.setIfInBounds_toArray, List.set_cons_zero, List.set_cons_succ]
          refine one_l 14 rfl (by kernel_rfl) (fun Kr7_15 hKr7_15 => ?cr7_15)
          go_simp
          skip
          go_wp2_with fail
          refine hKr7_15.out _ _ ?kr7_15 (fun hHoldr7_15 => ?dr7_15)
          case kr7_15 => (intro _; (first | (dsimp only; (first | with_reducible exact k3 | with_reducible exact k2 | with_reducible exact k1 | with_reducible exact k0)) | (first | with_reducible exact k3 | with_reducible exact k2 | with_reducible exact k1 | with_reducible exact k0)))
          clear hKr7_15 Kr7_15
          have hHeldr7_15 := hHoldr7_15 (by decide)
          clear hHoldr7_15
          refine one_l 15 rfl (by kernel_rfl) (fun Kr7_16 hKr7_16 => ?cr7_16)
          rw [if_pos (by rfl)]
          refine app_wrs (.tmp 53) (.tmp 66) rfl S2 (fun b => b = w8.heap.size) _ (outM o its k) rfl HI9.out.wr (w8.heap.size + 1) rfl [.string it.key, .bool false, .slice (some ⟨w8.heap.size, 0, none⟩) 3 3] ⟨it.key, false, [nth it.val 0, nth it.val 1, 0]⟩ (wr_own.2 ⟨_, rfl, hsz, HY9.out⟩) HB9.out (fun b hb e => by have := (HI8.out.s2 b hb).2.2; omega) HLM.out ?_; intro v9 w9 hv9 hg9 hw9; obtain ⟨A9, c9, hf9, -, -⟩ := hv9.row.form; subst hf9; have HV9 := Lib.hid hv9; have HG9 := Lib.hid hg9; have HP9 := Lib.hid (HI9.out.pb.grown hg9 (fun e => by have := HI9.out.s2 _ (HI9.out.own2 _ e); omega)); have q2 := HP9.out.of 2 _ rfl; have qf := HP9.out.2.1; have k3 : w9.cell? ⟨w.heap.size + 1 + 1 + 1 + 1, 2, none⟩ = some (.slice A2 (outM o its k).length c2) ∧ w9.cell? ⟨wr.heap.size, 0, none⟩ = some (.string it.key) ∧ w9.cell? ⟨wr.heap.size, 1, none⟩ = some (.slice (some ⟨b', off', none⟩) it.val.length c'') ∧ w9.cell? ⟨b', off', none⟩ = some (.int .i64 (nth it.val 0)) ∧ w9.cell? ⟨b', off' + 1, none⟩ = some (.int .i64 (nth it.val 1)) := ⟨q2, (HX9.out.grown hg9 (fun e => by have := HS2.out _ (HI9.out.own2 _ e); omega)).of 0 _ rfl, (HX9.out.grown hg9 (fun e => by have := HS2.out _ (HI9.out.own2 _ e); omega)).of 1 _ rfl, by simpa using HCC.out w9 (HI9.out.bel.grown hg9 HI9.out.bel.size (fun b hb => by have := HI9.out.s2 b (HI9.out.own2 b hb); omega)) 0 (by omega), HCC.out w9 (HI9.out.bel.grown hg9 HI9.out.bel.size (fun b hb => by have := HI9.out.s2 b (HI9.out.own2 b hb); omega)) 1 l1⟩; clear hv9 hg9 hw9
          refine hKr7_16.out _ _ ?kr7_16 (fun hHoldr7_16 => ?dr7_16)
          case kr7_16 => (intro _; (first | (dsimp only; (first | with_reducible exact k3 | with_reducible exact k2 | with_reducible exact k1 | with_reducible exact k0)) | (first | with_reducible exact k3 | with_reducible exact k2 | with_reducible exact k1 | with_reducible exact k0)))
          clear hKr7_16 Kr7_16
          have hHeldr7_16 := hHoldr7_16 (by decide)
          clear hHoldr7_16
          refine take_l 16 68 (v := ?vr7_17) rfl rfl (by kernel_rfl) (by kernel_rfl) (by kernel_rfl) (by kernel_rfl) (fun _ _ _ h => h) (by rfl) ?yr7_17 (by assumption) ?rr7_17
          case yr7_17 => (intro w hSw; (try dsimp only at hSw); go_simp; (try with_reducible rfl))
          simp only [Act.put, List.setIfInBounds_toArray]
          refine one_l 17 rfl (by kernel_rfl) (fun Kr7_18 hKr7_18 => ?cr7_18)
          go_simp
          skip
          go_wp2_with fail
          refine hKr7_18.out _ _ ?kr7_18 (fun hHoldr7_18 => ?dr7_18)
          case kr7_18 => exact fun h => absurd rfl h
          clear hKr7_18 Kr7_18
          clear hHoldr7_18
          refine done_l (by kernel_rfl) ?er7 _
          have HI10 := HI9.out.write (S' := fun b => b = w8.heap.size) (fun b hb => by rw [show (((w8.alloc (.cells #[.int .i64 (nth it.val 0), .int .i64 (nth it.val 1), .int .i64 0] 3)).alloc (.cells #[.string it.key, .bool false, .slice (some ⟨w8.heap.size, 0, none⟩) 3 3] 77)).drew).heap.size = w8.heap.size + 1 + 1 from by show (World.alloc _ _).heap.size = _; rw [alloc_size, alloc_size]]; omega) (fun b hb e => by have := (HI8.out.s1 b hb).2.2; omega) HG9.out HV9.out
          rw [List.length_append] at HI10
          have HT := Lib.hid HI10
          clear HI10 k0 k1 k2 k3 q2 qf
          go_wp2
          go_roundw
          case rel => exact ⟨k + 1, _, _, _, _, by omega, by go_num, by unfold outL outM; rw [HN.out, List.map_append, List.map_append]; exact HT.out⟩
          case measure => simp [intOf]; omega
      · have g1 : (ch != 102) = true := by simpa using h102
        have HN := Lib.hid (famsTo_no HIt.out (by rw [HFb.out]; simp [h102]))
        clear h102
        go_wp2
        go_quiet (fail)
        go_wp2
        go_roundw
        case rel => exact ⟨k + 1, ul, uw, S1, S2, by omega, by go_num, by unfold outL outM; rw [HN.out]; exact (HI.out.call (belowOne _ _)).drewN _⟩
        case measure => simp [intOf]; omega
    · have hke : k = its.length := by omega
      subst hke
      obtain ⟨A1, c1, hA1, -, -⟩ := HI.out.lk.row.form
      obtain ⟨A2, c2, hA2, -, -⟩ := HI.out.wr.row.form
      subst hA1 hA2
      have p0 := HI.out.pb.of 0 _ rfl
      have p1 := HI.out.pb.of 1 _ rfl
      have p2 := HI.out.pb.of 2 _ rfl
      have r0 := HI.out.res.of 0 _ rfl
      have r1 := HI.out.res.of 1 _ rfl
      have r2 := HI.out.res.of 2 _ rfl
      have fr := HI.out.res.2.1
      go_wp2
      clear p0 p1 p2 r0 r1 r2 fr
      have HQ := HI.out.res.put3 (.bool true) (.slice A1 (outL o its its.length).length c1) (.slice A2 (outM o its its.length).length c2)
      have q0 := HQ.of 0 _ rfl
      have q1 := HQ.of 1 _ rfl
      have q2 := HQ.of 2 _ rfl
      rw [out_all]
      refine bodyPost_ret (v := .tuple #[.agg #[.bool true, .slice A1 (outL o its its.length).length c1, .slice A2 (outM o its its.length).length c2], .bool true]) (by simp only [results, Tryz.results170, go_sem]; simp [go_sem, q0, q1, q2]) rfl ⟨_, _, rfl, planOwn (pl := ⟨true, outL o its its.length, outM o its its.length⟩) (w.heap.size + 3) (HI.out.lk.keep fun b hb _ => put3_far _ _ _ _ _ (by have := HI.out.s1 b hb; omega)) (HI.out.wr.keep fun b hb _ => put3_far _ _ _ _ _ (by have := HI.out.s2 b hb; omega)) (fun b hb => by have := HI.out.s1 b hb; omega) (fun b hb => by have := HI.out.s2 b hb; omega) (fun b h1 h2 => HI.out.ap b h1 h2) (by omega), ?_⟩
      exact belowPut3 HI.out.bel (w.heap.size + 1 + 1) (by omega) _ _ _

end Go.Proofs.YtecdibpiojgppaaGreat

/- At which places something is done: OpPlaces of the program and of the model. -/
namespace Go.Proofs.YtecdibpiojgppaaGreat
open Go.RowKit

/-- Whether a kind is done at a place. -/
def hereB (k p : Int) : Bool := decide (p = 3 ∨ p = 1 ∧ (k = 1 ∨ k = 2 ∨ k = 5) ∨ p = 2 ∧ k ≠ 1)
/-- The places below k at which something is done. -/
def upto (o : Op) (k : Nat) : List Int := (([1, 2, 3] : List Int).take (k - 1)).filter (hereB o.kind)
def placesP (o : Op) : List Int := if opB o then upto o 4 else []
theorem upto_one (o : Op) : upto o 1 = [] := rfl
theorem upto_yes {o : Op} {k : Nat} (h1 : 1 ≤ k) (h3 : k ≤ 3) (h : hereB o.kind (k : Int) = true) : upto o (k + 1) = upto o k ++ [(k : Int)] := by
  have hk : k = 1 ∨ k = 2 ∨ k = 3 := by omega
  rcases hk with rfl | rfl | rfl
  all_goals simp [upto, List.filter] at h ⊢
  · simp [h]
  · simp [h]
    cases hereB o.kind 1 <;> rfl
  · simp [h]
    cases hereB o.kind 1 <;> cases hereB o.kind 2 <;> rfl
theorem upto_no {o : Op} {k : Nat} (h1 : 1 ≤ k) (h3 : k ≤ 3) (h : hereB o.kind (k : Int) = false) : upto o (k + 1) = upto o k := by
  have hk : k = 1 ∨ k = 2 ∨ k = 3 := by omega
  rcases hk with rfl | rfl | rfl
  all_goals simp [upto, List.filter] at h ⊢
  all_goals simp [h]
theorem upto_len (o : Op) (k : Nat) : (upto o k).length ≤ 3 := by
  unfold upto
  refine Nat.le_trans (List.length_filter_le _ _) ?_
  simp; omega

theorem Ints.one1 (w : World) (x : Obj) (m : Int) : Ints ((w.alloc x).alloc (.cells #[.int .i64 m] 3)) ((w.alloc x).alloc (.cells #[.int .i64 m] 3)).heap.size (.slice (some ⟨w.heap.size + 1, 0, none⟩) 1 1) [m] := by
  have h := Ints.one (w.alloc x) m
  rwa [show (w.alloc x).heap.size = w.heap.size + 1 by simp] at h
theorem itemsNil (w : World) : Items w w.heap.size (.slice none 0 0) [] := ⟨none, 0, rfl, Nat.le_refl _, Nat.zero_le _, fun h => absurd h (by simp)⟩
/-- What planAt leaves, loosely. -/
def SomePlan (b : Bool) (w : World) (e : Ending) (w' : World) : Prop := ∃ (q : Bool) (A : Option Addr) (n c : Nat) (A' : Option Addr) (n' c' : Nat), e = .returned (.tuple #[.agg #[.bool q, .slice A n c, .slice A' n' c'], .bool b]) ∧ Below w.heap.size w w'
theorem Planned.some {pl : Plan} {b : Bool} {w w' : World} {e : Ending} (h : Planned pl b w e w') : SomePlan b w e w' := by
  obtain ⟨u, v, rfl, ho, hb⟩ := h
  obtain ⟨x1, y1, S1, S2, hcs, hx, hy, -⟩ := plan_own.1 ho
  obtain ⟨rfl, rfl⟩ : u = x1 ∧ v = y1 := by simpa using hcs
  obtain ⟨xa, xc, hxf, -, -⟩ := hx.row.form
  obtain ⟨ya, yc, hyf, -, -⟩ := hy.row.form
  subst hxf hyf
  exact ⟨_, _, _, _, _, _, _, rfl, hb⟩
theorem planAt0_any (w : World) (o : Op) (ho : opB o = true) (p : Int) (hp : p = 1 ∨ p = 2 ∨ p = 3) :
    Calls Tryz.prog 48 #[.int .i64 p, .agg #[.slice none 0 0], .int .i64 0, .iface (actT o.kind) (opV o)] w (SomePlan (hereB o.kind p) w) := by
  have hs : stoB [] = true := by decide
  have hf : formB 2 [] = true := rfl
  have z0 : (0 : Int) ≤ 0 := by omega
  have z9 : (0 : Int) ≤ 29 := by omega
  rcases opK_kind ho with hk | hk | hk | hk | hk <;> rcases hp with rfl | rfl | rfl
  all_goals rw [hk]
  · exact (planAt11 w o _ [] (itemsNil w) hs (.inl hf) ho 0 z0 z9).mono fun e w' h => h.some
  · exact (planAt12 w o _ [] (itemsNil w) hs (.inl hf) ho 0 z0 z9).mono fun e w' h => h.some
  · exact (planAt13 w o _ [] (itemsNil w) hs (.inl hf) ho 0 z0 z9).mono fun e w' h => h.some
  · exact (planAt21 w o _ [] (itemsNil w) hs (.inl hf) ho 0 z0 z9).mono fun e w' h => h.some
  · exact (planAt22 w o _ [] (itemsNil w) hs (.inl hf) ho 0 z0 z9).mono fun e w' h => h.some
  · exact (planAt23 w o _ [] (itemsNil w) hs (.inl hf) ho 0 z0 z9).mono fun e w' h => h.some
  · exact (planAt31 w o _ [] (itemsNil w) hs (.inl hf) ho 0 z0 z9).mono fun e w' h => h.some
  · exact (planAt32 w o _ [] (itemsNil w) hs (.inl hf) ho 0 z0 z9).mono fun e w' h => h.some
  · exact (planAt33 w o _ [] (itemsNil w) hs (.inl hf) ho 0 z0 z9).mono fun e w' h => h.some
  · exact (planAt41 w o _ [] (itemsNil w) hs (.inl hf) ho 0 z0 z9).mono fun e w' h => h.some
  · exact (planAt42 w o _ [] (itemsNil w) hs (.inl hf) ho 0 z0 z9).mono fun e w' h => h.some
  · exact (planAt43 w o _ [] (itemsNil w) hs (.inl hf) ho 0 z0 z9).mono fun e w' h => h.some
  · exact (planAt51 w o _ [] (itemsNil w) hs (.inl hf) ho 0 z0 z9).mono fun e w' h => h.some
  · exact (planAt52_0 w o _ (itemsNil w) hs (.inl hf) ho 0 z0 z9).mono fun e w' h => h.some
  · exact (planAt53 w o _ [] (itemsNil w) hs (.inl hf) ho 0 z0 z9).mono fun e w' h => h.some

/-- What OpPlaces leaves: numbers of its own. -/
def Placed (xs : List Int) (w : World) (e : Ending) (w' : World) : Prop := ∃ u, e = .returned u ∧ OwnInts w' w.heap.size u xs ∧ Below w.heap.size w w'

set_option maxRecDepth 100000 in
set_option maxHeartbeats 2000000 in
theorem implOpPlaces_any (w : World) (o : Op) : Calls Tryz.prog 78 #[opV o] w (Placed (placesP o) w) := by
  have HB := Lib.hid (belowOne w (.cells #[.int .i64 o.kind, .int .i64 o.who, .int .i64 o.inn, .int .i64 o.code, .int .i64 o.sec, .int .i64 o.fam, .int .i64 o.gen] 25))
  rcases ho : opB o
  · have HP := Lib.hid (show placesP o = [] by unfold placesP; rw [ho]; rfl)
    go_enter Tryz.func78, Tryz.ntmps78
    go_wp2_with fail
    refine (actionOf_no _ _ ho).mono ?_
    rintro e w1 ⟨rfl, hb⟩
    replace HB := Lib.hid (belowNext HB.out hb)
    clear hb
    go_wp2
    rw [HP.out]
    go_ret
    exact ⟨_, rfl, World.ownsRow_nil _ _ _ _, HB.out⟩
  · have HP := Lib.hid (show placesP o = upto o 4 by unfold placesP; rw [ho]; rfl)
    have HO := Lib.hid ho
    go_enter Tryz.func78, Tryz.ntmps78
    go_wp2_with fail
    refine (actionOf_yes _ _ ho).mono ?_
    rintro e w1 ⟨rfl, hb⟩
    replace HB := Lib.hid (belowNext HB.out hb)
    clear hb ho
    go_wp2
    go_loopw [5, 6] (fun a i wr => ∃ k : Nat, 1 ≤ k ∧ k ≤ 4 ∧ i = .int .i64 k ∧ OwnInts wr w.heap.size a (upto o k) ∧ Below w.heap.size w wr) (fun _ i _ => 4 - (intOf i).toNat)
    case atStart => exact ⟨1, by omega, by omega, rfl, by rw [upto_one]; exact World.ownsRow_nil _ _ _ _, HB.out⟩
    case round =>
      obtain ⟨k, k1, k4, rfl, hown, hb⟩ := hrel
      have HN := Lib.hid hown
      have HBr := Lib.hid hb
      clear hown hb HB
      obtain ⟨Aa, ca, haf, -, -⟩ := HN.out.ints.form
      subst haf
      by_cases hlt : k ≤ 3
      · go_wp2_with fail
        refine (planAt0_any _ o HO.out (k : Int) (by omega)).mono ?_
        rintro e w2 ⟨q, A1, n1, c1, A2, n2, c2, rfl, hb⟩
        have hz2 : w.heap.size ≤ w2.heap.size := (belowNext HBr.out hb).size
        replace HN := Lib.hid ((HN.out.below hb).below (belowOne w2 (.cells #[.bool q, .slice A1 n1 c1, .slice A2 n2 c2] 41)))
        replace HBr := Lib.hid (belowNext (belowNext HBr.out hb) (belowOne w2 (.cells #[.bool q, .slice A1 n1 c1, .slice A2 n2 c2] 41)))
        clear hb
        rcases hh : hereB o.kind (k : Int)
        · have HU := Lib.hid (upto_no k1 hlt hh)
          go_wp2
          go_roundw
          case rel => exact ⟨k + 1, by omega, by omega, by go_num, by rw [HU.out]; exact HN.out, HBr.out⟩
          case measure => simp [intOf]; omega
        · have HU := Lib.hid (upto_yes k1 hlt hh)
          have hl := upto_len o k
          have HA := Lib.hid (HN.out.below (belowOne _ (.cells #[.int .i64 (k : Int)] 3)))
          have HC := Lib.hid (belowNext HBr.out (belowOne _ (.cells #[.int .i64 (k : Int)] 3)))
          clear HN HBr
          go_wp2_with (at_builtin; refine wpl_append_ints rfl _ _ rfl w.heap.size _ (upto o k) rfl HA.out _ _ _ [(k : Int)] rfl (Ints.one1 w2 (.cells #[.bool q, .slice A1 n1 c1, .slice A2 n2 c2] 41) (k : Int)) (by simp only [List.length_cons, List.length_nil]; omega) (by first | omega | (simp; omega)) ?_; intro u w4 hown4 hg4; have HO4 := Lib.hid hown4; have HG4 := Lib.hid hg4; clear hown4 hg4)
          have HD := Lib.hid (HC.out.grown HG4.out HC.out.size (fun b hb => (HA.out.lt b hb).1))
          clear HA HC HG4
          go_wp2
          go_roundw
          case rel => exact ⟨k + 1, by omega, by omega, by go_num, by rw [HU.out]; exact HO4.out, HD.out⟩
          case measure => simp [intOf]; omega
      · have hk4 : k = 4 := by omega
        subst hk4
        go_wp2
        rw [HP.out]
        go_ret
        exact ⟨_, rfl, HN.out, HBr.out⟩

end Go.Proofs.YtecdibpiojgppaaGreat

/- planAt, all kinds and places. By actgen.py. -/
namespace Go.Proofs.YtecdibpiojgppaaGreat
open Go.RowKit

set_option maxRecDepth 100000 in
set_option maxHeartbeats 1000000 in
theorem planAt52 (w : World) (o : Op) (v : Value) (its : List Item) (hv : Items w w.heap.size v its) (hs : stoB its = true) (hf : formB 2 its = true ∨ 2 ≠ 2) (ho : opB o = true) (tx : Int) (_h0 : 0 ≤ tx) (_h9 : tx ≤ 29) :
    Calls Tryz.prog 48 #[.int .i64 2, .agg #[v], .int .i64 tx, .iface 129 (opV o)] w (Planned (mayP5 its o) true w) := by
  obtain ⟨A, c, rfl, hc2, hc1⟩ := hv.form
  clear hc1 hc2
  have HV := Lib.hid hv
  have HB := Lib.hid (belowTwo w (.cells #[.slice A its.length c] 35) (.cells #[.bool false, .slice none 0 0, .slice none 0 0] 41))
  have HR := Lib.hid (Held.new1 w (.cells #[.slice A its.length c] 35) #[.bool false, .slice none 0 0, .slice none 0 0] 41)
  have hm := meth52 ((w.alloc (.cells #[.slice A its.length c] 35)).alloc (.cells #[.bool false, .slice none 0 0, .slice none 0 0] 41)) o
  have hsz : ((w.alloc (.cells #[.slice A its.length c] 35)).alloc (.cells #[.bool false, .slice none 0 0, .slice none 0 0] 41)).heap.size = w.heap.size + 2 := by rw [alloc_size, alloc_size]
  have HZ := Lib.hid hsz
  clear hv hsz
  go_enter Tryz.func48, Tryz.ntmps48
  go_wp2_with fail
  refine (outMay_any _ o _ its ((HV.out.below HB.out).more HB.out.size) hs ho (hf.resolve_right (by decide))).mono ?_
  rintro e w1 ⟨x, y, rfl, hown, hb⟩
  have hlt : w.heap.size + 1 < ((w.alloc (.cells #[.slice A its.length c] 35)).alloc (.cells #[.bool false, .slice none 0 0, .slice none 0 0] 41)).heap.size := HR.out.1
  replace HR := Lib.hid (HR.out.below hb hlt)
  have HO := Lib.hid (planOver (w0 := w) hown hlt (by rw [HZ.out]; omega))
  replace HB := Lib.hid (belowNext HB.out hb)
  have hform := Lib.hid (plan_own.1 hown)
  clear hb hown hlt HV
  obtain ⟨x1, y1, S1, S2, hcs, hx, hy, -⟩ := hform.out
  obtain ⟨rfl, rfl⟩ : x = x1 ∧ y = y1 := by simpa using hcs
  obtain ⟨xa, xc, hxf, -, -⟩ := hx.row.form
  obtain ⟨ya, yc, hyf, -, -⟩ := hy.row.form
  subst hxf hyf
  clear hx hy hcs hform
  have p0 := HR.out.of 0 _ rfl
  have p1 := HR.out.of 1 _ rfl
  have p2 := HR.out.of 2 _ rfl
  have fr := HR.out.2.1
  go_wp2
  clear p0 p1 p2 fr
  have HQ := HR.out.put3 (.bool (mayP5 its o).ok) (.slice xa (mayP5 its o).locks.length xc) (.slice ya (mayP5 its o).writes.length yc)
  have q0 := HQ.of 0 _ rfl
  have q1 := HQ.of 1 _ rfl
  have q2 := HQ.of 2 _ rfl
  refine bodyPost_ret (v := .tuple #[.agg #[.bool (mayP5 its o).ok, .slice xa (mayP5 its o).locks.length xc, .slice ya (mayP5 its o).writes.length yc], .bool true]) (by simp only [results, Tryz.results48, go_sem]; simp [go_sem, q0, q1, q2]) rfl ⟨_, _, rfl, HO.out _ _ _, belowPut3 HB.out (w.heap.size + 1) (by omega) _ _ _⟩

/-- What a place plans, in plain words. -/
def planP (its : List Item) (p tx : Int) (o : Op) : Plan :=
  if p = 3 then doneP its tx o
  else if p = 1 then (if o.kind = 1 then inP1 its o else if o.kind = 2 then inP2 its o else if o.kind = 5 then inP5 its o else ⟨false, [], []⟩)
  else (if o.kind = 2 then mayP2 its o else if o.kind = 3 then mayP3 its o else if o.kind = 4 then mayP4 its o else if o.kind = 5 then mayP5 its o else ⟨false, [], []⟩)
theorem planAt_any (w : World) (o : Op) (v : Value) (its : List Item) (hv : Items w w.heap.size v its) (ho : opB o = true) (p : Int) (hp : p = 1 ∨ p = 2 ∨ p = 3) (hs : stoB its = true) (hf : formB p its = true) (tx : Int) (h0 : 0 ≤ tx) (h9 : tx ≤ 29) :
    Calls Tryz.prog 48 #[.int .i64 p, .agg #[v], .int .i64 tx, .iface (actT o.kind) (opV o)] w (Planned (planP its p tx o) (hereB o.kind p) w) := by
  have hk := opK_kind ho
  rcases hk with hk | hk | hk | hk | hk <;> rcases hp with rfl | rfl | rfl
  · have h1 : planP its 1 tx o = inP1 its o := by simp [planP, hk]
    have h2 : hereB o.kind 1 = true := by rw [hk]; decide
    have h3 : actT o.kind = 122 := by rw [hk]; rfl
    rw [h1, h2, h3]
    exact planAt11 w o _ its hv hs (.inr (by decide)) ho tx h0 h9
  · have h1 : planP its 2 tx o = ⟨false, [], []⟩ := by simp [planP, hk]
    have h2 : hereB o.kind 2 = false := by rw [hk]; decide
    have h3 : actT o.kind = 122 := by rw [hk]; rfl
    rw [h1, h2, h3]
    exact planAt12 w o _ its hv hs (.inl hf) ho tx h0 h9
  · have h1 : planP its 3 tx o = doneP its tx o := by simp [planP]
    have h2 : hereB o.kind 3 = true := by rw [hk]; decide
    have h3 : actT o.kind = 122 := by rw [hk]; rfl
    rw [h1, h2, h3]
    exact planAt13 w o _ its hv hs (.inr (by decide)) ho tx h0 h9
  · have h1 : planP its 1 tx o = inP2 its o := by simp [planP, hk]
    have h2 : hereB o.kind 1 = true := by rw [hk]; decide
    have h3 : actT o.kind = 124 := by rw [hk]; rfl
    rw [h1, h2, h3]
    exact planAt21 w o _ its hv hs (.inr (by decide)) ho tx h0 h9
  · have h1 : planP its 2 tx o = mayP2 its o := by simp [planP, hk]
    have h2 : hereB o.kind 2 = true := by rw [hk]; decide
    have h3 : actT o.kind = 124 := by rw [hk]; rfl
    rw [h1, h2, h3]
    exact planAt22 w o _ its hv hs (.inl hf) ho tx h0 h9
  · have h1 : planP its 3 tx o = doneP its tx o := by simp [planP]
    have h2 : hereB o.kind 3 = true := by rw [hk]; decide
    have h3 : actT o.kind = 124 := by rw [hk]; rfl
    rw [h1, h2, h3]
    exact planAt23 w o _ its hv hs (.inr (by decide)) ho tx h0 h9
  · have h1 : planP its 1 tx o = ⟨false, [], []⟩ := by simp [planP, hk]
    have h2 : hereB o.kind 1 = false := by rw [hk]; decide
    have h3 : actT o.kind = 127 := by rw [hk]; rfl
    rw [h1, h2, h3]
    exact planAt31 w o _ its hv hs (.inr (by decide)) ho tx h0 h9
  · have h1 : planP its 2 tx o = mayP3 its o := by simp [planP, hk]
    have h2 : hereB o.kind 2 = true := by rw [hk]; decide
    have h3 : actT o.kind = 127 := by rw [hk]; rfl
    rw [h1, h2, h3]
    exact planAt32 w o _ its hv hs (.inl hf) ho tx h0 h9
  · have h1 : planP its 3 tx o = doneP its tx o := by simp [planP]
    have h2 : hereB o.kind 3 = true := by rw [hk]; decide
    have h3 : actT o.kind = 127 := by rw [hk]; rfl
    rw [h1, h2, h3]
    exact planAt33 w o _ its hv hs (.inr (by decide)) ho tx h0 h9
  · have h1 : planP its 1 tx o = ⟨false, [], []⟩ := by simp [planP, hk]
    have h2 : hereB o.kind 1 = false := by rw [hk]; decide
    have h3 : actT o.kind = 128 := by rw [hk]; rfl
    rw [h1, h2, h3]
    exact planAt41 w o _ its hv hs (.inr (by decide)) ho tx h0 h9
  · have h1 : planP its 2 tx o = mayP4 its o := by simp [planP, hk]
    have h2 : hereB o.kind 2 = true := by rw [hk]; decide
    have h3 : actT o.kind = 128 := by rw [hk]; rfl
    rw [h1, h2, h3]
    exact planAt42 w o _ its hv hs (.inl hf) ho tx h0 h9
  · have h1 : planP its 3 tx o = doneP its tx o := by simp [planP]
    have h2 : hereB o.kind 3 = true := by rw [hk]; decide
    have h3 : actT o.kind = 128 := by rw [hk]; rfl
    rw [h1, h2, h3]
    exact planAt43 w o _ its hv hs (.inr (by decide)) ho tx h0 h9
  · have h1 : planP its 1 tx o = inP5 its o := by simp [planP, hk]
    have h2 : hereB o.kind 1 = true := by rw [hk]; decide
    have h3 : actT o.kind = 129 := by rw [hk]; rfl
    rw [h1, h2, h3]
    exact planAt51 w o _ its hv hs (.inr (by decide)) ho tx h0 h9
  · have h1 : planP its 2 tx o = mayP5 its o := by simp [planP, hk]
    have h2 : hereB o.kind 2 = true := by rw [hk]; decide
    have h3 : actT o.kind = 129 := by rw [hk]; rfl
    rw [h1, h2, h3]
    exact planAt52 w o _ its hv hs (.inl hf) ho tx h0 h9
  · have h1 : planP its 3 tx o = doneP its tx o := by simp [planP]
    have h2 : hereB o.kind 3 = true := by rw [hk]; decide
    have h3 : actT o.kind = 129 := by rw [hk]; rfl
    rw [h1, h2, h3]
    exact planAt53 w o _ its hv hs (.inr (by decide)) ho tx h0 h9

end Go.Proofs.YtecdibpiojgppaaGreat

/- The program's PlcPlan. -/
namespace Go.Proofs.YtecdibpiojgppaaGreat
open Go.RowKit

theorem txIn_any (n : Int) (w : World) : Calls Tryz.prog 36 #[.int .i64 n] w fun e w' => e = .returned (.bool (inB n 0 29)) ∧ w = w' := by
  by_cases h1 : 0 ≤ n
  · by_cases h2 : n ≤ 29
    · go_enter Tryz.func36, Tryz.ntmps36
      go_wp2
      go_ret
      exact ⟨ret_bool (by rw [inB_yes h1 h2]), rfl⟩
    · have h3 : 29 < n := by omega
      go_enter Tryz.func36, Tryz.ntmps36
      go_wp2
      go_ret
      exact ⟨ret_bool (by rw [inB_no (.inr h3)]), rfl⟩
  · have h3 : n < 0 := by omega
    go_enter Tryz.func36, Tryz.ntmps36
    go_wp2
    go_ret
    exact ⟨ret_bool (by rw [inB_no (.inl h3)]), rfl⟩

/-- What PlcPlan answers. -/
def plcP (its : List Item) (p tx : Int) (o : Op) : Plan := if (opB o && (plcB p its && inB tx 0 29)) = true then planP its p tx o else ⟨false, [], []⟩
/-- A plan of its own, as a record. -/
def PlannedAg (pl : Plan) (w : World) (e : Ending) (w' : World) : Prop :=
  ∃ u v, e = .returned (.agg #[.bool pl.ok, u, v]) ∧ planSh.own w' (fun b => w.heap.size ≤ b ∧ b < w'.heap.size) [.bool pl.ok, u, v] pl ∧ Below w.heap.size w w'
theorem planNil (w : World) (S : Nat → Prop) : planSh.own w S [.bool false, .slice none 0 0, .slice none 0 0] ⟨false, [], []⟩ :=
  plan_own.2 ⟨_, _, fun _ => False, fun _ => False, rfl, Sh.Own.nil _ _, Sh.Own.nil _ _, fun _ h => h.elim, fun _ h => h.elim, fun _ h _ => h⟩

set_option maxRecDepth 100000 in
set_option maxHeartbeats 2000000 in
theorem implPlcPlan_any (w : World) (p : Int) (v : Value) (its : List Item) (hv : Items w w.heap.size v its) (tx : Int) (o : Op) :
    Calls Tryz.prog 13 #[.int .i64 p, .agg #[v], .int .i64 tx, opV o] w (PlannedAg (plcP its p tx o) w) := by
  obtain ⟨A, c, rfl, hc2, hc1⟩ := hv.form
  have HV := Lib.hid hv
  have HB := Lib.hid (belowThree w (.cells #[.slice A its.length c] 35) (.cells #[.int .i64 o.kind, .int .i64 o.who, .int .i64 o.inn, .int .i64 o.code, .int .i64 o.sec, .int .i64 o.fam, .int .i64 o.gen] 25) (.cells #[.bool false, .slice none 0 0, .slice none 0 0] 41))
  have HR := Lib.hid (Held.new2 w (.cells #[.slice A its.length c] 35) (.cells #[.int .i64 o.kind, .int .i64 o.who, .int .i64 o.inn, .int .i64 o.code, .int .i64 o.sec, .int .i64 o.fam, .int .i64 o.gen] 25) #[.bool false, .slice none 0 0, .slice none 0 0] 41)
  have HX := Lib.hid (((Held.new w #[.slice A its.length c] 35).after (.cells #[.int .i64 o.kind, .int .i64 o.who, .int .i64 o.inn, .int .i64 o.code, .int .i64 o.sec, .int .i64 o.fam, .int .i64 o.gen] 25)).after (.cells #[.bool false, .slice none 0 0, .slice none 0 0] 41))
  clear hv hc1 hc2
  go_enter Tryz.func13, Tryz.ntmps13
  cases ho : opB o with
  | false =>
    have HE : Hid (plcP its p tx o = ⟨false, [], []⟩) := Lib.hid (by unfold plcP; rw [ho]; rfl)
    go_wp2_with fail
    refine (actionOf_no _ o ho).mono ?_
    rintro e w1 ⟨rfl, hb⟩
    replace HB := Lib.hid (belowNext HB.out hb)
    replace HR := Lib.hid (HR.out.below hb HR.out.1)
    clear hb HX
    have p0 := HR.out.of 0 _ rfl
    have p1 := HR.out.of 1 _ rfl
    have p2 := HR.out.of 2 _ rfl
    have fr := HR.out.2.1
    go_wp2
    have HQ := HR.out.put3 (.bool false) (.slice none 0 0) (.slice none 0 0)
    have q0 := HQ.of 0 _ rfl
    have q1 := HQ.of 1 _ rfl
    have q2 := HQ.of 2 _ rfl
    rw [HE.out]
    refine bodyPost_ret (v := .agg #[.bool false, .slice none 0 0, .slice none 0 0]) (by simp only [results, Tryz.results13, go_sem]; simp [go_sem, q0, q1, q2]) rfl ⟨_, _, rfl, planNil _ _, belowPut3 HB.out (w.heap.size + 1 + 1) (by omega) _ _ _⟩
  | true =>
    go_wp2_with fail
    refine (actionOf_yes _ o ho).mono ?_
    rintro e w1 ⟨rfl, hb⟩
    replace HB := Lib.hid (belowNext HB.out hb)
    replace HR := Lib.hid (HR.out.below hb HR.out.1)
    replace HX := Lib.hid (HX.out.below hb HX.out.1)
    clear hb
    have x0 := HX.out.of 0 _ rfl
    go_wp2_with fail
    refine (implPlcOk_any _ p _ its ((HV.out.below HB.out).more HB.out.size)).mono ?_
    rintro e w2 ⟨rfl, hb⟩
    replace HB := Lib.hid (belowNext HB.out hb)
    replace HR := Lib.hid (HR.out.below hb HR.out.1)
    replace HX := Lib.hid (HX.out.below hb HX.out.1)
    clear hb x0
    cases hp : plcB p its with
    | false =>
      have HE : Hid (plcP its p tx o = ⟨false, [], []⟩) := Lib.hid (by unfold plcP; rw [ho, hp]; rfl)
      clear hp HX
      have p0 := HR.out.of 0 _ rfl
      have p1 := HR.out.of 1 _ rfl
      have p2 := HR.out.of 2 _ rfl
      have fr := HR.out.2.1
      go_wp2
      have HQ := HR.out.put3 (.bool false) (.slice none 0 0) (.slice none 0 0)
      have q0 := HQ.of 0 _ rfl
      have q1 := HQ.of 1 _ rfl
      have q2 := HQ.of 2 _ rfl
      rw [HE.out]
      refine bodyPost_ret (v := .agg #[.bool false, .slice none 0 0, .slice none 0 0]) (by simp only [results, Tryz.results13, go_sem]; simp [go_sem, q0, q1, q2]) rfl ⟨_, _, rfl, planNil _ _, belowPut3 HB.out (w.heap.size + 1 + 1) (by omega) _ _ _⟩
    | true =>
      go_wp2_with fail
      refine (txIn_any _ _).mono ?_
      rintro e w' ⟨rfl, rfl⟩
      cases ht : inB tx 0 29 with
      | false =>
        have HE : Hid (plcP its p tx o = ⟨false, [], []⟩) := Lib.hid (by unfold plcP; rw [ho, hp, ht]; rfl)
        clear hp HX ht
        have p0 := HR.out.of 0 _ rfl
        have p1 := HR.out.of 1 _ rfl
        have p2 := HR.out.of 2 _ rfl
        have fr := HR.out.2.1
        go_wp2
        have HQ := HR.out.put3 (.bool false) (.slice none 0 0) (.slice none 0 0)
        have q0 := HQ.of 0 _ rfl
        have q1 := HQ.of 1 _ rfl
        have q2 := HQ.of 2 _ rfl
        rw [HE.out]
        refine bodyPost_ret (v := .agg #[.bool false, .slice none 0 0, .slice none 0 0]) (by simp only [results, Tryz.results13, go_sem]; simp [go_sem, q0, q1, q2]) rfl ⟨_, _, rfl, planNil _ _, belowPut3 HB.out (w.heap.size + 1 + 1) (by omega) _ _ _⟩
      | true =>
        have HE : Hid (plcP its p tx o = planP its p tx o) := Lib.hid (by unfold plcP; rw [ho, hp, ht]; rfl)
        have h9 : 0 ≤ tx ∧ tx ≤ 29 := by unfold inB at ht; simpa using ht
        have hp3 : (p = 1 ∨ p = 2 ∨ p = 3) ∧ stoB its = true ∧ formB p its = true := by
          unfold plcB at hp
          simp only [Bool.and_eq_true] at hp
          exact ⟨inB3 hp.1, hp.2.1, hp.2.2⟩
        clear hp ht
        have HP := Lib.hid hp3
        clear hp3
        have x0 := HX.out.of 0 _ rfl
        have hzz : w.heap.size + 1 + 1 < w2.heap.size := HR.out.1
        obtain ⟨pl, hpl⟩ : ∃ pl, planP its p tx o = pl := ⟨_, rfl⟩
        have HPl := Lib.hid hpl
        have HEp := Lib.hid (HE.out.trans hpl)
        clear hpl HE
        go_wp2_with fail
        refine (planAt_any _ o _ its ((HV.out.below HB.out).more HB.out.size) ho p HP.out.1 HP.out.2.1 HP.out.2.2 tx h9.1 h9.2).mono ?_
        rw [HPl.out]
        rintro e w3 ⟨x, y, rfl, hown, hb⟩
        replace HB := Lib.hid (belowNext HB.out hb)
        replace HR := Lib.hid (HR.out.below hb HR.out.1)
        have hz3 := hb.size
        have HO := Lib.hid hown
        obtain ⟨x1, y1, S1, S2, hcs, hx, hy, -⟩ := plan_own.1 hown
        obtain ⟨rfl, rfl⟩ : x = x1 ∧ y = y1 := by simpa using hcs
        obtain ⟨xa, xc, hxf, -, -⟩ := hx.row.form
        obtain ⟨ya, yc, hyf, -, -⟩ := hy.row.form
        subst hxf hyf
        clear hx hy hcs hown hb HX x0 HP
        have HRa := Lib.hid (HR.out.after (.cells #[.bool pl.ok, .slice xa pl.locks.length xc, .slice ya pl.writes.length yc] 41))
        have p0 := HRa.out.of 0 _ rfl
        have p1 := HRa.out.of 1 _ rfl
        have p2 := HRa.out.of 2 _ rfl
        have fr := HRa.out.2.1
        go_wp2
        clear p0 p1 p2 fr
        have HQ := HRa.out.put3 (.bool pl.ok) (.slice xa pl.locks.length xc) (.slice ya pl.writes.length yc)
        have q0 := HQ.of 0 _ rfl
        have q1 := HQ.of 1 _ rfl
        have q2 := HQ.of 2 _ rfl
        rw [HEp.out]
        refine bodyPost_ret (v := .agg #[.bool pl.ok, .slice xa pl.locks.length xc, .slice ya pl.writes.length yc]) (by simp only [results, Tryz.results13, go_sem]; simp [go_sem, q0, q1, q2]) rfl ⟨_, _, rfl, ?_, ?_⟩
        · refine planSh.omono (planSh.okeep HO.out fun b hb hlt => (put3_far _ _ _ _ _ (by have := hb.1; omega)).trans ((belowOne _ _).block b hlt)) fun b hb => ⟨by have := hb.1; omega, by rw [put3_size, alloc_size]; have := hb.2; omega⟩
        · exact belowPut3 (HB.out.alloc HB.out.size _) (w.heap.size + 1 + 1) (by omega) _ _ _

end Go.Proofs.YtecdibpiojgppaaGreat
