/- The walk of FnOpOk. -/
import Derived.Test.YtmkombbjjmmgjaaDrawOp
import Derived.Test.YtmkombbjjmmgjaaOpOk
import Derived.Test.YtmkombbjjmmgjaaJaOk
import Derived.Test.YtmkombbjjmmgjaaRegTake
namespace Go.Proofs.Ytmkombbjjmmgjaa
open Go.RowKit

set_option maxRecDepth 100000 in
theorem drawOpOk_any (w : World) (v : Value) (n : Nat) (hv : Code8 w v n) :
    Calls Try.prog 29 #[v] w fun e w' => ∃ o : Op, e = .returned (opV o) ∧ Below w.heap.size w w' := by
  have HV := Lib.hid (hv.below (belowOne w (.cells #[.int .i64 0, .int .i64 0, .int .i64 0, .int .i64 0, .int .i64 0, .int .i64 0, .int .i64 0] 27)))
  have HH := Lib.hid (Held.new w #[.int .i64 0, .int .i64 0, .int .i64 0, .int .i64 0, .int .i64 0, .int .i64 0, .int .i64 0] 27)
  clear hv
  go_enter Try.func29, Try.ntmps29
  go_wp2_with fail
  refine (l20Open_any _ _ _ HV.out).mono ?_
  rintro e w1 ⟨rfl, hr, hb1⟩
  have HH1 := Lib.hid (HH.out.below hb1 HH.out.1)
  have HB1 := Lib.hid (belowNext (belowOne _ _) hb1)
  have hsz : (w.alloc (.cells #[.int .i64 0, .int .i64 0, .int .i64 0, .int .i64 0, .int .i64 0, .int .i64 0, .int .i64 0] 27)).heap.size = w.heap.size + 1 := by simp
  rw [hsz] at hr
  have HR := Lib.hid (show Rds w1 (w.heap.size + 1) 0 from ⟨0, by omega, by omega, hr⟩)
  clear hsz hr hb1 HH HV
  go_wp2_with fail
  refine (l20Op_any _ _ _ _ HR.out (by omega) (by omega)).mono ?_
  rintro e w2 ⟨o, rfl, hd⟩
  have HH2 := Lib.hid (HH1.out.drew hd (by omega))
  have HB2 := Lib.hid (HB1.out.trans (hd.below (by omega) HB1.out.size))
  clear hd HH1 HB1 HR
  have r0 := HH2.out.of 0 _ rfl
  have r1 := HH2.out.of 1 _ rfl
  have r2 := HH2.out.of 2 _ rfl
  have r3 := HH2.out.of 3 _ rfl
  have r4 := HH2.out.of 4 _ rfl
  have r5 := HH2.out.of 5 _ rfl
  have r6 := HH2.out.of 6 _ rfl
  have gr := HH2.out.2.1
  go_wp2_with fail
  clear r0 r1 r2 r3 r4 r5 r6 gr
  have HQ := HH2.out.put7 (.int .i64 o.kind) (.int .i64 o.who) (.int .i64 o.inn) (.int .i64 o.code) (.int .i64 o.sec) (.int .i64 o.fam) (.int .i64 o.gen)
  have q0 := HQ.of 0 _ rfl
  have q1 := HQ.of 1 _ rfl
  have q2 := HQ.of 2 _ rfl
  have q3 := HQ.of 3 _ rfl
  have q4 := HQ.of 4 _ rfl
  have q5 := HQ.of 5 _ rfl
  have q6 := HQ.of 6 _ rfl
  refine bodyPost_ret (v := opV o) (by simp only [results, Try.results29, go_sem]; simp [go_sem, q0, q1, q2, q3, q4, q5, q6]) rfl ⟨o, rfl, ?_⟩
  exact belowPut7 HB2.out w.heap.size (Nat.le_refl _) _ _ _ _ _ _ _

theorem opB_gen100 (o : Op) : opB { o with gen := 100 } = false := opB_gen (inB_no (.inr (show (99 : Int) < 100 by decide)))
theorem opB_kind0 (o : Op) : opB { o with kind := 0 } = false := opB_k (by simp [opK])
theorem opB_gen1 {o : Op} (h : opB o = true) : opB { o with gen := 1 } = (o.kind == 4) := by
  have h1 : inB (1 : Int) 0 99 = true := by decide
  simp only [opB, Bool.and_eq_true] at h
  obtain ⟨a, b, c, d, e, f, g⟩ := h
  simp only [opB, a, b, c, d, e, h1, Bool.true_and]
  simp only [opK] at g ⊢
  rcases k1 : (o.kind == 1 || o.kind == 5)
  · rw [k1] at g
    rcases k2 : (o.kind == 2)
    · rw [k2] at g
      rcases k3 : (o.kind == 3)
      · rw [k3] at g
        rcases k4 : (o.kind == 4)
        · rw [k4] at g; simp at g
        · rw [k4] at g; simpa using g
      · have : (o.kind == 4) = false := by simp at k3 ⊢; omega
        simp [this]
    · have : (o.kind == 4) = false := by simp at k2 ⊢; omega
      simp [this]
  · have : (o.kind == 4) = false := by simp at k1 ⊢; omega
    simp [this]
theorem opB_noughts {o : Op} (h : opB o = true) : opB ⟨o.kind, 0, 0, 0, 0, 0, 0⟩ = true := by
  have h1 : inB (0 : Int) 0 99 = true := by decide
  have h2 : inB (0 : Int) 0 9 = true := by decide
  simp only [opB, Bool.and_eq_true] at h
  obtain ⟨a, b, c, d, e, f, g⟩ := h
  simp only [opB, h1, h2, Bool.true_and]
  simp only [opK] at g ⊢
  split at g
  · simp_all
  split at g
  · simp_all
  split at g
  · simp_all
  split at g
  · simp_all
  · simp at g

theorem Held.new1 (w : World) (x : Obj) (cs : Array Value) (t : TypeId) : Held ((w.alloc x).alloc (.cells cs t)) (w.heap.size + 1) cs.toList := by
  have h := Held.new (w.alloc x) cs t
  rwa [show (w.alloc x).heap.size = w.heap.size + 1 by simp] at h
theorem Held.new2 (w : World) (x y : Obj) (cs : Array Value) (t : TypeId) : Held (((w.alloc x).alloc y).alloc (.cells cs t)) (w.heap.size + 1 + 1) cs.toList := by
  have h := Held.new1 (w.alloc x) y cs t
  rwa [show (w.alloc x).heap.size = w.heap.size + 1 by simp] at h
/-- The four blocks that the last row of FnOpOk reads. -/
structure OpFour (w0 : World) (o : Op) (b : Nat) (c : Nat) (w : World) : Prop where
  x : Held w c [.int .i64 o.kind, .int .i64 o.who, .int .i64 o.inn, .int .i64 o.code, .int .i64 o.sec, .int .i64 o.fam, .int .i64 100]
  y : Held w (c + 1) [.int .i64 0, .int .i64 o.who, .int .i64 o.inn, .int .i64 o.code, .int .i64 o.sec, .int .i64 o.fam, .int .i64 o.gen]
  z : Held w (c + 1 + 1) [.int .i64 o.kind, .int .i64 o.who, .int .i64 o.inn, .int .i64 o.code, .int .i64 o.sec, .int .i64 o.fam, .int .i64 1]
  o : Held w b [.int .i64 o.kind, .int .i64 o.who, .int .i64 o.inn, .int .i64 o.code, .int .i64 o.sec, .int .i64 o.fam, .int .i64 o.gen]
  bel : Below w0.heap.size w0 w
theorem OpFour.below {w0 w w' : World} {o : Op} {b c : Nat} (h : OpFour w0 o b c w) (hb : Below w.heap.size w w') : OpFour w0 o b c w' :=
  ⟨h.x.below hb h.x.1, h.y.below hb h.y.1, h.z.below hb h.z.1, h.o.below hb h.o.1, belowNext h.bel hb⟩
theorem Held.seven {w' : World} {b : Nat} {a0 a1 a2 a3 a4 a5 a6 : Value} (h : Held w' b [a0, a1, a2, a3, a4, a5, a6]) : w'.cell? ⟨b, 0, none⟩ = some a0 ∧ w'.cell? ⟨b, 1, none⟩ = some a1 ∧ w'.cell? ⟨b, 2, none⟩ = some a2 ∧ w'.cell? ⟨b, 3, none⟩ = some a3 ∧ w'.cell? ⟨b, 4, none⟩ = some a4 ∧ w'.cell? ⟨b, 5, none⟩ = some a5 ∧ w'.cell? ⟨b, 6, none⟩ = some a6 :=
  ⟨h.of 0 _ rfl, h.of 1 _ rfl, h.of 2 _ rfl, h.of 3 _ rfl, h.of 4 _ rfl, h.of 5 _ rfl, h.of 6 _ rfl⟩
theorem OpFour.all {w0 w' : World} {o : Op} {b c : Nat} (h : OpFour w0 o b c w') : (w'.cell? ⟨c, 0, none⟩ = some (.int .i64 o.kind) ∧ w'.cell? ⟨c, 1, none⟩ = some (.int .i64 o.who) ∧ w'.cell? ⟨c, 2, none⟩ = some (.int .i64 o.inn) ∧ w'.cell? ⟨c, 3, none⟩ = some (.int .i64 o.code) ∧ w'.cell? ⟨c, 4, none⟩ = some (.int .i64 o.sec) ∧ w'.cell? ⟨c, 5, none⟩ = some (.int .i64 o.fam) ∧ w'.cell? ⟨c, 6, none⟩ = some (.int .i64 100)) ∧ (w'.cell? ⟨c + 1, 0, none⟩ = some (.int .i64 0) ∧ w'.cell? ⟨c + 1, 1, none⟩ = some (.int .i64 o.who) ∧ w'.cell? ⟨c + 1, 2, none⟩ = some (.int .i64 o.inn) ∧ w'.cell? ⟨c + 1, 3, none⟩ = some (.int .i64 o.code) ∧ w'.cell? ⟨c + 1, 4, none⟩ = some (.int .i64 o.sec) ∧ w'.cell? ⟨c + 1, 5, none⟩ = some (.int .i64 o.fam) ∧ w'.cell? ⟨c + 1, 6, none⟩ = some (.int .i64 o.gen)) ∧ (w'.cell? ⟨c + 1 + 1, 0, none⟩ = some (.int .i64 o.kind) ∧ w'.cell? ⟨c + 1 + 1, 1, none⟩ = some (.int .i64 o.who) ∧ w'.cell? ⟨c + 1 + 1, 2, none⟩ = some (.int .i64 o.inn) ∧ w'.cell? ⟨c + 1 + 1, 3, none⟩ = some (.int .i64 o.code) ∧ w'.cell? ⟨c + 1 + 1, 4, none⟩ = some (.int .i64 o.sec) ∧ w'.cell? ⟨c + 1 + 1, 5, none⟩ = some (.int .i64 o.fam) ∧ w'.cell? ⟨c + 1 + 1, 6, none⟩ = some (.int .i64 1)) ∧ w'.cell? ⟨b, 0, none⟩ = some (.int .i64 o.kind) :=
  ⟨h.x.seven, h.y.seven, h.z.seven, h.o.of 0 _ rfl⟩

set_option maxRecDepth 100000 in
set_option maxHeartbeats 2000000 in
theorem lawOpOk_any (w : World) (v : Value) (n : Nat) (hv : Code8 w v n) :
    Calls Try.prog 8 #[v] w fun e w' => e = .returned (.bool true) ∧ Below w.heap.size w w' := by
  have HV := Lib.hid hv
  obtain ⟨A, c, f, rfl, h1, h2, -, -⟩ := hv
  unfold maxLen at h2
  by_cases hn : 1048576 < n
  · clear HV
    go_enter Try.func8, Try.ntmps8
    go_wp2
    go_ret
    exact ⟨rfl, Below.refl _ _⟩
  have hn' : n ≤ 1048576 := by omega
  clear hn
  go_enter Try.func8, Try.ntmps8
  go_wp2_with fail
  refine (drawOpOk_any _ _ _ HV.out).mono ?_
  rintro e w1 ⟨o, rfl, hb⟩
  have HX := Lib.hid (Held.new w1 #[.int .i64 o.kind, .int .i64 o.who, .int .i64 o.inn, .int .i64 o.code, .int .i64 o.sec, .int .i64 o.fam, .int .i64 o.gen] 27)
  have HB := Lib.hid (belowNext hb (belowOne w1 (.cells #[.int .i64 o.kind, .int .i64 o.who, .int .i64 o.inn, .int .i64 o.code, .int .i64 o.sec, .int .i64 o.fam, .int .i64 o.gen] 27)))
  clear hb HV
  go_wp2_with fail
  refine (implOpOk_any _ _).mono ?_
  rintro e w2 ⟨rfl, hb⟩
  replace HX := Lib.hid (HX.out.below hb HX.out.1)
  replace HB := Lib.hid (belowNext HB.out hb)
  clear hb
  obtain ⟨x0, x1, x2, x3, x4, x5, x6⟩ := HX.out.seven
  go_wp2_with fail
  refine (specOpOk_any _ _).mono ?_
  rintro e w3 ⟨rfl, hb⟩
  replace HX := Lib.hid (HX.out.below hb HX.out.1)
  replace HB := Lib.hid (belowNext HB.out hb)
  clear hb x0 x1 x2 x3 x4 x5 x6
  rcases hok : opB o
  · go_wp2_with (go_at_call 28; refine (jaOk_any _).mono ?_; rintro e w4 ⟨rfl, hb4⟩; have HB4 := Lib.hid (belowNext HB.out hb4); clear hb4)
    go_ret
    exact ⟨rfl, HB4.out⟩
  · have F1 := Lib.hid (opB_gen100 o)
    have F2 := Lib.hid (opB_kind0 o)
    have F3 := Lib.hid (opB_gen1 hok)
    have F4 := Lib.hid (opB_noughts hok)
    obtain ⟨x0, x1, x2, x3, x4, x5, x6⟩ := HX.out.seven
    have HQ0 := Lib.hid (show OpFour w o w1.heap.size w3.heap.size (((w3.alloc (.cells #[.int .i64 o.kind, .int .i64 o.who, .int .i64 o.inn, .int .i64 o.code, .int .i64 o.sec, .int .i64 o.fam, .int .i64 100] 27)).alloc (.cells #[.int .i64 0, .int .i64 o.who, .int .i64 o.inn, .int .i64 o.code, .int .i64 o.sec, .int .i64 o.fam, .int .i64 o.gen] 27)).alloc (.cells #[.int .i64 o.kind, .int .i64 o.who, .int .i64 o.inn, .int .i64 o.code, .int .i64 o.sec, .int .i64 o.fam, .int .i64 1] 27)).drew from
      ⟨((Held.new w3 #[.int .i64 o.kind, .int .i64 o.who, .int .i64 o.inn, .int .i64 o.code, .int .i64 o.sec, .int .i64 o.fam, .int .i64 100] 27).after _).after _, (Held.new1 w3 _ #[.int .i64 0, .int .i64 o.who, .int .i64 o.inn, .int .i64 o.code, .int .i64 o.sec, .int .i64 o.fam, .int .i64 o.gen] 27).after _, Held.new2 w3 _ _ #[.int .i64 o.kind, .int .i64 o.who, .int .i64 o.inn, .int .i64 o.code, .int .i64 o.sec, .int .i64 o.fam, .int .i64 1] 27, ((HX.out.after _).after _).after _, (((HB.out.alloc HB.out.size _).alloc (by have := HB.out.size; simp; omega) _).alloc (by have := HB.out.size; simp; omega) _).drew⟩)
    have hz3 : w1.heap.size < w3.heap.size := HX.out.1
    go_upto_region 15 with fail
    clear x0 x1 x2 x3 x4 x5 x6
    have k0 := HQ0.out.all
    refine wp_region_held_drew (S := (fun w' => (w'.cell? ⟨w3.heap.size, 0, none⟩ = some (.int .i64 o.kind) ∧ w'.cell? ⟨w3.heap.size, 1, none⟩ = some (.int .i64 o.who) ∧ w'.cell? ⟨w3.heap.size, 2, none⟩ = some (.int .i64 o.inn) ∧ w'.cell? ⟨w3.heap.size, 3, none⟩ = some (.int .i64 o.code) ∧ w'.cell? ⟨w3.heap.size, 4, none⟩ = some (.int .i64 o.sec) ∧ w'.cell? ⟨w3.heap.size, 5, none⟩ = some (.int .i64 o.fam) ∧ w'.cell? ⟨w3.heap.size, 6, none⟩ = some (.int .i64 100)) ∧ (w'.cell? ⟨w3.heap.size + 1, 0, none⟩ = some (.int .i64 0) ∧ w'.cell? ⟨w3.heap.size + 1, 1, none⟩ = some (.int .i64 o.who) ∧ w'.cell? ⟨w3.heap.size + 1, 2, none⟩ = some (.int .i64 o.inn) ∧ w'.cell? ⟨w3.heap.size + 1, 3, none⟩ = some (.int .i64 o.code) ∧ w'.cell? ⟨w3.heap.size + 1, 4, none⟩ = some (.int .i64 o.sec) ∧ w'.cell? ⟨w3.heap.size + 1, 5, none⟩ = some (.int .i64 o.fam) ∧ w'.cell? ⟨w3.heap.size + 1, 6, none⟩ = some (.int .i64 o.gen)) ∧ (w'.cell? ⟨w3.heap.size + 1 + 1, 0, none⟩ = some (.int .i64 o.kind) ∧ w'.cell? ⟨w3.heap.size + 1 + 1, 1, none⟩ = some (.int .i64 o.who) ∧ w'.cell? ⟨w3.heap.size + 1 + 1, 2, none⟩ = some (.int .i64 o.inn) ∧ w'.cell? ⟨w3.heap.size + 1 + 1, 3, none⟩ = some (.int .i64 o.code) ∧ w'.cell? ⟨w3.heap.size + 1 + 1, 4, none⟩ = some (.int .i64 o.sec) ∧ w'.cell? ⟨w3.heap.size + 1 + 1, 5, none⟩ = some (.int .i64 o.fam) ∧ w'.cell? ⟨w3.heap.size + 1 + 1, 6, none⟩ = some (.int .i64 1)) ∧ w'.cell? ⟨w1.heap.size, 0, none⟩ = some (.int .i64 o.kind))) (by kernel_rfl) ?hSr (fun hHeldr => ?str)
    case hSr => (first | (dsimp only; (first | with_reducible exact k4 | with_reducible exact k3 | with_reducible exact k2 | with_reducible exact k1 | with_reducible exact k0)) | (first | with_reducible exact k4 | with_reducible exact k3 | with_reducible exact k2 | with_reducible exact k1 | with_reducible exact k0))
    refine take_first 0 28 (v := ?vr_1) rfl rfl (by kernel_rfl) (by kernel_rfl) (by kernel_rfl) (fun _ _ _ h => h) (by rfl) ?yr_1 (by assumption) ?rr_1
    case yr_1 => (intro w hSw; (try dsimp only at hSw); go_simp; (try with_reducible rfl))
    simp only [Act.put, List.setIfInBounds_toArray, List.set_cons_zero, List.set_cons_succ]
    refine wpAnyH_ready (rs := [1]) (by kernel_rfl) (by simp) ?_
    refine AllReadyH.cons (o := _) rfl (fun Kr_2 hKr_2 => ?cr_2) ?mr_2
    case mr_2 => exact AllReadyH.nil
    go_simp
    refine (implOpOk_any _ ⟨o.kind, o.who, o.inn, o.code, o.sec, o.fam, 100⟩).mono ?_; rintro e u1 ⟨rfl, hb⟩; rw [F1.out]; have HQ1 := Lib.hid (HQ0.out.below hb); clear hb; have k1 := HQ1.out.all
    go_wp2_with fail
    refine hKr_2.out _ _ ?kr_2 (fun hHeldr_2 => ?dr_2)
    case kr_2 => (first | (dsimp only; (first | with_reducible exact k4 | with_reducible exact k3 | with_reducible exact k2 | with_reducible exact k1 | with_reducible exact k0)) | (first | with_reducible exact k4 | with_reducible exact k3 | with_reducible exact k2 | with_reducible exact k1 | with_reducible exact k0))
    clear hKr_2 Kr_2
    refine take_first 2 30 (v := ?vr_3) rfl rfl (by kernel_rfl) (by kernel_rfl) (by kernel_rfl) (fun _ _ _ h => h) (by rfl) ?yr_3 (by assumption) ?rr_3
    case yr_3 => (intro w hSw; (try dsimp only at hSw); go_simp; (try with_reducible rfl))
    simp only [Act.put, List.setIfInBounds_toArray, List.set_cons_zero, List.set_cons_succ]
    refine take_first 3 31 (v := ?vr_4) rfl rfl (by kernel_rfl) (by kernel_rfl) (by kernel_rfl) (fun _ _ _ h => h) (by rfl) ?yr_4 (by assumption) ?rr_4
    case yr_4 => (intro w hSw; (try dsimp only at hSw); go_simp; (try with_reducible rfl))
    simp only [Act.put, List.setIfInBounds_toArray, List.set_cons_zero, List.set_cons_succ]
    refine take_first 4 32 (v := ?vr_5) rfl rfl (by kernel_rfl) (by kernel_rfl) (by kernel_rfl) (fun _ _ _ h => h) (by rfl) ?yr_5 (by assumption) ?rr_5
    case yr_5 => (intro w hSw; (try dsimp only at hSw); go_simp; (try with_reducible rfl))
    simp only [Act.put, List.setIfInBounds_toArray, List.set_cons_zero, List.set_cons_succ]
    refine wpAnyH_ready (rs := [5]) (by kernel_rfl) (by simp) ?_
    refine AllReadyH.cons (o := _) rfl (fun Kr_6 hKr_6 => ?cr_6) ?mr_6
    case mr_6 => exact AllReadyH.nil
    go_simp
    refine (implOpOk_any _ ⟨0, o.who, o.inn, o.code, o.sec, o.fam, o.gen⟩).mono ?_; rintro e u2 ⟨rfl, hb⟩; rw [F2.out]; have HQ2 := Lib.hid (HQ1.out.below hb); clear hb; have k2 := HQ2.out.all
    go_wp2_with fail
    refine hKr_6.out _ _ ?kr_6 (fun hHeldr_6 => ?dr_6)
    case kr_6 => (first | (dsimp only; (first | with_reducible exact k4 | with_reducible exact k3 | with_reducible exact k2 | with_reducible exact k1 | with_reducible exact k0)) | (first | with_reducible exact k4 | with_reducible exact k3 | with_reducible exact k2 | with_reducible exact k1 | with_reducible exact k0))
    clear hKr_6 Kr_6
    refine take_first 6 34 (v := ?vr_7) rfl rfl (by kernel_rfl) (by kernel_rfl) (by kernel_rfl) (fun _ _ _ h => h) (by rfl) ?yr_7 (by assumption) ?rr_7
    case yr_7 => (intro w hSw; (try dsimp only at hSw); go_simp; (try with_reducible rfl))
    simp only [Act.put, List.setIfInBounds_toArray, List.set_cons_zero, List.set_cons_succ]
    refine take_first 7 35 (v := ?vr_8) rfl rfl (by kernel_rfl) (by kernel_rfl) (by kernel_rfl) (fun _ _ _ h => h) (by rfl) ?yr_8 (by assumption) ?rr_8
    case yr_8 => (intro w hSw; (try dsimp only at hSw); go_simp; (try with_reducible rfl))
    simp only [Act.put, List.setIfInBounds_toArray, List.set_cons_zero, List.set_cons_succ]
    refine take_first 8 36 (v := ?vr_9) rfl rfl (by kernel_rfl) (by kernel_rfl) (by kernel_rfl) (fun _ _ _ h => h) (by rfl) ?yr_9 (by assumption) ?rr_9
    case yr_9 => (intro w hSw; (try dsimp only at hSw); go_simp; (try with_reducible rfl))
    simp only [Act.put, List.setIfInBounds_toArray, List.set_cons_zero, List.set_cons_succ]
    refine take_first 9 37 (v := ?vr_10) rfl rfl (by kernel_rfl) (by kernel_rfl) (by kernel_rfl) (fun _ _ _ h => h) (by rfl) ?yr_10 (by assumption) ?rr_10
    case yr_10 => (intro w hSw; (try dsimp only at hSw); go_simp; (try with_reducible rfl))
    simp only [Act.put, List.setIfInBounds_toArray, List.set_cons_zero, List.set_cons_succ]
    refine take_first 11 39 (v := ?vr_11) rfl rfl (by kernel_rfl) (by kernel_rfl) (by kernel_rfl) (fun _ _ _ h => h) (by rfl) ?yr_11 (by assumption) ?rr_11
    case yr_11 => (intro w hSw; (try dsimp only at hSw); go_simp; (try with_reducible rfl))
    simp only [Act.put, List.setIfInBounds_toArray, List.set_cons_zero, List.set_cons_succ]
    refine take_first 12 40 (v := ?vr_12) rfl rfl (by kernel_rfl) (by kernel_rfl) (by kernel_rfl) (fun _ _ _ h => h) (by rfl) ?yr_12 (by assumption) ?rr_12
    case yr_12 => (intro w hSw; (try dsimp only at hSw); go_simp; (try with_reducible rfl))
    simp only [Act.put, List.setIfInBounds_toArray, List.set_cons_zero, List.set_cons_succ]
    refine take_first 13 41 (v := ?vr_13) rfl rfl (by kernel_rfl) (by kernel_rfl) (by kernel_rfl) (fun _ _ _ h => h) (by rfl) ?yr_13 (by assumption) ?rr_13
    case yr_13 => (intro w hSw; (try dsimp only at hSw); go_simp; (try with_reducible rfl))
    simp only [Act.put, List.setIfInBounds_toArray, List.set_cons_zero, List.set_cons_succ]
    refine wpAnyH_ready (rs := [10]) (by kernel_rfl) (by simp) ?_
    refine AllReadyH.cons (o := _) rfl (fun Kr_14 hKr_14 => ?cr_14) ?mr_14
    case mr_14 => exact AllReadyH.nil
    go_simp
    refine (implOpOk_any _ ⟨o.kind, o.who, o.inn, o.code, o.sec, o.fam, 1⟩).mono ?_; rintro e u3 ⟨rfl, hb⟩; rw [F3.out]; have HQ3 := Lib.hid (HQ2.out.below hb); clear hb; have k3 := HQ3.out.all
    go_wp2_with fail
    refine hKr_14.out _ _ ?kr_14 (fun hHeldr_14 => ?dr_14)
    case kr_14 => (first | (dsimp only; (first | with_reducible exact k4 | with_reducible exact k3 | with_reducible exact k2 | with_reducible exact k1 | with_reducible exact k0)) | (first | with_reducible exact k4 | with_reducible exact k3 | with_reducible exact k2 | with_reducible exact k1 | with_reducible exact k0))
    clear hKr_14 Kr_14
    refine take_first 14 42 (v := ?vr_15) rfl rfl (by kernel_rfl) (by kernel_rfl) (by kernel_rfl) (fun _ _ _ h => h) (by rfl) ?yr_15 (by assumption) ?rr_15
    case yr_15 => (intro w hSw; (try dsimp only at hSw); go_simp; (try with_reducible rfl))
    simp only [Act.put, List.setIfInBounds_toArray, List.set_cons_zero, List.set_cons_succ]
    refine take_first 15 43 (v := ?vr_16) rfl rfl (by kernel_rfl) (by kernel_rfl) (by kernel_rfl) (fun _ _ _ h => h) (by rfl) ?yr_16 (by assumption) ?rr_16
    case yr_16 => (intro w hSw; (try dsimp only at hSw); go_simp; (try with_reducible rfl))
    simp only [Act.put, List.setIfInBounds_toArray, List.set_cons_zero, List.set_cons_succ]
    refine take_first 16 44 (v := ?vr_17) rfl rfl (by kernel_rfl) (by kernel_rfl) (by kernel_rfl) (fun _ _ _ h => h) (by rfl) ?yr_17 (by assumption) ?rr_17
    case yr_17 => (intro w hSw; (try dsimp only at hSw); go_simp; (try with_reducible rfl))
    simp only [Act.put, List.setIfInBounds_toArray, List.set_cons_zero, List.set_cons_succ]
    refine take_first 17 45 (v := ?vr_18) rfl rfl (by kernel_rfl) (by kernel_rfl) (by kernel_rfl) (fun _ _ _ h => h) (by rfl) ?yr_18 (by assumption) ?rr_18
    case yr_18 => (intro w hSw; (try dsimp only at hSw); go_simp; (try with_reducible rfl))
    simp only [Act.put, List.setIfInBounds_toArray, List.set_cons_zero, List.set_cons_succ]
    refine take_first 18 46 (v := ?vr_19) rfl rfl (by kernel_rfl) (by kernel_rfl) (by kernel_rfl) (fun _ _ _ h => h) (by rfl) ?yr_19 (by assumption) ?rr_19
    case yr_19 => (intro w hSw; (try dsimp only at hSw); go_simp; (try with_reducible rfl))
    simp only [Act.put, List.setIfInBounds_toArray, List.set_cons_zero, List.set_cons_succ]
    refine take_first 19 47 (v := ?vr_20) rfl rfl (by kernel_rfl) (by kernel_rfl) (by kernel_rfl) (fun _ _ _ h => h) (by rfl) ?yr_20 (by assumption) ?rr_20
    case yr_20 => (intro w hSw; (try dsimp only at hSw); go_simp; (try with_reducible rfl))
    simp only [Act.put, List.setIfInBounds_toArray, List.set_cons_zero, List.set_cons_succ]
    refine wpAnyH_ready (rs := [20]) (by kernel_rfl) (by simp) ?_
    refine AllReadyH.cons (o := _) rfl (fun Kr_21 hKr_21 => ?cr_21) ?mr_21
    case mr_21 => exact AllReadyH.nil
    go_simp
    refine (implOpOk_any _ ⟨o.kind, 0, 0, 0, 0, 0, 0⟩).mono ?_; rintro e u4 ⟨rfl, hb⟩; rw [F4.out]; have HQ4 := Lib.hid (HQ3.out.below hb); clear hb; have k4 := HQ4.out.all
    go_wp2_with fail
    refine hKr_21.out _ _ ?kr_21 (fun hHeldr_21 => ?dr_21)
    case kr_21 => (first | (dsimp only; (first | with_reducible exact k4 | with_reducible exact k3 | with_reducible exact k2 | with_reducible exact k1 | with_reducible exact k0)) | (first | with_reducible exact k4 | with_reducible exact k3 | with_reducible exact k2 | with_reducible exact k1 | with_reducible exact k0))
    clear hKr_21 Kr_21
    refine take_first 21 49 (v := ?vr_22) rfl rfl (by kernel_rfl) (by kernel_rfl) (by kernel_rfl) (fun _ _ _ h => h) (by rfl) ?yr_22 (by assumption) ?rr_22
    case yr_22 => (intro w hSw; (try dsimp only at hSw); go_simp; (try with_reducible rfl))
    simp only [Act.put, List.setIfInBounds_toArray, List.set_cons_zero, List.set_cons_succ]
    refine take_first 22 2 (v := ?vr_23) rfl rfl (by kernel_rfl) (by kernel_rfl) (by kernel_rfl) (fun _ _ _ h => h) (by rfl) ?yr_23 (by assumption) ?rr_23
    case yr_23 => (intro w hSw; (try dsimp only at hSw); go_simp; (try with_reducible rfl))
    simp only [Act.put, List.setIfInBounds_toArray, List.set_cons_zero, List.set_cons_succ]
    refine wpAnyH_done (by kernel_rfl) ?er _
    go_wp2
    go_ret
    exact ⟨rfl, HQ4.out.bel⟩

end Go.Proofs.Ytmkombbjjmmgjaa
