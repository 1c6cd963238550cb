/- The walk of FnOpPlaces. -/
import Derived.Test.YtmkombbjjmmgjaaDrawOp
import Derived.Test.YtmkombbjjmmgjaaExOpPlaces
import Derived.Test.YtmkombbjjmmgjaaJaOk
import Derived.Test.YtmkombbjjmmgjaaJaInts
namespace Go.Proofs.Ytmkombbjjmmgjaa
open Go.RowKit

set_option maxRecDepth 100000 in
theorem drawOpPlaces_any (w : World) (v : Value) (n : Nat) (hv : Code8 w v n) :
    Calls Try.prog 30 #[v] w fun e w' => ∃ o : Op, e = .returned (opV o) ∧ Below w.heap.size w w' := by
  have HV := Lib.hid (hv.below (belowOne w (.cells #[.int .i64 0, .int .i64 0, .int .i64 0, .int .i64 0, .int .i64 0, .int .i64 0, .int .i64 0] 27)))
  have HH := Lib.hid (Held.new w #[.int .i64 0, .int .i64 0, .int .i64 0, .int .i64 0, .int .i64 0, .int .i64 0, .int .i64 0] 27)
  clear hv
  go_enter Try.func30, Try.ntmps30
  go_wp2_with fail
  refine (l20Open_any _ _ _ HV.out).mono ?_
  rintro e w1 ⟨rfl, hr, hb1⟩
  have HH1 := Lib.hid (HH.out.below hb1 HH.out.1)
  have HB1 := Lib.hid (belowNext (belowOne _ _) hb1)
  have hsz : (w.alloc (.cells #[.int .i64 0, .int .i64 0, .int .i64 0, .int .i64 0, .int .i64 0, .int .i64 0, .int .i64 0] 27)).heap.size = w.heap.size + 1 := by simp
  rw [hsz] at hr
  have HR := Lib.hid (show Rds w1 (w.heap.size + 1) 0 from ⟨0, by omega, by omega, hr⟩)
  clear hsz hr hb1 HH HV
  go_wp2_with fail
  refine (l20Op_any _ _ _ _ HR.out (by omega) (by omega)).mono ?_
  rintro e w2 ⟨o, rfl, hd⟩
  have HH2 := Lib.hid (HH1.out.drew hd (by omega))
  have HB2 := Lib.hid (HB1.out.trans (hd.below (by omega) HB1.out.size))
  clear hd HH1 HB1 HR
  have r0 := HH2.out.of 0 _ rfl
  have r1 := HH2.out.of 1 _ rfl
  have r2 := HH2.out.of 2 _ rfl
  have r3 := HH2.out.of 3 _ rfl
  have r4 := HH2.out.of 4 _ rfl
  have r5 := HH2.out.of 5 _ rfl
  have r6 := HH2.out.of 6 _ rfl
  have gr := HH2.out.2.1
  go_wp2_with fail
  clear r0 r1 r2 r3 r4 r5 r6 gr
  have HQ := HH2.out.put7 (.int .i64 o.kind) (.int .i64 o.who) (.int .i64 o.inn) (.int .i64 o.code) (.int .i64 o.sec) (.int .i64 o.fam) (.int .i64 o.gen)
  have q0 := HQ.of 0 _ rfl
  have q1 := HQ.of 1 _ rfl
  have q2 := HQ.of 2 _ rfl
  have q3 := HQ.of 3 _ rfl
  have q4 := HQ.of 4 _ rfl
  have q5 := HQ.of 5 _ rfl
  have q6 := HQ.of 6 _ rfl
  refine bodyPost_ret (v := opV o) (by simp only [results, Try.results30, go_sem]; simp [go_sem, q0, q1, q2, q3, q4, q5, q6]) rfl ⟨o, rfl, ?_⟩
  exact belowPut7 HB2.out w.heap.size (Nat.le_refl _) _ _ _ _ _ _ _

theorem places_nil {o : Op} (h : opB o = false) : placesP o = [] := by unfold placesP; rw [h]; rfl
/-- What is known of the places of something that may be done. -/
theorem places_yes {o : Op} (h : opB o = true) : 2 ≤ (placesP o).length ∧ (placesP o).length ≤ 3 ∧ nth (placesP o) ((placesP o).length - 1) = 3 ∧ (∀ k, 1 ≤ k → k < (placesP o).length → nth (placesP o) (k - 1) < nth (placesP o) k) ∧
    memB (placesP o) 1 = (o.kind == 1 || (o.kind == 2 || o.kind == 5)) := by
  have hp : placesP o = upto o 4 := by unfold placesP; rw [h]; rfl
  rw [hp]
  rcases opK_kind h with hk | hk | hk | hk | hk
  · rw [upto_1 hk, hk]
    refine ⟨by decide, by decide, by decide, fun k h1 h2 => ?_, by decide⟩
    have : k = 1 := by simp at h2; omega
    subst this; decide
  · rw [upto_2 (.inl hk), hk]
    refine ⟨by decide, by decide, by decide, fun k h1 h2 => ?_, by decide⟩
    have : k = 1 ∨ k = 2 := by simp at h2; omega
    rcases this with rfl | rfl <;> decide
  · rw [upto_3 (.inl hk), hk]
    refine ⟨by decide, by decide, by decide, fun k h1 h2 => ?_, by decide⟩
    have : k = 1 := by simp at h2; omega
    subst this; decide
  · rw [upto_3 (.inr hk), hk]
    refine ⟨by decide, by decide, by decide, fun k h1 h2 => ?_, by decide⟩
    have : k = 1 := by simp at h2; omega
    subst this; decide
  · rw [upto_2 (.inr hk), hk]
    refine ⟨by decide, by decide, by decide, fun k h1 h2 => ?_, by decide⟩
    have : k = 1 ∨ k = 2 := by simp at h2; omega
    rcases this with rfl | rfl <;> decide

set_option maxRecDepth 100000 in
set_option maxHeartbeats 2000000 in
theorem lawOpPlaces_any (w : World) (v : Value) (n : Nat) (hv : Code8 w v n) :
    Calls Try.prog 9 #[v] w fun e w' => e = .returned (.bool true) ∧ Below w.heap.size w w' := by
  have HV := Lib.hid hv
  obtain ⟨A, c, f, rfl, h1, h2, -, -⟩ := hv
  unfold maxLen at h2
  by_cases hn : 1048576 < n
  · clear HV
    go_enter Try.func9, Try.ntmps9
    go_wp2
    go_ret
    exact ⟨rfl, Below.refl _ _⟩
  have hn' : n ≤ 1048576 := by omega
  clear hn
  go_enter Try.func9, Try.ntmps9
  go_wp2_with fail
  refine (drawOpPlaces_any _ _ _ HV.out).mono ?_
  rintro e w1 ⟨o, rfl, hb⟩
  have HX := Lib.hid (Held.new w1 #[.int .i64 o.kind, .int .i64 o.who, .int .i64 o.inn, .int .i64 o.code, .int .i64 o.sec, .int .i64 o.fam, .int .i64 o.gen] 27)
  have HB := Lib.hid (belowNext hb (belowOne w1 (.cells #[.int .i64 o.kind, .int .i64 o.who, .int .i64 o.inn, .int .i64 o.code, .int .i64 o.sec, .int .i64 o.fam, .int .i64 o.gen] 27)))
  clear hb HV
  have hlen := placesP_len o
  have HA := Lib.hid (places_yes (o := o))
  have HN := Lib.hid (places_nil (o := o))
  obtain ⟨X, hX⟩ : ∃ X, placesP o = X := ⟨_, rfl⟩
  rw [hX] at hlen HA HN
  have HE := Lib.hid hX
  clear hX
  go_wp2_with fail
  refine (implOpPlaces_any _ _).mono ?_
  rintro e w2 ⟨u1, rfl, ho, hb⟩
  rw [HE.out] at ho
  have HO := Lib.hid ho.ints
  replace HX := Lib.hid (HX.out.below hb HX.out.1)
  replace HB := Lib.hid (belowNext HB.out hb)
  clear hb ho
  obtain ⟨x0, x1, x2, x3, x4, x5, x6⟩ := HX.out.seven
  go_wp2_with fail
  refine (specOpPlaces_any _ _).mono ?_
  rintro e w3 ⟨u0, rfl, hu, hb⟩
  rw [HE.out] at hu
  have HU := Lib.hid hu
  replace HO := Lib.hid ((HO.out.below hb).more hb.size)
  replace HX := Lib.hid (HX.out.below hb HX.out.1)
  replace HB := Lib.hid (belowNext HB.out hb)
  clear hb hu x0 x1 x2 x3 x4 x5 x6
  go_wp2_with fail
  refine (jaInts_any _ _ _ _ _ _ HO.out HU.out).mono ?_
  rintro e w' ⟨rfl, m3, rfl⟩
  rw [show decide (X = X) = true by simp]
  replace HX := Lib.hid (show Held (w3.drewN m3) w1.heap.size _ from HX.out)
  replace HB := Lib.hid (belowDraws HB.out m3)
  replace HO := Lib.hid (show Ints (w3.drewN m3) w3.heap.size u1 X from HO.out)
  have hz3 : w3.heap.size ≤ (w3.drewN m3).heap.size := Nat.le_refl _
  replace HO := Lib.hid (HO.out.more hz3)
  clear HU hz3
  generalize w3.drewN m3 = w4 at *
  obtain ⟨x0, x1, x2, x3, x4, x5, x6⟩ := HX.out.seven
  go_wp2_with fail
  refine (specOpOk_any _ _).mono ?_
  rintro e w5 ⟨rfl, hb⟩
  replace HX := Lib.hid (HX.out.below hb HX.out.1)
  replace HB := Lib.hid (belowNext HB.out hb)
  replace HO := Lib.hid ((HO.out.below hb).more hb.size)
  clear hb x0 x1 x2 x3 x4 x5 x6
  obtain ⟨A1, c1, hu1, hd2, hd1⟩ := HO.out.form
  subst hu1
  unfold maxLen at hd2
  rcases hok : opB o
  · have hl0 : X = [] := HN.out hok
    have hl1 : ((X.length : Int) == 0) = true := by rw [hl0]; rfl
    clear hl0
    go_wp2_with (go_at_call 28; refine (jaOk_any _).mono ?_; rintro e w6 ⟨rfl, hb6⟩; have HB6 := Lib.hid (belowNext HB.out hb6); clear hb6)
    go_ret
    exact ⟨rfl, HB6.out⟩
  obtain ⟨l2, l3, hlast, hrise, hmem⟩ := HA.out hok
  have HR := Lib.hid hrise
  have HLa := Lib.hid hlast
  have HM := Lib.hid hmem
  clear hrise hlast hmem HA HN
  obtain ⟨A2, c2, hu2, hd3, hd4, hrow⟩ := HO.out
  injection hu2 with hu2a hu2b hu2c
  subst hu2a
  clear hu2b hu2c
  obtain ⟨b, off, rfl, hbb, hcell⟩ := hrow (by omega)
  have HC := Lib.hid hcell
  clear hcell hrow hd3 hd4
  go_wp2
  go_loopw [5] (fun i wr => ∃ k m : Nat, 1 ≤ k ∧ k ≤ X.length ∧ i = .int .i64 k ∧ wr = w5.drewN m) (fun i _ => X.length - (intOf i).toNat)
  case atStart => exact ⟨1, 0, by omega, by omega, rfl, rfl⟩
  case round =>
    obtain ⟨k, m, hk1, hk2, rfl, rfl⟩ := hrel
    by_cases hlt : k < X.length
    · obtain ⟨j, rfl⟩ : ∃ j, k = j + 1 := ⟨k - 1, by omega⟩
      have hr := HR.out (j + 1) (by omega) hlt
      rw [Nat.add_sub_cancel] at hr
      have cc0 := HC.out j (by omega)
      have cc1 := HC.out (j + 1) hlt
      have hjl : j < X.length := by omega
      have hji : (j : Int) < (X.length : Int) := by omega
      have hj1 : (((j + 1 : Nat) : Int) - 1) = (j : Int) := by omega
      have hj2 : ((j : Int) + 1 - 1) = (j : Int) := by omega
      go_wp2
      go_quiet (fail)
      go_wp2
      go_roundw
      case rel => exact ⟨j + 1 + 1, _, by omega, by omega, by go_num, rfl⟩
      case measure => simp [intOf]; omega
    · have hk : k = X.length := by omega
      subst hk
      obtain ⟨q, hq⟩ : ∃ q, X.length = q + 1 := ⟨X.length - 1, by omega⟩
      have cq := HC.out q (by omega)
      have hq3 : nth X q = 3 := by have h := HLa.out; rwa [hq, Nat.add_sub_cancel] at h
      rw [hq3] at cq
      have hqi : (q : Int) < (X.length : Int) := by omega
      have hql : ((X.length : Int) - 1) = (q : Int) := by omega
      have hqn : q < X.length := by omega
      have hq0 : (0 : Int) ≤ (q : Int) := by omega
      have hwa : IntKind.i64.wrap ((X.length : Int) - 1) = (q : Int) := by rw [hql]; exact IntWalk.i64_in _ (by omega)
      have hwb : IntKind.i64.wrap (q : Int) = (q : Int) := IntWalk.i64_in _ (by omega)
      have h2i : (2 : Int) ≤ (X.length : Int) := by omega
      have HQ := Lib.hid hq
      clear hq hq3 hk1 hk2 hlt
      have HO6 := Lib.hid (HO.out.drewN m)
      have HB6 := Lib.hid (belowDraws HB.out m)
      have k0 : (w5.drewN m).cell? ⟨w1.heap.size, 0, none⟩ = some (.int .i64 o.kind) := HX.out.of 0 _ rfl
      have cq : (w5.drewN m).cell? ⟨b, off + q, none⟩ = some (.int .i64 3) := cq
      have hbb : b < (w5.drewN m).heap.size := hbb
      clear HO HB HX HC
      generalize w5.drewN m = w6 at *
      rcases e1 : (o.kind == 1)
      rotate_left
      · have hm : memB X 1 = true := by rw [HM.out, e1]; rfl
        go_wp2
        go_quiet ((go_at_call 32; exact quietOf (jaIn_any _ _ _ X 1 (HO6.out.drewN _))))
        go_wp2
        go_ret
        exact ⟨rfl, belowDraws HB6.out _⟩
      rcases e2 : (o.kind == 2)
      rotate_left
      · have hm : memB X 1 = true := by rw [HM.out, e1, e2]; rfl
        go_wp2
        go_quiet ((go_at_call 32; exact quietOf (jaIn_any _ _ _ X 1 (HO6.out.drewN _))))
        go_wp2
        go_ret
        exact ⟨rfl, belowDraws HB6.out _⟩
      rcases e5 : (o.kind == 5)
      · have hm : memB X 1 = false := by rw [HM.out, e1, e2, e5]; rfl
        go_wp2
        go_quiet ((go_at_call 32; exact quietOf (jaIn_any _ _ _ X 1 (HO6.out.drewN _))))
        go_wp2
        go_ret
        exact ⟨rfl, belowDraws HB6.out _⟩
      · have hm : memB X 1 = true := by rw [HM.out, e1, e2, e5]; rfl
        go_wp2
        go_quiet ((go_at_call 32; exact quietOf (jaIn_any _ _ _ X 1 (HO6.out.drewN _))))
        go_wp2
        go_ret
        exact ⟨rfl, belowDraws HB6.out _⟩

end Go.Proofs.Ytmkombbjjmmgjaa
