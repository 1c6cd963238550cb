/- What the model's StoOk answers. -/
import Derived.Test.YtecdibpiojgppaaXStoOk
namespace Go.Proofs.Ytecdibpiojgppaa
open Go.RowKit

theorem quietOf {P : Program} {f : FuncId} {args : Array Value} {w : World} {n : Nat} {v : Value}
    (h : Calls P f args (w.drewN n) fun e w' => e = .returned v ∧ w.drewN n = w') : Calls P f args (w.drewN n) fun e w'' => e = .returned v ∧ ∃ m, w'' = w.drewN m :=
  h.mono fun _ _ ⟨he, hm⟩ => ⟨he, n, hm.symm⟩

set_option maxRecDepth 100000 in
set_option maxHeartbeats 1000000 in
theorem specStoOk_any (w : World) (v : Value) (its : List Item) (hv : Items w w.heap.size v its) :
    Calls Try.prog 128 #[.agg #[v]] w fun e w' => e = .returned (.bool (stoB its)) ∧ Below w.heap.size w w' := by
  obtain ⟨A, c, rfl, hc2, hc1⟩ := hv.form
  unfold maxLen at hc2
  by_cases hlen : 40 < its.length
  · have HK := Lib.hid (stoB_long hlen)
    clear hv
    go_enter Try.func128, Try.ntmps128
    go_wp2
    go_ret
    exact ⟨ret_bool HK.out.symm, belowOne _ _⟩
  · have h40 : its.length ≤ 40 := by omega
    have HV := Lib.hid (hv.alloc (Nat.le_refl _) (.cells #[.slice A its.length c] 30))
    have HBx := Lib.hid (Held.new w #[.slice A its.length c] 30)
    have HWx := Lib.hid (belowOne w (.cells #[.slice A its.length c] 30))
    clear hv hlen
    go_enter Try.func128, Try.ntmps128
    go_wp2
    generalize w.alloc (.cells #[.slice A its.length c] 30) = w0 at *
    go_loopw [3] (fun i wr => ∃ k : Nat, k ≤ its.length ∧ i = .int .i64 k ∧ Each its k ∧ Rise its k ∧ Below w0.heap.size w0 wr) (fun i _ => its.length - (intOf i).toNat)
    case atStart => exact ⟨0, Nat.zero_le _, rfl, Each.start its, Rise.zero its, Below.refl _ _⟩
    case round =>
      obtain ⟨k, hk, rfl, he, hr, hb⟩ := hrel
      have hzw : w.heap.size < w0.heap.size := HBx.out.1
      have hzr : w0.heap.size ≤ wr.heap.size := hb.size
      have HWr := Lib.hid (HWx.out.trans (hb.mono (Nat.le_of_lt hzw)))
      have HVr := Lib.hid (HV.out.below (hb.mono (Nat.le_of_lt hzw)))
      have c0 := (HBx.out.below hb hzw).of 0 _ rfl
      have HBw := Lib.hid hb
      clear hb
      by_cases hlt : k < its.length
      · obtain ⟨b, off, c', it, u, e1, hit, hB, hs, ck, cu, hu⟩ := HVr.out.at_ (k := k) hlt
        have HVp := Lib.hid fun (j : Nat) (hj : j < its.length) => HVr.out.at_ (k := j) hj
        obtain ⟨A', c'', hu', _, _⟩ := hu.form
        subst hu'
        injection e1 with e1a e1b e1c
        subst e1a
        clear e1b e1c
        have HI := Lib.hid hit
        have HU := Lib.hid fun n => hu.drewN n
        clear hit hu HVr
        rcases hkb : keyB it.key
        · have HK := Lib.hid (stoB_bad HI.out (itemB_key hkb))
          go_wp2
          go_quiet ((go_at_call 69; exact quietOf (l1Key_any _ _ hs)))
          go_wp2
          go_ret
          exact ⟨ret_bool HK.out.symm, belowDraws HWr.out _⟩
        · rcases hvb : valB it.val
          · have HK := Lib.hid (stoB_bad HI.out (itemB_val hvb))
            go_wp2
            go_quiet ((first | (go_at_call 69; exact quietOf (l1Key_any _ _ hs)) | (go_at_call 138; exact quietOf (l1Val_any _ _ _ _ (HU.out _)))))
            go_wp2
            go_ret
            exact ⟨ret_bool HK.out.symm, belowDraws HWr.out _⟩
          · have HE := Lib.hid (he.step HI.out (itemB_yes hkb hvb))
            by_cases hk0 : k = 0
            · have HR := Lib.hid (show Rise its (k + 1) from hk0 ▸ Rise.start its)
              have hg : decide (0 < k) = false := by simp; omega
              have hg' : decide ((0 : Int) < (k : Int)) = false := by simp; omega
              clear hk0
              go_wp2
              go_quiet ((first | (go_at_call 69; exact quietOf (l1Key_any _ _ hs)) | (go_at_call 138; exact quietOf (l1Val_any _ _ _ _ (HU.out _)))))
              go_wp2
              go_roundw
              case rel => exact ⟨k + 1, by omega, by go_num, HE.out, HR.out, belowDraws HBw.out _⟩
              case measure => simp [intOf]; omega
            · obtain ⟨j, hj⟩ : ∃ j, k = j + 1 := ⟨k - 1, by omega⟩
              obtain ⟨b2, off2, c2', it2, u2, e2, hit2, hB2, hs2, ck2, cu2, hu2⟩ := HVp.out j (by omega)
              injection e2 with e2a e2b e2c
              injection e2a with e2a
              injection e2a with e2a e2d
              subst e2a e2d
              clear e2b e2c hu2 cu2
              have HI2 := Lib.hid hit2
              have HJ := Lib.hid hj
              have g1 : (0 : Int) < (k : Int) := by omega
              have g2 : 0 < k := by omega
              have f1 : (0 : Int) ≤ (j : Int) := by omega
              have f2 : (j : Int) < (its.length : Int) := by omega
              have f3 : (0 : Int) ≤ (k : Int) := by omega
              have f4 : (k : Int) < (its.length : Int) := by omega
              have f5 : IntKind.i64.wrap ((k : Int) - 1) = (j : Int) := by rw [IntWalk.i64_in _ (by omega)]; omega
              clear hit2 hj hk0
              rcases hlo : ltB it2.key it.key
              · have HK := Lib.hid (stoB_fall HI2.out (HJ.out ▸ HI.out) hlo)
                unfold ltB at hlo
                go_wp2
                go_quiet ((first | (go_at_call 69; exact quietOf (l1Key_any _ _ hs)) | (go_at_call 138; exact quietOf (l1Val_any _ _ _ _ (HU.out _)))))
                clear f5
                go_wp2
                go_ret
                exact ⟨ret_bool HK.out.symm, belowDraws HWr.out _⟩
              · have HR := Lib.hid (Rise.step (HJ.out ▸ hr) HI2.out (HJ.out ▸ HI.out) hlo)
                unfold ltB at hlo
                go_wp2
                go_quiet ((first | (go_at_call 69; exact quietOf (l1Key_any _ _ hs)) | (go_at_call 138; exact quietOf (l1Val_any _ _ _ _ (HU.out _)))))
                clear f5
                go_wp2
                go_roundw
                case rel => exact ⟨k + 1, by omega, by go_num, HE.out, by rw [HJ.out]; exact HR.out, belowDraws HBw.out _⟩
                case measure => simp [intOf]; omega
      · have HK := Lib.hid (stoB_yes h40 ((show k = its.length by omega) ▸ he) ((show k = its.length by omega) ▸ hr))
        go_wp2
        go_ret
        exact ⟨ret_bool HK.out.symm, HWr.out⟩

end Go.Proofs.Ytecdibpiojgppaa
