/- What MsgOk of the program answers. By msggen.py. -/
import Derived.Test.YtlmcpkijcadalaaMsgP
namespace Go.Proofs.Ytlmcpkijcadalaa
open Go.RowKit

theorem msgB_k1 {m : Msg} (h : m.kind = 1) : msgB m = (inB m.tx 0 29 && (toB m && opB m.op)) := by simp [msgB, h]
theorem msgB_k2 {m : Msg} (h : m.kind = 2) : msgB m = (inB m.tx 0 29 && (toB m && noneB m.op)) := by simp [msgB, h]
theorem msgB_k3 {m : Msg} (h : m.kind = 3) : msgB m = (inB m.tx 0 29 && (toB m && noneB m.op)) := by simp [msgB, h]
theorem msgB_k4 {m : Msg} (h : m.kind = 4) : msgB m = (inB m.tx 0 29 && (frB m && noneB m.op)) := by simp [msgB, h]
theorem msgB_k5 {m : Msg} (h : m.kind = 5) : msgB m = (inB m.tx 0 29 && (frB m && noneB m.op)) := by simp [msgB, h]
theorem msgB_k6 {m : Msg} (h : m.kind = 6) : msgB m = (inB m.tx 0 29 && (frB m && noneB m.op)) := by simp [msgB, h]
theorem msgB_k7 {m : Msg} (h : m.kind = 7) : msgB m = (inB m.tx 0 29 && (frB m && noneB m.op)) := by simp [msgB, h]
theorem msgB_k0 {m : Msg} (h : m.kind ≠ 1 ∧ m.kind ≠ 2 ∧ m.kind ≠ 3 ∧ m.kind ≠ 4 ∧ m.kind ≠ 5 ∧ m.kind ≠ 6 ∧ m.kind ≠ 7) : msgB m = false := by simp [msgB, h]

set_option maxRecDepth 100000 in
set_option maxHeartbeats 8000000 in
theorem implMsgOk_any (w : World) (m : Msg) :
    Calls Try.prog 17 #[msgV m] w fun e w' => e = .returned (.bool (msgB m)) ∧ Below w.heap.size w w' := by
  have HX := Lib.hid (Held.new w (msgC m).toArray 29)
  have HB := Lib.hid (belowOne w (.cells (msgC m).toArray 29))
  rcases f0 : (m.frm == 0)
  ·
    rcases t0 : (m.to_ == 0)
    ·
      have HTO := Lib.hid (show toB m = false by unfold toB; simp only [*] <;> rfl)
      have HFR := Lib.hid (show frB m = false by unfold frB; simp only [*] <;> rfl)
      rcases ht : inB m.tx 0 29
      ·
        go_enter Try.func17, Try.ntmps17
        go_wp2_with (first | (go_at_call 49; refine (isService_any _ _).mono ?_; rintro e w' ⟨rfl, rfl⟩) | (go_at_call 50; refine (txOk_any _ _).mono ?_; rintro e w' ⟨rfl, rfl⟩))
        all_goals
          go_ret
          exact ⟨ret_bool (by simp [msgB, ht]), belowOne _ _⟩
      by_cases k1 : m.kind = 1
      ·
        have e1 : (m.kind == 1) = true := by simp [k1]
        have HK := Lib.hid k1
        clear k1
        go_enter Try.func17, Try.ntmps17
        go_wp2_with (first | (go_at_call 49; refine (isService_any _ _).mono ?_; rintro e w' ⟨rfl, rfl⟩) | (go_at_call 50; refine (txOk_any _ _).mono ?_; rintro e w' ⟨rfl, rfl⟩))
        all_goals
          go_ret
          exact ⟨ret_bool (by rw [msgB_k1 HK.out, HTO.out, Bool.false_and, Bool.and_false]), belowOne _ _⟩
      have e1 : (m.kind == 1) = false := by simp [k1]
      by_cases k2 : m.kind = 2
      ·
        have e2 : (m.kind == 2) = true := by simp [k2]
        have HK := Lib.hid k2
        clear k1 k2
        go_enter Try.func17, Try.ntmps17
        go_wp2_with (first | (go_at_call 49; refine (isService_any _ _).mono ?_; rintro e w' ⟨rfl, rfl⟩) | (go_at_call 50; refine (txOk_any _ _).mono ?_; rintro e w' ⟨rfl, rfl⟩))
        all_goals
          go_ret
          exact ⟨ret_bool (by rw [msgB_k2 HK.out, HTO.out, Bool.false_and, Bool.and_false]), belowOne _ _⟩
      have e2 : (m.kind == 2) = false := by simp [k2]
      by_cases k3 : m.kind = 3
      ·
        have e3 : (m.kind == 3) = true := by simp [k3]
        have HK := Lib.hid k3
        clear k1 k2 k3
        go_enter Try.func17, Try.ntmps17
        go_wp2_with (first | (go_at_call 49; refine (isService_any _ _).mono ?_; rintro e w' ⟨rfl, rfl⟩) | (go_at_call 50; refine (txOk_any _ _).mono ?_; rintro e w' ⟨rfl, rfl⟩))
        all_goals
          go_ret
          exact ⟨ret_bool (by rw [msgB_k3 HK.out, HTO.out, Bool.false_and, Bool.and_false]), belowOne _ _⟩
      have e3 : (m.kind == 3) = false := by simp [k3]
      by_cases k4 : m.kind = 4
      ·
        have e4 : (m.kind == 4) = true := by simp [k4]
        have HK := Lib.hid k4
        clear k1 k2 k3 k4
        go_enter Try.func17, Try.ntmps17
        go_wp2_with (first | (go_at_call 49; refine (isService_any _ _).mono ?_; rintro e w' ⟨rfl, rfl⟩) | (go_at_call 50; refine (txOk_any _ _).mono ?_; rintro e w' ⟨rfl, rfl⟩))
        all_goals
          go_ret
          exact ⟨ret_bool (by rw [msgB_k4 HK.out, HFR.out, Bool.false_and, Bool.and_false]), belowOne _ _⟩
      have e4 : (m.kind == 4) = false := by simp [k4]
      by_cases k5 : m.kind = 5
      ·
        have e5 : (m.kind == 5) = true := by simp [k5]
        have HK := Lib.hid k5
        clear k1 k2 k3 k4 k5
        go_enter Try.func17, Try.ntmps17
        go_wp2_with (first | (go_at_call 49; refine (isService_any _ _).mono ?_; rintro e w' ⟨rfl, rfl⟩) | (go_at_call 50; refine (txOk_any _ _).mono ?_; rintro e w' ⟨rfl, rfl⟩))
        all_goals
          go_ret
          exact ⟨ret_bool (by rw [msgB_k5 HK.out, HFR.out, Bool.false_and, Bool.and_false]), belowOne _ _⟩
      have e5 : (m.kind == 5) = false := by simp [k5]
      by_cases k6 : m.kind = 6
      ·
        have e6 : (m.kind == 6) = true := by simp [k6]
        have HK := Lib.hid k6
        clear k1 k2 k3 k4 k5 k6
        go_enter Try.func17, Try.ntmps17
        go_wp2_with (first | (go_at_call 49; refine (isService_any _ _).mono ?_; rintro e w' ⟨rfl, rfl⟩) | (go_at_call 50; refine (txOk_any _ _).mono ?_; rintro e w' ⟨rfl, rfl⟩))
        all_goals
          go_ret
          exact ⟨ret_bool (by rw [msgB_k6 HK.out, HFR.out, Bool.false_and, Bool.and_false]), belowOne _ _⟩
      have e6 : (m.kind == 6) = false := by simp [k6]
      by_cases k7 : m.kind = 7
      ·
        have e7 : (m.kind == 7) = true := by simp [k7]
        have HK := Lib.hid k7
        clear k1 k2 k3 k4 k5 k6 k7
        go_enter Try.func17, Try.ntmps17
        go_wp2_with (first | (go_at_call 49; refine (isService_any _ _).mono ?_; rintro e w' ⟨rfl, rfl⟩) | (go_at_call 50; refine (txOk_any _ _).mono ?_; rintro e w' ⟨rfl, rfl⟩))
        all_goals
          go_ret
          exact ⟨ret_bool (by rw [msgB_k7 HK.out, HFR.out, Bool.false_and, Bool.and_false]), belowOne _ _⟩
      have e7 : (m.kind == 7) = false := by simp [k7]
      have HK := Lib.hid (And.intro k1 (And.intro k2 (And.intro k3 (And.intro k4 (And.intro k5 (And.intro k6 k7))))))
      clear k1 k2 k3 k4 k5 k6 k7
      go_enter Try.func17, Try.ntmps17
      go_wp2_with (first | (go_at_call 49; refine (isService_any _ _).mono ?_; rintro e w' ⟨rfl, rfl⟩) | (go_at_call 50; refine (txOk_any _ _).mono ?_; rintro e w' ⟨rfl, rfl⟩))
      all_goals
        go_ret
        exact ⟨ret_bool (by rw [msgB_k0 HK.out]), belowOne _ _⟩
    ·
      rcases f1 : inB m.frm 1 3
      ·
        have HTO := Lib.hid (show toB m = false by unfold toB; simp only [*] <;> rfl)
        have HFR := Lib.hid (show frB m = false by unfold frB; simp only [*] <;> rfl)
        rcases ht : inB m.tx 0 29
        ·
          go_enter Try.func17, Try.ntmps17
          go_wp2_with (first | (go_at_call 49; refine (isService_any _ _).mono ?_; rintro e w' ⟨rfl, rfl⟩) | (go_at_call 50; refine (txOk_any _ _).mono ?_; rintro e w' ⟨rfl, rfl⟩))
          all_goals
            go_ret
            exact ⟨ret_bool (by simp [msgB, ht]), belowOne _ _⟩
        by_cases k1 : m.kind = 1
        ·
          have e1 : (m.kind == 1) = true := by simp [k1]
          have HK := Lib.hid k1
          clear k1
          go_enter Try.func17, Try.ntmps17
          go_wp2_with (first | (go_at_call 49; refine (isService_any _ _).mono ?_; rintro e w' ⟨rfl, rfl⟩) | (go_at_call 50; refine (txOk_any _ _).mono ?_; rintro e w' ⟨rfl, rfl⟩))
          all_goals
            go_ret
            exact ⟨ret_bool (by rw [msgB_k1 HK.out, HTO.out, Bool.false_and, Bool.and_false]), belowOne _ _⟩
        have e1 : (m.kind == 1) = false := by simp [k1]
        by_cases k2 : m.kind = 2
        ·
          have e2 : (m.kind == 2) = true := by simp [k2]
          have HK := Lib.hid k2
          clear k1 k2
          go_enter Try.func17, Try.ntmps17
          go_wp2_with (first | (go_at_call 49; refine (isService_any _ _).mono ?_; rintro e w' ⟨rfl, rfl⟩) | (go_at_call 50; refine (txOk_any _ _).mono ?_; rintro e w' ⟨rfl, rfl⟩))
          all_goals
            go_ret
            exact ⟨ret_bool (by rw [msgB_k2 HK.out, HTO.out, Bool.false_and, Bool.and_false]), belowOne _ _⟩
        have e2 : (m.kind == 2) = false := by simp [k2]
        by_cases k3 : m.kind = 3
        ·
          have e3 : (m.kind == 3) = true := by simp [k3]
          have HK := Lib.hid k3
          clear k1 k2 k3
          go_enter Try.func17, Try.ntmps17
          go_wp2_with (first | (go_at_call 49; refine (isService_any _ _).mono ?_; rintro e w' ⟨rfl, rfl⟩) | (go_at_call 50; refine (txOk_any _ _).mono ?_; rintro e w' ⟨rfl, rfl⟩))
          all_goals
            go_ret
            exact ⟨ret_bool (by rw [msgB_k3 HK.out, HTO.out, Bool.false_and, Bool.and_false]), belowOne _ _⟩
        have e3 : (m.kind == 3) = false := by simp [k3]
        by_cases k4 : m.kind = 4
        ·
          have e4 : (m.kind == 4) = true := by simp [k4]
          have HK := Lib.hid k4
          clear k1 k2 k3 k4
          go_enter Try.func17, Try.ntmps17
          go_wp2_with (first | (go_at_call 49; refine (isService_any _ _).mono ?_; rintro e w' ⟨rfl, rfl⟩) | (go_at_call 50; refine (txOk_any _ _).mono ?_; rintro e w' ⟨rfl, rfl⟩))
          all_goals
            go_ret
            exact ⟨ret_bool (by rw [msgB_k4 HK.out, HFR.out, Bool.false_and, Bool.and_false]), belowOne _ _⟩
        have e4 : (m.kind == 4) = false := by simp [k4]
        by_cases k5 : m.kind = 5
        ·
          have e5 : (m.kind == 5) = true := by simp [k5]
          have HK := Lib.hid k5
          clear k1 k2 k3 k4 k5
          go_enter Try.func17, Try.ntmps17
          go_wp2_with (first | (go_at_call 49; refine (isService_any _ _).mono ?_; rintro e w' ⟨rfl, rfl⟩) | (go_at_call 50; refine (txOk_any _ _).mono ?_; rintro e w' ⟨rfl, rfl⟩))
          all_goals
            go_ret
            exact ⟨ret_bool (by rw [msgB_k5 HK.out, HFR.out, Bool.false_and, Bool.and_false]), belowOne _ _⟩
        have e5 : (m.kind == 5) = false := by simp [k5]
        by_cases k6 : m.kind = 6
        ·
          have e6 : (m.kind == 6) = true := by simp [k6]
          have HK := Lib.hid k6
          clear k1 k2 k3 k4 k5 k6
          go_enter Try.func17, Try.ntmps17
          go_wp2_with (first | (go_at_call 49; refine (isService_any _ _).mono ?_; rintro e w' ⟨rfl, rfl⟩) | (go_at_call 50; refine (txOk_any _ _).mono ?_; rintro e w' ⟨rfl, rfl⟩))
          all_goals
            go_ret
            exact ⟨ret_bool (by rw [msgB_k6 HK.out, HFR.out, Bool.false_and, Bool.and_false]), belowOne _ _⟩
        have e6 : (m.kind == 6) = false := by simp [k6]
        by_cases k7 : m.kind = 7
        ·
          have e7 : (m.kind == 7) = true := by simp [k7]
          have HK := Lib.hid k7
          clear k1 k2 k3 k4 k5 k6 k7
          go_enter Try.func17, Try.ntmps17
          go_wp2_with (first | (go_at_call 49; refine (isService_any _ _).mono ?_; rintro e w' ⟨rfl, rfl⟩) | (go_at_call 50; refine (txOk_any _ _).mono ?_; rintro e w' ⟨rfl, rfl⟩))
          all_goals
            go_ret
            exact ⟨ret_bool (by rw [msgB_k7 HK.out, HFR.out, Bool.false_and, Bool.and_false]), belowOne _ _⟩
        have e7 : (m.kind == 7) = false := by simp [k7]
        have HK := Lib.hid (And.intro k1 (And.intro k2 (And.intro k3 (And.intro k4 (And.intro k5 (And.intro k6 k7))))))
        clear k1 k2 k3 k4 k5 k6 k7
        go_enter Try.func17, Try.ntmps17
        go_wp2_with (first | (go_at_call 49; refine (isService_any _ _).mono ?_; rintro e w' ⟨rfl, rfl⟩) | (go_at_call 50; refine (txOk_any _ _).mono ?_; rintro e w' ⟨rfl, rfl⟩))
        all_goals
          go_ret
          exact ⟨ret_bool (by rw [msgB_k0 HK.out]), belowOne _ _⟩
      ·
        have HTO := Lib.hid (show toB m = false by unfold toB; simp only [*] <;> rfl)
        have HFR := Lib.hid (show frB m = true by unfold frB; simp only [*] <;> rfl)
        rcases ht : inB m.tx 0 29
        ·
          go_enter Try.func17, Try.ntmps17
          go_wp2_with (first | (go_at_call 49; refine (isService_any _ _).mono ?_; rintro e w' ⟨rfl, rfl⟩) | (go_at_call 50; refine (txOk_any _ _).mono ?_; rintro e w' ⟨rfl, rfl⟩))
          all_goals
            go_ret
            exact ⟨ret_bool (by simp [msgB, ht]), belowOne _ _⟩
        by_cases k1 : m.kind = 1
        ·
          have e1 : (m.kind == 1) = true := by simp [k1]
          have HK := Lib.hid k1
          clear k1
          go_enter Try.func17, Try.ntmps17
          go_wp2_with (first | (go_at_call 49; refine (isService_any _ _).mono ?_; rintro e w' ⟨rfl, rfl⟩) | (go_at_call 50; refine (txOk_any _ _).mono ?_; rintro e w' ⟨rfl, rfl⟩))
          all_goals
            go_ret
            exact ⟨ret_bool (by rw [msgB_k1 HK.out, HTO.out, Bool.false_and, Bool.and_false]), belowOne _ _⟩
        have e1 : (m.kind == 1) = false := by simp [k1]
        by_cases k2 : m.kind = 2
        ·
          have e2 : (m.kind == 2) = true := by simp [k2]
          have HK := Lib.hid k2
          clear k1 k2
          go_enter Try.func17, Try.ntmps17
          go_wp2_with (first | (go_at_call 49; refine (isService_any _ _).mono ?_; rintro e w' ⟨rfl, rfl⟩) | (go_at_call 50; refine (txOk_any _ _).mono ?_; rintro e w' ⟨rfl, rfl⟩))
          all_goals
            go_ret
            exact ⟨ret_bool (by rw [msgB_k2 HK.out, HTO.out, Bool.false_and, Bool.and_false]), belowOne _ _⟩
        have e2 : (m.kind == 2) = false := by simp [k2]
        by_cases k3 : m.kind = 3
        ·
          have e3 : (m.kind == 3) = true := by simp [k3]
          have HK := Lib.hid k3
          clear k1 k2 k3
          go_enter Try.func17, Try.ntmps17
          go_wp2_with (first | (go_at_call 49; refine (isService_any _ _).mono ?_; rintro e w' ⟨rfl, rfl⟩) | (go_at_call 50; refine (txOk_any _ _).mono ?_; rintro e w' ⟨rfl, rfl⟩))
          all_goals
            go_ret
            exact ⟨ret_bool (by rw [msgB_k3 HK.out, HTO.out, Bool.false_and, Bool.and_false]), belowOne _ _⟩
        have e3 : (m.kind == 3) = false := by simp [k3]
        by_cases k4 : m.kind = 4
        ·
          have e4 : (m.kind == 4) = true := by simp [k4]
          have HK := Lib.hid k4
          clear k1 k2 k3 k4
          go_enter Try.func17, Try.ntmps17
          go_wp2_with (first | (go_at_call 49; refine (isService_any _ _).mono ?_; rintro e w' ⟨rfl, rfl⟩) | (go_at_call 50; refine (txOk_any _ _).mono ?_; rintro e w' ⟨rfl, rfl⟩))
          all_goals
            go_ret
            exact ⟨ret_bool (by rw [msgB_k4 HK.out, ht, HFR.out]; simp [noneB, *]), belowOne _ _⟩
        have e4 : (m.kind == 4) = false := by simp [k4]
        by_cases k5 : m.kind = 5
        ·
          have e5 : (m.kind == 5) = true := by simp [k5]
          have HK := Lib.hid k5
          clear k1 k2 k3 k4 k5
          go_enter Try.func17, Try.ntmps17
          go_wp2_with (first | (go_at_call 49; refine (isService_any _ _).mono ?_; rintro e w' ⟨rfl, rfl⟩) | (go_at_call 50; refine (txOk_any _ _).mono ?_; rintro e w' ⟨rfl, rfl⟩))
          all_goals
            go_ret
            exact ⟨ret_bool (by rw [msgB_k5 HK.out, ht, HFR.out]; simp [noneB, *]), belowOne _ _⟩
        have e5 : (m.kind == 5) = false := by simp [k5]
        by_cases k6 : m.kind = 6
        ·
          have e6 : (m.kind == 6) = true := by simp [k6]
          have HK := Lib.hid k6
          clear k1 k2 k3 k4 k5 k6
          go_enter Try.func17, Try.ntmps17
          go_wp2_with (first | (go_at_call 49; refine (isService_any _ _).mono ?_; rintro e w' ⟨rfl, rfl⟩) | (go_at_call 50; refine (txOk_any _ _).mono ?_; rintro e w' ⟨rfl, rfl⟩))
          all_goals
            go_ret
            exact ⟨ret_bool (by rw [msgB_k6 HK.out, ht, HFR.out]; simp [noneB, *]), belowOne _ _⟩
        have e6 : (m.kind == 6) = false := by simp [k6]
        by_cases k7 : m.kind = 7
        ·
          have e7 : (m.kind == 7) = true := by simp [k7]
          have HK := Lib.hid k7
          clear k1 k2 k3 k4 k5 k6 k7
          go_enter Try.func17, Try.ntmps17
          go_wp2_with (first | (go_at_call 49; refine (isService_any _ _).mono ?_; rintro e w' ⟨rfl, rfl⟩) | (go_at_call 50; refine (txOk_any _ _).mono ?_; rintro e w' ⟨rfl, rfl⟩))
          all_goals
            go_ret
            exact ⟨ret_bool (by rw [msgB_k7 HK.out, ht, HFR.out]; simp [noneB, *]), belowOne _ _⟩
        have e7 : (m.kind == 7) = false := by simp [k7]
        have HK := Lib.hid (And.intro k1 (And.intro k2 (And.intro k3 (And.intro k4 (And.intro k5 (And.intro k6 k7))))))
        clear k1 k2 k3 k4 k5 k6 k7
        go_enter Try.func17, Try.ntmps17
        go_wp2_with (first | (go_at_call 49; refine (isService_any _ _).mono ?_; rintro e w' ⟨rfl, rfl⟩) | (go_at_call 50; refine (txOk_any _ _).mono ?_; rintro e w' ⟨rfl, rfl⟩))
        all_goals
          go_ret
          exact ⟨ret_bool (by rw [msgB_k0 HK.out]), belowOne _ _⟩
  ·
    rcases t1 : inB m.to_ 1 3
    ·
      rcases t0 : (m.to_ == 0)
      ·
        have HTO := Lib.hid (show toB m = false by unfold toB; simp only [*] <;> rfl)
        have HFR := Lib.hid (show frB m = false by unfold frB; simp only [*] <;> rfl)
        rcases ht : inB m.tx 0 29
        ·
          go_enter Try.func17, Try.ntmps17
          go_wp2_with (first | (go_at_call 49; refine (isService_any _ _).mono ?_; rintro e w' ⟨rfl, rfl⟩) | (go_at_call 50; refine (txOk_any _ _).mono ?_; rintro e w' ⟨rfl, rfl⟩))
          all_goals
            go_ret
            exact ⟨ret_bool (by simp [msgB, ht]), belowOne _ _⟩
        by_cases k1 : m.kind = 1
        ·
          have e1 : (m.kind == 1) = true := by simp [k1]
          have HK := Lib.hid k1
          clear k1
          go_enter Try.func17, Try.ntmps17
          go_wp2_with (first | (go_at_call 49; refine (isService_any _ _).mono ?_; rintro e w' ⟨rfl, rfl⟩) | (go_at_call 50; refine (txOk_any _ _).mono ?_; rintro e w' ⟨rfl, rfl⟩))
          all_goals
            go_ret
            exact ⟨ret_bool (by rw [msgB_k1 HK.out, HTO.out, Bool.false_and, Bool.and_false]), belowOne _ _⟩
        have e1 : (m.kind == 1) = false := by simp [k1]
        by_cases k2 : m.kind = 2
        ·
          have e2 : (m.kind == 2) = true := by simp [k2]
          have HK := Lib.hid k2
          clear k1 k2
          go_enter Try.func17, Try.ntmps17
          go_wp2_with (first | (go_at_call 49; refine (isService_any _ _).mono ?_; rintro e w' ⟨rfl, rfl⟩) | (go_at_call 50; refine (txOk_any _ _).mono ?_; rintro e w' ⟨rfl, rfl⟩))
          all_goals
            go_ret
            exact ⟨ret_bool (by rw [msgB_k2 HK.out, HTO.out, Bool.false_and, Bool.and_false]), belowOne _ _⟩
        have e2 : (m.kind == 2) = false := by simp [k2]
        by_cases k3 : m.kind = 3
        ·
          have e3 : (m.kind == 3) = true := by simp [k3]
          have HK := Lib.hid k3
          clear k1 k2 k3
          go_enter Try.func17, Try.ntmps17
          go_wp2_with (first | (go_at_call 49; refine (isService_any _ _).mono ?_; rintro e w' ⟨rfl, rfl⟩) | (go_at_call 50; refine (txOk_any _ _).mono ?_; rintro e w' ⟨rfl, rfl⟩))
          all_goals
            go_ret
            exact ⟨ret_bool (by rw [msgB_k3 HK.out, HTO.out, Bool.false_and, Bool.and_false]), belowOne _ _⟩
        have e3 : (m.kind == 3) = false := by simp [k3]
        by_cases k4 : m.kind = 4
        ·
          have e4 : (m.kind == 4) = true := by simp [k4]
          have HK := Lib.hid k4
          clear k1 k2 k3 k4
          go_enter Try.func17, Try.ntmps17
          go_wp2_with (first | (go_at_call 49; refine (isService_any _ _).mono ?_; rintro e w' ⟨rfl, rfl⟩) | (go_at_call 50; refine (txOk_any _ _).mono ?_; rintro e w' ⟨rfl, rfl⟩))
          all_goals
            go_ret
            exact ⟨ret_bool (by rw [msgB_k4 HK.out, HFR.out, Bool.false_and, Bool.and_false]), belowOne _ _⟩
        have e4 : (m.kind == 4) = false := by simp [k4]
        by_cases k5 : m.kind = 5
        ·
          have e5 : (m.kind == 5) = true := by simp [k5]
          have HK := Lib.hid k5
          clear k1 k2 k3 k4 k5
          go_enter Try.func17, Try.ntmps17
          go_wp2_with (first | (go_at_call 49; refine (isService_any _ _).mono ?_; rintro e w' ⟨rfl, rfl⟩) | (go_at_call 50; refine (txOk_any _ _).mono ?_; rintro e w' ⟨rfl, rfl⟩))
          all_goals
            go_ret
            exact ⟨ret_bool (by rw [msgB_k5 HK.out, HFR.out, Bool.false_and, Bool.and_false]), belowOne _ _⟩
        have e5 : (m.kind == 5) = false := by simp [k5]
        by_cases k6 : m.kind = 6
        ·
          have e6 : (m.kind == 6) = true := by simp [k6]
          have HK := Lib.hid k6
          clear k1 k2 k3 k4 k5 k6
          go_enter Try.func17, Try.ntmps17
          go_wp2_with (first | (go_at_call 49; refine (isService_any _ _).mono ?_; rintro e w' ⟨rfl, rfl⟩) | (go_at_call 50; refine (txOk_any _ _).mono ?_; rintro e w' ⟨rfl, rfl⟩))
          all_goals
            go_ret
            exact ⟨ret_bool (by rw [msgB_k6 HK.out, HFR.out, Bool.false_and, Bool.and_false]), belowOne _ _⟩
        have e6 : (m.kind == 6) = false := by simp [k6]
        by_cases k7 : m.kind = 7
        ·
          have e7 : (m.kind == 7) = true := by simp [k7]
          have HK := Lib.hid k7
          clear k1 k2 k3 k4 k5 k6 k7
          go_enter Try.func17, Try.ntmps17
          go_wp2_with (first | (go_at_call 49; refine (isService_any _ _).mono ?_; rintro e w' ⟨rfl, rfl⟩) | (go_at_call 50; refine (txOk_any _ _).mono ?_; rintro e w' ⟨rfl, rfl⟩))
          all_goals
            go_ret
            exact ⟨ret_bool (by rw [msgB_k7 HK.out, HFR.out, Bool.false_and, Bool.and_false]), belowOne _ _⟩
        have e7 : (m.kind == 7) = false := by simp [k7]
        have HK := Lib.hid (And.intro k1 (And.intro k2 (And.intro k3 (And.intro k4 (And.intro k5 (And.intro k6 k7))))))
        clear k1 k2 k3 k4 k5 k6 k7
        go_enter Try.func17, Try.ntmps17
        go_wp2_with (first | (go_at_call 49; refine (isService_any _ _).mono ?_; rintro e w' ⟨rfl, rfl⟩) | (go_at_call 50; refine (txOk_any _ _).mono ?_; rintro e w' ⟨rfl, rfl⟩))
        all_goals
          go_ret
          exact ⟨ret_bool (by rw [msgB_k0 HK.out]), belowOne _ _⟩
      ·
        rcases f1 : inB m.frm 1 3
        ·
          have HTO := Lib.hid (show toB m = false by unfold toB; simp only [*] <;> rfl)
          have HFR := Lib.hid (show frB m = false by unfold frB; simp only [*] <;> rfl)
          rcases ht : inB m.tx 0 29
          ·
            go_enter Try.func17, Try.ntmps17
            go_wp2_with (first | (go_at_call 49; refine (isService_any _ _).mono ?_; rintro e w' ⟨rfl, rfl⟩) | (go_at_call 50; refine (txOk_any _ _).mono ?_; rintro e w' ⟨rfl, rfl⟩))
            all_goals
              go_ret
              exact ⟨ret_bool (by simp [msgB, ht]), belowOne _ _⟩
          by_cases k1 : m.kind = 1
          ·
            have e1 : (m.kind == 1) = true := by simp [k1]
            have HK := Lib.hid k1
            clear k1
            go_enter Try.func17, Try.ntmps17
            go_wp2_with (first | (go_at_call 49; refine (isService_any _ _).mono ?_; rintro e w' ⟨rfl, rfl⟩) | (go_at_call 50; refine (txOk_any _ _).mono ?_; rintro e w' ⟨rfl, rfl⟩))
            all_goals
              go_ret
              exact ⟨ret_bool (by rw [msgB_k1 HK.out, HTO.out, Bool.false_and, Bool.and_false]), belowOne _ _⟩
          have e1 : (m.kind == 1) = false := by simp [k1]
          by_cases k2 : m.kind = 2
          ·
            have e2 : (m.kind == 2) = true := by simp [k2]
            have HK := Lib.hid k2
            clear k1 k2
            go_enter Try.func17, Try.ntmps17
            go_wp2_with (first | (go_at_call 49; refine (isService_any _ _).mono ?_; rintro e w' ⟨rfl, rfl⟩) | (go_at_call 50; refine (txOk_any _ _).mono ?_; rintro e w' ⟨rfl, rfl⟩))
            all_goals
              go_ret
              exact ⟨ret_bool (by rw [msgB_k2 HK.out, HTO.out, Bool.false_and, Bool.and_false]), belowOne _ _⟩
          have e2 : (m.kind == 2) = false := by simp [k2]
          by_cases k3 : m.kind = 3
          ·
            have e3 : (m.kind == 3) = true := by simp [k3]
            have HK := Lib.hid k3
            clear k1 k2 k3
            go_enter Try.func17, Try.ntmps17
            go_wp2_with (first | (go_at_call 49; refine (isService_any _ _).mono ?_; rintro e w' ⟨rfl, rfl⟩) | (go_at_call 50; refine (txOk_any _ _).mono ?_; rintro e w' ⟨rfl, rfl⟩))
            all_goals
              go_ret
              exact ⟨ret_bool (by rw [msgB_k3 HK.out, HTO.out, Bool.false_and, Bool.and_false]), belowOne _ _⟩
          have e3 : (m.kind == 3) = false := by simp [k3]
          by_cases k4 : m.kind = 4
          ·
            have e4 : (m.kind == 4) = true := by simp [k4]
            have HK := Lib.hid k4
            clear k1 k2 k3 k4
            go_enter Try.func17, Try.ntmps17
            go_wp2_with (first | (go_at_call 49; refine (isService_any _ _).mono ?_; rintro e w' ⟨rfl, rfl⟩) | (go_at_call 50; refine (txOk_any _ _).mono ?_; rintro e w' ⟨rfl, rfl⟩))
            all_goals
              go_ret
              exact ⟨ret_bool (by rw [msgB_k4 HK.out, HFR.out, Bool.false_and, Bool.and_false]), belowOne _ _⟩
          have e4 : (m.kind == 4) = false := by simp [k4]
          by_cases k5 : m.kind = 5
          ·
            have e5 : (m.kind == 5) = true := by simp [k5]
            have HK := Lib.hid k5
            clear k1 k2 k3 k4 k5
            go_enter Try.func17, Try.ntmps17
            go_wp2_with (first | (go_at_call 49; refine (isService_any _ _).mono ?_; rintro e w' ⟨rfl, rfl⟩) | (go_at_call 50; refine (txOk_any _ _).mono ?_; rintro e w' ⟨rfl, rfl⟩))
            all_goals
              go_ret
              exact ⟨ret_bool (by rw [msgB_k5 HK.out, HFR.out, Bool.false_and, Bool.and_false]), belowOne _ _⟩
          have e5 : (m.kind == 5) = false := by simp [k5]
          by_cases k6 : m.kind = 6
          ·
            have e6 : (m.kind == 6) = true := by simp [k6]
            have HK := Lib.hid k6
            clear k1 k2 k3 k4 k5 k6
            go_enter Try.func17, Try.ntmps17
            go_wp2_with (first | (go_at_call 49; refine (isService_any _ _).mono ?_; rintro e w' ⟨rfl, rfl⟩) | (go_at_call 50; refine (txOk_any _ _).mono ?_; rintro e w' ⟨rfl, rfl⟩))
            all_goals
              go_ret
              exact ⟨ret_bool (by rw [msgB_k6 HK.out, HFR.out, Bool.false_and, Bool.and_false]), belowOne _ _⟩
          have e6 : (m.kind == 6) = false := by simp [k6]
          by_cases k7 : m.kind = 7
          ·
            have e7 : (m.kind == 7) = true := by simp [k7]
            have HK := Lib.hid k7
            clear k1 k2 k3 k4 k5 k6 k7
            go_enter Try.func17, Try.ntmps17
            go_wp2_with (first | (go_at_call 49; refine (isService_any _ _).mono ?_; rintro e w' ⟨rfl, rfl⟩) | (go_at_call 50; refine (txOk_any _ _).mono ?_; rintro e w' ⟨rfl, rfl⟩))
            all_goals
              go_ret
              exact ⟨ret_bool (by rw [msgB_k7 HK.out, HFR.out, Bool.false_and, Bool.and_false]), belowOne _ _⟩
          have e7 : (m.kind == 7) = false := by simp [k7]
          have HK := Lib.hid (And.intro k1 (And.intro k2 (And.intro k3 (And.intro k4 (And.intro k5 (And.intro k6 k7))))))
          clear k1 k2 k3 k4 k5 k6 k7
          go_enter Try.func17, Try.ntmps17
          go_wp2_with (first | (go_at_call 49; refine (isService_any _ _).mono ?_; rintro e w' ⟨rfl, rfl⟩) | (go_at_call 50; refine (txOk_any _ _).mono ?_; rintro e w' ⟨rfl, rfl⟩))
          all_goals
            go_ret
            exact ⟨ret_bool (by rw [msgB_k0 HK.out]), belowOne _ _⟩
        ·
          exact absurd f1 (by rw [show m.frm = 0 by simpa using f0]; decide)
    ·
      have t0 : (m.to_ == 0) = false := by unfold inB at t1; rw [decide_eq_true_iff] at t1; simp; omega
      have HTO := Lib.hid (show toB m = true by unfold toB; simp only [*] <;> rfl)
      have HFR := Lib.hid (show frB m = false by unfold frB; simp only [*] <;> rfl)
      rcases ht : inB m.tx 0 29
      ·
        go_enter Try.func17, Try.ntmps17
        go_wp2_with (first | (go_at_call 49; refine (isService_any _ _).mono ?_; rintro e w' ⟨rfl, rfl⟩) | (go_at_call 50; refine (txOk_any _ _).mono ?_; rintro e w' ⟨rfl, rfl⟩))
        all_goals
          go_ret
          exact ⟨ret_bool (by simp [msgB, ht]), belowOne _ _⟩
      by_cases k1 : m.kind = 1
      ·
        have e1 : (m.kind == 1) = true := by simp [k1]
        have HK := Lib.hid k1
        clear k1
        go_enter Try.func17, Try.ntmps17
        go_wp2_with (first | (go_at_call 49; refine (isService_any _ _).mono ?_; rintro e w' ⟨rfl, rfl⟩) | (go_at_call 50; refine (txOk_any _ _).mono ?_; rintro e w' ⟨rfl, rfl⟩))
        refine (implOpOk_any _ m.op).mono ?_
        rintro e w1 ⟨rfl, hb1⟩
        have HB1 := Lib.hid (belowNext HB.out hb1)
        clear hb1
        go_wp2
        all_goals
          go_ret
          exact ⟨ret_bool (by rw [msgB_k1 HK.out, ht, HTO.out]; rfl), HB1.out⟩
      have e1 : (m.kind == 1) = false := by simp [k1]
      by_cases k2 : m.kind = 2
      ·
        have e2 : (m.kind == 2) = true := by simp [k2]
        have HK := Lib.hid k2
        clear k1 k2
        go_enter Try.func17, Try.ntmps17
        go_wp2_with (first | (go_at_call 49; refine (isService_any _ _).mono ?_; rintro e w' ⟨rfl, rfl⟩) | (go_at_call 50; refine (txOk_any _ _).mono ?_; rintro e w' ⟨rfl, rfl⟩))
        all_goals
          go_ret
          exact ⟨ret_bool (by rw [msgB_k2 HK.out, ht, HTO.out]; simp [noneB, *]), belowOne _ _⟩
      have e2 : (m.kind == 2) = false := by simp [k2]
      by_cases k3 : m.kind = 3
      ·
        have e3 : (m.kind == 3) = true := by simp [k3]
        have HK := Lib.hid k3
        clear k1 k2 k3
        go_enter Try.func17, Try.ntmps17
        go_wp2_with (first | (go_at_call 49; refine (isService_any _ _).mono ?_; rintro e w' ⟨rfl, rfl⟩) | (go_at_call 50; refine (txOk_any _ _).mono ?_; rintro e w' ⟨rfl, rfl⟩))
        all_goals
          go_ret
          exact ⟨ret_bool (by rw [msgB_k3 HK.out, ht, HTO.out]; simp [noneB, *]), belowOne _ _⟩
      have e3 : (m.kind == 3) = false := by simp [k3]
      by_cases k4 : m.kind = 4
      ·
        have e4 : (m.kind == 4) = true := by simp [k4]
        have HK := Lib.hid k4
        clear k1 k2 k3 k4
        go_enter Try.func17, Try.ntmps17
        go_wp2_with (first | (go_at_call 49; refine (isService_any _ _).mono ?_; rintro e w' ⟨rfl, rfl⟩) | (go_at_call 50; refine (txOk_any _ _).mono ?_; rintro e w' ⟨rfl, rfl⟩))
        all_goals
          go_ret
          exact ⟨ret_bool (by rw [msgB_k4 HK.out, HFR.out, Bool.false_and, Bool.and_false]), belowOne _ _⟩
      have e4 : (m.kind == 4) = false := by simp [k4]
      by_cases k5 : m.kind = 5
      ·
        have e5 : (m.kind == 5) = true := by simp [k5]
        have HK := Lib.hid k5
        clear k1 k2 k3 k4 k5
        go_enter Try.func17, Try.ntmps17
        go_wp2_with (first | (go_at_call 49; refine (isService_any _ _).mono ?_; rintro e w' ⟨rfl, rfl⟩) | (go_at_call 50; refine (txOk_any _ _).mono ?_; rintro e w' ⟨rfl, rfl⟩))
        all_goals
          go_ret
          exact ⟨ret_bool (by rw [msgB_k5 HK.out, HFR.out, Bool.false_and, Bool.and_false]), belowOne _ _⟩
      have e5 : (m.kind == 5) = false := by simp [k5]
      by_cases k6 : m.kind = 6
      ·
        have e6 : (m.kind == 6) = true := by simp [k6]
        have HK := Lib.hid k6
        clear k1 k2 k3 k4 k5 k6
        go_enter Try.func17, Try.ntmps17
        go_wp2_with (first | (go_at_call 49; refine (isService_any _ _).mono ?_; rintro e w' ⟨rfl, rfl⟩) | (go_at_call 50; refine (txOk_any _ _).mono ?_; rintro e w' ⟨rfl, rfl⟩))
        all_goals
          go_ret
          exact ⟨ret_bool (by rw [msgB_k6 HK.out, HFR.out, Bool.false_and, Bool.and_false]), belowOne _ _⟩
      have e6 : (m.kind == 6) = false := by simp [k6]
      by_cases k7 : m.kind = 7
      ·
        have e7 : (m.kind == 7) = true := by simp [k7]
        have HK := Lib.hid k7
        clear k1 k2 k3 k4 k5 k6 k7
        go_enter Try.func17, Try.ntmps17
        go_wp2_with (first | (go_at_call 49; refine (isService_any _ _).mono ?_; rintro e w' ⟨rfl, rfl⟩) | (go_at_call 50; refine (txOk_any _ _).mono ?_; rintro e w' ⟨rfl, rfl⟩))
        all_goals
          go_ret
          exact ⟨ret_bool (by rw [msgB_k7 HK.out, HFR.out, Bool.false_and, Bool.and_false]), belowOne _ _⟩
      have e7 : (m.kind == 7) = false := by simp [k7]
      have HK := Lib.hid (And.intro k1 (And.intro k2 (And.intro k3 (And.intro k4 (And.intro k5 (And.intro k6 k7))))))
      clear k1 k2 k3 k4 k5 k6 k7
      go_enter Try.func17, Try.ntmps17
      go_wp2_with (first | (go_at_call 49; refine (isService_any _ _).mono ?_; rintro e w' ⟨rfl, rfl⟩) | (go_at_call 50; refine (txOk_any _ _).mono ?_; rintro e w' ⟨rfl, rfl⟩))
      all_goals
        go_ret
        exact ⟨ret_bool (by rw [msgB_k0 HK.out]), belowOne _ _⟩

end Go.Proofs.Ytlmcpkijcadalaa
