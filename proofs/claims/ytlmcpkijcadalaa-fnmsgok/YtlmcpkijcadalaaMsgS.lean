/- What MsgOk of the model answers. By msggen.py. -/
import Derived.Test.YtlmcpkijcadalaaMsgI
namespace Go.Proofs.Ytlmcpkijcadalaa
open Go.RowKit

theorem msgB_none {m : Msg} (h : ¬ m.kind = 1) (hn : noneB m.op = false) : msgB m = false := by simp [msgB, h, hn]
theorem kinds_no {m : Msg} (h1 : ¬ m.kind = 1) (h2 : ¬ m.kind = 2) (h3 : ¬ m.kind = 3) (h : inB m.kind 4 7 = false) : m.kind ≠ 1 ∧ m.kind ≠ 2 ∧ m.kind ≠ 3 ∧ m.kind ≠ 4 ∧ m.kind ≠ 5 ∧ m.kind ≠ 6 ∧ m.kind ≠ 7 := by
  unfold inB at h; rw [decide_eq_false_iff_not] at h; omega
theorem msgB_k47 {m : Msg} (h : inB m.kind 4 7 = true) : msgB m = (inB m.tx 0 29 && (frB m && noneB m.op)) := by
  unfold inB at h; rw [decide_eq_true_iff] at h
  have : m.kind = 4 ∨ m.kind = 5 ∨ m.kind = 6 ∨ m.kind = 7 := by omega
  rcases this with h | h | h | h
  · exact msgB_k4 h
  · exact msgB_k5 h
  · exact msgB_k6 h
  · exact msgB_k7 h

set_option maxRecDepth 100000 in
set_option maxHeartbeats 8000000 in
theorem specMsgOk_any (w : World) (m : Msg) :
    Calls Try.prog 15 #[msgV m] w fun e w' => e = .returned (.bool (msgB m)) ∧ Below w.heap.size w w' := by
  have HB := Lib.hid (belowOne w (.cells (msgC m).toArray 29))
  rcases ht : inB m.tx 0 29
  ·
    go_enter Try.func15, Try.ntmps15
    go_wp2_with (go_at_call 46; refine (l1In_any _ _ _ _).mono ?_; rintro e w' ⟨rfl, rfl⟩)
    go_ret
    exact ⟨ret_bool (by simp [msgB, ht]), belowOne _ _⟩
  by_cases k1 : m.kind = 1
  ·
    have e1 : (m.kind == 1) = true := by simp [k1]
    have HK := Lib.hid k1
    clear k1
    rcases f0 : (m.frm == 0)
    ·
      go_enter Try.func15, Try.ntmps15
      go_wp2_with (go_at_call 46; refine (l1In_any _ _ _ _).mono ?_; rintro e w' ⟨rfl, rfl⟩)
      go_ret
      exact ⟨ret_bool (by rw [msgB_k1 HK.out]; unfold toB; rw [f0, Bool.false_and, Bool.false_and, Bool.and_false]), belowOne _ _⟩
    rcases t1 : inB m.to_ 1 3
    ·
      go_enter Try.func15, Try.ntmps15
      go_wp2_with (go_at_call 46; refine (l1In_any _ _ _ _).mono ?_; rintro e w' ⟨rfl, rfl⟩)
      go_ret
      exact ⟨ret_bool (by rw [msgB_k1 HK.out]; unfold toB; rw [t1, Bool.and_false, Bool.false_and, Bool.and_false]), belowOne _ _⟩
    ·
      go_enter Try.func15, Try.ntmps15
      go_wp2_with (go_at_call 46; refine (l1In_any _ _ _ _).mono ?_; rintro e w' ⟨rfl, rfl⟩)
      refine (specOpOk_any _ m.op).mono ?_
      rintro e w1 ⟨rfl, hb1⟩
      have HB1 := Lib.hid (belowNext HB.out hb1)
      clear hb1
      go_wp2
      go_ret
      exact ⟨ret_bool (by rw [msgB_k1 HK.out, ht]; unfold toB; rw [f0, t1]; rfl), HB1.out⟩
  have e1 : (m.kind == 1) = false := by simp [k1]
  have HK := Lib.hid k1
  clear k1
  rcases z0 : (m.op.kind == 0)
  ·
    have HN := Lib.hid (show noneB m.op = false by unfold noneB; simp only [*] <;> rfl)
    have y0 := (beq_turn 0 m.op.kind).trans z0
    go_enter Try.func15, Try.ntmps15
    go_wp2_with (go_at_call 46; refine (l1In_any _ _ _ _).mono ?_; rintro e w' ⟨rfl, rfl⟩)
    go_ret
    exact ⟨ret_bool (by rw [msgB_none HK.out HN.out]), belowTwo _ _ _⟩
  have y0 := (beq_turn 0 m.op.kind).trans z0
  rcases z1 : (m.op.who == 0)
  ·
    have HN := Lib.hid (show noneB m.op = false by unfold noneB; simp only [*] <;> rfl)
    have y1 := (beq_turn 0 m.op.who).trans z1
    go_enter Try.func15, Try.ntmps15
    go_wp2_with (go_at_call 46; refine (l1In_any _ _ _ _).mono ?_; rintro e w' ⟨rfl, rfl⟩)
    go_ret
    exact ⟨ret_bool (by rw [msgB_none HK.out HN.out]), belowTwo _ _ _⟩
  have y1 := (beq_turn 0 m.op.who).trans z1
  rcases z2 : (m.op.inn == 0)
  ·
    have HN := Lib.hid (show noneB m.op = false by unfold noneB; simp only [*] <;> rfl)
    have y2 := (beq_turn 0 m.op.inn).trans z2
    go_enter Try.func15, Try.ntmps15
    go_wp2_with (go_at_call 46; refine (l1In_any _ _ _ _).mono ?_; rintro e w' ⟨rfl, rfl⟩)
    go_ret
    exact ⟨ret_bool (by rw [msgB_none HK.out HN.out]), belowTwo _ _ _⟩
  have y2 := (beq_turn 0 m.op.inn).trans z2
  rcases z3 : (m.op.code == 0)
  ·
    have HN := Lib.hid (show noneB m.op = false by unfold noneB; simp only [*] <;> rfl)
    have y3 := (beq_turn 0 m.op.code).trans z3
    go_enter Try.func15, Try.ntmps15
    go_wp2_with (go_at_call 46; refine (l1In_any _ _ _ _).mono ?_; rintro e w' ⟨rfl, rfl⟩)
    go_ret
    exact ⟨ret_bool (by rw [msgB_none HK.out HN.out]), belowTwo _ _ _⟩
  have y3 := (beq_turn 0 m.op.code).trans z3
  rcases z4 : (m.op.sec == 0)
  ·
    have HN := Lib.hid (show noneB m.op = false by unfold noneB; simp only [*] <;> rfl)
    have y4 := (beq_turn 0 m.op.sec).trans z4
    go_enter Try.func15, Try.ntmps15
    go_wp2_with (go_at_call 46; refine (l1In_any _ _ _ _).mono ?_; rintro e w' ⟨rfl, rfl⟩)
    go_ret
    exact ⟨ret_bool (by rw [msgB_none HK.out HN.out]), belowTwo _ _ _⟩
  have y4 := (beq_turn 0 m.op.sec).trans z4
  rcases z5 : (m.op.fam == 0)
  ·
    have HN := Lib.hid (show noneB m.op = false by unfold noneB; simp only [*] <;> rfl)
    have y5 := (beq_turn 0 m.op.fam).trans z5
    go_enter Try.func15, Try.ntmps15
    go_wp2_with (go_at_call 46; refine (l1In_any _ _ _ _).mono ?_; rintro e w' ⟨rfl, rfl⟩)
    go_ret
    exact ⟨ret_bool (by rw [msgB_none HK.out HN.out]), belowTwo _ _ _⟩
  have y5 := (beq_turn 0 m.op.fam).trans z5
  rcases z6 : (m.op.gen == 0)
  ·
    have HN := Lib.hid (show noneB m.op = false by unfold noneB; simp only [*] <;> rfl)
    have y6 := (beq_turn 0 m.op.gen).trans z6
    go_enter Try.func15, Try.ntmps15
    go_wp2_with (go_at_call 46; refine (l1In_any _ _ _ _).mono ?_; rintro e w' ⟨rfl, rfl⟩)
    go_ret
    exact ⟨ret_bool (by rw [msgB_none HK.out HN.out]), belowTwo _ _ _⟩
  have y6 := (beq_turn 0 m.op.gen).trans z6
  have HN := Lib.hid (show noneB m.op = true by unfold noneB; simp only [*] <;> rfl)
  by_cases k2 : m.kind = 2
  ·
    have e2 : (m.kind == 2) = true := by simp [k2]
    have HK2 := Lib.hid k2
    clear k2
    rcases f0 : (m.frm == 0)
    ·
      go_enter Try.func15, Try.ntmps15
      go_wp2_with (go_at_call 46; refine (l1In_any _ _ _ _).mono ?_; rintro e w' ⟨rfl, rfl⟩)
      go_ret
      exact ⟨ret_bool (by rw [msgB_k2 HK2.out]; unfold toB; rw [f0, Bool.false_and, Bool.false_and, Bool.and_false]), belowTwo _ _ _⟩
    rcases t1 : inB m.to_ 1 3
    ·
      go_enter Try.func15, Try.ntmps15
      go_wp2_with (go_at_call 46; refine (l1In_any _ _ _ _).mono ?_; rintro e w' ⟨rfl, rfl⟩)
      go_ret
      exact ⟨ret_bool (by rw [msgB_k2 HK2.out]; unfold toB; rw [t1, Bool.and_false, Bool.false_and, Bool.and_false]), belowTwo _ _ _⟩
    ·
      go_enter Try.func15, Try.ntmps15
      go_wp2_with (go_at_call 46; refine (l1In_any _ _ _ _).mono ?_; rintro e w' ⟨rfl, rfl⟩)
      go_ret
      exact ⟨ret_bool (by rw [msgB_k2 HK2.out, ht, HN.out]; unfold toB; rw [f0, t1]; rfl), belowTwo _ _ _⟩
  have e2 : (m.kind == 2) = false := by simp [k2]
  have HK2 := Lib.hid k2
  clear k2
  by_cases k3 : m.kind = 3
  ·
    have e3 : (m.kind == 3) = true := by simp [k3]
    have HK2 := Lib.hid k3
    clear k3
    rcases f0 : (m.frm == 0)
    ·
      go_enter Try.func15, Try.ntmps15
      go_wp2_with (go_at_call 46; refine (l1In_any _ _ _ _).mono ?_; rintro e w' ⟨rfl, rfl⟩)
      go_ret
      exact ⟨ret_bool (by rw [msgB_k3 HK2.out]; unfold toB; rw [f0, Bool.false_and, Bool.false_and, Bool.and_false]), belowTwo _ _ _⟩
    rcases t1 : inB m.to_ 1 3
    ·
      go_enter Try.func15, Try.ntmps15
      go_wp2_with (go_at_call 46; refine (l1In_any _ _ _ _).mono ?_; rintro e w' ⟨rfl, rfl⟩)
      go_ret
      exact ⟨ret_bool (by rw [msgB_k3 HK2.out]; unfold toB; rw [t1, Bool.and_false, Bool.false_and, Bool.and_false]), belowTwo _ _ _⟩
    ·
      go_enter Try.func15, Try.ntmps15
      go_wp2_with (go_at_call 46; refine (l1In_any _ _ _ _).mono ?_; rintro e w' ⟨rfl, rfl⟩)
      go_ret
      exact ⟨ret_bool (by rw [msgB_k3 HK2.out, ht, HN.out]; unfold toB; rw [f0, t1]; rfl), belowTwo _ _ _⟩
  have e3 : (m.kind == 3) = false := by simp [k3]
  have HK3 := Lib.hid k3
  clear k3
  rcases k4 : inB m.kind 4 7
  ·
    go_enter Try.func15, Try.ntmps15
    go_wp2_with (go_at_call 46; refine (l1In_any _ _ _ _).mono ?_; rintro e w' ⟨rfl, rfl⟩)
    go_ret
    exact ⟨ret_bool (by rw [msgB_k0 (kinds_no HK.out HK2.out HK3.out k4)]), belowTwo _ _ _⟩
  rcases t0 : (m.to_ == 0)
  ·
    go_enter Try.func15, Try.ntmps15
    go_wp2_with (go_at_call 46; refine (l1In_any _ _ _ _).mono ?_; rintro e w' ⟨rfl, rfl⟩)
    go_ret
    exact ⟨ret_bool (by rw [msgB_k47 k4]; unfold frB; rw [t0, Bool.false_and, Bool.false_and, Bool.and_false]), belowTwo _ _ _⟩
  rcases f1 : inB m.frm 1 3
  ·
    go_enter Try.func15, Try.ntmps15
    go_wp2_with (go_at_call 46; refine (l1In_any _ _ _ _).mono ?_; rintro e w' ⟨rfl, rfl⟩)
    go_ret
    exact ⟨ret_bool (by rw [msgB_k47 k4]; unfold frB; rw [f1, Bool.and_false, Bool.false_and, Bool.and_false]), belowTwo _ _ _⟩
  ·
    go_enter Try.func15, Try.ntmps15
    go_wp2_with (go_at_call 46; refine (l1In_any _ _ _ _).mono ?_; rintro e w' ⟨rfl, rfl⟩)
    go_ret
    exact ⟨ret_bool (by rw [msgB_k47 k4, ht, HN.out]; unfold frB; rw [t0, f1]; rfl), belowTwo _ _ _⟩

end Go.Proofs.Ytlmcpkijcadalaa
