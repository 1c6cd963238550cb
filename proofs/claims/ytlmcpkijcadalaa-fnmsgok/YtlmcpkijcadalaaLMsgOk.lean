/- The walk of FnMsgOk. -/
import Derived.Test.YtlmcpkijcadalaaDrawMsg
import Derived.Test.YtlmcpkijcadalaaMsgS
import Derived.Test.YtlmcpkijcadalaaJaOk
namespace Go.Proofs.Ytlmcpkijcadalaa
open Go.RowKit

set_option maxRecDepth 100000 in
set_option maxHeartbeats 1000000 in
theorem drawMsgOk_any (w : World) (v : Value) (n : Nat) (hv : Code8 w v n) :
    Calls Try.prog 18 #[v] w fun e w' => ∃ m : Msg, e = .returned (msgV m) ∧ Below w.heap.size w w' := by
  have HV := Lib.hid (hv.below (belowOne w (.cells #[.int .i64 0, .int .i64 0, .int .i64 0, .int .i64 0, .int .i64 0, .int .i64 0, .int .i64 0, .int .i64 0, .int .i64 0, .int .i64 0, .int .i64 0] 29)))
  have HH := Lib.hid (Held.new w #[.int .i64 0, .int .i64 0, .int .i64 0, .int .i64 0, .int .i64 0, .int .i64 0, .int .i64 0, .int .i64 0, .int .i64 0, .int .i64 0, .int .i64 0] 29)
  clear hv
  go_enter Try.func18, Try.ntmps18
  go_wp2_with fail
  refine (l20Open_any _ _ _ HV.out).mono ?_
  rintro e w1 ⟨rfl, hr, hb1⟩
  have HH1 := Lib.hid (HH.out.below hb1 HH.out.1)
  have HB1 := Lib.hid (belowNext (belowOne _ _) hb1)
  have hsz : (w.alloc (.cells #[.int .i64 0, .int .i64 0, .int .i64 0, .int .i64 0, .int .i64 0, .int .i64 0, .int .i64 0, .int .i64 0, .int .i64 0, .int .i64 0, .int .i64 0] 29)).heap.size = w.heap.size + 1 := by simp
  rw [hsz] at hr
  have HR := Lib.hid (show Rds w1 (w.heap.size + 1) 0 from ⟨0, by omega, by omega, hr⟩)
  clear hsz hr hb1 HH HV
  go_wp2_with fail
  refine (l20Msg_any _ _ _ _ HR.out (by omega) (by omega)).mono ?_
  rintro e w2 ⟨m, rfl, hd⟩
  have HH2 := Lib.hid (HH1.out.drew hd (by omega))
  have HB2 := Lib.hid (HB1.out.trans (hd.below (by omega) HB1.out.size))
  clear hd HH1 HB1 HR
  have r0 := HH2.out.of 0 _ rfl
  have r1 := HH2.out.of 1 _ rfl
  have r2 := HH2.out.of 2 _ rfl
  have r3 := HH2.out.of 3 _ rfl
  have r4 := HH2.out.of 4 _ rfl
  have r5 := HH2.out.of 5 _ rfl
  have r6 := HH2.out.of 6 _ rfl
  have r7 := HH2.out.of 7 _ rfl
  have r8 := HH2.out.of 8 _ rfl
  have r9 := HH2.out.of 9 _ rfl
  have r10 := HH2.out.of 10 _ rfl
  have gr := HH2.out.2.1
  go_wp2_with fail
  clear r0 r1 r2 r3 r4 r5 r6 r7 r8 r9 r10 gr
  have HQ := HH2.out.put11 (.int .i64 m.kind) (.int .i64 m.to_) (.int .i64 m.frm) (.int .i64 m.tx) (.int .i64 m.op.kind) (.int .i64 m.op.who) (.int .i64 m.op.inn) (.int .i64 m.op.code) (.int .i64 m.op.sec) (.int .i64 m.op.fam) (.int .i64 m.op.gen)
  have q0 := HQ.of 0 _ rfl
  have q1 := HQ.of 1 _ rfl
  have q2 := HQ.of 2 _ rfl
  have q3 := HQ.of 3 _ rfl
  have q4 := HQ.of 4 _ rfl
  have q5 := HQ.of 5 _ rfl
  have q6 := HQ.of 6 _ rfl
  have q7 := HQ.of 7 _ rfl
  have q8 := HQ.of 8 _ rfl
  have q9 := HQ.of 9 _ rfl
  have q10 := HQ.of 10 _ rfl
  refine bodyPost_ret (v := msgV m) (by simp only [results, Try.results18, go_sem]; simp [go_sem, q0, q1, q2, q3, q4, q5, q6, q7, q8, q9, q10]) rfl ⟨m, rfl, ?_⟩
  exact belowPut11 HB2.out w.heap.size (Nat.le_refl _) _ _ _ _ _ _ _ _ _ _ _

/-- What is sent, the other way about. -/
def swapM (m : Msg) : Msg := ⟨m.kind, m.frm, m.to_, m.tx, m.op⟩
theorem opB_zero {o : Op} (h : o.kind = 0) : opB o = false := opB_k (by simp [opK, h])
theorem msg_facts {m : Msg} (h : msgB m = true) : msgB (swapM m) = false ∧ ∃ b c : Bool, (m.to_ == 0) = b ∧ (m.frm == 0) = !b ∧ (m.kind == 1) = c ∧ (m.op.kind == 0) = !c := by
  have hno : noneB m.op = true → m.op.kind = 0 := fun h => by rw [noneB_eq h]
  by_cases h1 : m.kind = 1
  · rw [msgB_k1 h1] at h
    rw [msgB_k1 (m := swapM m) h1]
    simp only [toB, Bool.and_eq_true, beq_iff_eq] at h
    obtain ⟨-, ⟨hf, ht⟩, ho⟩ := h
    unfold inB at ht
    rw [decide_eq_true_iff] at ht
    have hk : m.op.kind ≠ 0 := fun e => by rw [opB_zero e] at ho; cases ho
    have t0 : (m.to_ == 0) = false := by simp; omega
    refine ⟨by simp only [toB, swapM, t0, Bool.false_and, Bool.and_false], false, true, t0, by simp [hf], by simp [h1], by simp [hk]⟩
  by_cases h2 : m.kind = 2 ∨ m.kind = 3
  · have e : ∀ x : Msg, x.kind = m.kind → msgB x = (inB x.tx 0 29 && (toB x && noneB x.op)) := fun x hx => by
      rcases h2 with h2 | h2
      · exact msgB_k2 (hx.trans h2)
      · exact msgB_k3 (hx.trans h2)
    rw [e m rfl] at h
    rw [e (swapM m) rfl]
    simp only [toB, Bool.and_eq_true, beq_iff_eq] at h
    obtain ⟨-, ⟨hf, ht⟩, ho⟩ := h
    unfold inB at ht
    rw [decide_eq_true_iff] at ht
    have t0 : (m.to_ == 0) = false := by simp; omega
    refine ⟨by simp only [toB, swapM, t0, Bool.false_and, Bool.and_false], false, false, t0, by simp [hf], by simp [h1], by simp [hno ho]⟩
  by_cases h4 : inB m.kind 4 7 = true
  · rw [msgB_k47 h4] at h
    rw [msgB_k47 (m := swapM m) h4]
    simp only [frB, Bool.and_eq_true, beq_iff_eq] at h
    obtain ⟨-, ⟨ht, hf⟩, ho⟩ := h
    unfold inB at hf
    rw [decide_eq_true_iff] at hf
    have f0 : (m.frm == 0) = false := by simp; omega
    refine ⟨by simp only [frB, swapM, f0, Bool.false_and, Bool.and_false], true, false, by simp [ht], f0, by simp [h1], by simp [hno ho]⟩
  · have := msgB_k0 (kinds_no h1 (fun e => h2 (.inl e)) (fun e => h2 (.inr e)) (by simpa using h4))
    rw [this] at h
    cases h

set_option maxRecDepth 100000 in
set_option maxHeartbeats 2000000 in
theorem lawMsgOk_any (w : World) (v : Value) (n : Nat) (hv : Code8 w v n) :
    Calls Try.prog 4 #[v] w fun e w' => e = .returned (.bool true) ∧ Below w.heap.size w w' := by
  have HV := Lib.hid hv
  obtain ⟨A, c, f, rfl, h1, h2, -, -⟩ := hv
  unfold maxLen at h2
  by_cases hn : 1048576 < n
  · have hn' : (1048576 : Int) < (n : Int) := by omega
    go_enter Try.func4, Try.ntmps4
    go_wp2
    go_ret
    exact ⟨rfl, Below.refl _ _⟩
  have hn' : (n : Int) ≤ 1048576 := by omega
  clear hn
  go_enter Try.func4, Try.ntmps4
  go_wp2_with fail
  refine (drawMsgOk_any _ _ n HV.out).mono ?_
  rintro e w1 ⟨m, rfl, hb1⟩
  have HX := Lib.hid (Held.new w1 #[.int .i64 m.kind, .int .i64 m.to_, .int .i64 m.frm, .int .i64 m.tx, .int .i64 m.op.kind, .int .i64 m.op.who, .int .i64 m.op.inn, .int .i64 m.op.code, .int .i64 m.op.sec, .int .i64 m.op.fam, .int .i64 m.op.gen] 29)
  have HB := Lib.hid (belowNext hb1 (belowOne w1 (.cells #[.int .i64 m.kind, .int .i64 m.to_, .int .i64 m.frm, .int .i64 m.tx, .int .i64 m.op.kind, .int .i64 m.op.who, .int .i64 m.op.inn, .int .i64 m.op.code, .int .i64 m.op.sec, .int .i64 m.op.fam, .int .i64 m.op.gen] 29)))
  clear hb1 HV
  go_wp2_with fail
  refine (implMsgOk_any _ m).mono ?_
  rintro e w2 ⟨rfl, hb⟩
  replace HX := Lib.hid (HX.out.below hb HX.out.1)
  replace HB := Lib.hid (belowNext HB.out hb)
  clear hb
  have x0 := HX.out.of 0 _ rfl
  have x1 := HX.out.of 1 _ rfl
  have x2 := HX.out.of 2 _ rfl
  have x3 := HX.out.of 3 _ rfl
  have x4 := HX.out.of 4 _ rfl
  have x5 := HX.out.of 5 _ rfl
  have x6 := HX.out.of 6 _ rfl
  have x7 := HX.out.of 7 _ rfl
  have x8 := HX.out.of 8 _ rfl
  have x9 := HX.out.of 9 _ rfl
  have x10 := HX.out.of 10 _ rfl
  go_wp2_with fail
  refine (specMsgOk_any _ m).mono ?_
  rintro e w3 ⟨rfl, hb⟩
  replace HX := Lib.hid (HX.out.below hb HX.out.1)
  replace HB := Lib.hid (belowNext HB.out hb)
  clear hb x0 x1 x2 x3 x4 x5 x6 x7 x8 x9 x10
  cases hk : msgB m with
  | false =>
    go_wp2_with fail
    refine (jaOk_any _).mono ?_
    rintro e w4 ⟨rfl, hb⟩
    have HB4 := Lib.hid (belowNext HB.out hb)
    clear hb
    go_wp2
    go_ret
    exact ⟨rfl, HB4.out⟩
  | true =>
    obtain ⟨hs, b, c, t0, f0, k1, ok⟩ := msg_facts hk
    have HS := Lib.hid hs
    have HF := Lib.hid (And.intro t0 (And.intro f0 (And.intro k1 ok)))
    clear hk hs t0 f0 k1 ok
    have hz3 : w1.heap.size < w3.heap.size := HX.out.1
    have x0 := HX.out.of 0 _ rfl
    have x1 := HX.out.of 1 _ rfl
    have x2 := HX.out.of 2 _ rfl
    have x3 := HX.out.of 3 _ rfl
    have x4 := HX.out.of 4 _ rfl
    have x5 := HX.out.of 5 _ rfl
    have x6 := HX.out.of 6 _ rfl
    have x7 := HX.out.of 7 _ rfl
    have x8 := HX.out.of 8 _ rfl
    have x9 := HX.out.of 9 _ rfl
    have x10 := HX.out.of 10 _ rfl
    go_wp2_with fail
    refine (implMsgOk_any _ (swapM m)).mono ?_
    rintro e w4 ⟨rfl, hb⟩
    rw [HS.out]
    have HX4 := Lib.hid ((HX.out.after (.cells #[.int .i64 m.kind, .int .i64 m.frm, .int .i64 m.to_, .int .i64 m.tx, .int .i64 m.op.kind, .int .i64 m.op.who, .int .i64 m.op.inn, .int .i64 m.op.code, .int .i64 m.op.sec, .int .i64 m.op.fam, .int .i64 m.op.gen] 29)).below hb (HX.out.after _).1)
    have HB4 := Lib.hid (belowNext (belowNext HB.out (belowOne w3 (.cells #[.int .i64 m.kind, .int .i64 m.frm, .int .i64 m.to_, .int .i64 m.tx, .int .i64 m.op.kind, .int .i64 m.op.who, .int .i64 m.op.inn, .int .i64 m.op.code, .int .i64 m.op.sec, .int .i64 m.op.fam, .int .i64 m.op.gen] 29))) hb)
    clear hb x0 x1 x2 x3 x4 x5 x6 x7 x8 x9 x10 HX HB
    have y0 := HX4.out.of 0 _ rfl
    have y1 := HX4.out.of 1 _ rfl
    have y2 := HX4.out.of 2 _ rfl
    have y4 := HX4.out.of 4 _ rfl
    obtain ⟨t0, f0, k1, ok⟩ := HF.out
    have on : (m.op.kind != 0) = c := by unfold bne; rw [ok, Bool.not_not]
    cases b <;> cases c
    all_goals
      go_wp2
      go_ret
      exact ⟨rfl, HB4.out⟩

end Go.Proofs.Ytlmcpkijcadalaa
