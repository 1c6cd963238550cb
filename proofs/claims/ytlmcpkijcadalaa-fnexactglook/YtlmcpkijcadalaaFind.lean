/- The binary search of the program: where a name is, or would have to be. -/
import Derived.Test.YtlmcpkijcadalaaStoOkS
import Derived.Test.YtlmcpkijcadalaaCmp
import Derived.Lib.Walk
namespace Go.Proofs.Ytlmcpkijcadalaa
open Go.RowKit

theorem cmp_run (a b : ByteArray) (w : World) : (callFunc 150 #[.string a, .string b]).run Try.prog w = .ok (.value (.int .i64 (cmpB a b))) w := by
  rw [run_callFunc_extern Try.func150 (by kernel_rfl) (by kernel_rfl) (by kernel_rfl) (e := Extern.BytealgCompare.compare) (by kernel_rfl), Lib.run_compareString]
  rfl

theorem compare_any (a b : ByteArray) (w : World) :
    Calls Try.prog 114 #[.string a, .string b] w fun e w' => e = .returned (.int .i64 (cmpB a b)) ∧ w = w' := by
  have h := cmp_run
  go_enter Try.func114, Try.ntmps114
  go_wp2
  go_ret
  exact ⟨rfl, rfl⟩

theorem cmpItem_any (w : World) (k key : ByteArray) (A : Option Addr) (n c : Nat) :
    Calls Try.prog 113 #[.agg #[.string k, .slice A n c], .string key] w fun e w' => e = .returned (.int .i64 (cmpB k key)) ∧ Below w.heap.size w w' := by
  have m1 := method_sortKey
  go_enter Try.func113, Try.ntmps113
  go_wp2_with (first | (go_at_call 170; refine (sortKey_any _ _ _ _ _).mono ?_; rintro e w' ⟨rfl, hb'⟩; have hq := belowNext (belowOne _ _) hb'; clear hb') | (go_at_call 114; refine (compare_any _ _ _).mono ?_; rintro e w' ⟨rfl, rfl⟩))
  go_ret
  exact ⟨rfl, by assumption⟩

set_option maxRecDepth 100000 in
set_option maxHeartbeats 1000000 in
theorem search_any (w : World) (v : Value) (its : List Item) (key : ByteArray) (hv : Items w w.heap.size v its) (hlen : its.length ≤ 1048576) (hr : Rise its its.length) :
    Calls Try.prog 112 #[v, .string key, .func (.func 113) #[] #[]] w fun e w' =>
      ∃ i : Nat, i ≤ its.length ∧ Lo its key i ∧ Hi its key i ∧ e = .returned (.tuple #[.int .i64 i, .bool (hitB its key i)]) ∧ Below w.heap.size w w' := by
  obtain ⟨A, c, rfl, hc2, hc1⟩ := hv.form
  unfold maxLen at hc2
  go_enter Try.func112, Try.ntmps112
  go_wp2
  go_loopw [9, 10] (fun a b wr => ∃ i j : Nat, i ≤ j ∧ j ≤ its.length ∧ a = .int .i64 i ∧ b = .int .i64 j ∧ Lo its key i ∧ Hi its key j ∧ Below w.heap.size w wr) (fun a b _ => (intOf b).toNat - (intOf a).toNat)
  case atStart => exact ⟨0, its.length, Nat.zero_le _, Nat.le_refl _, rfl, rfl, Lo.start _ _, Hi.start _ _, Below.refl _ _⟩
  case round =>
    obtain ⟨i, j, hij, hj, rfl, rfl, hlo, hhi, hb⟩ := hrel
    by_cases hlt : i < j
    · obtain ⟨b, off, d, it, x, e1, hit, hB, hks, ck, cu, hx⟩ := (hv.below hb).at_ (k := (i + j) / 2) (by omega)
      obtain ⟨Ax, cx, hxf, _, _⟩ := hx.form
      subst hxf
      injection e1 with e1a e1b e1c
      subst e1a
      clear e1b e1c hx
      have HV := Lib.hid hv
      have HI := Lib.hid hit
      have HR := Lib.hid hr
      clear hv hit
      rcases hl : ltB it.key key
      · have HH := Lib.hid (Hi.mid hr HI.out hl)
        have hc : 0 ≤ cmpB it.key key := by rw [ltB_cmp, decide_eq_false_iff_not] at hl; omega
        clear hl hr
        go_wp2_with (go_at_call 113; refine (cmpItem_any _ _ _ _ _ _).mono ?_; rintro e w1 ⟨rfl, hb1⟩; have hq := belowNext hb hb1; clear hb1)
        go_roundw
        case rel => exact ⟨i, (i + j) / 2, by omega, by omega, rfl, by go_num, hlo, HH.out, by assumption⟩
        case measure => simp [intOf]; omega
      · have HL := Lib.hid (Lo.mid hr HI.out hl)
        have hc : cmpB it.key key < 0 := by rw [ltB_cmp, decide_eq_true_iff] at hl; exact hl
        clear hl hr
        go_wp2_with (go_at_call 113; refine (cmpItem_any _ _ _ _ _ _).mono ?_; rintro e w1 ⟨rfl, hb1⟩; have hq := belowNext hb hb1; clear hb1)
        go_roundw
        case rel => exact ⟨(i + j) / 2 + 1, j, by omega, by omega, by go_num, rfl, HL.out, hhi, by assumption⟩
        case measure => simp [intOf]; omega
    · obtain rfl : i = j := by omega
      by_cases hil : i < its.length
      · obtain ⟨b, off, d, it, x, e1, hit, hB, hks, ck, cu, hx⟩ := (hv.below hb).at_ (k := i) hil
        obtain ⟨Ax, cx, hxf, _, _⟩ := hx.form
        subst hxf
        injection e1 with e1a e1b e1c
        subst e1a
        have HH := Lib.hid (hitB_cmp (key := key) hit)
        clear e1b e1c hx hv hit hr
        go_wp2_with (go_at_call 113; refine (cmpItem_any _ _ _ _ _ _).mono ?_; rintro e w1 ⟨rfl, hb1⟩; have hq := belowNext hb hb1; clear hb1)
        go_ret2
        exact ⟨i, hj, hlo, hhi, by rw [HH.out]; rfl, by assumption⟩
      · have HH := Lib.hid (hitB_end (its := its) (key := key) (i := i) (by omega))
        clear hv hr
        go_wp2
        go_ret2
        exact ⟨i, hj, hlo, hhi, by rw [HH.out]; rfl, hb⟩

theorem find_any (w : World) (v : Value) (its : List Item) (key : ByteArray) (hv : Items w w.heap.size v its) (hlen : its.length ≤ 1048576) (hr : Rise its its.length) :
    Calls Try.prog 68 #[v, .string key] w fun e w' =>
      ∃ i : Nat, i ≤ its.length ∧ Lo its key i ∧ Hi its key i ∧ e = .returned (.tuple #[.int .i64 i, .bool (hitB its key i)]) ∧ Below w.heap.size w w' := by
  go_enter Try.func68, Try.ntmps68
  go_wp2_with fail
  refine (search_any _ _ _ _ hv hlen hr).mono ?_
  rintro e w1 ⟨i, hi, hlo, hhi, rfl, hb⟩
  have HL := Lib.hid hlo
  have HH := Lib.hid hhi
  clear hlo hhi hr hv
  go_wp2
  go_ret2
  exact ⟨i, hi, HL.out, HH.out, rfl, hb⟩

end Go.Proofs.Ytlmcpkijcadalaa
