/- jaHas of the laws. -/
import Derived.Test.YteccebjnopladaaGreatXCmp
import Derived.Test.YteccebjnopladaaGreatXExItems
namespace Go.Proofs.YteccebjnopladaaGreat
open Go.RowKit

/-- A text is one of some. -/
def hasT (xs : List ByteArray) (s : ByteArray) : Bool := xs.any fun x => decide (x = s)
theorem hasT_yes {xs : List ByteArray} {s : ByteArray} (h : s ∈ xs) : hasT xs s = true := List.any_eq_true.2 ⟨s, h, by simp⟩
theorem hasT_no {xs : List ByteArray} {s : ByteArray} (h : s ∉ xs) : hasT xs s = false := by
  unfold hasT
  rw [List.any_eq_false]
  intro x hx
  simp only [decide_eq_true_eq]
  exact fun e => h (e ▸ hx)
/-- None of the first k is it. -/
def FreeTo (xs : List ByteArray) (s : ByteArray) (k : Nat) : Prop := ∀ j, j < k → xs[j]? ≠ some s
theorem FreeTo.start (xs : List ByteArray) (s : ByteArray) : FreeTo xs s 0 := fun j h => absurd h (by omega)
theorem FreeTo.step {xs : List ByteArray} {s x : ByteArray} {k : Nat} (h : FreeTo xs s k) (hx : xs[k]? = some x) (hn : x ≠ s) : FreeTo xs s (k + 1) := by
  intro j hj
  rcases Nat.lt_or_ge j k with hlt | hge
  · exact h j hlt
  · have : j = k := by omega
    subst this
    rw [hx]
    exact fun e => hn (Option.some.inj e)
theorem FreeTo.all {xs : List ByteArray} {s : ByteArray} (h : FreeTo xs s xs.length) : hasT xs s = false := by
  refine hasT_no fun hm => ?_
  obtain ⟨j, hj, e⟩ := List.getElem_of_mem hm
  exact h j hj (by rw [List.getElem?_eq_getElem hj, e])
theorem hasT_at {xs : List ByteArray} {s x : ByteArray} {k : Nat} (hx : xs[k]? = some x) (h : x = s) : hasT xs s = true := by
  exact hasT_yes (h ▸ List.mem_of_getElem? hx)
set_option maxRecDepth 100000 in
theorem jaHas_any (w : World) (B : Nat) (v : Value) (xs : List ByteArray) (s : ByteArray) (hv : strSh.Row w B v xs) :
    Calls Tryz.prog 22 #[v, .string s] w fun e w' => e = .returned (.bool (hasT xs s)) ∧ w = w' := by
  obtain ⟨A, c, rfl, hc2, hc1⟩ := hv.form
  unfold maxLen at hc2
  go_enter Tryz.func22, Tryz.ntmps22
  go_wp2
  go_loop [5] (fun i => ∃ k : Nat, k ≤ xs.length ∧ i = .int .i64 k ∧ FreeTo xs s k) (fun i => xs.length - (intOf i).toNat)
  case atStart => exact ⟨0, Nat.zero_le _, rfl, FreeTo.start xs s⟩
  case round =>
    obtain ⟨k, hk, rfl, hf⟩ := hrel
    by_cases hlt : k < xs.length
    · obtain ⟨b, off, d, x, e1, hx, hB, hs, cu⟩ := strs_at hv hlt
      injection e1 with e1a e1b e1c
      subst e1a
      clear e1b e1c hv hs
      by_cases hn : x = s
      · have HM := Lib.hid (hasT_at hx hn)
        have hb1 : (x.toList == s.toList) = true := by rw [eq_toList]; simpa using hn
        clear hn hx hf
        go_wp2
        go_ret
        exact ⟨ret_bool HM.out.symm, rfl⟩
      · have HS := Lib.hid (hf.step hx hn)
        have hb1 : (x.toList == s.toList) = false := by rw [eq_toList]; simpa using hn
        clear hn hx hf
        go_wp2
        go_round
        case rel => exact ⟨k + 1, by omega, by go_num, HS.out⟩
        case measure => simp [intOf]; omega
    · have hks : k = xs.length := by omega
      have HM := Lib.hid (FreeTo.all (hks ▸ hf : FreeTo xs s xs.length))
      clear hks hv hf
      go_wp2
      go_ret
      exact ⟨ret_bool HM.out.symm, rfl⟩

end Go.Proofs.YteccebjnopladaaGreat
