/- What WrtOk answers, of the program and of the model: the same bool of every write. -/
import Derived.Test.YtecdibpiojgppaaVal
namespace Go.Proofs.Ytecdibpiojgppaa
open Go.RowKit

/-- Something that may be written: a name, and numbers, or none where it goes. -/
def wrtB (key : ByteArray) (del : Bool) (val : List Int) : Bool := keyB key && if del then val.isEmpty else valB val
theorem wrtB_key {key : ByteArray} {del : Bool} {val : List Int} (h : keyB key = false) : wrtB key del val = false := by simp [wrtB, h]
theorem wrtB_del {key : ByteArray} {val : List Int} (h : keyB key = true) : wrtB key true val = ((val.length : Int) == 0) := by
  simp only [wrtB, h, Bool.true_and, if_true]; cases val <;> simp; omega
theorem wrtB_val {key : ByteArray} {val : List Int} (h : keyB key = true) : wrtB key false val = valB val := by simp [wrtB, h]

theorem implWrtOk_any (w : World) (key : ByteArray) (del : Bool) (v : Value) (xs : List Int) (hk : key.size ≤ maxLen) (hv : Ints w w.heap.size v xs) :
    Calls Try.prog 72 #[.agg #[.string key, .bool del, v]] w fun e w' => e = .returned (.bool (wrtB key del xs)) ∧ Below w.heap.size w w' := by
  obtain ⟨A, c, rfl, hc2, hc1⟩ := hv.form
  have hv1 := fun o => hv.alloc (Nat.le_refl _) o
  have HV := Lib.hid hv1
  clear hv1
  unfold maxLen at hc2
  rcases hkb : keyB key
  · have HK := Lib.hid (wrtB_key (del := del) (val := xs) hkb)
    go_enter Try.func72, Try.ntmps72
    go_wp2_with (go_at_call 132; refine (keyOk_any _ _ hk).mono ?_; rintro e w' ⟨rfl, rfl⟩)
    go_ret
    exact ⟨ret_bool HK.out.symm, (Below.refl _ _).alloc (Nat.le_refl _) _⟩
  · cases del
    · have HK := Lib.hid (wrtB_val (val := xs) hkb)
      go_enter Try.func72, Try.ntmps72
      go_wp2_with (first | (go_at_call 132; refine (keyOk_any _ _ hk).mono ?_; rintro e w' ⟨rfl, rfl⟩) | (go_at_call 133; refine (numbersOk_any _ _ _ _ (HV.out _)).mono ?_; rintro e w' ⟨rfl, rfl⟩))
      go_ret
      exact ⟨ret_bool HK.out.symm, (Below.refl _ _).alloc (Nat.le_refl _) _⟩
    · have HK := Lib.hid (wrtB_del (val := xs) hkb)
      go_enter Try.func72, Try.ntmps72
      go_wp2_with (go_at_call 132; refine (keyOk_any _ _ hk).mono ?_; rintro e w' ⟨rfl, rfl⟩)
      go_ret
      exact ⟨ret_bool HK.out.symm, (Below.refl _ _).alloc (Nat.le_refl _) _⟩

theorem specWrtOk_any (w : World) (key : ByteArray) (del : Bool) (v : Value) (xs : List Int) (hk : key.size ≤ maxLen) (hv : Ints w w.heap.size v xs) :
    Calls Try.prog 70 #[.agg #[.string key, .bool del, v]] w fun e w' => e = .returned (.bool (wrtB key del xs)) ∧ Below w.heap.size w w' := by
  obtain ⟨A, c, rfl, hc2, hc1⟩ := hv.form
  have hv1 := fun o => hv.alloc (Nat.le_refl _) o
  have HV := Lib.hid hv1
  clear hv1
  unfold maxLen at hc2
  rcases hkb : keyB key
  · have HK := Lib.hid (wrtB_key (del := del) (val := xs) hkb)
    cases del
    all_goals
      go_enter Try.func70, Try.ntmps70
      go_wp2_with (go_at_call 69; refine (l1Key_any _ _ hk).mono ?_; rintro e w' ⟨rfl, rfl⟩)
      go_ret
      exact ⟨ret_bool HK.out.symm, (Below.refl _ _).alloc (Nat.le_refl _) _⟩
  · cases del
    · have HK := Lib.hid (wrtB_val (val := xs) hkb)
      go_enter Try.func70, Try.ntmps70
      go_wp2_with (first | (go_at_call 69; refine (l1Key_any _ _ hk).mono ?_; rintro e w' ⟨rfl, rfl⟩) | (go_at_call 138; refine (l1Val_any _ _ _ _ (HV.out _)).mono ?_; rintro e w' ⟨rfl, rfl⟩))
      go_ret
      exact ⟨ret_bool HK.out.symm, (Below.refl _ _).alloc (Nat.le_refl _) _⟩
    · have HK := Lib.hid (wrtB_del (val := xs) hkb)
      go_enter Try.func70, Try.ntmps70
      go_wp2_with (go_at_call 69; refine (l1Key_any _ _ hk).mono ?_; rintro e w' ⟨rfl, rfl⟩)
      go_ret
      exact ⟨ret_bool HK.out.symm, (Below.refl _ _).alloc (Nat.le_refl _) _⟩

end Go.Proofs.Ytecdibpiojgppaa
