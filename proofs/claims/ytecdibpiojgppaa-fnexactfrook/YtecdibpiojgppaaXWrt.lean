/- Texts that follow each other, merged: Wrt, Wr. -/
import Derived.Test.YtecdibpiojgppaaXVal

/- What WrtOk answers, of the program and of the model: the same bool of every write. -/
namespace Go.Proofs.Ytecdibpiojgppaa
open Go.RowKit

/-- Something that may be written: a name, and numbers, or none where it goes. -/
def wrtB (key : ByteArray) (del : Bool) (val : List Int) : Bool := keyB key && if del then val.isEmpty else valB val
theorem wrtB_key {key : ByteArray} {del : Bool} {val : List Int} (h : keyB key = false) : wrtB key del val = false := by simp [wrtB, h]
theorem wrtB_del {key : ByteArray} {val : List Int} (h : keyB key = true) : wrtB key true val = ((val.length : Int) == 0) := by
  simp only [wrtB, h, Bool.true_and, if_true]; cases val <;> simp; omega
theorem wrtB_val {key : ByteArray} {val : List Int} (h : keyB key = true) : wrtB key false val = valB val := by simp [wrtB, h]

theorem implWrtOk_any (w : World) (key : ByteArray) (del : Bool) (v : Value) (xs : List Int) (hk : key.size ≤ maxLen) (hv : Ints w w.heap.size v xs) :
    Calls Try.prog 72 #[.agg #[.string key, .bool del, v]] w fun e w' => e = .returned (.bool (wrtB key del xs)) ∧ Below w.heap.size w w' := by
  obtain ⟨A, c, rfl, hc2, hc1⟩ := hv.form
  have hv1 := fun o => hv.alloc (Nat.le_refl _) o
  have HV := Lib.hid hv1
  clear hv1
  unfold maxLen at hc2
  rcases hkb : keyB key
  · have HK := Lib.hid (wrtB_key (del := del) (val := xs) hkb)
    go_enter Try.func72, Try.ntmps72
    go_wp2_with (go_at_call 132; refine (keyOk_any _ _ hk).mono ?_; rintro e w' ⟨rfl, rfl⟩)
    go_ret
    exact ⟨ret_bool HK.out.symm, (Below.refl _ _).alloc (Nat.le_refl _) _⟩
  · cases del
    · have HK := Lib.hid (wrtB_val (val := xs) hkb)
      go_enter Try.func72, Try.ntmps72
      go_wp2_with (first | (go_at_call 132; refine (keyOk_any _ _ hk).mono ?_; rintro e w' ⟨rfl, rfl⟩) | (go_at_call 133; refine (numbersOk_any _ _ _ _ (HV.out _)).mono ?_; rintro e w' ⟨rfl, rfl⟩))
      go_ret
      exact ⟨ret_bool HK.out.symm, (Below.refl _ _).alloc (Nat.le_refl _) _⟩
    · have HK := Lib.hid (wrtB_del (val := xs) hkb)
      go_enter Try.func72, Try.ntmps72
      go_wp2_with (go_at_call 132; refine (keyOk_any _ _ hk).mono ?_; rintro e w' ⟨rfl, rfl⟩)
      go_ret
      exact ⟨ret_bool HK.out.symm, (Below.refl _ _).alloc (Nat.le_refl _) _⟩

theorem specWrtOk_any (w : World) (key : ByteArray) (del : Bool) (v : Value) (xs : List Int) (hk : key.size ≤ maxLen) (hv : Ints w w.heap.size v xs) :
    Calls Try.prog 70 #[.agg #[.string key, .bool del, v]] w fun e w' => e = .returned (.bool (wrtB key del xs)) ∧ Below w.heap.size w w' := by
  obtain ⟨A, c, rfl, hc2, hc1⟩ := hv.form
  have hv1 := fun o => hv.alloc (Nat.le_refl _) o
  have HV := Lib.hid hv1
  clear hv1
  unfold maxLen at hc2
  rcases hkb : keyB key
  · have HK := Lib.hid (wrtB_key (del := del) (val := xs) hkb)
    cases del
    all_goals
      go_enter Try.func70, Try.ntmps70
      go_wp2_with (go_at_call 69; refine (l1Key_any _ _ hk).mono ?_; rintro e w' ⟨rfl, rfl⟩)
      go_ret
      exact ⟨ret_bool HK.out.symm, (Below.refl _ _).alloc (Nat.le_refl _) _⟩
  · cases del
    · have HK := Lib.hid (wrtB_val (val := xs) hkb)
      go_enter Try.func70, Try.ntmps70
      go_wp2_with (first | (go_at_call 69; refine (l1Key_any _ _ hk).mono ?_; rintro e w' ⟨rfl, rfl⟩) | (go_at_call 138; refine (l1Val_any _ _ _ _ (HV.out _)).mono ?_; rintro e w' ⟨rfl, rfl⟩))
      go_ret
      exact ⟨ret_bool HK.out.symm, (Below.refl _ _).alloc (Nat.le_refl _) _⟩
    · have HK := Lib.hid (wrtB_del (val := xs) hkb)
      go_enter Try.func70, Try.ntmps70
      go_wp2_with (go_at_call 69; refine (l1Key_any _ _ hk).mono ?_; rintro e w' ⟨rfl, rfl⟩)
      go_ret
      exact ⟨ret_bool HK.out.symm, (Below.refl _ _).alloc (Nat.le_refl _) _⟩

end Go.Proofs.Ytecdibpiojgppaa

/- Writes, and how they lie in memory. -/
namespace Go.Proofs.Ytecdibpiojgppaa
open Go.RowKit

structure Wr where
  key : ByteArray
  del : Bool
  val : List Int
def Wr.ok (x : Wr) : Bool := wrtB x.key x.del x.val

/-- A slice value that reads as writes, below block B. -/
def Wrts (w : World) (B : Nat) (v : Value) (ws : List Wr) : Prop :=
  ∃ A c, v = .slice A ws.length c ∧ ws.length ≤ c ∧ c ≤ maxLen ∧ (0 < ws.length → ∃ b off, A = some ⟨b, off, none⟩ ∧ b < B ∧
    ∀ j x, ws[j]? = some x → x.key.size ≤ maxLen ∧ w.cell? ⟨b, off + j * 3, none⟩ = some (.string x.key) ∧ w.cell? ⟨b, off + j * 3 + 1, none⟩ = some (.bool x.del) ∧ ∃ u, w.cell? ⟨b, off + j * 3 + 2, none⟩ = some u ∧ Ints w B u x.val)
section
variable {w w' : World} {B B' : Nat} {v : Value} {ws : List Wr}
theorem Wrts.keep (h : Wrts w B v ws) (hk : ∀ b o, b < B → w'.cell? ⟨b, o, none⟩ = w.cell? ⟨b, o, none⟩) : Wrts w' B v ws := by
  obtain ⟨A, c, hv, h1, h2, hr⟩ := h
  refine ⟨A, c, hv, h1, h2, fun hn => ?_⟩
  obtain ⟨b, off, hA, hb, hc⟩ := hr hn
  refine ⟨b, off, hA, hb, fun j x hx => ?_⟩
  obtain ⟨hs, c1, c2, u, c3, hu⟩ := hc j x hx
  exact ⟨hs, (hk b _ hb).trans c1, (hk b _ hb).trans c2, u, (hk b _ hb).trans c3, hu.keep hk⟩
theorem Wrts.below (h : Wrts w B v ws) (hb : Below B w w') : Wrts w' B v ws := h.keep fun b o hB => hb.cell (p := ⟨b, o, none⟩) hB
theorem Wrts.form (h : Wrts w B v ws) : ∃ A c, v = .slice A ws.length c ∧ c ≤ maxLen ∧ ws.length ≤ c := by
  obtain ⟨A, c, hv, h1, h2, _⟩ := h
  exact ⟨A, c, hv, h2, h1⟩
theorem Wrts.at_ (h : Wrts w B v ws) {k : Nat} (hk : k < ws.length) : ∃ b off c x u, v = .slice (some ⟨b, off, none⟩) ws.length c ∧ ws[k]? = some x ∧ b < B ∧ x.key.size ≤ maxLen ∧
    w.cell? ⟨b, off + k * 3, none⟩ = some (.string x.key) ∧ w.cell? ⟨b, off + k * 3 + 1, none⟩ = some (.bool x.del) ∧ w.cell? ⟨b, off + k * 3 + 2, none⟩ = some u ∧ Ints w B u x.val := by
  obtain ⟨A, c, hv, _, _, hr⟩ := h
  obtain ⟨b, off, hA, hb, hc⟩ := hr (by omega)
  obtain ⟨hs, c1, c2, u, c3, hu⟩ := hc k _ (List.getElem?_eq_getElem hk)
  exact ⟨b, off, c, _, u, by rw [hv, hA], List.getElem?_eq_getElem hk, hb, hs, c1, c2, c3, hu⟩
end

end Go.Proofs.Ytecdibpiojgppaa
