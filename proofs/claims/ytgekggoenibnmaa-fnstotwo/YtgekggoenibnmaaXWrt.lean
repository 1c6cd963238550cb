/- Texts that follow each other, merged: Wrt, Wr, Wrts. -/
import Derived.Test.YtgekggoenibnmaaXDrawKey
import Derived.Test.YtgekggoenibnmaaXWrite
import Derived.Test.YtgekggoenibnmaaXStoOk

/- What WrtOk answers, of the program and of the model: the same bool of every write. -/
namespace Go.Proofs.Ytgekggoenibnmaa
open Go.RowKit

/-- Something that may be written: a name, and numbers, or none where it goes. -/
def wrtB (key : ByteArray) (del : Bool) (val : List Int) : Bool := keyB key && if del then val.isEmpty else valB val
theorem wrtB_key {key : ByteArray} {del : Bool} {val : List Int} (h : keyB key = false) : wrtB key del val = false := by simp [wrtB, h]
theorem wrtB_del {key : ByteArray} {val : List Int} (h : keyB key = true) : wrtB key true val = ((val.length : Int) == 0) := by
  simp only [wrtB, h, Bool.true_and, if_true]; cases val <;> simp; omega
theorem wrtB_val {key : ByteArray} {val : List Int} (h : keyB key = true) : wrtB key false val = valB val := by simp [wrtB, h]

theorem implWrtOk_any (w : World) (key : ByteArray) (del : Bool) (v : Value) (xs : List Int) (hk : key.size ≤ maxLen) (hv : Ints w w.heap.size v xs) :
    Calls Try.prog 74 #[.agg #[.string key, .bool del, v]] w fun e w' => e = .returned (.bool (wrtB key del xs)) ∧ Below w.heap.size w w' := by
  obtain ⟨A, c, rfl, hc2, hc1⟩ := hv.form
  have hv1 := fun o => hv.alloc (Nat.le_refl _) o
  have HV := Lib.hid hv1
  clear hv1
  unfold maxLen at hc2
  rcases hkb : keyB key
  · have HK := Lib.hid (wrtB_key (del := del) (val := xs) hkb)
    go_enter Try.func74, Try.ntmps74
    go_wp2_with (go_at_call 75; refine (keyOk_any _ _ hk).mono ?_; rintro e w' ⟨rfl, rfl⟩)
    go_ret
    exact ⟨ret_bool HK.out.symm, (Below.refl _ _).alloc (Nat.le_refl _) _⟩
  · cases del
    · have HK := Lib.hid (wrtB_val (val := xs) hkb)
      go_enter Try.func74, Try.ntmps74
      go_wp2_with (first | (go_at_call 75; refine (keyOk_any _ _ hk).mono ?_; rintro e w' ⟨rfl, rfl⟩) | (go_at_call 76; refine (numbersOk_any _ _ _ _ (HV.out _)).mono ?_; rintro e w' ⟨rfl, rfl⟩))
      go_ret
      exact ⟨ret_bool HK.out.symm, (Below.refl _ _).alloc (Nat.le_refl _) _⟩
    · have HK := Lib.hid (wrtB_del (val := xs) hkb)
      go_enter Try.func74, Try.ntmps74
      go_wp2_with (go_at_call 75; refine (keyOk_any _ _ hk).mono ?_; rintro e w' ⟨rfl, rfl⟩)
      go_ret
      exact ⟨ret_bool HK.out.symm, (Below.refl _ _).alloc (Nat.le_refl _) _⟩

theorem specWrtOk_any (w : World) (key : ByteArray) (del : Bool) (v : Value) (xs : List Int) (hk : key.size ≤ maxLen) (hv : Ints w w.heap.size v xs) :
    Calls Try.prog 37 #[.agg #[.string key, .bool del, v]] w fun e w' => e = .returned (.bool (wrtB key del xs)) ∧ Below w.heap.size w w' := by
  obtain ⟨A, c, rfl, hc2, hc1⟩ := hv.form
  have hv1 := fun o => hv.alloc (Nat.le_refl _) o
  have HV := Lib.hid hv1
  clear hv1
  unfold maxLen at hc2
  rcases hkb : keyB key
  · have HK := Lib.hid (wrtB_key (del := del) (val := xs) hkb)
    cases del
    all_goals
      go_enter Try.func37, Try.ntmps37
      go_wp2_with (go_at_call 72; refine (l1Key_any _ _ hk).mono ?_; rintro e w' ⟨rfl, rfl⟩)
      go_ret
      exact ⟨ret_bool HK.out.symm, (Below.refl _ _).alloc (Nat.le_refl _) _⟩
  · cases del
    · have HK := Lib.hid (wrtB_val (val := xs) hkb)
      go_enter Try.func37, Try.ntmps37
      go_wp2_with (first | (go_at_call 72; refine (l1Key_any _ _ hk).mono ?_; rintro e w' ⟨rfl, rfl⟩) | (go_at_call 73; refine (l1Val_any _ _ _ _ (HV.out _)).mono ?_; rintro e w' ⟨rfl, rfl⟩))
      go_ret
      exact ⟨ret_bool HK.out.symm, (Below.refl _ _).alloc (Nat.le_refl _) _⟩
    · have HK := Lib.hid (wrtB_del (val := xs) hkb)
      go_enter Try.func37, Try.ntmps37
      go_wp2_with (go_at_call 72; refine (l1Key_any _ _ hk).mono ?_; rintro e w' ⟨rfl, rfl⟩)
      go_ret
      exact ⟨ret_bool HK.out.symm, (Below.refl _ _).alloc (Nat.le_refl _) _⟩

end Go.Proofs.Ytgekggoenibnmaa

/- Writes, and how they lie in memory. -/
namespace Go.Proofs.Ytgekggoenibnmaa
open Go.RowKit

structure Wr where
  key : ByteArray
  del : Bool
  val : List Int
def Wr.ok (x : Wr) : Bool := wrtB x.key x.del x.val

/-- A slice value that reads as writes, below block B. -/
def Wrts (w : World) (B : Nat) (v : Value) (ws : List Wr) : Prop :=
  ∃ A c, v = .slice A ws.length c ∧ ws.length ≤ c ∧ c ≤ maxLen ∧ (0 < ws.length → ∃ b off, A = some ⟨b, off, none⟩ ∧ b < B ∧
    ∀ j x, ws[j]? = some x → x.key.size ≤ maxLen ∧ w.cell? ⟨b, off + j * 3, none⟩ = some (.string x.key) ∧ w.cell? ⟨b, off + j * 3 + 1, none⟩ = some (.bool x.del) ∧ ∃ u, w.cell? ⟨b, off + j * 3 + 2, none⟩ = some u ∧ Ints w B u x.val)
section
variable {w w' : World} {B B' : Nat} {v : Value} {ws : List Wr}
theorem Wrts.keep (h : Wrts w B v ws) (hk : ∀ b o, b < B → w'.cell? ⟨b, o, none⟩ = w.cell? ⟨b, o, none⟩) : Wrts w' B v ws := by
  obtain ⟨A, c, hv, h1, h2, hr⟩ := h
  refine ⟨A, c, hv, h1, h2, fun hn => ?_⟩
  obtain ⟨b, off, hA, hb, hc⟩ := hr hn
  refine ⟨b, off, hA, hb, fun j x hx => ?_⟩
  obtain ⟨hs, c1, c2, u, c3, hu⟩ := hc j x hx
  exact ⟨hs, (hk b _ hb).trans c1, (hk b _ hb).trans c2, u, (hk b _ hb).trans c3, hu.keep hk⟩
theorem Wrts.below (h : Wrts w B v ws) (hb : Below B w w') : Wrts w' B v ws := h.keep fun b o hB => hb.cell (p := ⟨b, o, none⟩) hB
theorem Wrts.form (h : Wrts w B v ws) : ∃ A c, v = .slice A ws.length c ∧ c ≤ maxLen ∧ ws.length ≤ c := by
  obtain ⟨A, c, hv, h1, h2, _⟩ := h
  exact ⟨A, c, hv, h2, h1⟩
theorem Wrts.at_ (h : Wrts w B v ws) {k : Nat} (hk : k < ws.length) : ∃ b off c x u, v = .slice (some ⟨b, off, none⟩) ws.length c ∧ ws[k]? = some x ∧ b < B ∧ x.key.size ≤ maxLen ∧
    w.cell? ⟨b, off + k * 3, none⟩ = some (.string x.key) ∧ w.cell? ⟨b, off + k * 3 + 1, none⟩ = some (.bool x.del) ∧ w.cell? ⟨b, off + k * 3 + 2, none⟩ = some u ∧ Ints w B u x.val := by
  obtain ⟨A, c, hv, _, _, hr⟩ := h
  obtain ⟨b, off, hA, hb, hc⟩ := hr (by omega)
  obtain ⟨hs, c1, c2, u, c3, hu⟩ := hc k _ (List.getElem?_eq_getElem hk)
  exact ⟨b, off, c, _, u, by rw [hv, hA], List.getElem?_eq_getElem hk, hb, hs, c1, c2, c3, hu⟩
end

end Go.Proofs.Ytgekggoenibnmaa

/- Writes, one behind the other: plain facts. -/
namespace Go.Proofs.Ytgekggoenibnmaa
open Go.RowKit

/-- What the model's StoDo answers, in plain words. -/
def doStep (o : Option (List Item)) (x : Wr) : Option (List Item) :=
  o.bind fun its => if x.ok = true then (if 40 < (wAll x.key x.del x.val its).length then none else some (wAll x.key x.del x.val its)) else none
def doAll (its : List Item) (ws : List Wr) : Option (List Item) := if stoB its = true then ws.foldl doStep (some its) else none
def stoDo (its : List Item) (ws : List Wr) : List Item := (doAll its ws).getD []

theorem foldNone (ws : List Wr) : ws.foldl doStep none = none := by
  induction ws with
  | nil => rfl
  | cons x ws ih => exact ih
theorem doTake {ws : List Wr} {k : Nat} {x : Wr} (h : ws[k]? = some x) (o : Option (List Item)) : (ws.take (k + 1)).foldl doStep o = doStep ((ws.take k).foldl doStep o) x := by
  rw [List.take_add_one, h, List.foldl_append]; rfl
theorem doStop {ws : List Wr} {k : Nat} {o : Option (List Item)} (h : (ws.take k).foldl doStep o = none) : ws.foldl doStep o = none := by
  rw [← List.take_append_drop k ws, List.foldl_append, h, foldNone]

/-- All names and numbers are short. -/
def Fine (its : List Item) : Prop := ∀ it ∈ its, it.key.size ≤ 3 ∧ it.val.length ≤ 3
theorem Fine.short {its : List Item} (h : Fine its) : Short its its.length := fun _ it _ hx => by
  have := h it (List.mem_of_getElem? hx)
  omega
theorem keyB_le3 {s : ByteArray} (h : keyB s = true) : s.size ≤ 3 := by
  unfold keyB at h
  rw [decide_eq_true_iff] at h
  exact h.2.1
theorem valB_le3 {l : List Int} (h : valB l = true) : l.length ≤ 3 := by
  unfold valB at h
  simp at h
  omega
theorem stoB_fine {its : List Item} (h : stoB its = true) : its.length ≤ 40 ∧ Fine its := by
  unfold stoB at h
  simp only [Bool.and_eq_true, decide_eq_true_iff, List.all_eq_true] at h
  refine ⟨h.1, fun it hi => ?_⟩
  have := h.2.1 it hi
  unfold itemB at this
  simp only [Bool.and_eq_true] at this
  exact ⟨keyB_le3 this.1, valB_le3 this.2⟩
theorem Wr.fine {x : Wr} (h : x.ok = true) : x.key.size ≤ 3 ∧ x.val.length ≤ 3 := by
  unfold Wr.ok wrtB at h
  simp only [Bool.and_eq_true] at h
  refine ⟨keyB_le3 h.1, ?_⟩
  have h2 := h.2
  cases hd : x.del with
  | true => rw [hd] at h2; simp at h2; simp [h2]
  | false => rw [hd] at h2; exact valB_le3 (by simpa using h2)
theorem Fine.snoc {its : List Item} {it : Item} (h : Fine its) (h1 : it.key.size ≤ 3 ∧ it.val.length ≤ 3) : Fine (its ++ [it]) := by
  intro x hx
  rcases List.mem_append.1 hx with h' | h'
  · exact h x h'
  · have : x = it := by simpa using h'
    rw [this]; exact h1
theorem Fine.wst {wk : ByteArray} {del : Bool} {wv : List Int} {st : List Item × Bool} {it : Item} (h : Fine st.1) (hw : wk.size ≤ 3 ∧ wv.length ≤ 3) (hi : it.key.size ≤ 3 ∧ it.val.length ≤ 3) : Fine (wst wk del wv st it).1 := by
  have h1 : Fine (wst1 wk wv st it).1 := by
    unfold wst1; split
    · exact h.snoc hw
    · exact h
  unfold Go.Proofs.Ytgekggoenibnmaa.wst wst2; split
  · split
    · exact h1
    · exact h1.snoc hw
  · exact h1.snoc hi
theorem Fine.wAll {wk : ByteArray} {del : Bool} {wv : List Int} {its : List Item} (h : Fine its) (hw : wk.size ≤ 3 ∧ wv.length ≤ 3) : Fine (wAll wk del wv its) := by
  have hf : ∀ (l : List Item) (st : List Item × Bool), Fine l → Fine st.1 → Fine (l.foldl (Go.Proofs.Ytgekggoenibnmaa.wst wk del wv) st).1 := by
    intro l
    induction l with
    | nil => intro st _ hs; exact hs
    | cons x l ih => intro st hl hs; exact ih _ (fun y hy => hl y (List.mem_cons_of_mem _ hy)) (Fine.wst hs hw (hl x (List.mem_cons_self)))
  have h1 := hf its ([], del) h (fun _ hx => by simp at hx)
  unfold Go.Proofs.Ytgekggoenibnmaa.wAll; split
  · exact h1
  · exact Fine.snoc h1 hw

end Go.Proofs.Ytgekggoenibnmaa
