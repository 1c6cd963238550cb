/- GloNew and GloOk, of the program and of the model. -/
import Derived.Test.YtlmcpkijcadalaaHStoStore
import Derived.Test.YtlmcpkijcadalaaPlanSh
import Derived.Test.YtlmcpkijcadalaaPlcOkS
namespace Go.Proofs.Ytlmcpkijcadalaa
open Go.RowKit

/-- Three places that keep nothing. -/
def newG : List Sto := [⟨[]⟩, ⟨[]⟩, ⟨[]⟩]
/-- Three places keep what they may. -/
def gloB : List Sto → Bool
  | [a, b, c] => plcB 1 a.items && (plcB 2 b.items && plcB 3 c.items)
  | _ => false
def GloTo (xs : List Sto) (k : Nat) : Prop := ∀ j x, j < k → xs[j]? = some x → plcB ((j : Int) + 1) x.items = true
theorem GloTo.start (xs : List Sto) : GloTo xs 0 := fun j _ h => absurd h (by omega)
theorem GloTo.step {xs : List Sto} {k : Nat} {x : Sto} (h : GloTo xs k) (hx : xs[k]? = some x) (hp : plcB ((k : Int) + 1) x.items = true) : GloTo xs (k + 1) := by
  intro j y hj hy
  rcases Nat.lt_or_ge j k with hlt | hge
  · exact h j y hlt hy
  · have : j = k := by omega
    subst this
    rw [hx] at hy
    injection hy with hy
    rw [← hy]; exact hp
theorem len3 {α : Type} {l : List α} (h : l.length = 3) : ∃ a b c, l = [a, b, c] := by
  match l, h with
  | [a, b, c], _ => exact ⟨a, b, c, rfl⟩
theorem gloB_len {xs : List Sto} (h : xs.length ≠ 3) : gloB xs = false := by
  match xs, h with
  | [], _ => rfl
  | [_], _ => rfl
  | [_, _], _ => rfl
  | [_, _, _], h => exact absurd rfl h
  | _ :: _ :: _ :: _ :: _, _ => rfl
theorem gloB_bad {xs : List Sto} {k : Nat} {x : Sto} (h : xs.length = 3) (hx : xs[k]? = some x) (hp : plcB ((k : Int) + 1) x.items = false) : gloB xs = false := by
  obtain ⟨a, b, c, rfl⟩ := len3 h
  have hk : k = 0 ∨ k = 1 ∨ k = 2 := by
    have := (List.getElem?_eq_some_iff.1 hx).1
    simp at this; omega
  rcases hk with rfl | rfl | rfl
  · have : a = x := by simpa using hx
    subst this
    have hp' : plcB 1 a.items = false := hp
    simp [gloB, hp']
  · have : b = x := by simpa using hx
    subst this
    have hp' : plcB 2 b.items = false := hp
    simp [gloB, hp']
  · have : c = x := by simpa using hx
    subst this
    have hp' : plcB 3 c.items = false := hp
    simp [gloB, hp']
theorem gloB_yes {xs : List Sto} (h : xs.length = 3) (ht : GloTo xs 3) : gloB xs = true := by
  obtain ⟨a, b, c, rfl⟩ := len3 h
  have h1 : plcB 1 a.items = true := ht 0 a (by omega) rfl
  have h2 : plcB 2 b.items = true := ht 1 b (by omega) rfl
  have h3 : plcB 3 c.items = true := ht 2 c (by omega) rfl
  simp [gloB, h1, h2, h3]

theorem made3 (W : World) : (Instr.makeSlice 47 (.int .i64 3) (.int .i64 3)).run Try.prog W = .ok (.slice (some ⟨W.heap.size, 0, none⟩) 3 3) (W.alloc (.cells (madeCells #[.slice none 0 0] 3) 56)) := madeStoStore 3 (by omega) W
set_option maxRecDepth 100000 in
theorem implGloNew_any (w : World) : Calls Try.prog 28 #[] w (CopiedSl stoSh 56 newG w) := by
  have hmk := made3 w
  have HO := Lib.hid (Sh.Own.made stoSh 56 w 3 (by unfold maxLen; omega))
  go_enter Try.func28, Try.ntmps28
  go_wp2
  go_ret
  exact ⟨_, rfl, HO.out.mono fun b hb => ⟨by omega, by simp; omega⟩, belowOne _ _⟩
set_option maxRecDepth 100000 in
set_option maxHeartbeats 1000000 in
theorem implGloOk_any (w : World) (v : Value) (xs : List Sto) (hv : stoSh.Row w w.heap.size v xs) :
    Calls Try.prog 26 #[v] w fun e w' => e = .returned (.bool (gloB xs)) ∧ Below w.heap.size w w' := by
  obtain ⟨A, c, rfl, hc2, hc1⟩ := hv.form
  unfold maxLen at hc2
  by_cases h3 : (xs.length : Int) = 3
  · have HL := Lib.hid (show xs.length = 3 by omega)
    go_enter Try.func26, Try.ntmps26
    go_wp2
    go_loopw [10] (fun i wr => ∃ k : Nat, k ≤ xs.length ∧ i = .int .i64 k ∧ GloTo xs k ∧ Below w.heap.size w wr) (fun i _ => xs.length - (intOf i).toNat)
    case atStart => exact ⟨0, Nat.zero_le _, rfl, GloTo.start xs, Below.refl _ _⟩
    case round =>
      obtain ⟨k, hk, rfl, he, hb⟩ := hrel
      by_cases hlt : k < xs.length
      · obtain ⟨b, off, c', x, u, e1, hx, hB, hcu, hu⟩ := stos_at (hv.below hb) (k := k) hlt
        obtain ⟨A', c'', hu', _, _⟩ := hu.form
        subst hu'
        injection e1 with e1a e1b e1c
        subst e1a
        have hk3 : (k : Int) < 3 := by omega
        have HB := Lib.hid (hb.alloc hb.size (.cells #[.slice A' x.items.length c''] 56))
        have HU := Lib.hid (items_row.1 ((hu.alloc hb.size (.cells #[.slice A' x.items.length c''] 56)).more (B' := (wr.alloc (.cells #[.slice A' x.items.length c''] 56)).heap.size) (by have := hb.size; simp; omega)))
        have HI := Lib.hid hx
        have HE := Lib.hid he
        clear e1b e1c hv hu hx hb he
        rcases hp : plcB ((k : Int) + 1) x.items
        · have HK := Lib.hid (gloB_bad HL.out HI.out hp)
          have HP := Lib.hid ((Int.add_comm 1 (k : Int)) ▸ hp)
          clear hp
          go_wp2_with fail
          refine (implPlcOk_any _ _ _ _ HU.out).mono ?_
          rintro e w1 ⟨rfl, hb1⟩
          rw [HP.out]
          have HB1 := Lib.hid (HB.out.trans (hb1.mono HB.out.size))
          clear hb1
          go_wp2
          go_ret
          exact ⟨ret_bool HK.out.symm, HB1.out⟩
        · have HF := Lib.hid (HE.out.step HI.out hp)
          have HP := Lib.hid ((Int.add_comm 1 (k : Int)) ▸ hp)
          clear hp
          go_wp2_with fail
          refine (implPlcOk_any _ _ _ _ HU.out).mono ?_
          rintro e w1 ⟨rfl, hb1⟩
          rw [HP.out]
          have HB1 := Lib.hid (HB.out.trans (hb1.mono HB.out.size))
          clear hb1
          go_wp2
          go_roundw
          case rel => exact ⟨k + 1, by omega, by go_num, HF.out, HB1.out⟩
          case measure => simp [intOf]; omega
      · have HK := Lib.hid (gloB_yes HL.out ((show k = 3 by omega) ▸ he))
        clear hv
        go_wp2
        go_ret
        exact ⟨ret_bool HK.out.symm, hb⟩
  · have HK := Lib.hid (gloB_len (xs := xs) (by omega))
    clear hv
    go_enter Try.func26, Try.ntmps26
    go_wp2
    go_ret
    exact ⟨ret_bool HK.out.symm, Below.refl _ _⟩
set_option maxRecDepth 100000 in
set_option maxHeartbeats 1000000 in
theorem specGloOk_any (w : World) (v : Value) (xs : List Sto) (hv : stoSh.Row w w.heap.size v xs) :
    Calls Try.prog 32 #[v] w fun e w' => e = .returned (.bool (gloB xs)) ∧ Below w.heap.size w w' := by
  obtain ⟨A, c, rfl, hc2, hc1⟩ := hv.form
  unfold maxLen at hc2
  by_cases h3 : (xs.length : Int) = 3
  · have HL := Lib.hid (show xs.length = 3 by omega)
    go_enter Try.func32, Try.ntmps32
    go_wp2
    go_loopw [3] (fun i wr => ∃ k : Nat, k ≤ xs.length ∧ i = .int .i64 k ∧ GloTo xs k ∧ Below w.heap.size w wr) (fun i _ => xs.length - (intOf i).toNat)
    case atStart => exact ⟨0, Nat.zero_le _, rfl, GloTo.start xs, Below.refl _ _⟩
    case round =>
      obtain ⟨k, hk, rfl, he, hb⟩ := hrel
      by_cases hlt : k < xs.length
      · obtain ⟨b, off, c', x, u, e1, hx, hB, hcu, hu⟩ := stos_at (hv.below hb) (k := k) hlt
        obtain ⟨A', c'', hu', _, _⟩ := hu.form
        subst hu'
        injection e1 with e1a e1b e1c
        subst e1a
        have hk3 : (k : Int) < 3 := by omega
        have HB := Lib.hid hb
        have HU := Lib.hid (items_row.1 (hu.more (B' := wr.heap.size) hb.size))
        have HI := Lib.hid hx
        have HE := Lib.hid he
        clear e1b e1c hv hu hx hb he
        rcases hp : plcB ((k : Int) + 1) x.items
        · have HK := Lib.hid (gloB_bad HL.out HI.out hp)
          have HP := Lib.hid hp
          clear hp
          go_wp2_with fail
          refine (specPlcOk_any _ _ _ _ HU.out).mono ?_
          rintro e w1 ⟨rfl, hb1⟩
          rw [HP.out]
          have HB1 := Lib.hid (HB.out.trans (hb1.mono HB.out.size))
          clear hb1
          go_wp2
          go_ret
          exact ⟨ret_bool HK.out.symm, HB1.out⟩
        · have HF := Lib.hid (HE.out.step HI.out hp)
          have HP := Lib.hid hp
          clear hp
          go_wp2_with fail
          refine (specPlcOk_any _ _ _ _ HU.out).mono ?_
          rintro e w1 ⟨rfl, hb1⟩
          rw [HP.out]
          have HB1 := Lib.hid (HB.out.trans (hb1.mono HB.out.size))
          clear hb1
          go_wp2
          go_roundw
          case rel => exact ⟨k + 1, by omega, by go_num, HF.out, HB1.out⟩
          case measure => simp [intOf]; omega
      · have HK := Lib.hid (gloB_yes HL.out ((show k = 3 by omega) ▸ he))
        clear hv
        go_wp2
        go_ret
        exact ⟨ret_bool HK.out.symm, hb⟩
  · have HK := Lib.hid (gloB_len (xs := xs) (by omega))
    clear hv
    go_enter Try.func32, Try.ntmps32
    go_wp2
    go_ret
    exact ⟨ret_bool HK.out.symm, Below.refl _ _⟩

end Go.Proofs.Ytlmcpkijcadalaa
