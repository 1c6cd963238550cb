/- A store and a name, drawn out of a code; jaInts. -/
import Derived.Test.YtgapjkcjnlbgaaaDrawSto
import Derived.Test.YtgapjkcjnlbgaaaDrawOpen
namespace Go.Proofs.Ytgapjkcjnlbgaaa
open Go.RowKit

set_option maxRecDepth 100000 in
theorem jaInts_any (w : World) (B : Nat) (v u : Value) (xs ys : List Int) (hv : Ints w B v xs) (hu : Ints w B u ys) :
    Calls Try.prog 20 #[v, u] w fun e w' => e = .returned (.bool (decide (xs = ys))) ∧ ∃ n, w' = w.drewN n := by
  obtain ⟨A, c, rfl, hc1, hc2, hrow⟩ := hv
  obtain ⟨A', c', rfl, hc1', hc2', hrow'⟩ := hu
  unfold maxLen at hc2 hc2'
  by_cases hl : xs.length = ys.length
  · have HL := Lib.hid hl
    have hl1 : xs.length ≤ ys.length := by omega
    have hl2 : ys.length ≤ xs.length := by omega
    have hbe : (((xs.length : Nat) : Int) != ((ys.length : Nat) : Int)) = false := by simp [hl]
    clear hl
    go_enter Try.func20, Try.ntmps20
    go_wp2
    go_loopw [5] (fun i wr => ∃ k n : Nat, k ≤ xs.length ∧ i = .int .i64 k ∧ Same xs ys k ∧ wr = w.drewN n) (fun i _ => xs.length - (intOf i).toNat)
    case atStart => exact ⟨0, 0, Nat.zero_le _, rfl, Same.start xs ys, rfl⟩
    case round =>
      obtain ⟨k, n, hk, rfl, hs, rfl⟩ := hrel
      by_cases hlt : k < xs.length
      · obtain ⟨b, off, rfl, hB, hcell⟩ := hrow (by omega)
        obtain ⟨b', off', rfl, hB', hcell'⟩ := hrow' (by omega)
        have hck := hcell k hlt
        have hck' := hcell' k (by omega)
        have hlt' : k < ys.length := by omega
        clear hcell hrow hcell' hrow'
        by_cases hn : nth xs k = nth ys k
        · have hs1 := hs.step hn
          have hb1 : (nth xs k != nth ys k) = false := by simp [hn]
          clear hn
          go_wp2
          go_quiet (fail)
          go_wp2
          go_roundw
          case rel => exact ⟨k + 1, _, by omega, by go_num, hs1, rfl⟩
          case measure => simp [intOf]; omega
        · have hne := Lib.hid (nth_ne hn)
          have hb1 : (nth xs k != nth ys k) = true := by simp [hn]
          clear hn
          go_wp2
          go_quiet (fail)
          go_wp2
          go_ret
          exact ⟨ret_bool (by simp [hne.out]), _, World.drewN_drewN _ _ _⟩
      · have hks : k = xs.length := by omega
        have HE := Lib.hid ((hks ▸ hs : Same xs ys xs.length).eq HL.out)
        clear hks hrow hrow'
        go_wp2
        go_ret
        exact ⟨ret_bool (by simp [HE.out]), _, rfl⟩
  · have hne := Lib.hid (len_ne hl)
    have hbe : (((xs.length : Nat) : Int) != ((ys.length : Nat) : Int)) = true := by simp; omega
    clear hl hrow hrow'
    go_enter Try.func20, Try.ntmps20
    go_wp2
    go_ret
    exact ⟨ret_bool (by simp [hne.out]), 0, rfl⟩

set_option maxRecDepth 100000 in
theorem drawStoGet_any (w : World) (v : Value) (n : Nat) (hv : Code8 w v n) : Calls Try.prog 17 #[v] w fun e w' =>
    ∃ u its key, e = .returned (.tuple #[.agg #[u], .string key]) ∧ its.length ≤ 41 ∧ Fine4 its ∧ key.size ≤ 1000002 ∧ Items w' w'.heap.size u its ∧ Below w.heap.size w w' := by
  have HV := Lib.hid (hv.below (belowOne w (.cells #[.slice none 0 0] 25)))
  have HH := Lib.hid (Held.new w #[.slice none 0 0] 25)
  clear hv
  go_enter Try.func17, Try.ntmps17
  go_wp2_with fail
  refine (l20Open_any _ _ _ HV.out).mono ?_
  rintro e w1 ⟨rfl, hr, hb1⟩
  have HH1 := Lib.hid (HH.out.below hb1 HH.out.1)
  have HB1 := Lib.hid (belowNext (belowOne _ _) hb1)
  have hsz : (w.alloc (.cells #[.slice none 0 0] 25)).heap.size = w.heap.size + 1 := by simp
  rw [hsz] at hr
  have HR := Lib.hid (show Rds w1 (w.heap.size + 1) 0 from ⟨0, by omega, by omega, hr⟩)
  have hz1 : w.heap.size + 1 < w1.heap.size := HR.out.lt
  clear hsz
  clear hr hb1 HH HV
  go_wp2_with fail
  refine (l20Sto_any _ _ _ _ HR.out (by omega) (by omega) (by omega)).mono ?_
  rintro e w2 ⟨u, its, rfl, hl, hf, hown, hd⟩
  obtain ⟨Au, nu, cu, huf⟩ := ownSlice hown
  subst huf
  have HH2 := Lib.hid (HH1.out.drew hd (by omega))
  have HB2 := Lib.hid (HB1.out.trans (hd.below (by omega) HB1.out.size))
  have HO2 := Lib.hid hown
  have HR2 := Lib.hid hd.1
  have hz2 : w1.heap.size ≤ w2.heap.size := hd.2.size
  clear hown hd HH1 HB1 HR
  go_wp2_with fail
  refine (l20Key_any _ _ _ _ HR2.out (by omega) (by omega) (by omega)).mono ?_
  rintro e w3 ⟨key, rfl, hk, hd3⟩
  have HH3 := Lib.hid (HH2.out.drew hd3 (by omega))
  have HB3 := Lib.hid (HB2.out.trans (hd3.below (by omega) HB2.out.size))
  have HO3 := Lib.hid (HO2.out.keep (w' := w3) (fun b hb hS => hd3.2.block b hb (fun e => by have := Option.some.inj e; rcases hS with h | h <;> omega)) hd3.2.size)
  clear hd3 HH2 HB2 HO2 HR2
  have r0 := HH3.out.of 0 _ rfl
  have rf := HH3.out.2.1 0
  go_wp2
  have q0 := (HH3.out.set_ (i := 0) (.slice Au nu cu)).of 0 _ rfl
  exact bodyPost_ret (v := .tuple #[.agg #[.slice Au nu cu], .string key]) (by simp [results, Try.results17, go_sem, q0]) rfl ⟨_, its, key, rfl, hl, hf, hk, (HO3.out.setCell (p := ⟨w.heap.size, 0, none⟩) (fun h => by have : w1.heap.size ≤ w.heap.size := h; omega) (by show w.heap.size < _; omega) _).items, HB3.out.setCell (by show _ ≤ w.heap.size; omega) _⟩

end Go.Proofs.Ytgapjkcjnlbgaaa
