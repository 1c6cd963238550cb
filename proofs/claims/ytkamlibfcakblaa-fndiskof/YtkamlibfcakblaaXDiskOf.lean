/- What DiskOf answers, of the program and of the model: the same. -/
import Derived.Test.YtkamlibfcakblaaXLastKind
namespace Go.Proofs.Ytkamlibfcakblaa
open Go.RowKit

/-- What DiskOf answers. -/
def ofD (x : Disk) (tx : Int) : Int := if diskB x = true then lastK x.notes tx else 0
theorem ofD_no {x : Disk} {tx : Int} (h : diskB x = false) : ofD x tx = 0 := by unfold ofD; rw [h]; rfl
theorem ofD_yes {x : Disk} {tx : Int} (h : diskB x = true) : ofD x tx = lastK x.notes tx := by unfold ofD; rw [h]; rfl
theorem lastK_take {ns : List Note} {tx : Int} {k : Nat} {y : Note} (h : ns[k]? = some y) : lastK (ns.take (k + 1)) tx = stepK tx (lastK (ns.take k) tx) y := by
  unfold lastK; rw [take_snoc h, List.foldl_append]; rfl

theorem l2Of_any (w : World) (B : Nat) (v : Value) (ns : List Note) (tx : Int) (hv : noteSh.Row w B v ns) :
    Calls Try.prog 63 #[v, .int .i64 tx] w fun e w' => e = .returned (.int .i64 (lastK ns tx)) ∧ w = w' := by
  obtain ⟨A, c, rfl, hc2, hc1⟩ := hv.form
  unfold maxLen at hc2
  go_enter Try.func63, Try.ntmps63
  go_wp2
  go_loop [5, 6] (fun h i => ∃ k : Nat, k ≤ ns.length ∧ i = .int .i64 k ∧ h = .int .i64 (lastK (ns.take k) tx)) (fun _ i => ns.length - (intOf i).toNat)
  case atStart => exact ⟨0, Nat.zero_le _, rfl, rfl⟩
  case round =>
    obtain ⟨k, hk, rfl, rfl⟩ := hrel
    by_cases hlt : k < ns.length
    · obtain ⟨b, off, c', y, A1, c1, A2, c2, e1, hx, hB, d0, d1, d2, d3, -⟩ := notes_at2 hv hlt
      injection e1 with e1a e1b e1c
      subst e1a
      have HT := Lib.hid (lastK_take (tx := tx) hx)
      clear e1b e1c hv hx
      by_cases h1 : y.tx = tx
      · have e1 : (y.tx == tx) = true := by simp [h1]
        by_cases h2 : y.kind = 4
        · have e2 : (y.kind != 4) = false := by simp [h2]
          have HH : Hid (stepK tx (lastK (ns.take k) tx) y = lastK (ns.take k) tx) := Lib.hid (by unfold stepK hitK; simp [h2])
          clear h1 h2
          go_wp2
          go_round
          case rel => exact ⟨k + 1, by omega, by go_num, by rw [HT.out, HH.out]⟩
          case measure => simp [intOf]; omega
        · have e2 : (y.kind != 4) = true := by simp [h2]
          have HH : Hid (stepK tx (lastK (ns.take k) tx) y = y.kind) := Lib.hid (by unfold stepK hitK; simp [h1, h2])
          clear h1 h2
          go_wp2
          go_round
          case rel => exact ⟨k + 1, by omega, by go_num, by rw [HT.out, HH.out]⟩
          case measure => simp [intOf]; omega
      · have e1 : (y.tx == tx) = false := by simp [h1]
        have HH : Hid (stepK tx (lastK (ns.take k) tx) y = lastK (ns.take k) tx) := Lib.hid (by unfold stepK hitK; simp [h1])
        clear h1
        go_wp2
        go_round
        case rel => exact ⟨k + 1, by omega, by go_num, by rw [HT.out, HH.out]⟩
        case measure => simp [intOf]; omega
    · have hks : k = ns.length := by omega
      have HE : Hid (lastK (ns.take k) tx = lastK ns tx) := Lib.hid (by rw [hks, List.take_length])
      clear hks hv
      go_wp2
      go_ret
      exact ⟨ret_int HE.out, rfl⟩

theorem specDiskOf_any (w : World) (cs : List Value) (x : Disk) (tx : Int) (h : diskSh.rel w w.heap.size cs x) :
    Calls Try.prog 14 #[.agg cs.toArray, .int .i64 tx] w fun e w' => e = .returned (.int .i64 (ofD x tx)) ∧ Below w.heap.size w w' := by
  have HH := Lib.hid fun W (hb : Below w.heap.size w W) => diskSh.rmore (diskSh.rbelow h hb) hb.size
  obtain ⟨u, rfl, hu⟩ := disk_rel.1 h
  obtain ⟨Au, cu, rfl, hcu, hnu⟩ := hu.form
  have HU := Lib.hid fun W (hb : Below w.heap.size w W) => hu.below hb
  have HX := Lib.hid (Held.new w #[.slice Au x.notes.length cu, .int .i64 x.safe] 25)
  have HW := Lib.hid (belowOne w (.cells #[.slice Au x.notes.length cu, .int .i64 x.safe] 25))
  clear h hu
  go_enter Try.func14, Try.ntmps14
  go_wp2_with fail
  refine (specDiskOk_any _ _ x (HH.out _ HW.out)).mono ?_
  rintro e w1 ⟨rfl, hb⟩
  replace HX := Lib.hid (HX.out.below hb HX.out.1)
  replace HW := Lib.hid (belowNext HW.out hb)
  clear hb
  have c0 := HX.out.of 0 _ rfl
  rcases hd : diskB x
  · go_wp2
    go_ret
    exact ⟨ret_int (ofD_no hd).symm, HW.out⟩
  · go_wp2_with fail
    refine (l2Of_any _ _ _ _ _ (HU.out _ HW.out)).mono ?_
    rintro e w2 ⟨rfl, rfl⟩
    go_wp2
    go_ret
    exact ⟨ret_int (ofD_yes hd).symm, HW.out⟩

theorem implDiskOf_any (w : World) (cs : List Value) (x : Disk) (tx : Int) (h : diskSh.rel w w.heap.size cs x) :
    Calls Try.prog 13 #[.agg cs.toArray, .int .i64 tx] w fun e w' => e = .returned (.int .i64 (ofD x tx)) ∧ Below w.heap.size w w' := by
  have HH := Lib.hid fun W (hb : Below w.heap.size w W) => diskSh.rmore (diskSh.rbelow h hb) hb.size
  obtain ⟨u, rfl, hu⟩ := disk_rel.1 h
  obtain ⟨Au, cu, rfl, hcu, hnu⟩ := hu.form
  have HU := Lib.hid fun W (hb : Below w.heap.size w W) => (hu.below hb).more hb.size
  have HX := Lib.hid (Held.new w #[.slice Au x.notes.length cu, .int .i64 x.safe] 25)
  have HW := Lib.hid (belowOne w (.cells #[.slice Au x.notes.length cu, .int .i64 x.safe] 25))
  clear h hu
  go_enter Try.func13, Try.ntmps13
  go_wp2_with fail
  refine (implDiskOk_any _ _ x (HH.out _ HW.out)).mono ?_
  rintro e w1 ⟨rfl, hb⟩
  replace HX := Lib.hid (HX.out.below hb HX.out.1)
  replace HW := Lib.hid (belowNext HW.out hb)
  clear hb
  have c0 := HX.out.of 0 _ rfl
  rcases hd : diskB x
  · go_wp2
    go_ret
    exact ⟨ret_int (ofD_no hd).symm, HW.out⟩
  · go_wp2_with fail
    refine (listOf_any _ _ x.notes (HU.out _ HW.out)).mono ?_
    rintro e w2 ⟨L, rfl, hR, hb⟩
    have HA := Lib.hid (lastKind_any w2 _ L x.notes tx hR)
    replace HW := Lib.hid (belowNext HW.out hb)
    clear hb hR c0
    unfold ptr at HA ⊢
    go_wp2_with fail
    refine HA.out.mono ?_
    rintro e w3 ⟨rfl, hb⟩
    replace HW := Lib.hid (belowNext HW.out hb)
    clear hb
    go_wp2
    go_ret
    exact ⟨ret_int (ofD_yes hd).symm, HW.out⟩

end Go.Proofs.Ytkamlibfcakblaa
