/- The walk of FnGloNoted. By notedgen.py. -/
import Derived.Test.YtfmddejgoojghaaXPlayNoted
namespace Go.Proofs.Ytfmddejgoojghaa
open Go.RowKit

set_option maxRecDepth 100000 in
set_option maxHeartbeats 2000000 in
theorem lawGloNoted_any (w : World) (v : Value) (n : Nat) (hv : Code8 w v n) :
    Calls Try.prog 8 #[v] w fun e w' => e = .returned (.bool true) ∧ Below w.heap.size w w' := by
  have HV := Lib.hid hv
  obtain ⟨A, c, f, rfl, h1, h2, -, -⟩ := hv
  unfold maxLen at h2
  by_cases hn : 1048576 < n
  · have hn' : (1048576 : Int) < (n : Int) := by omega
    go_enter Try.func8, Try.ntmps8
    go_wp2
    go_ret
    exact ⟨rfl, Below.refl _ _⟩
  have hn' : (n : Int) ≤ 1048576 := by omega
  clear hn
  go_enter Try.func8, Try.ntmps8
  go_wp2_with fail
  refine (drawGloPlay_any _ _ n HV.out).mono ?_
  rintro e w1 ⟨u, os, rfl, hol, hog, hrow, hb1⟩
  obtain ⟨Ao, co, hof, hoc, -⟩ := hrow.form
  subst hof
  unfold maxLen at hoc
  have HG := Lib.hid hog
  have HR1 := Lib.hid hrow
  have HB1 := Lib.hid hb1
  clear hrow hog hb1 HV
  go_wp2_with fail
  refine (jaGlo_any _ _ os HR1.out (by omega)).mono ?_
  rintro e w2 ⟨ul, ud, rfl, hl, hd, hb2⟩
  obtain ⟨Al, cl, hfl, hcl, -⟩ := hl.form
  obtain ⟨Ad, cd, hfd, hcd, -⟩ := hd.form
  rw [playTo_len os _ (Nat.le_refl _)] at hfd
  unfold maxLen at hcl hcd
  subst hfl
  subst hfd
  have HR2 := Lib.hid ((HR1.out.below hb2).more hb2.size)
  have HL2 := Lib.hid hl
  have HD2 := Lib.hid hd
  have HB2 := Lib.hid (belowNext HB1.out hb2)
  clear hl hd hb2 HB1 HR1
  obtain ⟨ia, ib, ic, hpa⟩ := play_at HG.out (show os.length ≤ 29 by omega) os.length (Nat.le_refl _)
  have hlen : (playTo os os.length).1.length = 3 := by rw [hpa.is]; rfl
  have HP := Lib.hid hpa
  have HLen := Lib.hid hlen
  clear hpa hlen
  have HK := Lib.hid (play_ok HG.out (show os.length ≤ 29 by omega) (Nat.le_refl os.length))
  go_wp2_with fail
  refine (implGloOk_any _ _ _ HL2.out).mono ?_
  rintro e w3 ⟨rfl, hb3⟩
  rw [HK.out]
  have HB3 := Lib.hid (belowNext HB2.out hb3)
  have HL3 := Lib.hid ((HL2.out.below hb3).more hb3.size)
  have HD3 := Lib.hid ((HD2.out.below hb3).more hb3.size)
  clear hb3 HK HL2 HD2 HB2 HR2
  go_wp2
  go_loopw [6, 7] (fun a i wr => ∃ k : Nat, k ≤ os.length ∧ i = .int .i64 k ∧ a = .int .i64 (cntT ((playTo os os.length).2.take k) : Nat) ∧ w3 = wr) (fun _ i _ => os.length - (intOf i).toNat)
  case atStart => exact ⟨0, Nat.zero_le _, rfl, rfl, rfl⟩
  case round =>
    obtain ⟨k, hk, rfl, rfl, rfl⟩ := hrel
    by_cases hlt : k < os.length
    · obtain ⟨b2, off2, c2', y, e2, hy, hB2, r0⟩ := bools_at HD3.out (k := k) (by rw [playTo_len os _ (Nat.le_refl _)]; exact hlt)
      injection e2 with e2a e2b e2c
      subst e2a
      have HC := Lib.hid (cntT_take hy)
      have hcl : cntT ((playTo os os.length).2.take k) ≤ k := by
        unfold cntT
        refine Nat.le_trans (List.length_filter_le _ _) ?_
        rw [List.length_take]; exact Nat.min_le_left _ _
      clear e2b e2c hy
      cases y with
      | false =>
        go_wp2
        go_roundw
        case rel => exact ⟨k + 1, by omega, by go_num, by rw [HC.out]; simp, by first | trivial | rfl⟩
        case measure => simp [intOf]; omega
      | true =>
        go_wp2
        go_roundw
        case rel => exact ⟨k + 1, by omega, by go_num, by rw [HC.out]; simp, by first | trivial | rfl⟩
        case measure => simp [intOf]; omega
    · have hko : k = os.length := by omega
      have HC : Hid (cntT ((playTo os os.length).2.take k) = ic.length) := Lib.hid (by rw [hko, List.take_of_length_le (by rw [playTo_len os _ (Nat.le_refl _)]; exact Nat.le_refl _)]; exact HP.out.noted.len.symm)
      subst hko
      have hlic : ic.length ≤ 25 := Nat.le_trans HP.out.lc (by omega)
      have hval := Lib.hid HP.out.noted.val
      obtain ⟨b3, off3, c3', x3, u3, e3, hx3, hB3, r3, hi3⟩ := stos_at HL3.out (k := 2) (by rw [HLen.out]; omega)
      have hx3' : x3.items = ic := by
        rw [HP.out.is] at hx3
        have : (⟨ic⟩ : Sto) = x3 := by simpa using hx3
        rw [← this]
      rw [hx3'] at hi3
      obtain ⟨A4, c4, hf4, hc4, -⟩ := hi3.form
      unfold maxLen at hc4
      subst hf4
      injection e3 with e3a e3b e3c
      subst e3a
      have HI3 := Lib.hid (items_row.1 hi3)
      rw [HC.out]
      have hl3 : ((playTo os os.length).1.length : Int) = 3 := by rw [HLen.out]; rfl
      clear e3b e3c hx3 hx3' hi3
      go_wp2
      go_loopw [8, 9] (fun i _ wr => ∃ j : Nat, j ≤ ic.length ∧ i = .int .i64 j ∧ w3 = wr) (fun i _ _ => ic.length - (intOf i).toNat)
      case atStart => exact ⟨0, Nat.zero_le _, rfl, rfl⟩
      case round =>
        obtain ⟨j, hj, rfl, rfl⟩ := hrel
        by_cases hlt2 : j < ic.length
        · obtain ⟨b5, off5, c5, it, u5, e5, hit, hB5, hs5, ck, cu, hp5⟩ := HI3.out.at_ (k := j) hlt2
          obtain ⟨m, hm, m1, m5⟩ := hval.out it (List.mem_of_getElem? hit)
          rw [hm] at hp5
          obtain ⟨A6, c6, hf6, hc6, hd6, hr6⟩ := hp5
          obtain ⟨b6, off6, hA6, hB6, hn6⟩ := hr6 (by simp)
          subst hA6
          have q0 : w3.cell? ⟨b6, off6, none⟩ = some (.int .i64 m) := by simpa [nth] using hn6 0 (by simp)
          subst hf6
          injection e5 with e5a e5b e5c
          subst e5a
          clear e5b e5c hn6 hr6 hit hm
          go_wp2
          go_roundw
          case rel => exact ⟨j + 1, by omega, by go_num, by first | trivial | rfl⟩
          case measure => simp [intOf]; omega
        · have hje : j = ic.length := by omega
          go_wp2_with fail
          refine (jaOk_any _).mono ?_
          rintro e w5 ⟨rfl, hb5⟩
          have HB5 := Lib.hid (belowNext HB3.out hb5)
          clear hb5
          go_wp2
          go_ret
          exact ⟨rfl, HB5.out⟩

end Go.Proofs.Ytfmddejgoojghaa
