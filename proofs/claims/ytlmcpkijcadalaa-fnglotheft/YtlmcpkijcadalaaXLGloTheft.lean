/- The walk of FnGloTheft. -/
import Derived.Test.YtlmcpkijcadalaaXPlayNoted
import Derived.Test.YtlmcpkijcadalaaXOpsLit
namespace Go.Proofs.Ytlmcpkijcadalaa
open Go.RowKit

/-- What is done, and then an older key. -/
def theft (j : Nat) (g : Int) : List Op := begins 1 1 1 5 3 j ++ [nextO 3 g]
theorem theft_len (j : Nat) (g : Int) : (theft j g).length = 4 + j := by unfold theft; rw [List.length_append, begins_len]; simp; omega
theorem theft_way {j : Nat} {g : Int} (hj : j ≤ 10) (hg : 1 ≤ g) (hg' : g ≤ j) : (playTo (theft j g) (theft j g).length).2[3 + j]? = some true ∧ Way (theft j g) (4 + j) (one (keyN 115 1) [1]) (one (keyN 102 3) [1, (j : Int) + 1, 0]) := by
  have hl := begins_len 1 1 1 5 3 j
  have hm := way_mid (who := 1) (inn := 1) (cd := 1) (sec := 5) (fam := 3) (by omega) (by omega) (by omega) (by omega) (by omega) (theft j g) j hj fun i hi => by unfold theft; rw [List.getElem?_append_left (by rw [hl]; omega)]
  have hx : (theft j g)[3 + j]? = some (nextO 3 g) := by unfold theft; rw [List.getElem?_append_right (by rw [hl]; omega), hl, Nat.sub_self]; rfl
  obtain ⟨hd, hw⟩ := Way.next (o := nextO 3 g) hm hx (nextO_ok (by omega) ⟨by omega, by omega⟩) (by omega) rfl hg (show g ≤ (j : Int) + 1 by omega) (by omega)
  have e : nextV [1, (j : Int) + 1, 1] g = [1, (j : Int) + 1, 0] := by
    unfold nextV
    have e1 : nth [1, (j : Int) + 1, 1] 1 = (j : Int) + 1 := rfl
    rw [e1, if_pos (by omega)]; rfl
  have hw' : Way (theft j g) (3 + j + 1) (one (keyN 115 1) [1]) (one (keyN 102 3) (nextV [1, (j : Int) + 1, 1] g)) := hw
  rw [e, show 3 + j + 1 = 4 + j by omega] at hw'
  refine ⟨?_, hw'⟩
  rw [theft_len, playTo_at (theft j g) (4 + j) (by rw [theft_len]; exact Nat.le_refl _) (3 + j) _ (by omega) hx]
  exact congrArg some hd
/-- While the next keys are put in. -/
def TheftI (w : World) (j : Nat) (a : Value) (W : World) : Prop := opSh.Own 27 W (fun b => w.heap.size ≤ b) a (begins 1 1 1 5 3 j) ∧ Below w.heap.size w W
set_option maxRecDepth 100000 in
set_option maxHeartbeats 2000000 in
theorem lawGloTheft_any (w : World) (v : Value) (n : Nat) (hv : Code8 w v n) :
    Calls Try.prog 7 #[v] w fun e w' => e = .returned (.bool true) ∧ Below w.heap.size w w' := by
  obtain ⟨A, c, f, rfl, h1, h2, -, -⟩ := hv
  unfold maxLen at h2
  by_cases hn : 1048576 < n
  · have hn' : (1048576 : Int) < (n : Int) := by omega
    go_enter Try.func7, Try.ntmps7
    go_wp2
    go_ret
    exact ⟨rfl, Below.refl _ _⟩
  have hn' : (n : Int) ≤ 1048576 := by omega
  clear hn
  have HI := Lib.hid (show TheftI w 0 _ _ from ⟨(ops_lit w #[.int .i64 1, .int .i64 1, .int .i64 1, .int .i64 0, .int .i64 0, .int .i64 0, .int .i64 0, .int .i64 2, .int .i64 1, .int .i64 1, .int .i64 1, .int .i64 5, .int .i64 0, .int .i64 0, .int .i64 3, .int .i64 0, .int .i64 0, .int .i64 1, .int .i64 5, .int .i64 3, .int .i64 0] (begins 1 1 1 5 3 0) (by unfold maxLen; rw [begins_len]; omega) rfl).mono (fun b hb => by omega), belowOne w _⟩)
  go_enter Try.func7, Try.ntmps7
  go_wp2
  go_loopw [4, 5] (fun a i wr => ∃ j : Nat, j ≤ n % 6 + 1 ∧ i = .int .i64 ((j : Int) + 1) ∧ TheftI w j a wr) (fun _ i _ => 100 - (intOf i).toNat)
  case atStart => exact ⟨0, by omega, rfl, HI.out⟩
  case round =>
    clear HI
    obtain ⟨j, hj, rfl, hI⟩ := hrel
    obtain ⟨Aa, ca, hfa, hca, -⟩ := hI.1.row.form
    subst hfa
    have hj6 : j ≤ 6 := by omega
    unfold maxLen at hca
    by_cases hlt : j < n % 6 + 1
    · have ht : ((j : Int) + 1 < 2 + (n : Int) % 6) := by omega
      have HO := Lib.hid (hI.1.below (belowOne wr (.cells #[.int .i64 4, .int .i64 0, .int .i64 0, .int .i64 0, .int .i64 0, .int .i64 3, .int .i64 ((j : Int) + 1)] 27)))
      have HB := Lib.hid (belowNext hI.2 (belowOne wr (.cells #[.int .i64 4, .int .i64 0, .int .i64 0, .int .i64 0, .int .i64 0, .int .i64 3, .int .i64 ((j : Int) + 1)] 27)))
      have HS := Lib.hid (Held.new wr #[.int .i64 4, .int .i64 0, .int .i64 0, .int .i64 0, .int .i64 0, .int .i64 3, .int .i64 ((j : Int) + 1)] 27)
      clear hI
      go_wp2_with (at_builtin; refine wpl_append_sh opSh 46 27 _ 56 Try.underlying46 infoOp rfl (by decide) (by omega) rfl _ _ rfl (fun b => w.heap.size ≤ b) (fun _ => False) _ (begins 1 1 1 5 3 j) rfl HO.out wr.heap.size rfl _ (nextO 3 ((j : Int) + 1)) rfl HS.out (fun _ _ h => h) (by rw [begins_len]; omega) ?_; intro u w4 hown4 hg4 _; have HO4 := Lib.hid hown4; have HG4 := Lib.hid hg4; clear hown4 hg4)
      have hz := HB.out.size
      have HN := Lib.hid (show TheftI w (j + 1) u w4 from ⟨by
        rw [begins_more]
        refine HO4.out.mono fun b hb => ?_
        rcases hb with hb | hb | hb
        · exact hb
        · exact hb.elim
        · rw [hb]; exact hz, HB.out.trans ((Outs.of_grown HG4.out (S := fun i => w.heap.size ≤ i) fun i e => HO.out.blk i e).below hz fun _ h => h)⟩)
      clear HO4 HG4 HB HS HO hz
      go_wp2
      go_roundw
      case rel => exact ⟨j + 1, by omega, by go_num, HN.out⟩
      case measure => simp [intOf]; omega
    · have hjj : n % 6 = j - 1 := by omega
      have hlt' : ¬ ((j : Int) + 1 < 2 + (n : Int) % 6) := by omega
      have hj1 : 1 ≤ j := by omega
      have HI := Lib.hid hI
      clear hI hlt
      have hg0 : 0 ≤ (n : Int) / 6 % (2 + (n : Int) % 6 - 1) := Int.emod_nonneg _ (by omega)
      have hg1 : (n : Int) / 6 % (2 + (n : Int) % 6 - 1) < 2 + (n : Int) % 6 - 1 := Int.emod_lt_of_pos _ (by omega)
      have hg2 : (n : Int) / 6 % (2 + (n : Int) % 6 - 1) < 7 := by omega
      have HO := Lib.hid (HI.out.1.below (belowOne wr (.cells #[.int .i64 4, .int .i64 0, .int .i64 0, .int .i64 0, .int .i64 0, .int .i64 3, .int .i64 (1 + (n : Int) / 6 % (2 + (n : Int) % 6 - 1))] 27)))
      have HB := Lib.hid (belowNext HI.out.2 (belowOne wr (.cells #[.int .i64 4, .int .i64 0, .int .i64 0, .int .i64 0, .int .i64 0, .int .i64 3, .int .i64 (1 + (n : Int) / 6 % (2 + (n : Int) % 6 - 1))] 27)))
      have HS := Lib.hid (Held.new wr #[.int .i64 4, .int .i64 0, .int .i64 0, .int .i64 0, .int .i64 0, .int .i64 3, .int .i64 (1 + (n : Int) / 6 % (2 + (n : Int) % 6 - 1))] 27)
      have HW := Lib.hid (theft_way (j := j) (g := (1 + (n : Int) / 6 % (2 + (n : Int) % 6 - 1))) (by omega) (by omega) (by omega))
      have HJ := Lib.hid hjj
      clear HI hjj
      go_wp2_with (at_builtin; refine wpl_append_sh opSh 46 27 _ 56 Try.underlying46 infoOp rfl (by decide) (by omega) rfl _ _ rfl (fun b => w.heap.size ≤ b) (fun _ => False) _ (begins 1 1 1 5 3 j) rfl HO.out wr.heap.size rfl _ (nextO 3 (1 + (n : Int) / 6 % (2 + (n : Int) % 6 - 1))) rfl HS.out (fun _ _ h => h) (by rw [begins_len]; omega) ?_; intro u w4 hown4 hg4 _; have HO4 := Lib.hid hown4; have HG4 := Lib.hid hg4; clear hown4 hg4)
      have hz := HB.out.size
      have HB4 := Lib.hid (HB.out.trans ((Outs.of_grown HG4.out (S := fun i => w.heap.size ≤ i) fun i e => HO.out.blk i e).below hz fun _ h => h))
      obtain ⟨os, hos⟩ : ∃ os, os = theft j (1 + (n : Int) / 6 % (2 + (n : Int) % 6 - 1)) := ⟨_, rfl⟩
      have HR4 := Lib.hid (show opSh.Row w4 w4.heap.size u os from by rw [hos]; exact HO4.out.row)
      obtain ⟨Au, cu, hfu, hcu, -⟩ := HR4.out.form
      unfold maxLen at hcu
      have hlo : os.length = 4 + j := by rw [hos]; exact theft_len _ _
      rw [← hos] at HW
      have HLo := Lib.hid hlo
      have HOS := Lib.hid hos
      rw [hlo] at hfu
      subst hfu
      clear HO4 HG4 HB HS HO hz hlo hos
      go_wp2_with fail
      refine (jaGlo_any _ _ os HR4.out (by rw [HLo.out]; omega)).mono ?_
      rintro e w5 ⟨ul, ud, rfl, hl, hd, hb5⟩
      obtain ⟨Al, cl, hfl, hcl, -⟩ := hl.form
      obtain ⟨Ad, cd, hfd, hcd, -⟩ := hd.form
      obtain ⟨ia, ib, ic, his, hic⟩ := HW.out.2.len
      rw [HLo.out] at hl hd hfl hfd
      rw [playTo_len os _ (by rw [HLo.out]; exact Nat.le_refl _)] at hfd
      have hl3 : (playTo os (4 + j)).1.length = 3 := by rw [his]; rfl
      rw [hl3] at hfl
      unfold maxLen at hcl hcd
      subst hfl
      subst hfd
      have hd0 := HW.out.1
      rw [HLo.out] at hd0
      obtain ⟨b2, off2, c2', y, e2, hy, hB2, r0⟩ := bools_at hd (k := 3 + j) (by rw [playTo_len os _ (by rw [HLo.out]; exact Nat.le_refl _)]; omega)
      injection e2 with e2a e2b e2c
      subst e2a
      rw [hd0] at hy
      have hy' := Option.some.inj hy
      subst hy'
      obtain ⟨b3, off3, c3', x3, u3, e3, hx3, hB3, r3, hi3⟩ := stos_at hl (k := 2) (by rw [hl3]; omega)
      injection e3 with e3a e3b e3c
      subst e3a
      rw [his] at hx3
      have hx3' := Option.some.inj hx3
      subst hx3'
      obtain ⟨A3, c3, hf3, -, -⟩ := hi3.form
      rw [show (Sto.mk ic).items.length = 4 + j from hic] at hf3
      subst hf3
      have HL5 := Lib.hid hl
      have HB5 := Lib.hid (belowNext HB4.out hb5)
      clear hl hd hb5 HB4 HR4 hl3 e2b e2c hy hd0 e3b e3c hx3 hi3 his
      have n1 : ((4 + j : Nat) : Int) - 1 = ((3 + j : Nat) : Int) := by omega
      go_wp2
      clear n1
      simp only [show 4 + j - 1 = 3 + j by omega]
      go_loopw [9] (fun i wr => ∃ k : Nat, k ≤ j + 3 ∧ i = .int .i64 k ∧ Below w5.heap.size w5 wr) (fun i _ => 100 - (intOf i).toNat)
      case atStart => exact ⟨0, by omega, rfl, Below.refl _ _⟩
      case round =>
        obtain ⟨k, hk, rfl, hb⟩ := hrel
        by_cases hlk : k ≤ j + 2
        · have ht : (k : Int) ≤ 2 + (n : Int) % 6 + 1 := by have := HJ.out; omega
          have HB := Lib.hid hb
          have HF := Lib.hid (show ∀ tx : Int, tx = ((4 + j : Nat) : Int) → (gloDo (playTo os (4 + j)).1 tx (nextO 3 (k : Int))).2 = false from fun tx e => by subst e; exact Way.noNext (o := nextO 3 (k : Int)) HW.out.2 (nextO_ok (by omega) ⟨by omega, by omega⟩) (by omega) rfl)
          clear hb
          go_wp2_with fail
          refine (implGloDo_any _ _ _ ((HL5.out.below HB.out).more HB.out.size) _ (nextO 3 (k : Int))).mono ?_
          rintro e w7 ⟨u7, rfl, hu7, hb7⟩
          rw [HF.out _ (by first | rfl | omega)]
          obtain ⟨A7, c7, hf7, -, -⟩ := hu7.row.form
          subst hf7
          have HB7 := Lib.hid (HB.out.trans (hb7.mono HB.out.size))
          clear hb7 hu7 HF HB
          go_wp2
          go_roundw
          case rel => exact ⟨k + 1, by omega, by go_num, HB7.out⟩
          case measure => simp [intOf]; omega
        · have ht : ¬ (k : Int) ≤ 2 + (n : Int) % 6 + 1 := by have := HJ.out; omega
          have HB := Lib.hid hb
          have HK := Lib.hid HW.out.2.ok
          clear hb
          go_wp2_with fail
          refine (implGloOk_any _ _ _ ((HL5.out.below HB.out).more HB.out.size)).mono ?_
          rintro e w8 ⟨rfl, hb8⟩
          rw [HK.out]
          have HB8 := Lib.hid (HB5.out.trans ((HB.out.trans (hb8.mono HB.out.size)).mono HB5.out.size))
          clear hb8
          go_wp2
          go_ret
          exact ⟨rfl, HB8.out⟩

end Go.Proofs.Ytlmcpkijcadalaa
