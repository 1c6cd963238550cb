/- The walk of FnGloWay. -/
import Derived.Test.YtlmcpkijcadalaaXPlayNoted
import Derived.Test.YtlmcpkijcadalaaXOpsLit
namespace Go.Proofs.Ytlmcpkijcadalaa
open Go.RowKit

section
variable {who inn cd sec fam : Int}
/-- All that one does, till one goes out. -/
def wayOps (who inn cd sec fam : Int) (j : Nat) : List Op := begins who inn cd sec fam j ++ [outO who inn]
def lateOps (who inn cd sec fam g fam' : Int) : List Op := [nextO fam g, tradeO cd sec fam', nextO fam 1, letO who inn cd sec, outO who inn]
theorem wayOps_len (who inn cd sec fam : Int) (j : Nat) : (wayOps who inn cd sec fam j).length = 4 + j := by unfold wayOps; rw [List.length_append, begins_len]; simp; omega
theorem way_all (h1 : 0 ≤ who ∧ who ≤ 9) (h2 : 0 ≤ inn ∧ inn ≤ 9) (h3 : 0 ≤ cd ∧ cd ≤ 9) (h4 : 0 ≤ sec ∧ sec ≤ 99) (h5 : 0 ≤ fam ∧ fam ≤ 9) {j : Nat} (hj : j ≤ 10) : Way (wayOps who inn cd sec fam j) (4 + j) nil_ (one (keyN 102 fam) [who, (j : Int) + 1, 0]) := by
  have hl := begins_len who inn cd sec fam j
  have hm := way_mid h1 h2 h3 h4 h5 (wayOps who inn cd sec fam j) j hj fun i hi => by unfold wayOps; rw [List.getElem?_append_left (by rw [hl]; omega)]
  have hx : (wayOps who inn cd sec fam j)[3 + j]? = some (outO who inn) := by unfold wayOps; rw [List.getElem?_append_right (by rw [hl]; omega), hl, Nat.sub_self]; rfl
  have := (Way.out (o := outO who inn) (fam := fam) (g := (j : Int) + 1) hm hx (outO_ok h1 h2) (by omega) rfl).2
  rw [show 3 + j + 1 = 4 + j by omega] at this
  exact this
theorem way_late (h1 : 0 ≤ who ∧ who ≤ 9) (h2 : 0 ≤ inn ∧ inn ≤ 9) (h3 : 0 ≤ cd ∧ cd ≤ 9) (h4 : 0 ≤ sec ∧ sec ≤ 99) (h5 : 0 ≤ fam ∧ fam ≤ 9) {os : List Op} {k : Nat} {x : Int} (h : Way os k nil_ (one (keyN 102 fam) [who, x, 0])) (hk : k ≤ 29) {g fam' : Int} (hg : 0 ≤ g ∧ g ≤ 99) (hf : 0 ≤ fam' ∧ fam' ≤ 9) : ∀ o ∈ lateOps who inn cd sec fam g fam', (gloDo (playTo os k).1 k o).2 = false := by
  intro o ho
  unfold lateOps at ho
  simp only [List.mem_cons, List.not_mem_nil, or_false] at ho
  rcases ho with rfl | rfl | rfl | rfl | rfl
  · exact Way.noNext (o := nextO fam g) h (nextO_ok h5 hg) hk rfl
  · exact Way.noTrade h (tradeO_ok h3 h4 hf) hk rfl
  · exact Way.noNext (o := nextO fam 1) h (nextO_ok h5 (by omega)) hk rfl
  · exact Way.noMine h (letO_ok h1 h2 h3 h4) hk (.inl rfl)
  · exact Way.noMine h (outO_ok h1 h2) hk (.inr rfl)
end
/-- While the next keys are put in. -/
def WayI (w : World) (who inn cd sec fam : Int) (j : Nat) (a : Value) (W : World) : Prop := opSh.Own 27 W (fun b => w.heap.size ≤ b) a (begins who inn cd sec fam j) ∧ Below w.heap.size w W
set_option maxRecDepth 100000 in
set_option maxHeartbeats 4000000 in
theorem lawGloWay_any (w : World) (v : Value) (n : Nat) (hv : Code8 w v n) :
    Calls Try.prog 6 #[v] w fun e w' => e = .returned (.bool true) ∧ Below w.heap.size w w' := by
  obtain ⟨A, c, f, rfl, h1, h2, -, -⟩ := hv
  unfold maxLen at h2
  by_cases hn : 1048576 < n
  · have hn' : (1048576 : Int) < (n : Int) := by omega
    go_enter Try.func6, Try.ntmps6
    go_wp2
    go_ret
    exact ⟨rfl, Below.refl _ _⟩
  have hn' : (n : Int) ≤ 1048576 := by omega
  clear hn
  obtain ⟨who, e1, w9⟩ : ∃ x : Nat, (n : Int) % 10 = (x : Int) ∧ x ≤ 9 := ⟨n % 10, by omega, by omega⟩
  obtain ⟨inn, e2, i9⟩ : ∃ x : Nat, (n : Int) / 3 % 10 = (x : Int) ∧ x ≤ 9 := ⟨n / 3 % 10, by omega, by omega⟩
  obtain ⟨cd, e3, c9⟩ : ∃ x : Nat, (n : Int) / 7 % 10 = (x : Int) ∧ x ≤ 9 := ⟨n / 7 % 10, by omega, by omega⟩
  obtain ⟨sec, e4, s9⟩ : ∃ x : Nat, (n : Int) % 100 = (x : Int) ∧ x ≤ 99 := ⟨n % 100, by omega, by omega⟩
  obtain ⟨fam, e5, f9⟩ : ∃ x : Nat, (n : Int) / 5 % 10 = (x : Int) ∧ x ≤ 9 := ⟨n / 5 % 10, by omega, by omega⟩
  obtain ⟨K, e6, K5⟩ : ∃ K : Nat, (n : Int) % 6 = (K : Int) ∧ K ≤ 5 := ⟨n % 6, by omega, by omega⟩
  have HI := Lib.hid (show WayI w (who : Int) (inn : Int) (cd : Int) (sec : Int) (fam : Int) 0 _ _ from ⟨(ops_lit w #[.int .i64 1, .int .i64 (who : Int), .int .i64 (inn : Int), .int .i64 0, .int .i64 0, .int .i64 0, .int .i64 0, .int .i64 2, .int .i64 (who : Int), .int .i64 (inn : Int), .int .i64 (cd : Int), .int .i64 (sec : Int), .int .i64 0, .int .i64 0, .int .i64 3, .int .i64 0, .int .i64 0, .int .i64 (cd : Int), .int .i64 (sec : Int), .int .i64 (fam : Int), .int .i64 0] (begins (who : Int) (inn : Int) (cd : Int) (sec : Int) (fam : Int) 0) (by unfold maxLen; rw [begins_len]; omega) rfl).mono (fun b hb => by omega), belowOne w _⟩)
  go_enter Try.func6, Try.ntmps6
  go_wp2
  simp only [e1, e2, e3, e4, e5]
  clear e1 e2 e3 e4 e5 e6
  go_loopw [9, 11] (fun a i wr => ∃ j : Nat, j ≤ K + 1 ∧ i = .int .i64 ((j : Int) + 1) ∧ WayI w (who : Int) (inn : Int) (cd : Int) (sec : Int) (fam : Int) j a wr) (fun _ i _ => 100 - (intOf i).toNat)
  case atStart => exact ⟨0, by omega, rfl, HI.out⟩
  case round =>
    clear HI
    obtain ⟨j, hj, rfl, hI⟩ := hrel
    obtain ⟨Aa, ca, hfa, hca, -⟩ := hI.1.row.form
    subst hfa
    unfold maxLen at hca
    by_cases hlt : j < K + 1
    · have ht : ((j : Int) + 1 ≤ 1 + (K : Int)) := by omega
      have HO := Lib.hid (hI.1.below (belowOne wr (.cells #[.int .i64 4, .int .i64 0, .int .i64 0, .int .i64 0, .int .i64 0, .int .i64 (fam : Int), .int .i64 ((j : Int) + 1)] 27)))
      have HB := Lib.hid (belowNext hI.2 (belowOne wr (.cells #[.int .i64 4, .int .i64 0, .int .i64 0, .int .i64 0, .int .i64 0, .int .i64 (fam : Int), .int .i64 ((j : Int) + 1)] 27)))
      have HS := Lib.hid (Held.new wr #[.int .i64 4, .int .i64 0, .int .i64 0, .int .i64 0, .int .i64 0, .int .i64 (fam : Int), .int .i64 ((j : Int) + 1)] 27)
      clear hI
      go_wp2_with (at_builtin; refine wpl_append_sh opSh 46 27 _ 56 Try.underlying46 infoOp rfl (by decide) (by omega) rfl _ _ rfl (fun b => w.heap.size ≤ b) (fun _ => False) _ (begins (who : Int) (inn : Int) (cd : Int) (sec : Int) (fam : Int) j) rfl HO.out wr.heap.size rfl _ (nextO (fam : Int) ((j : Int) + 1)) rfl HS.out (fun _ _ h => h) (by rw [begins_len]; omega) ?_; intro u w4 hown4 hg4 _; have HO4 := Lib.hid hown4; have HG4 := Lib.hid hg4; clear hown4 hg4)
      have hz := HB.out.size
      have HN := Lib.hid (show WayI w (who : Int) (inn : Int) (cd : Int) (sec : Int) (fam : Int) (j + 1) u w4 from ⟨by
        rw [begins_more]
        refine HO4.out.mono fun b hb => ?_
        rcases hb with hb | hb | hb
        · exact hb
        · exact hb.elim
        · rw [hb]; exact hz, HB.out.trans ((Outs.of_grown HG4.out (S := fun i => w.heap.size ≤ i) fun i e => HO.out.blk i e).below hz fun _ h => h)⟩)
      clear HO4 HG4 HB HS HO hz
      go_wp2
      go_roundw
      case rel => exact ⟨j + 1, by omega, by go_num, HN.out⟩
      case measure => simp [intOf]; omega
    · have hjj : j = K + 1 := by omega
      have hlt' : ¬ ((j : Int) + 1 ≤ 1 + (K : Int)) := by omega
      have HO := Lib.hid (hI.1.below (belowOne wr (.cells #[.int .i64 5, .int .i64 (who : Int), .int .i64 (inn : Int), .int .i64 0, .int .i64 0, .int .i64 0, .int .i64 0] 27)))
      have HB := Lib.hid (belowNext hI.2 (belowOne wr (.cells #[.int .i64 5, .int .i64 (who : Int), .int .i64 (inn : Int), .int .i64 0, .int .i64 0, .int .i64 0, .int .i64 0] 27)))
      have HS := Lib.hid (Held.new wr #[.int .i64 5, .int .i64 (who : Int), .int .i64 (inn : Int), .int .i64 0, .int .i64 0, .int .i64 0, .int .i64 0] 27)
      have HW := Lib.hid (way_all (who := (who : Int)) (inn := (inn : Int)) (cd := (cd : Int)) (sec := (sec : Int)) (fam := (fam : Int)) ⟨by omega, by omega⟩ ⟨by omega, by omega⟩ ⟨by omega, by omega⟩ ⟨by omega, by omega⟩ ⟨by omega, by omega⟩ (j := j) (by omega))
      have HJ := Lib.hid hjj
      clear hI hlt hj hjj
      go_wp2_with (at_builtin; refine wpl_append_sh opSh 46 27 _ 56 Try.underlying46 infoOp rfl (by decide) (by omega) rfl _ _ rfl (fun b => w.heap.size ≤ b) (fun _ => False) _ (begins (who : Int) (inn : Int) (cd : Int) (sec : Int) (fam : Int) j) rfl HO.out wr.heap.size rfl _ (outO (who : Int) (inn : Int)) rfl HS.out (fun _ _ h => h) (by rw [begins_len]; have := HJ.out; omega) ?_; intro u w4 hown4 hg4 _; have HO4 := Lib.hid hown4; have HG4 := Lib.hid hg4; clear hown4 hg4)
      have hz := HB.out.size
      have HB4 := Lib.hid (HB.out.trans ((Outs.of_grown HG4.out (S := fun i => w.heap.size ≤ i) fun i e => HO.out.blk i e).below hz fun _ h => h))
      obtain ⟨os, hos⟩ : ∃ os, os = wayOps (who : Int) (inn : Int) (cd : Int) (sec : Int) (fam : Int) j := ⟨_, rfl⟩
      have HR4 := Lib.hid (show opSh.Row w4 w4.heap.size u os from by rw [hos]; exact HO4.out.row)
      obtain ⟨Au, cu, hfu, hcu, -⟩ := HR4.out.form
      unfold maxLen at hcu
      have hlo : os.length = 5 + K := by rw [hos, wayOps_len, HJ.out]; omega
      rw [← hos, show 4 + j = 5 + K by rw [HJ.out]; omega] at HW
      have HLo := Lib.hid hlo
      rw [hlo] at hfu
      subst hfu
      clear HO4 HG4 HB HS HO hz hlo hos
      go_wp2_with fail
      refine (jaGlo_any _ _ os HR4.out (by rw [HLo.out]; omega)).mono ?_
      rintro e w5 ⟨ul, ud, rfl, hl, hd, hb5⟩
      obtain ⟨Al, cl, hfl, hcl, -⟩ := hl.form
      obtain ⟨Ad, cd', hfd, hcd, -⟩ := hd.form
      rw [HLo.out] at hl hd hfl hfd
      rw [playTo_len os _ (by rw [HLo.out]; exact Nat.le_refl _)] at hfd
      unfold maxLen at hcl hcd
      subst hfl
      subst hfd
      have HL5 := Lib.hid hl
      have HD5 := Lib.hid hd
      have HB5 := Lib.hid (belowNext HB4.out hb5)
      clear hl hd hb5 HB4 HR4
      go_wp2
      go_loopw [14] (fun i wr => ∃ k : Nat, k ≤ 5 + K ∧ i = .int .i64 k ∧ w5 = wr) (fun i _ => 5 + K - (intOf i).toNat)
      case atStart => exact ⟨0, Nat.zero_le _, rfl, rfl⟩
      case round =>
        obtain ⟨k, hk, rfl, rfl⟩ := hrel
        by_cases hlt : k < 5 + K
        · obtain ⟨b2, off2, c2', y, e2, hy, hB2, r0⟩ := bools_at HD5.out (k := k) (by rw [playTo_len os _ (by rw [HLo.out]; exact Nat.le_refl _)]; exact hlt)
          injection e2 with e2a e2b e2c
          subst e2a
          rw [HW.out.all, List.getElem?_replicate, if_pos hlt] at hy
          have hy' := Option.some.inj hy
          subst hy'
          clear e2b e2c hy
          go_wp2
          go_roundw
          case rel => exact ⟨k + 1, by omega, by go_num, by first | trivial | rfl⟩
          case measure => simp [intOf]; omega
        · have hko : k = 5 + K := by omega
          have HLate := Lib.hid (way_late (who := (who : Int)) (inn := (inn : Int)) (cd := (cd : Int)) (sec := (sec : Int)) (fam := (fam : Int)) ⟨by omega, by omega⟩ ⟨by omega, by omega⟩ ⟨by omega, by omega⟩ ⟨by omega, by omega⟩ ⟨by omega, by omega⟩ HW.out (by omega) (g := 1 + (K : Int) + 1) (fam' := ((fam : Int) + 1) % 10) ⟨by omega, by omega⟩ ⟨by omega, by omega⟩)
          have HLR := Lib.hid (ops_lit w5 #[.int .i64 4, .int .i64 0, .int .i64 0, .int .i64 0, .int .i64 0, .int .i64 (fam : Int), .int .i64 (1 + (K : Int) + 1), .int .i64 3, .int .i64 0, .int .i64 0, .int .i64 (cd : Int), .int .i64 (sec : Int), .int .i64 (((fam : Int) + 1) % 10), .int .i64 0, .int .i64 4, .int .i64 0, .int .i64 0, .int .i64 0, .int .i64 0, .int .i64 (fam : Int), .int .i64 1, .int .i64 2, .int .i64 (who : Int), .int .i64 (inn : Int), .int .i64 (cd : Int), .int .i64 (sec : Int), .int .i64 0, .int .i64 0, .int .i64 5, .int .i64 (who : Int), .int .i64 (inn : Int), .int .i64 0, .int .i64 0, .int .i64 0, .int .i64 0] (lateOps (who : Int) (inn : Int) (cd : Int) (sec : Int) (fam : Int) (1 + (K : Int) + 1) (((fam : Int) + 1) % 10)) (by unfold maxLen; simp [lateOps]) rfl).row
          have HB6 := Lib.hid (belowOne w5 (.cells #[.int .i64 4, .int .i64 0, .int .i64 0, .int .i64 0, .int .i64 0, .int .i64 (fam : Int), .int .i64 (1 + (K : Int) + 1), .int .i64 3, .int .i64 0, .int .i64 0, .int .i64 (cd : Int), .int .i64 (sec : Int), .int .i64 (((fam : Int) + 1) % 10), .int .i64 0, .int .i64 4, .int .i64 0, .int .i64 0, .int .i64 0, .int .i64 0, .int .i64 (fam : Int), .int .i64 1, .int .i64 2, .int .i64 (who : Int), .int .i64 (inn : Int), .int .i64 (cd : Int), .int .i64 (sec : Int), .int .i64 0, .int .i64 0, .int .i64 5, .int .i64 (who : Int), .int .i64 (inn : Int), .int .i64 0, .int .i64 0, .int .i64 0, .int .i64 0] 27))
          clear hk
          go_wp2
          go_loopw [16] (fun i wr => ∃ k : Nat, k ≤ 5 ∧ i = .int .i64 k ∧ opSh.Row wr wr.heap.size (.slice (some ⟨w5.heap.size, 0, none⟩) 5 5) (lateOps (who : Int) (inn : Int) (cd : Int) (sec : Int) (fam : Int) (1 + (K : Int) + 1) (((fam : Int) + 1) % 10)) ∧ Below w5.heap.size w5 wr) (fun i _ => 5 - (intOf i).toNat)
          case atStart => exact ⟨0, by omega, rfl, HLR.out, HB6.out⟩
          case round =>
            clear HLR HB6
            obtain ⟨q, hq, rfl, hr, hb⟩ := hrel
            by_cases hq5 : q < 5
            · obtain ⟨b, off, c', o, e1, ho, hB, q0, q1, q2, q3, q4, q5, q6⟩ := ops_at hr (k := q) hq5
              injection e1 with e1a e1b e1c
              injection e1a with e1a
              injection e1a with e1x e1y
              subst e1x
              have hoff : off = 0 := e1y.symm
              subst hoff
              have HNo := Lib.hid (HLate.out o (List.mem_of_getElem? ho))
              have HR := Lib.hid hr
              have HB := Lib.hid hb
              clear hr hb e1b e1c ho e1y
              simp only [Nat.zero_add] at q0 q1 q2 q3 q4 q5 q6
              go_wp2_with fail
              clear q0 q1 q2 q3 q4 q5 q6
              refine (implGloDo_any _ _ _ ((HL5.out.below HB.out).more HB.out.size) _ o).mono ?_
              rintro e w7 ⟨u7, rfl, hu7, hb7⟩
              have HF := Lib.hid (show ∀ tx : Int, tx = ((5 + K : Nat) : Int) → (gloDo (playTo os (5 + K)).1 tx o).2 = false from fun tx e => by subst e; exact HNo.out)
              rw [HF.out _ (by first | rfl | omega)]
              obtain ⟨A7, c7, hf7, -, -⟩ := hu7.row.form
              subst hf7
              have HR7 := Lib.hid ((HR.out.below hb7).more hb7.size)
              have HB7 := Lib.hid (HB.out.trans (hb7.mono HB.out.size))
              clear hb7 hu7 HR HB HF
              go_wp2
              go_roundw
              case rel => exact ⟨q + 1, by omega, by go_num, HR7.out, HB7.out⟩
              case measure => simp [intOf]; omega
            · have HB := Lib.hid hb
              have HK := Lib.hid HW.out.ok
              clear hb hr
              go_wp2_with fail
              refine (implGloOk_any _ _ _ ((HL5.out.below HB.out).more HB.out.size)).mono ?_
              rintro e w8 ⟨rfl, hb8⟩
              rw [HK.out]
              have HB8 := Lib.hid (HB5.out.trans ((HB.out.trans (hb8.mono HB.out.size)).mono HB5.out.size))
              clear hb8
              go_wp2
              go_ret
              exact ⟨rfl, HB8.out⟩

end Go.Proofs.Ytlmcpkijcadalaa
