/- Texts that follow each other, merged: DrawGloOk, JaSto, JaStos, JaOk, LGloOk. -/
import Derived.Test.YtecdibpiojgppaaXDrawOp0
import Derived.Test.YtecdibpiojgppaaXDrawSto
import Derived.Test.YtecdibpiojgppaaXShal
import Derived.Test.YtecdibpiojgppaaXPlanLaw
import Derived.Test.YtecdibpiojgppaaXWrts
import Derived.Test.YtecdibpiojgppaaXVal
import Derived.Test.YtecdibpiojgppaaXCopyI
import Derived.Test.YtecdibpiojgppaaXExItems
import Derived.Test.YtecdibpiojgppaaXIntsOne
import Derived.Test.YtecdibpiojgppaaXGlo

/- What three places keep is drawn, or two, or four. -/
namespace Go.Proofs.Ytecdibpiojgppaa
open Go.RowKit

/-- What is drawn. -/
def DrewGO (w : World) (e : Ending) (w' : World) : Prop :=
  ∃ (u : Value) (xs : List Sto), e = .returned u ∧ xs.length ≤ 4 ∧ stoSh.Row w' w'.heap.size u xs ∧ Below w.heap.size w w'

set_option maxRecDepth 100000 in
set_option maxHeartbeats 4000000 in
theorem drawGloOk_any (w : World) (v : Value) (n : Nat) (hv : Code8 w v n) : Calls Try.prog 11 #[v] w (DrewGO w) := by
  have HV := Lib.hid hv
  clear hv
  go_enter Try.func11, Try.ntmps11
  go_wp2_with fail
  refine (l20Open_any _ _ _ HV.out).mono ?_
  rintro e w1 ⟨rfl, hr, hb1⟩
  have HB1 := Lib.hid hb1
  have HR := Lib.hid (show Rds w1 w.heap.size 0 from ⟨0, by omega, by omega, hr⟩)
  have hz1 : w.heap.size < w1.heap.size := HR.out.lt
  clear hr hb1 HV
  go_wp2_with fail
  refine (l20Glo_any _ _ _ HR.out (by omega) (by omega)).mono ?_
  rintro e w2 ⟨ul, xs, rfl, hN, hL, hd⟩
  have hxl : xs.length = 3 := gloB_three hN.1
  obtain ⟨Al, cl, hf, -, -⟩ := hL.row.form
  rw [hxl] at hf
  subst hf
  have HL2 := Lib.hid hL
  have HB2 := Lib.hid (HB1.out.trans (hd.below (by omega) HB1.out.size))
  have HR2 := Lib.hid hd.1
  have hz2 : w1.heap.size ≤ w2.heap.size := hd.2.size
  clear hN hL hd HB1 HR
  go_wp2_with fail
  refine (odd_any _ _ _ _ HR2.out (by omega) (by omega)).mono ?_
  rintro e w3 ⟨bb, rfl, -, hd⟩
  have HL3 := Lib.hid ((ownDrew HL2.out hd (fun h => by have := h.1; omega)).mono (S' := fun b => w1.heap.size ≤ b ∧ b < w3.heap.size) fun b hb => ⟨hb.1, Nat.lt_of_lt_of_le hb.2 hd.2.size⟩)
  have HB3 := Lib.hid (HB2.out.trans (hd.below (by omega) HB2.out.size))
  have HR3 := Lib.hid hd.1
  have hz3 : w2.heap.size ≤ w3.heap.size := hd.2.size
  clear hd HL2 HB2 HR2
  cases bb
  · go_wp2
    go_ret
    exact ⟨_, xs, rfl, by omega, lsto_row.1 HL3.out.row, HB3.out⟩
  · go_wp2_with fail
    refine (pick_rds _ _ _ _ HR3.out (by omega) (by omega)).mono ?_
    rintro e w4 ⟨m, rfl, m0, m1, hd⟩
    have m2 : m < 3 := m1 (by omega)
    obtain ⟨i, rfl⟩ := Int.eq_ofNat_of_zero_le m0
    have HL4 := Lib.hid (ownDrew HL3.out hd (fun h => by have := h.1; omega))
    have HB4 := Lib.hid (HB3.out.trans (hd.below (by omega) HB3.out.size))
    have HR4 := Lib.hid hd.1
    have hz4 : w3.heap.size ≤ w4.heap.size := hd.2.size
    clear hd m1 HL3 HB3 HR3
    obtain rfl | rfl | rfl : i = 0 ∨ i = 1 ∨ i = 2 := by omega
    · rcases HL4.out.form with ⟨e0, e0'⟩ | ⟨g, cap, e0, hg1, hg2, hc1, hc2⟩
      · rw [e0'] at hxl; cases hxl
      rw [hxl] at e0 hc1
      injection e0 with e0a _ e0c
      subst e0a e0c
      have hrow := HL4.out.row
      rw [show (.slice (some ⟨g, 0, none⟩) 3 cl : Value) = .slice (some ⟨g, 0, none⟩) xs.length cl by rw [hxl]] at hrow
      have hdr := Lib.hid (hrow.drop (k := 1) (by omega))
      clear hrow
      have c3 : (1 : Int) ≤ 3 := by decide
      have c4 : (3 : Int) ≤ (cl : Int) := by omega
      have c5 : (1 : Int) ≤ (cl : Int) := by omega
      have c6 : ¬ cl = 1 := by omega
      have c7 : ¬ (cl : Int) = 1 := by omega
      go_wp2
      go_ret
      refine ⟨_, xs.drop 1, rfl, by rw [List.length_drop]; omega, ?_, HB4.out⟩
      have h := lsto_row.1 hdr.out
      rw [show lstoSh.wd = 1 from rfl, hxl] at h
      simpa using h
    · go_wp2_with fail
      refine (pick_rds _ _ _ _ HR4.out (by omega) (by omega)).mono ?_
      rintro e w5 ⟨m, rfl, m0, m1, hd⟩
      have m2 : m < 3 := m1 (by omega)
      obtain ⟨j, rfl⟩ := Int.eq_ofNat_of_zero_le m0
      have HL5 := Lib.hid (ownDrew HL4.out hd (fun h => by have := h.1; omega))
      have HB5 := Lib.hid (HB4.out.trans (hd.below (by omega) HB4.out.size))
      have HR5 := Lib.hid hd.1
      have hz5 : w4.heap.size ≤ w5.heap.size := hd.2.size
      clear hd m1 HL4 HB4 HR4
      go_wp2_with fail
      refine (l20Sto_two _ _ _ _ HR5.out (by omega) (by omega) (by omega)).mono ?_
      rintro e w6 ⟨us, its, rfl, hil, -, ho, hd⟩
      obtain ⟨As, ns, cs, hsf⟩ := ownSlice ho
      subst hsf
      have HL6 := Lib.hid (ownDrew HL5.out hd (fun h => by have := h.1; omega))
      have HB6 := Lib.hid (HB5.out.trans (hd.below (by omega) HB5.out.size))
      have hz6 : w5.heap.size ≤ w6.heap.size := hd.2.size
      have HO6 := Lib.hid ((ho.toIn (S' := fun b => w5.heap.size ≤ b) (fun _ h => h) (fun _ h => h)).keep2 (w' := w6) (S' := fun b => w5.heap.size ≤ b ∧ b < w6.heap.size) (fun _ _ _ => rfl) (fun b hlt h => ⟨h, hlt⟩))
      clear ho hd HL5 HB5 HR5
      have hix : j < xs.length := by omega
      obtain ⟨g, cap, z, cz, Sj, e2, hz, hSg, hgw, hoz, -, hcz, hfr, -, -⟩ := HL6.out.at_ (j := j) hix
      obtain ⟨uz, rfl, huz⟩ := lsto_own.1 hoz
      rw [hxl] at e2
      injection e2 with e2a _ e2c
      subst e2a e2c
      have g0 : w6.cell? ⟨g, j, none⟩ = some uz := by
        have h := hcz 0 _ rfl
        rwa [show j * lstoSh.wd + 0 = j from Nat.mul_one _] at h
      have f1 : (j : Int) < 3 := by omega
      have f2 : (0 : Int) ≤ (j : Int) := by omega
      have hSg1 := hSg.1
      have HT := Lib.hid (show lstoSh.Own 30 (w6.setCell ⟨g, j, none⟩ (.slice As ns cs)) _ (.slice (some ⟨g, 0, none⟩) 3 cl) (xs.set j ⟨its⟩) from by
        have h1 := HL6.out.put hix (g := g) (cap := cl) (by rw [hxl]) (w1 := w6) (fun b _ _ => rfl) (lsto_own (x := ⟨its⟩).2 ⟨_, rfl, HO6.out⟩) (fun b h1 h2 => by have := h2.1; have := h1.2; omega)
        have e1 : j * lstoSh.wd = j := Nat.mul_one _
        rw [e1] at h1
        exact h1)
      have HBs := Lib.hid (show Below w1.heap.size w6 (w6.setCell ⟨g, j, none⟩ (.slice As ns cs)) from (Below.refl _ _).setCell (p := ⟨g, j, none⟩) hSg1 _)
      clear huz hcz hoz hz
      go_wp2
      go_ret
      exact ⟨_, xs.set j ⟨its⟩, rfl, by rw [List.length_set]; omega, lsto_row.1 HT.out.row, HB6.out.trans (HBs.out.mono (by omega))⟩
    · have HZ4 := Lib.hid (Held.new w4 #[.slice none 0 0] 30)
      have HL5 := Lib.hid ((HL4.out.below (belowOne w4 (.cells #[.slice none 0 0] 30))).mono (S' := fun b => w1.heap.size ≤ b) fun b hb => hb.1)
      go_wp2_with (at_builtin; refine wpl_append_sh lstoSh 23 30 _ 24 Try.underlying23 infoLsto rfl (by decide) (by omega) rfl _ _ rfl (fun b => w1.heap.size ≤ b) (fun _ => False) _ xs rfl HL5.out w4.heap.size rfl _ ⟨[]⟩ (lsto_own (x := ⟨[]⟩).2 ⟨_, rfl, ItemsIn.nil _ _⟩) HZ4.out (fun _ _ h => h) (by omega) ?_; intro u w5 hown5 hg5 _; have HO5 := Lib.hid hown5; have HG5 := Lib.hid hg5; clear hown5 hg5)
      have HB5 := Lib.hid ((HB4.out.trans ((belowOne w4 (.cells #[.slice none 0 0] 30)).mono HB4.out.size)).grown HG5.out (by have := HB4.out.size; simp; omega) (fun k hk => by have := HL5.out.blk k hk; omega))
      go_wp2
      go_ret
      exact ⟨u, xs ++ [(⟨[]⟩ : Sto)], rfl, by simp; omega, lsto_row.1 HO5.out.row, HB5.out⟩

end Go.Proofs.Ytecdibpiojgppaa

/- jaSto of what is the same. -/
namespace Go.Proofs.Ytecdibpiojgppaa
open Go.RowKit

set_option maxRecDepth 100000 in
set_option maxHeartbeats 4000000 in
theorem jaSto_same (w : World) (v u : Value) (its : List Item) (hv : Items w w.heap.size v its) (hu : Items w w.heap.size u its) :
    Calls Try.prog 60 #[.agg #[v], .agg #[u]] w fun e w' => e = .returned (.bool true) ∧ Below w.heap.size w w' := by
  obtain ⟨A, c, rfl, hc2, hc1⟩ := hv.form
  obtain ⟨A', c', rfl, hc2', hc1'⟩ := hu.form
  unfold maxLen at hc2 hc2'
  have HB := Lib.hid (belowTwo w (.cells #[.slice A its.length c] 30) (.cells #[.slice A' its.length c'] 30))
  have HX := Lib.hid ((Held.new w #[.slice A its.length c] 30).after (.cells #[.slice A' its.length c'] 30))
  have HY := Lib.hid (show Held ((w.alloc (.cells #[.slice A its.length c] 30)).alloc (.cells #[.slice A' its.length c'] 30)) (w.heap.size + 1) [.slice A' its.length c'] from by have h := Held.new (w.alloc (.cells #[.slice A its.length c] 30)) #[.slice A' its.length c'] 30; rwa [show (w.alloc (.cells #[.slice A its.length c] 30)).heap.size = w.heap.size + 1 by simp] at h)
  go_enter Try.func60, Try.ntmps60
  go_wp2
  go_loopw [5] (fun i wr => ∃ k : Nat, k ≤ its.length ∧ i = .int .i64 k ∧ Below w.heap.size w wr ∧ Held wr w.heap.size [.slice A its.length c] ∧ Held wr (w.heap.size + 1) [.slice A' its.length c']) (fun i _ => its.length - (intOf i).toNat)
  case atStart => exact ⟨0, Nat.zero_le _, rfl, HB.out, HX.out, HY.out⟩
  case round =>
    clear HB HX HY
    obtain ⟨k, hk, rfl, hb, hx, hy⟩ := hrel
    have HX := Lib.hid hx
    have HY := Lib.hid hy
    have x0 := hx.of 0 _ rfl
    have y0 := hy.of 0 _ rfl
    clear hx hy
    by_cases hlt : k < its.length
    · obtain ⟨b, off, d, it, p, e1, hit, hB, hs, ck, cu, hp⟩ := (hv.below hb).at_ (k := k) hlt
      obtain ⟨b2, off2, d2, it2, p2, e2, hit2, hB2, hs2, ck2, cu2, hp2⟩ := (hu.below hb).at_ (k := k) hlt
      rw [hit] at hit2
      injection hit2 with hit2
      subst hit2
      obtain ⟨Ap, cp, rfl, -, -⟩ := hp.form
      obtain ⟨Ap2, cp2, rfl, -, -⟩ := hp2.form
      injection e1 with e1a e1b e1c
      injection e2 with e2a e2b e2c
      subst e1a e2a
      have HP := Lib.hid (show Ints wr.drew wr.drew.heap.size _ it.val from hp.more hb.size)
      have HP2 := Lib.hid (show Ints wr.drew wr.drew.heap.size _ it.val from hp2.more hb.size)
      have HB := Lib.hid hb
      have k0 := And.intro x0 (And.intro y0 (And.intro ck (And.intro cu (And.intro ck2 cu2))))
      have f3 : (0 : Int) ≤ (k : Int) := by omega
      have f4 : (k : Int) < (its.length : Int) := by omega
      clear e1b e1c e2b e2c hv hu hit hp hp2 hb ck cu ck2 cu2
      go_wp2
      refine wp_region_held_drew (S := (fun w' => w'.cell? ⟨w.heap.size, 0, none⟩ = some (.slice (some ⟨b, off, none⟩) its.length c) ∧ w'.cell? ⟨w.heap.size + 1, 0, none⟩ = some (.slice (some ⟨b2, off2, none⟩) its.length c') ∧ w'.cell? ⟨b, off + k * 2, none⟩ = some (.string it.key) ∧ w'.cell? ⟨b, off + k * 2 + 1, none⟩ = some (.slice Ap it.val.length cp) ∧ w'.cell? ⟨b2, off2 + k * 2, none⟩ = some (.string it.key) ∧ w'.cell? ⟨b2, off2 + k * 2 + 1, none⟩ = some (.slice Ap2 it.val.length cp2))) (by kernel_rfl) ?hSr (fun hHeldr => ?str)
      case hSr => (first | (dsimp only; (exact k0)) | (exact k0))
      refine take_first 0 20 (v := ?vr_1) rfl rfl (by kernel_rfl) (by kernel_rfl) (by kernel_rfl) (fun _ _ _ h => h) (by rfl) ?yr_1 (by assumption) ?rr_1
      case yr_1 => (intro w hSw; (try dsimp only at hSw); go_simp; (try with_reducible rfl))
      simp only [Act.put, List.setIfInBounds_toArray, List.set_cons_zero, List.set_cons_succ]
      refine take_first 1 21 (v := ?vr_2) rfl rfl (by kernel_rfl) (by kernel_rfl) (by kernel_rfl) (fun _ _ _ h => h) (by rfl) ?yr_2 (by assumption) ?rr_2
      case yr_2 => (intro w hSw; (try dsimp only at hSw); go_simp; (try with_reducible rfl))
      simp only [Act.put, List.setIfInBounds_toArray, List.set_cons_zero, List.set_cons_succ]
      refine take_first 2 22 (v := ?vr_3) rfl rfl (by kernel_rfl) (by kernel_rfl) (by kernel_rfl) (fun _ _ _ h => h) (by rfl) ?yr_3 (by assumption) ?rr_3
      case yr_3 => (intro w hSw; (try dsimp only at hSw); go_simp; (try with_reducible rfl))
      simp only [Act.put, List.setIfInBounds_toArray, List.set_cons_zero, List.set_cons_succ]
      refine take_first 3 23 (v := ?vr_4) rfl rfl (by kernel_rfl) (by kernel_rfl) (by kernel_rfl) (fun _ _ _ h => h) (by rfl) ?yr_4 (by assumption) ?rr_4
      case yr_4 => (intro w hSw; (try dsimp only at hSw); go_simp; (try with_reducible rfl))
      simp only [Act.put, List.setIfInBounds_toArray, List.set_cons_zero, List.set_cons_succ]
      refine take_first 4 24 (v := ?vr_5) rfl rfl (by kernel_rfl) (by kernel_rfl) (by kernel_rfl) (fun _ _ _ h => h) (by rfl) ?yr_5 (by assumption) ?rr_5
      case yr_5 => (intro w hSw; (try dsimp only at hSw); go_simp; (try with_reducible rfl))
      simp only [Act.put, List.setIfInBounds_toArray, List.set_cons_zero, List.set_cons_succ]
      refine take_first 5 25 (v := ?vr_6) rfl rfl (by kernel_rfl) (by kernel_rfl) (by kernel_rfl) (fun _ _ _ h => h) (by rfl) ?yr_6 (by assumption) ?rr_6
      case yr_6 => (intro w hSw; (try dsimp only at hSw); go_simp; (try with_reducible rfl))
      simp only [Act.put, List.setIfInBounds_toArray, List.set_cons_zero, List.set_cons_succ]
      refine take_first 6 26 (v := ?vr_7) rfl rfl (by kernel_rfl) (by kernel_rfl) (by kernel_rfl) (fun _ _ _ h => h) (by rfl) ?yr_7 (by assumption) ?rr_7
      case yr_7 => (intro w hSw; (try dsimp only at hSw); go_simp; (try with_reducible rfl))
      simp only [Act.put, List.setIfInBounds_toArray, List.set_cons_zero, List.set_cons_succ]
      refine take_first 7 27 (v := ?vr_8) rfl rfl (by kernel_rfl) (by kernel_rfl) (by kernel_rfl) (fun _ _ _ h => h) (by rfl) ?yr_8 (by assumption) ?rr_8
      case yr_8 => (intro w hSw; (try dsimp only at hSw); go_simp; (try with_reducible rfl))
      simp only [Act.put, List.setIfInBounds_toArray, List.set_cons_zero, List.set_cons_succ]
      refine take_first 8 28 (v := ?vr_9) rfl rfl (by kernel_rfl) (by kernel_rfl) (by kernel_rfl) (fun _ _ _ h => h) (by rfl) ?yr_9 (by assumption) ?rr_9
      case yr_9 => (intro w hSw; (try dsimp only at hSw); go_simp; (try with_reducible rfl))
      simp only [Act.put, List.setIfInBounds_toArray, List.set_cons_zero, List.set_cons_succ]
      refine take_first 9 29 (v := ?vr_10) rfl rfl (by kernel_rfl) (by kernel_rfl) (by kernel_rfl) (fun _ _ _ h => h) (by rfl) ?yr_10 (by assumption) ?rr_10
      case yr_10 => (intro w hSw; (try dsimp only at hSw); go_simp; (try with_reducible rfl))
      simp only [Act.put, List.setIfInBounds_toArray, List.set_cons_zero, List.set_cons_succ]
      refine take_first 10 30 (v := ?vr_11) rfl rfl (by kernel_rfl) (by kernel_rfl) (by kernel_rfl) (fun _ _ _ h => h) (by rfl) ?yr_11 (by assumption) ?rr_11
      case yr_11 => (intro w hSw; (try dsimp only at hSw); go_simp; (try with_reducible rfl))
      simp only [Act.put, List.setIfInBounds_toArray, List.set_cons_zero, List.set_cons_succ]
      refine take_first 11 31 (v := ?vr_12) rfl rfl (by kernel_rfl) (by kernel_rfl) (by kernel_rfl) (fun _ _ _ h => h) (by rfl) ?yr_12 (by assumption) ?rr_12
      case yr_12 => (intro w hSw; (try dsimp only at hSw); go_simp; (try with_reducible rfl))
      simp only [Act.put, List.setIfInBounds_toArray, List.set_cons_zero, List.set_cons_succ]
      refine take_first 12 32 (v := ?vr_13) rfl rfl (by kernel_rfl) (by kernel_rfl) (by kernel_rfl) (fun _ _ _ h => h) (by rfl) ?yr_13 (by assumption) ?rr_13
      case yr_13 => (intro w hSw; (try dsimp only at hSw); go_simp; (try with_reducible rfl))
      simp only [Act.put, List.setIfInBounds_toArray, List.set_cons_zero, List.set_cons_succ]
      refine take_first 13 33 (v := ?vr_14) rfl rfl (by kernel_rfl) (by kernel_rfl) (by kernel_rfl) (fun _ _ _ h => h) (by rfl) ?yr_14 (by assumption) ?rr_14
      case yr_14 => (intro w hSw; (try dsimp only at hSw); go_simp; (try with_reducible rfl))
      simp only [Act.put, List.setIfInBounds_toArray, List.set_cons_zero, List.set_cons_succ]
      refine take_first 14 34 (v := ?vr_15) rfl rfl (by kernel_rfl) (by kernel_rfl) (by kernel_rfl) (fun _ _ _ h => h) (by rfl) ?yr_15 (by assumption) ?rr_15
      case yr_15 => (intro w hSw; (try dsimp only at hSw); go_simp; (try with_reducible rfl))
      simp only [Act.put, List.setIfInBounds_toArray, List.set_cons_zero, List.set_cons_succ]
      refine take_first 15 35 (v := ?vr_16) rfl rfl (by kernel_rfl) (by kernel_rfl) (by kernel_rfl) (fun _ _ _ h => h) (by rfl) ?yr_16 (by assumption) ?rr_16
      case yr_16 => (intro w hSw; (try dsimp only at hSw); go_simp; (try with_reducible rfl))
      simp only [Act.put, List.setIfInBounds_toArray, List.set_cons_zero, List.set_cons_succ]
      refine take_first 16 36 (v := ?vr_17) rfl rfl (by kernel_rfl) (by kernel_rfl) (by kernel_rfl) (fun _ _ _ h => h) (by rfl) ?yr_17 (by assumption) ?rr_17
      case yr_17 => (intro w hSw; (try dsimp only at hSw); go_simp; (try with_reducible rfl))
      simp only [Act.put, List.setIfInBounds_toArray, List.set_cons_zero, List.set_cons_succ]
      refine take_first 17 37 (v := ?vr_18) rfl rfl (by kernel_rfl) (by kernel_rfl) (by kernel_rfl) (fun _ _ _ h => h) (by rfl) ?yr_18 (by assumption) ?rr_18
      case yr_18 => (intro w hSw; (try dsimp only at hSw); go_simp; (try with_reducible rfl))
      simp only [Act.put, List.setIfInBounds_toArray, List.set_cons_zero, List.set_cons_succ]
      refine take_first 18 38 (v := ?vr_19) rfl rfl (by kernel_rfl) (by kernel_rfl) (by kernel_rfl) (fun _ _ _ h => h) (by rfl) ?yr_19 (by assumption) ?rr_19
      case yr_19 => (intro w hSw; (try dsimp only at hSw); go_simp; (try with_reducible rfl))
      simp only [Act.put, List.setIfInBounds_toArray, List.set_cons_zero, List.set_cons_succ]
      refine take_first 19 39 (v := ?vr_20) rfl rfl (by kernel_rfl) (by kernel_rfl) (by kernel_rfl) (fun _ _ _ h => h) (by rfl) ?yr_20 (by assumption) ?rr_20
      case yr_20 => (intro w hSw; (try dsimp only at hSw); go_simp; (try with_reducible rfl))
      simp only [Act.put, List.setIfInBounds_toArray, List.set_cons_zero, List.set_cons_succ]
      refine take_first 20 40 (v := ?vr_21) rfl rfl (by kernel_rfl) (by kernel_rfl) (by kernel_rfl) (fun _ _ _ h => h) (by rfl) ?yr_21 (by assumption) ?rr_21
      case yr_21 => (intro w hSw; (try dsimp only at hSw); go_simp; (try with_reducible rfl))
      simp only [Act.put, List.setIfInBounds_toArray, List.set_cons_zero, List.set_cons_succ]
      refine take_first 21 41 (v := ?vr_22) rfl rfl (by kernel_rfl) (by kernel_rfl) (by kernel_rfl) (fun _ _ _ h => h) (by rfl) ?yr_22 (by assumption) ?rr_22
      case yr_22 => (intro w hSw; (try dsimp only at hSw); go_simp; (try with_reducible rfl))
      simp only [Act.put, List.setIfInBounds_toArray, List.set_cons_zero, List.set_cons_succ]
      refine take_first 22 42 (v := ?vr_23) rfl rfl (by kernel_rfl) (by kernel_rfl) (by kernel_rfl) (fun _ _ _ h => h) (by rfl) ?yr_23 (by assumption) ?rr_23
      case yr_23 => (intro w hSw; (try dsimp only at hSw); go_simp; (try with_reducible rfl))
      simp only [Act.put, List.setIfInBounds_toArray, List.set_cons_zero, List.set_cons_succ]
      refine take_first 23 43 (v := ?vr_24) rfl rfl (by kernel_rfl) (by kernel_rfl) (by kernel_rfl) (fun _ _ _ h => h) (by rfl) ?yr_24 (by assumption) ?rr_24
      case yr_24 => (intro w hSw; (try dsimp only at hSw); go_simp; (try with_reducible rfl))
      simp only [Act.put, List.setIfInBounds_toArray, List.set_cons_zero, List.set_cons_succ]
      refine take_first 24 44 (v := ?vr_25) rfl rfl (by kernel_rfl) (by kernel_rfl) (by kernel_rfl) (fun _ _ _ h => h) (by rfl) ?yr_25 (by assumption) ?rr_25
      case yr_25 => (intro w hSw; (try dsimp only at hSw); go_simp; (try with_reducible rfl))
      simp only [Act.put, List.setIfInBounds_toArray, List.set_cons_zero, List.set_cons_succ]
      refine take_first 25 45 (v := ?vr_26) rfl rfl (by kernel_rfl) (by kernel_rfl) (by kernel_rfl) (fun _ _ _ h => h) (by rfl) ?yr_26 (by assumption) ?rr_26
      case yr_26 => (intro w hSw; (try dsimp only at hSw); go_simp; (try with_reducible rfl))
      simp only [Act.put, List.setIfInBounds_toArray, List.set_cons_zero, List.set_cons_succ]
      refine wpAnyH_ready (rs := [26]) (by kernel_rfl) (by simp) ?_
      refine AllReadyH.cons (o := _) rfl (fun Kr_27 hKr_27 => ?cr_27) ?mr_27
      case mr_27 => exact AllReadyH.nil
      go_simp
      refine (jaInts_any _ _ _ _ it.val it.val HP.out HP2.out).mono ?_; rintro e w1 ⟨rfl, n, rfl⟩; rw [show decide (it.val = it.val) = true from decide_eq_true rfl]
      go_wp2_with fail
      refine hKr_27.out _ _ ?kr_27 (fun hHeldr_27 => ?dr_27)
      case kr_27 => (first | (dsimp only; (exact k0)) | (exact k0))
      clear hKr_27 Kr_27
      refine take_first 27 47 (v := ?vr_28) rfl rfl (by kernel_rfl) (by kernel_rfl) (by kernel_rfl) (fun _ _ _ h => h) (by rfl) ?yr_28 (by assumption) ?rr_28
      case yr_28 => (intro w hSw; (try dsimp only at hSw); go_simp; (try with_reducible rfl))
      simp only [Act.put, List.setIfInBounds_toArray, List.set_cons_zero, List.set_cons_succ]
      refine take_first 28 48 (v := ?vr_29) rfl rfl (by kernel_rfl) (by kernel_rfl) (by kernel_rfl) (fun _ _ _ h => h) (by rfl) ?yr_29 (by assumption) ?rr_29
      case yr_29 => (intro w hSw; (try dsimp only at hSw); go_simp; (try with_reducible rfl))
      simp only [Act.put, List.setIfInBounds_toArray, List.set_cons_zero, List.set_cons_succ]
      refine wpAnyH_done (by kernel_rfl) ?er _
      clear k0 x0 y0
      go_wp2
      go_roundw
      case rel => exact ⟨k + 1, by omega, by go_num, belowDraws HB.out (1 + n), HX.out, HY.out⟩
      case measure => simp [intOf]; omega
    · clear hv hu
      go_wp2
      go_ret
      exact ⟨rfl, hb⟩

end Go.Proofs.Ytecdibpiojgppaa

/- jaStos of what is the same. -/
namespace Go.Proofs.Ytecdibpiojgppaa
open Go.RowKit

set_option maxRecDepth 100000 in
set_option maxHeartbeats 2000000 in
theorem jaStos_same (w : World) (v u : Value) (xs : List Sto) (hv : stoSh.Row w w.heap.size v xs) (hu : stoSh.Row w w.heap.size u xs) :
    Calls Try.prog 15 #[v, u] w fun e w' => e = .returned (.bool true) ∧ Below w.heap.size w w' := by
  obtain ⟨A, c, rfl, hc2, hc1⟩ := hv.form
  obtain ⟨A', c', rfl, hc2', hc1'⟩ := hu.form
  unfold maxLen at hc2 hc2'
  go_enter Try.func15, Try.ntmps15
  go_wp2
  go_loopw [5] (fun i wr => ∃ k : Nat, k ≤ xs.length ∧ i = .int .i64 k ∧ Below w.heap.size w wr) (fun i _ => xs.length - (intOf i).toNat)
  case atStart => exact ⟨0, Nat.zero_le _, rfl, Below.refl _ _⟩
  case round =>
    obtain ⟨k, hk, rfl, hb⟩ := hrel
    by_cases hlt : k < xs.length
    · obtain ⟨b, off, d, x, p, e1, hx, hB, cu, hp⟩ := stos_at (hv.below hb) (k := k) hlt
      obtain ⟨b2, off2, d2, x2, p2, e2, hx2, hB2, cu2, hp2⟩ := stos_at (hu.below hb) (k := k) hlt
      rw [hx] at hx2
      injection hx2 with hx2
      subst hx2
      obtain ⟨Ap, cp, rfl, -, -⟩ := hp.form
      obtain ⟨Ap2, cp2, rfl, -, -⟩ := hp2.form
      injection e1 with e1a e1b e1c
      injection e2 with e2a e2b e2c
      subst e1a e2a
      have HP := Lib.hid (show Items wr.drew wr.drew.heap.size _ x.items from items_row.1 (hp.more hb.size))
      have HP2 := Lib.hid (show Items wr.drew wr.drew.heap.size _ x.items from items_row.1 (hp2.more hb.size))
      have HB := Lib.hid hb.drew
      have k0 := And.intro cu cu2
      have f3 : (0 : Int) ≤ (k : Int) := by omega
      have f4 : (k : Int) < (xs.length : Int) := by omega
      clear e1b e1c e2b e2c hv hu hx hp hp2 hb cu cu2
      go_wp2
      refine wp_region_held_drew (S := (fun w' => w'.cell? ⟨b, off + k, none⟩ = some (.slice Ap x.items.length cp) ∧ w'.cell? ⟨b2, off2 + k, none⟩ = some (.slice Ap2 x.items.length cp2))) (by kernel_rfl) ?hSr (fun hHeldr => ?str)
      case hSr => (first | (dsimp only; (first | exact k0 | exact k1.out)) | (first | exact k0 | exact k1.out))
      refine take_first 0 17 (v := ?vr_1) rfl rfl (by kernel_rfl) (by kernel_rfl) (by kernel_rfl) (fun _ _ _ h => h) (by rfl) ?yr_1 (by assumption) ?rr_1
      case yr_1 => (intro w hSw; (try dsimp only at hSw); go_simp; (try with_reducible rfl))
      simp only [Act.put, List.setIfInBounds_toArray, List.set_cons_zero, List.set_cons_succ]
      refine take_first 1 18 (v := ?vr_2) rfl rfl (by kernel_rfl) (by kernel_rfl) (by kernel_rfl) (fun _ _ _ h => h) (by rfl) ?yr_2 (by assumption) ?rr_2
      case yr_2 => (intro w hSw; (try dsimp only at hSw); go_simp; (try with_reducible rfl))
      simp only [Act.put, List.setIfInBounds_toArray, List.set_cons_zero, List.set_cons_succ]
      refine take_first 2 19 (v := ?vr_3) rfl rfl (by kernel_rfl) (by kernel_rfl) (by kernel_rfl) (fun _ _ _ h => h) (by rfl) ?yr_3 (by assumption) ?rr_3
      case yr_3 => (intro w hSw; (try dsimp only at hSw); go_simp; (try with_reducible rfl))
      simp only [Act.put, List.setIfInBounds_toArray, List.set_cons_zero, List.set_cons_succ]
      refine take_first 3 20 (v := ?vr_4) rfl rfl (by kernel_rfl) (by kernel_rfl) (by kernel_rfl) (fun _ _ _ h => h) (by rfl) ?yr_4 (by assumption) ?rr_4
      case yr_4 => (intro w hSw; (try dsimp only at hSw); go_simp; (try with_reducible rfl))
      simp only [Act.put, List.setIfInBounds_toArray, List.set_cons_zero, List.set_cons_succ]
      refine take_first 4 21 (v := ?vr_5) rfl rfl (by kernel_rfl) (by kernel_rfl) (by kernel_rfl) (fun _ _ _ h => h) (by rfl) ?yr_5 (by assumption) ?rr_5
      case yr_5 => (intro w hSw; (try dsimp only at hSw); go_simp; (try with_reducible rfl))
      simp only [Act.put, List.setIfInBounds_toArray, List.set_cons_zero, List.set_cons_succ]
      refine take_first 5 22 (v := ?vr_6) rfl rfl (by kernel_rfl) (by kernel_rfl) (by kernel_rfl) (fun _ _ _ h => h) (by rfl) ?yr_6 (by assumption) ?rr_6
      case yr_6 => (intro w hSw; (try dsimp only at hSw); go_simp; (try with_reducible rfl))
      simp only [Act.put, List.setIfInBounds_toArray, List.set_cons_zero, List.set_cons_succ]
      refine take_first 6 23 (v := ?vr_7) rfl rfl (by kernel_rfl) (by kernel_rfl) (by kernel_rfl) (fun _ _ _ h => h) (by rfl) ?yr_7 (by assumption) ?rr_7
      case yr_7 => (intro w hSw; (try dsimp only at hSw); go_simp; (try with_reducible rfl))
      simp only [Act.put, List.setIfInBounds_toArray, List.set_cons_zero, List.set_cons_succ]
      refine take_first 7 24 (v := ?vr_8) rfl rfl (by kernel_rfl) (by kernel_rfl) (by kernel_rfl) (fun _ _ _ h => h) (by rfl) ?yr_8 (by assumption) ?rr_8
      case yr_8 => (intro w hSw; (try dsimp only at hSw); go_simp; (try with_reducible rfl))
      simp only [Act.put, List.setIfInBounds_toArray, List.set_cons_zero, List.set_cons_succ]
      refine wpAnyH_ready (rs := [8]) (by kernel_rfl) (by simp) ?_
      refine AllReadyH.cons (o := _) rfl (fun Kr_9 hKr_9 => ?cr_9) ?mr_9
      case mr_9 => exact AllReadyH.nil
      go_simp
      refine (jaSto_same _ _ _ x.items HP.out HP2.out).mono ?_; rintro e w1 ⟨rfl, hb1⟩; have HB1 := Lib.hid (HB.out.trans (hb1.mono HB.out.size)); have k1 := Lib.hid (And.intro ((hb1.cell (p := ⟨b, off + k, none⟩) (Nat.lt_of_lt_of_le hB HB.out.size)).trans k0.1) ((hb1.cell (p := ⟨b2, off2 + k, none⟩) (Nat.lt_of_lt_of_le hB2 HB.out.size)).trans k0.2)); clear hb1
      go_wp2_with fail
      refine hKr_9.out _ _ ?kr_9 (fun hHeldr_9 => ?dr_9)
      case kr_9 => (first | (dsimp only; (first | exact k0 | exact k1.out)) | (first | exact k0 | exact k1.out))
      clear hKr_9 Kr_9
      refine take_first 9 26 (v := ?vr_10) rfl rfl (by kernel_rfl) (by kernel_rfl) (by kernel_rfl) (fun _ _ _ h => h) (by rfl) ?yr_10 (by assumption) ?rr_10
      case yr_10 => (intro w hSw; (try dsimp only at hSw); go_simp; (try with_reducible rfl))
      simp only [Act.put, List.setIfInBounds_toArray, List.set_cons_zero, List.set_cons_succ]
      refine wpAnyH_done (by kernel_rfl) ?er _
      clear k0
      go_wp2
      go_roundw
      case rel => exact ⟨k + 1, by omega, by go_num, HB1.out⟩
      case measure => simp [intOf]; omega
    · clear hv hu
      go_wp2
      go_ret
      exact ⟨rfl, hb⟩

end Go.Proofs.Ytecdibpiojgppaa

/- What every law of draws ends with. -/
namespace Go.Proofs.Ytecdibpiojgppaa
open Go.RowKit

end Go.Proofs.Ytecdibpiojgppaa

/- The walk of FnGloOk. -/
namespace Go.Proofs.Ytecdibpiojgppaa
open Go.RowKit

/-- append of some stores to a row of one's own. -/
theorem shalS_wp {o : Oper} {a : Act} {w : World} {K : Act → World → Prop} {Q : Exit → Act → World → Prop} (s x : Operand)
    (ho : o.op = .call { callee := .builtin .append, args := #[s, x], argTypes := #[23, 23] }) (B : Nat) (v : Value) (xs ys : List Sto) (hs : a.eval s = v) (hv : lstoSh.Shal 30 w B v xs) (hB : B ≤ w.heap.size)
    (Ad : Option Addr) (n c : Nat) (hx : a.eval x = .slice Ad n c) (hn : n = ys.length) (hy : lstoSh.Row w B (.slice Ad n c) ys) (hl : xs.length + ys.length ≤ 2097152)
    (h : ∀ v' w', lstoSh.Shal 30 w' B v' (xs ++ ys) → Below B w w' → K (a.put o.dst v') w') :
    Oper.wp Try.prog o a w K Q := by
  obtain ⟨i, hi, hz, hsz, hb⟩ := info_parts infoLsto
  obtain ⟨v', w', hr, h2, h3, h4, h5⟩ := Sh.shal_run (P := Try.prog) (A := lstoSh) i _ 24 Try.underlying23 hi hz hsz hb rfl (by decide) hv hB Ad n c hn hy o.type hl (by omega)
  unfold Oper.wp execOp
  simp only [ho, resolve, invoke, builtin, Sem.run_bind, Sem.run_pure, Result.andThen_ok, List.map_toArray, List.map_cons, List.map_nil, hs, hx, hr]
  exact h v' w' h2 h3
/-- append of one thing that is laid out beside. -/
theorem shal1_wp {o : Oper} {a : Act} {w : World} {K : Act → World → Prop} {Q : Exit → Act → World → Prop} (s x : Operand)
    (ho : o.op = .call { callee := .builtin .append, args := #[s, x], argTypes := #[23, 23] }) (B : Nat) (v : Value) (xs : List Sto) (hs : a.eval s = v) (hv : lstoSh.Shal 30 w B v xs) (hB : B ≤ w.heap.size)
    (L c : Nat) (hx : a.eval x = .slice (some ⟨L, 0, none⟩) 1 c) (y : Sto) (cs : List Value) (hrel : lstoSh.rel w B cs y) (hsrc : ∀ j u, cs[j]? = some u → w.cell? ⟨L, j, none⟩ = some u) (hl : xs.length + 1 ≤ 2097152)
    (h : ∀ v' w', lstoSh.Shal 30 w' B v' (xs ++ [y]) → Below B w w' → K (a.put o.dst v') w') :
    Oper.wp Try.prog o a w K Q := by
  obtain ⟨i, hi, hz, hsz, hb⟩ := info_parts infoLsto
  obtain ⟨C, h1, h2, h3⟩ := hv
  have hcl : cs.length = lstoSh.wd := lstoSh.rlen hrel
  have hb2 : (xs.length + 1) * 24 ≤ 140737488355328 := by omega
  obtain ⟨v', w', hr, q2, hg, _, q5⟩ := run_append_own_at (P := Try.prog) w 0 23 o.type 30 i _ lstoSh.wd 24 Try.underlying23 hi hz hsz hb rfl (by decide) v xs.length _ h1 ⟨L, 0, none⟩ 1 c cs (by rw [hcl, Nat.one_mul]) (fun j u hu => by rw [add_none, Nat.zero_add]; exact hsrc j u hu) (lstoSh.rone hrel) (by unfold maxLen; omega) hb2 (Nat.zero_le _)
  have hbel : Below B w w' := (Below.refl B w).grown hg hB h2
  unfold Oper.wp execOp
  simp only [ho, resolve, invoke, builtin, Sem.run_bind, Sem.run_pure, Result.andThen_ok, List.map_toArray, List.map_cons, List.map_nil, hs, hx, hr]
  refine h v' w' ⟨fun j => if j < xs.length then C j else cs, ?_, fun g hg' => ?_, fun j z hz' => ?_⟩ hbel
  · have hf : flat (fun j => if j < xs.length then C j else cs) (xs.length + 1) = flat C xs.length ++ cs := by
      have h := flat_app C (fun _ => cs) xs.length 1
      rw [h]; simp [flat]
    rw [List.length_append, List.length_singleton, hf]
    exact q2
  · rcases q5 with h | h
    · exact h2 g (h ▸ hg')
    · rw [h] at hg'; rw [← Option.some.inj hg']; exact hB
  · by_cases hj : j < xs.length
    · rw [List.getElem?_append_left hj] at hz'
      simp only [hj, if_true]
      exact lstoSh.rbelow (h3 j z hz') hbel
    · rw [List.getElem?_append_right (by omega)] at hz'
      have hj0 : j - xs.length = 0 := by have := (List.getElem?_eq_some_iff.1 hz').1; simp at this; omega
      rw [hj0] at hz'
      obtain rfl : y = z := by simpa using hz'
      simp only [hj, if_false]
      exact lstoSh.rbelow hrel hbel
theorem wpl_want {P : Program} {w : World} {ops : Array Oper} {rest : List Oper} {o : Oper} {a : Act} {Q : Exit → Act → World → Prop} (hw : Region.wanted o (yielded ops a.tmps) = true)
    (h : ∀ K : Act → World → Prop, (∀ a w, wpList P ops Q rest a w → K a w) → o.wp P a w K Q) : wpList P ops Q (o :: rest) a w :=
  wpList_step fun K hK => by simp only [hw, if_true]; exact h K hK
theorem gloB_drop {xs : List Sto} (h : gloB xs = true) : gloB (xs.drop 1) = false := by
  match xs, gloB_three h with
  | [a, b, c], _ => rfl
theorem gloB_more {xs : List Sto} (h : gloB xs = true) (y : Sto) : gloB (xs ++ [y]) = false := by
  match xs, gloB_three h with
  | [a, b, c], _ => rfl
theorem glo_abc3 {xs : List Sto} (h : gloB xs = true) : ∃ a b c : List Item, xs = [⟨a⟩, ⟨b⟩, ⟨c⟩] := by
  match xs, gloB_three h with
  | [⟨a⟩, ⟨b⟩, ⟨c⟩], _ => exact ⟨a, b, c, rfl⟩
theorem gloB_parts3 {a b c : List Item} (h : gloB [⟨a⟩, ⟨b⟩, ⟨c⟩] = true) : plcB 1 a = true ∧ plcB 2 b = true ∧ plcB 3 c = true := by
  simp only [gloB, Bool.and_eq_true] at h
  exact ⟨h.1, h.2.1, h.2.2⟩
theorem gloB_new : gloB newG = true := by decide

set_option maxRecDepth 100000 in
set_option maxHeartbeats 4000000 in
theorem lawGloOk_any (w : World) (v : Value) (n : Nat) (hv : Code8 w v n) :
    Calls Try.prog 3 #[v] w fun e w' => e = .returned (.bool true) ∧ Below w.heap.size w w' := by
  have HV := Lib.hid hv
  obtain ⟨A, c, f, rfl, h1, h2, -, -⟩ := hv
  unfold maxLen at h2
  by_cases hn : 1048576 < n
  · have hn' : (1048576 : Int) < (n : Int) := by omega
    go_enter Try.func3, Try.ntmps3
    go_wp2
    go_ret
    exact ⟨rfl, Below.refl _ _⟩
  have hn' : (n : Int) ≤ 1048576 := by omega
  clear hn
  go_enter Try.func3, Try.ntmps3
  go_wp2_with fail
  refine (drawGloOk_any _ _ n HV.out).mono ?_
  rintro e w1 ⟨u, xs, rfl, hxl, hrow, hb1⟩
  obtain ⟨Al, cl, hf, hc2, hc1⟩ := hrow.form
  subst hf
  have HB := Lib.hid hb1
  have HR := Lib.hid hrow
  clear hrow hb1 HV
  go_wp2_with fail
  refine (implGloOk_any _ _ xs HR.out).mono ?_
  rintro e w2 ⟨rfl, hb⟩
  replace HB := Lib.hid (belowNext HB.out hb)
  replace HR := Lib.hid ((HR.out.below hb).more hb.size)
  clear hb
  obtain ⟨gb, hgb⟩ : ∃ gb, gloB xs = gb := ⟨_, rfl⟩
  rw [hgb]
  have HGb := Lib.hid hgb
  clear hgb
  have hself : (gb != gb) = false := by simp
  go_wp2_with fail
  refine (specGloOk_any _ _ xs HR.out).mono ?_
  rintro e w3 ⟨rfl, hb⟩
  replace HB := Lib.hid (belowNext HB.out hb)
  replace HR := Lib.hid ((HR.out.below hb).more hb.size)
  clear hb
  rw [HGb.out]
  go_wp2_with fail
  refine (implGloNew_any _).mono ?_
  rintro e w4 ⟨u4, rfl, ho4, hb⟩
  replace HB := Lib.hid (belowNext HB.out hb)
  replace HR := Lib.hid ((HR.out.below hb).more hb.size)
  have HN := Lib.hid ho4.row
  clear hb ho4
  go_wp2_with fail
  refine (implGloOk_any _ _ newG HN.out).mono ?_
  rintro e w5 ⟨rfl, hb⟩
  rw [gloB_new]
  replace HB := Lib.hid (belowNext HB.out hb)
  replace HR := Lib.hid ((HR.out.below hb).more hb.size)
  clear hb HN
  go_wp2_with fail
  refine (implGloNew_any _).mono ?_
  rintro e w6 ⟨u6, rfl, ho6, hb⟩
  replace HB := Lib.hid (belowNext HB.out hb)
  replace HR := Lib.hid ((HR.out.below hb).more hb.size)
  have HN := Lib.hid ho6.row
  clear hb ho6
  go_wp2_with fail
  refine (specGloNew_any _).mono ?_
  rintro e w7 ⟨u7, rfl, ho7, hb⟩
  replace HB := Lib.hid (belowNext HB.out hb)
  replace HR := Lib.hid ((HR.out.below hb).more hb.size)
  replace HN := Lib.hid ((HN.out.below hb).more hb.size)
  have HM := Lib.hid ho7.row
  clear hb ho7
  go_wp2_with fail
  refine (jaStos_same _ _ _ newG HN.out HM.out).mono ?_
  rintro e w8 ⟨rfl, hb⟩
  replace HB := Lib.hid (belowNext HB.out hb)
  replace HR := Lib.hid ((HR.out.below hb).more hb.size)
  clear hb HN HM
  cases gb with
  | false =>
    clear HR hself
    go_wp2
    go_ret
    exact ⟨rfl, HB.out⟩
  | true =>
    clear hself
    have hl3 : xs.length = 3 := gloB_three HGb.out
    rw [hl3]
    rw [hl3] at hc1
    obtain ⟨bl, ol, dl, x0, p0, e0, -, hBl, -, -⟩ := stos_at HR.out (k := 0) (by omega)
    injection e0 with e0a e0b e0c
    subst e0a
    have HR3 := Lib.hid (show stoSh.Row w8 w8.heap.size (.slice (some ⟨bl, ol, none⟩) 3 cl) xs from by have h := HR.out; rwa [hl3] at h)
    have HDr := Lib.hid (show stoSh.Row w8 w8.heap.size (.slice (some ⟨bl, ol + 1, none⟩) 2 (cl - 1)) (xs.drop 1) from by
      have h := HR.out.drop (k := 1) (by omega)
      rw [show stoSh.wd = 1 from rfl, hl3] at h
      simpa using h)
    have HL3 := Lib.hid hl3
    have c4 : (3 : Int) ≤ (cl : Int) := by omega
    have c5 : (1 : Int) ≤ (cl : Int) := by omega
    have c6 : ¬ cl = 1 := by omega
    have c7 : ¬ (cl : Int) = 1 := by omega
    clear e0b e0c HR hl3
    go_wp2_with fail
    refine (implGloOk_any _ _ (xs.drop 1) HDr.out).mono ?_
    rintro e w9 ⟨rfl, hb⟩
    rw [gloB_drop HGb.out]
    replace HB := Lib.hid (belowNext HB.out hb)
    have HR := Lib.hid ((HR3.out.below hb).more hb.size)
    clear hb HDr HR3
    have HE := Lib.hid (Sh.Shal.empty (A := lstoSh) (e := 30) (w := w9.alloc (.cells #[] 30)) (B := w9.heap.size) (g := w9.heap.size) (Go.Deep.blk_alloc_new w9 _) (Nat.le_refl _))
    have HRa := Lib.hid (show lstoSh.Row (w9.alloc (.cells #[] 30)) w9.heap.size (.slice (some ⟨bl, ol, none⟩) 3 cl) xs from lsto_row.2 (HR.out.below (belowOne w9 _)))
    have hza : w9.heap.size ≤ (w9.alloc (.cells #[] 30)).heap.size := by simp
    go_wp2_with (first
      | (at_builtin; refine wpl_want rfl fun K hK => ?_; refine shalS_wp (.tmp 34) (.tmp 35) rfl w9.heap.size _ [] xs rfl HE.out hza _ 3 cl rfl HL3.out.symm HRa.out (by simp; omega) ?_; intro v1 wa hsa hba; refine hK _ _ ?_; have HSa := Lib.hid (show lstoSh.Shal 30 wa w9.heap.size v1 xs from hsa); have HBa := Lib.hid hba; have HZa := Lib.hid (Nat.le_trans hza hba.size); clear hsa hba hK)
      | (at_builtin; refine wpl_want rfl fun K hK => ?_; refine shal1_wp (.tmp 36) (.tmp 38) rfl w9.heap.size _ xs rfl (HSa.out.alloc HZa.out _) (Nat.le_trans HZa.out (belowOne wa _).size) wa.heap.size 1 rfl ⟨[]⟩ [.slice none 0 0] (sto_rel.2 ⟨_, rfl, Sh.Row.zero itSh _ _ none 0 (by unfold maxLen; omega)⟩) (fun j u hu => (Held.new wa #[.slice none 0 0] 30).2.2 j u hu) (by omega) ?_; intro v2 wb hsb hbb; refine hK _ _ ?_; have HSb := Lib.hid hsb; have HBb := Lib.hid hbb; clear hsb hbb hK)
      | fail)
    have HRb := Lib.hid (show stoSh.Row wb wb.heap.size v2 (xs ++ [⟨[]⟩]) from lsto_row.1 (HSb.out.row (Nat.le_trans HZa.out (Nat.le_trans (belowOne wa (.cells #[.slice none 0 0] 30)).size HBb.out.size))))
    have HBx := Lib.hid (show Below w9.heap.size w9 wb from (((belowOne w9 _).trans HBa.out).trans ((belowOne wa _).mono HZa.out)).trans HBb.out)
    clear HSb HSa HE HRa
    refine (implGloOk_any _ _ (xs ++ [⟨[]⟩]) HRb.out).mono ?_
    rintro e wc ⟨rfl, hb⟩
    rw [gloB_more HGb.out]
    have HBc := Lib.hid (show Below w9.heap.size w9 wc from HBx.out.trans (hb.mono HBx.out.size))
    replace HB := Lib.hid (belowNext HB.out HBc.out)
    obtain ⟨a, b, c', hxs⟩ := glo_abc3 HGb.out
    have hg := HGb.out
    rw [hxs] at hg
    obtain ⟨g1, g2, g3⟩ := gloB_parts3 hg
    have HP := Lib.hid (And.intro g1 (And.intro g2 g3))
    have HS := Lib.hid (show stoSh.Row wc wc.heap.size (.slice (some ⟨bl, ol, none⟩) 3 cl) [⟨a⟩, ⟨b⟩, ⟨c'⟩] from by have h := (HR.out.below HBc.out).more HBc.out.size; rwa [hxs] at h)
    clear hb HRb HR HBx HBa HBb HBc hxs hg g1 g2 g3 HGb HL3 c4 c5 c6 c7 HZa hza
    have st : ∀ (W : World), Below wc.heap.size wc W → ∀ (k : Nat) (it : List Item), [(⟨a⟩ : Sto), ⟨b⟩, ⟨c'⟩][k]? = some ⟨it⟩ → ∃ Ai ci, W.cell? ⟨bl, ol + k, none⟩ = some (.slice Ai it.length ci) ∧ Items W W.heap.size (.slice Ai it.length ci) it := by
      intro W hW k it hk
      have hk3 : k < 3 := by have := (List.getElem?_eq_some_iff.1 hk).1; simpa using this
      obtain ⟨b1, o1, d1, x1, p1, e1, hx1, hB1, r1, i1⟩ := stos_at ((HS.out.below hW).more hW.size) (k := k) (by simpa using hk3)
      injection e1 with e1a _ _
      injection e1a with e1a
      injection e1a with e1b e1c _
      subst e1b e1c
      rw [hk] at hx1
      obtain rfl := Option.some.inj hx1
      obtain ⟨Ai, ci, hfi, -, -⟩ := i1.form
      subst hfi
      exact ⟨Ai, ci, r1, items_row.1 i1⟩
    have HSt := Lib.hid st
    clear st
    obtain ⟨A0, d0, y0, i0⟩ := HSt.out wc (Below.refl _ _) 0 a rfl
    have HI := Lib.hid i0
    clear i0
    have y0' : wc.cell? ⟨bl, ol, none⟩ = some (.slice A0 a.length d0) := y0
    have f0 : (0 : Int) < 3 := by decide
    have f1 : (1 : Int) < 3 := by decide
    have f2 : (2 : Int) < 3 := by decide
    clear y0
    go_wp2_with fail
    clear y0'
    refine (implPlcOk_any _ 1 _ a HI.out).mono ?_
    rintro e wd ⟨rfl, hb⟩
    rw [HP.out.1]
    have HBd := Lib.hid hb
    obtain ⟨A1, d1, y1, i1⟩ := HSt.out wd hb 1 b rfl
    replace HI := Lib.hid i1
    clear i1 hb
    go_wp2_with fail
    clear y1
    refine (implPlcOk_any _ 2 _ b HI.out).mono ?_
    rintro e we ⟨rfl, hb⟩
    rw [HP.out.2.1]
    replace HBd := Lib.hid (belowNext HBd.out hb)
    obtain ⟨A2, d2, y2, i2⟩ := HSt.out we HBd.out 2 c' rfl
    replace HI := Lib.hid i2
    clear i2 hb
    go_wp2_with fail
    clear y2
    refine (implPlcOk_any _ 3 _ c' HI.out).mono ?_
    rintro e wf ⟨rfl, hb⟩
    rw [HP.out.2.2]
    replace HBd := Lib.hid (belowNext HBd.out hb)
    clear hb
    have HBe := Lib.hid (belowNext HB.out HBd.out)
    go_wp2
    go_ret
    exact ⟨rfl, HBe.out⟩

end Go.Proofs.Ytecdibpiojgppaa
