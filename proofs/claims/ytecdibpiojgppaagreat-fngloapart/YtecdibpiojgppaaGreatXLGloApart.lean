/- The walk of FnGloApart. By apartgen.py. -/
import Derived.Test.YtecdibpiojgppaaGreatXDrawGloDo
import Derived.Test.YtecdibpiojgppaaGreatXGlo
import Derived.Test.YtecdibpiojgppaaGreatXGloApartP
import Derived.Test.YtecdibpiojgppaaGreatXDrawOp0
import Derived.Test.YtecdibpiojgppaaGreatXPlanLaw2
import Derived.Deep.CutRange
import Derived.Deep.DeepCutAuto
namespace Go.Proofs.YtecdibpiojgppaaGreat
open Go.RowKit

theorem planLk {W : World} {S : Nat → Prop} {a b : Value} {k : Bool} {pl : Plan} (h : planSh.own W S [.bool k, a, b] pl) : strSh.Own 9 W S a pl.locks := by
  obtain ⟨u, v, S1, S2, e, h1, h2, s1, s2, -⟩ := plan_own.1 h
  simp only [List.cons.injEq, and_true] at e
  obtain ⟨-, rfl, rfl⟩ := e
  exact h1.mono s1
/-- Two things hold nothing in common at a place. -/
def ApartAt (xs : List Sto) (tx tx' : Int) (o o' : Op) (j : Nat) : Prop := ∀ z, xs[j]? = some z → ∀ k ∈ (plcP z.items ((j : Int) + 1) tx o).locks, k ∉ (plcP z.items ((j : Int) + 1) tx' o').locks

set_option maxRecDepth 100000 in
set_option maxHeartbeats 20000000 in
theorem lawGloApart_any (w : World) (v : Value) (n : Nat) (hv : Code8 w v n) (v2 : Value) (m2 : Nat) (hv2 : Code8 w v2 m2) :
    Calls Tryz.prog 5 #[v, v2] w fun e w' => e = .returned (.bool true) ∧ Below w.heap.size w w' := by
  have HV := Lib.hid hv
  have HU := Lib.hid hv2
  obtain ⟨A, c, f, rfl, h1, h2, -, -⟩ := hv
  obtain ⟨A', c', f', rfl, h3, h4, -, -⟩ := hv2
  unfold maxLen at h2 h4
  by_cases hn : 1048576 < n
  · have hn' : (1048576 : Int) < (n : Int) := by omega
    clear HV HU
    go_enter Tryz.func5, Tryz.ntmps5
    go_wp2
    go_ret
    exact ⟨rfl, Below.refl _ _⟩
  have hn' : (n : Int) ≤ 1048576 := by omega
  clear hn
  by_cases hm : 1048576 < m2
  · have hm' : (1048576 : Int) < (m2 : Int) := by omega
    clear HV HU
    go_enter Tryz.func5, Tryz.ntmps5
    go_wp2
    go_ret
    exact ⟨rfl, Below.refl _ _⟩
  have hm' : (m2 : Int) ≤ 1048576 := by omega
  clear hm
  go_enter Tryz.func5, Tryz.ntmps5
  go_wp2_with fail
  refine (drawGloDo_any _ _ n HV.out).mono ?_
  rintro e w1 ⟨u, xs, tx, o, rfl, hxl, hxi, t0, t1, hrow, hb1⟩
  obtain ⟨Al, cl, hlf, -, -⟩ := hrow.form
  rw [hxl] at hlf
  subst hlf
  have HB := Lib.hid (belowNext hb1 (belowOne w1 (.cells #[.int .i64 o.kind, .int .i64 o.who, .int .i64 o.inn, .int .i64 o.code, .int .i64 o.sec, .int .i64 o.fam, .int .i64 o.gen] 25)))
  have HR := Lib.hid ((hrow.below (belowOne w1 (.cells #[.int .i64 o.kind, .int .i64 o.who, .int .i64 o.inn, .int .i64 o.code, .int .i64 o.sec, .int .i64 o.fam, .int .i64 o.gen] 25))).more (belowOne w1 (.cells #[.int .i64 o.kind, .int .i64 o.who, .int .i64 o.inn, .int .i64 o.code, .int .i64 o.sec, .int .i64 o.fam, .int .i64 o.gen] 25)).size)
  have HO := Lib.hid (Held.new w1 #[.int .i64 o.kind, .int .i64 o.who, .int .i64 o.inn, .int .i64 o.code, .int .i64 o.sec, .int .i64 o.fam, .int .i64 o.gen] 25)
  have HXI := Lib.hid hxi
  have HU1 := Lib.hid (HU.out.below HB.out)
  clear hrow hb1 HV hxi HU
  unfold opV
  go_wp2_with fail
  refine (drawGloDo_any _ _ m2 HU1.out).mono ?_
  rintro e w2 ⟨u', xs', tx', q, rfl, hxl', -, t0', t1', hrow', hb⟩
  obtain ⟨Al', cl', hlf', -, -⟩ := hrow'.form
  rw [hxl'] at hlf'
  subst hlf'
  have hb2 := belowNext hb (belowOne w2 (.cells #[.int .i64 q.kind, .int .i64 q.who, .int .i64 q.inn, .int .i64 q.code, .int .i64 q.sec, .int .i64 q.fam, .int .i64 q.gen] 25))
  replace HB := Lib.hid (belowNext HB.out hb2)
  replace HR := Lib.hid ((HR.out.below hb2).more hb2.size)
  replace HO := Lib.hid (HO.out.below hb2 HO.out.1)
  have HQ := Lib.hid (Held.new w2 #[.int .i64 q.kind, .int .i64 q.who, .int .i64 q.inn, .int .i64 q.code, .int .i64 q.sec, .int .i64 q.fam, .int .i64 q.gen] 25)
  clear hrow' hb hb2 HU1 hxl'
  unfold opV
  obtain ⟨q0, q1, q2, q3, q4, q5, q6⟩ := HO.out.seven
  go_wp2_with fail
  clear q0 q1 q2 q3 q4 q5 q6
  refine (implGloDo_any _ _ xs HR.out tx o).mono ?_
  rintro e w3 ⟨ux, rfl, hx, hb⟩
  obtain ⟨ys, ok, hR⟩ : ∃ ys ok, gloDo xs tx o = (ys, ok) := ⟨_, _, rfl⟩
  rw [hR] at hx ⊢
  dsimp only at hx ⊢
  have HRe := Lib.hid hR
  obtain ⟨Ax, cx, hxf, -, -⟩ := hx.row.form
  subst hxf
  replace HB := Lib.hid (belowNext HB.out hb)
  replace HR := Lib.hid ((HR.out.below hb).more hb.size)
  replace HO := Lib.hid (HO.out.below hb HO.out.1)
  replace HQ := Lib.hid (HQ.out.below hb HQ.out.1)
  have HX := Lib.hid hx.row
  clear hb hx hR
  obtain ⟨q0, q1, q2, q3, q4, q5, q6⟩ := HO.out.seven
  go_wp2_with fail
  clear q0 q1 q2 q3 q4 q5 q6
  refine (specGloDo_any _ _ xs HR.out tx o).mono ?_
  rintro e w4 ⟨us, rfl, hs, hb⟩
  rw [HRe.out] at hs ⊢
  dsimp only at hs ⊢
  obtain ⟨As, cs, hsf, -, -⟩ := hs.row.form
  subst hsf
  replace HB := Lib.hid (belowNext HB.out hb)
  replace HR := Lib.hid ((HR.out.below hb).more hb.size)
  replace HO := Lib.hid (HO.out.below hb HO.out.1)
  replace HQ := Lib.hid (HQ.out.below hb HQ.out.1)
  replace HX := Lib.hid ((HX.out.below hb).more hb.size)
  have HS := Lib.hid (lsto_row.1 hs.row)
  clear hb hs
  have hself : (ok != ok) = false := by simp
  go_wp2_with fail
  refine (jaStos_same _ _ _ ys HX.out HS.out).mono ?_
  rintro e w5 ⟨rfl, hb⟩
  replace HB := Lib.hid (belowNext HB.out hb)
  replace HR := Lib.hid ((HR.out.below hb).more hb.size)
  replace HO := Lib.hid (HO.out.below hb HO.out.1)
  replace HQ := Lib.hid (HQ.out.below hb HQ.out.1)
  replace HX := Lib.hid ((HX.out.below hb).more hb.size)
  clear hb HS
  cases ok with
  | false =>
    clear HX HR HO HQ HXI hself
    go_wp2_with fail
    refine (jaOk_any _).mono ?_
    rintro e wz ⟨rfl, hb⟩
    have HBz := Lib.hid (belowNext HB.out hb)
    clear hb
    go_wp2
    go_ret
    exact ⟨rfl, HBz.out⟩
  | true =>
    clear hself
    have h2 : (gloDo xs tx o).2 = true := by rw [HRe.out]
    obtain ⟨a, b, c, hxs, hg, ho, ht, hmay, -⟩ := glo_yes h2
    have hl30 : ∀ x ∈ xs, x.items.length ≤ 30 := by
      have h13 := HXI.out
      obtain ⟨g1, g2, g3⟩ := gloB_parts hg
      have l1 := (stoB_three (plc_parts g1).1).1
      have l2 := (stoB_three (plc_parts g2).1).1
      have l3 := (stoB_three (plc_parts g3).1).1
      rw [hxs] at h13 ⊢
      intro x hx
      have h14 := h13 x hx
      simp only [List.mem_cons, List.not_mem_nil, or_false] at hx
      rcases hx with rfl | rfl | rfl
      · have h15 : a.length ≤ 13 ∨ a.length = 41 := h14
        show a.length ≤ 30; omega
      · have h15 : b.length ≤ 13 ∨ b.length = 41 := h14
        show b.length ≤ 30; omega
      · have h15 : c.length ≤ 13 ∨ c.length = 41 := h14
        show c.length ≤ 30; omega
    obtain ⟨tt0, tt1⟩ := inB_parts ht
    obtain ⟨t, rfl⟩ := Int.eq_ofNat_of_zero_le tt0
    obtain ⟨m, hm⟩ : ∃ m : Nat, ((t : Int) + 1) % 30 = (m : Int) := ⟨(t + 1) % 30, by omega⟩
    have hm30 : m < 30 := by omega
    have htm : (t : Int) ≠ (m : Int) := by omega
    have HBoth := Lib.hid (fun (h1 : (gloDo xs (m : Int) q).2 = true) (hd : ∀ j, j < 2 → ApartAt xs t m o q j) => apart_both hl30 h2 h1 htm (fun j z hj hz => hd j hj z hz))
    clear hl30 hg ho ht hmay h2 hxs htm t0 t1 HXI
    obtain ⟨q0, q1, q2, q3, q4, q5, q6⟩ := HQ.out.seven
    go_wp2_with fail
    clear q0 q1 q2 q3 q4 q5 q6
    refine (specOpOk_any _ q).mono ?_
    rintro e w6 ⟨rfl, hb⟩
    replace HB := Lib.hid (belowNext HB.out hb)
    replace HR := Lib.hid ((HR.out.below hb).more hb.size)
    replace HO := Lib.hid (HO.out.below hb HO.out.1)
    replace HQ := Lib.hid (HQ.out.below hb HQ.out.1)
    replace HX := Lib.hid ((HX.out.below hb).more hb.size)
    clear hb
    cases opB q with
    | false =>
      clear HX HR HO HQ
      go_wp2_with fail
      refine (jaOk_any _).mono ?_
      rintro e wz ⟨rfl, hb⟩
      have HBz := Lib.hid (belowNext HB.out hb)
      clear hb
      go_wp2
      go_ret
      exact ⟨rfl, HBz.out⟩
    | true =>
      have HBc := Lib.hid (show Below w6.heap.size w6 w6 from Below.refl _ _)
      obtain ⟨bl, ol, dl, x0, p0, f1, hx0, hBl, r0, hi0⟩ := stos_at HR.out (k := 0) (by omega)
      rw [hxl] at f1
      injection f1 with f1a f1b f1c
      subst f1a
      have HLc := Lib.hid (fun (k : Nat) (hk : k < 3) => show ∃ z Az cz, xs[k]? = some z ∧ w6.cell? ⟨bl, ol + k, none⟩ = some (.slice Az z.items.length cz) ∧ bl < w6.heap.size ∧ Items w6 w6.heap.size (.slice Az z.items.length cz) z.items from by
        obtain ⟨bz, oz, dz, z, pz, g1, hz, hBz, rz, hiz⟩ := stos_at HR.out (k := k) (by omega)
        rw [hxl] at g1
        injection g1 with g1a _ _
        injection g1a with g1a
        injection g1a with g1a g1b _
        subst g1a g1b
        obtain ⟨Az, cz, hfz, -, -⟩ := hiz.form
        subst hfz
        exact ⟨z, Az, cz, hz, rz, hBz, items_row.1 hiz⟩)
      have HBB := Lib.hid (fun (X : World) (hX : Below w6.heap.size w6 X) => show Below w.heap.size w X from belowNext HB.out hX)
      have HOc := Lib.hid (fun (X : World) (hX : Below w6.heap.size w6 X) => show X.cell? ⟨w1.heap.size, 0, none⟩ = some (.int .i64 o.kind) ∧ X.cell? ⟨w1.heap.size, 1, none⟩ = some (.int .i64 o.who) ∧ X.cell? ⟨w1.heap.size, 2, none⟩ = some (.int .i64 o.inn) ∧ X.cell? ⟨w1.heap.size, 3, none⟩ = some (.int .i64 o.code) ∧ X.cell? ⟨w1.heap.size, 4, none⟩ = some (.int .i64 o.sec) ∧ X.cell? ⟨w1.heap.size, 5, none⟩ = some (.int .i64 o.fam) ∧ X.cell? ⟨w1.heap.size, 6, none⟩ = some (.int .i64 o.gen) from (HO.out.below hX HO.out.1).seven)
      have HQc := Lib.hid (fun (X : World) (hX : Below w6.heap.size w6 X) => show X.cell? ⟨w2.heap.size, 0, none⟩ = some (.int .i64 q.kind) ∧ X.cell? ⟨w2.heap.size, 1, none⟩ = some (.int .i64 q.who) ∧ X.cell? ⟨w2.heap.size, 2, none⟩ = some (.int .i64 q.inn) ∧ X.cell? ⟨w2.heap.size, 3, none⟩ = some (.int .i64 q.code) ∧ X.cell? ⟨w2.heap.size, 4, none⟩ = some (.int .i64 q.sec) ∧ X.cell? ⟨w2.heap.size, 5, none⟩ = some (.int .i64 q.fam) ∧ X.cell? ⟨w2.heap.size, 6, none⟩ = some (.int .i64 q.gen) from (HQ.out.below hX HQ.out.1).seven)
      have HRx := Lib.hid (fun (X : World) (hX : Below w6.heap.size w6 X) => show stoSh.Row X X.heap.size (.slice (some ⟨bl, ol, none⟩) 3 cl) xs ∧ stoSh.Row X X.heap.size (.slice Ax ys.length cx) ys from ⟨(HR.out.below hX).more hX.size, (HX.out.below hX).more hX.size⟩)
      have HZ6 := Lib.hid (And.intro HO.out.1 HQ.out.1)
      clear hx0 r0 hi0 hBl f1b f1c HB HR HO HQ HX
      go_wp2
      go_loopw [16] (fun i wr => ∃ j : Nat, j ≤ 2 ∧ i = .int .i64 ((j : Int) + 1) ∧ (∀ k, k < j → ApartAt xs t m o q k) ∧ Below w6.heap.size w6 wr) (fun i _ => 3 - (intOf i).toNat)
      case atStart => exact ⟨0, by omega, rfl, fun k hk => absurd hk (by omega), HBc.out⟩
      case round =>
        clear HBc
        obtain ⟨j, hj, rfl, hap, hb⟩ := hrel
        have HAp := Lib.hid hap
        have HBr := Lib.hid hb
        clear hap hb
        by_cases hlt : j < 2
        · have hji : (j : Int) + 1 ≤ 2 := by omega
          obtain ⟨z, Az, cz, hz, rz, hBz, hiz⟩ := HLc.out j (by omega)
          have HZe := Lib.hid hz
          obtain ⟨pl, hpl⟩ : ∃ pl, plcP z.items ((j : Int) + 1) t o = pl := ⟨_, rfl⟩
          obtain ⟨pr, hpr⟩ : ∃ pr, plcP z.items ((j : Int) + 1) m q = pr := ⟨_, rfl⟩
          have HPl := Lib.hid hpl
          have HPr := Lib.hid hpr
          have hsub : (j : Int) + 1 - 1 = (j : Int) := by omega
          have hwj : IntKind.i64.wrap (j : Int) = (j : Int) := IntWalk.i64_in _ (by omega)
          have j0 : (0 : Int) ≤ (j : Int) := by omega
          have j3 : (j : Int) < 3 := by omega
          have KI := Lib.hid (fun (X : World) (hX : Below w6.heap.size w6 X) => show Items X X.heap.size (.slice Az z.items.length cz) z.items from (hiz.below hX).more hX.size)
          have KC := Lib.hid (fun (X : World) (hX : Below wr.heap.size wr X) => show X.cell? ⟨bl, ol + j, none⟩ = some (.slice Az z.items.length cz) ∧ X.cell? ⟨w1.heap.size, 0, none⟩ = some (.int .i64 o.kind) ∧ X.cell? ⟨w1.heap.size, 1, none⟩ = some (.int .i64 o.who) ∧ X.cell? ⟨w1.heap.size, 2, none⟩ = some (.int .i64 o.inn) ∧ X.cell? ⟨w1.heap.size, 3, none⟩ = some (.int .i64 o.code) ∧ X.cell? ⟨w1.heap.size, 4, none⟩ = some (.int .i64 o.sec) ∧ X.cell? ⟨w1.heap.size, 5, none⟩ = some (.int .i64 o.fam) ∧ X.cell? ⟨w1.heap.size, 6, none⟩ = some (.int .i64 o.gen) from
            have h6 : Below w6.heap.size w6 X := HBr.out.trans (hX.mono HBr.out.size)
            ⟨(h6.cell (p := ⟨bl, ol + j, none⟩) hBz).trans rz, HOc.out _ h6⟩)
          have KDz := Lib.hid (fun (X : World) (hX : Below w6.heap.size w6 X) => show X.cell? ⟨bl, ol + j, none⟩ = some (.slice Az z.items.length cz) ∧ X.cell? ⟨w2.heap.size, 0, none⟩ = some (.int .i64 q.kind) ∧ X.cell? ⟨w2.heap.size, 1, none⟩ = some (.int .i64 q.who) ∧ X.cell? ⟨w2.heap.size, 2, none⟩ = some (.int .i64 q.inn) ∧ X.cell? ⟨w2.heap.size, 3, none⟩ = some (.int .i64 q.code) ∧ X.cell? ⟨w2.heap.size, 4, none⟩ = some (.int .i64 q.sec) ∧ X.cell? ⟨w2.heap.size, 5, none⟩ = some (.int .i64 q.fam) ∧ X.cell? ⟨w2.heap.size, 6, none⟩ = some (.int .i64 q.gen) from
            ⟨(hX.cell (p := ⟨bl, ol + j, none⟩) hBz).trans rz, HQc.out _ hX⟩)
          clear hz rz hiz hpl hpr hBz
          go_upto_region 15 with fail
          go_cut [17] from 84 to 92 (fun u wc => ∃ qb ul uv, u = .pointer (some ⟨qb, 0, none⟩) ∧ Held wc qb [.bool pl.ok, ul, uv] ∧ strSh.Row wc wc.heap.size ul pl.locks ∧ Below wr.heap.size wr wc)
          case first =>
            have k0 := KC.out _ (Below.refl _ wr).drew
            refine wp_region_held_drew (S := (fun w' => w'.cell? ⟨bl, ol + j, none⟩ = some (.slice Az z.items.length cz) ∧ w'.cell? ⟨w1.heap.size, 0, none⟩ = some (.int .i64 o.kind) ∧ w'.cell? ⟨w1.heap.size, 1, none⟩ = some (.int .i64 o.who) ∧ w'.cell? ⟨w1.heap.size, 2, none⟩ = some (.int .i64 o.inn) ∧ w'.cell? ⟨w1.heap.size, 3, none⟩ = some (.int .i64 o.code) ∧ w'.cell? ⟨w1.heap.size, 4, none⟩ = some (.int .i64 o.sec) ∧ w'.cell? ⟨w1.heap.size, 5, none⟩ = some (.int .i64 o.fam) ∧ w'.cell? ⟨w1.heap.size, 6, none⟩ = some (.int .i64 o.gen))) (by kernel_rfl) ?hSa (fun hHelda => ?sta)
            case hSa => (first | (dsimp only; (first | with_reducible exact k0 | exact k0)) | (first | with_reducible exact k0 | exact k0))
            refine take_first 0 84 (v := ?va_1) rfl rfl (by kernel_rfl) (by kernel_rfl) (by kernel_rfl) (fun _ _ _ h => h) (by rfl) ?ya_1 (by assumption) ?ra_1
            case ya_1 => (intro w hSw; (try dsimp only at hSw); go_simp; (try with_reducible rfl))
            simp only [Act.put, List.setIfInBounds_toArray, List.set_cons_zero, List.set_cons_succ]
            refine take_first 1 85 (v := ?va_2) rfl rfl (by kernel_rfl) (by kernel_rfl) (by kernel_rfl) (fun _ _ _ h => h) (by rfl) ?ya_2 (by assumption) ?ra_2
            case ya_2 => (intro w hSw; (try dsimp only at hSw); go_simp; (try with_reducible rfl))
            simp only [Act.put, List.setIfInBounds_toArray, List.set_cons_zero, List.set_cons_succ]
            refine take_first 2 86 (v := ?va_3) rfl rfl (by kernel_rfl) (by kernel_rfl) (by kernel_rfl) (fun _ _ _ h => h) (by rfl) ?ya_3 (by assumption) ?ra_3
            case ya_3 => (intro w hSw; (try dsimp only at hSw); go_simp; (try with_reducible rfl))
            simp only [Act.put, List.setIfInBounds_toArray, List.set_cons_zero, List.set_cons_succ]
            refine take_first 3 87 (v := ?va_4) rfl rfl (by kernel_rfl) (by kernel_rfl) (by kernel_rfl) (fun _ _ _ h => h) (by rfl) ?ya_4 (by assumption) ?ra_4
            case ya_4 => (intro w hSw; (try dsimp only at hSw); go_simp; (try with_reducible rfl))
            simp only [Act.put, List.setIfInBounds_toArray, List.set_cons_zero, List.set_cons_succ]
            refine take_first 4 88 (v := ?va_5) rfl rfl (by kernel_rfl) (by kernel_rfl) (by kernel_rfl) (fun _ _ _ h => h) (by rfl) ?ya_5 (by assumption) ?ra_5
            case ya_5 => (intro w hSw; (try dsimp only at hSw); go_simp; (try with_reducible rfl))
            simp only [Act.put, List.setIfInBounds_toArray, List.set_cons_zero, List.set_cons_succ]
            refine take_first 5 89 (v := ?va_6) rfl rfl (by kernel_rfl) (by kernel_rfl) (by kernel_rfl) (fun _ _ _ h => h) (by rfl) ?ya_6 (by assumption) ?ra_6
            case ya_6 => (intro w hSw; (try dsimp only at hSw); go_simp; (try with_reducible rfl))
            simp only [Act.put, List.setIfInBounds_toArray, List.set_cons_zero, List.set_cons_succ]
            refine take_first 6 90 (v := ?va_7) rfl rfl (by kernel_rfl) (by kernel_rfl) (by kernel_rfl) (fun _ _ _ h => h) (by rfl) ?ya_7 (by assumption) ?ra_7
            case ya_7 => (intro w hSw; (try dsimp only at hSw); go_simp; (try with_reducible rfl))
            simp only [Act.put, List.setIfInBounds_toArray, List.set_cons_zero, List.set_cons_succ]
            refine take_first 7 91 (v := ?va_8) rfl rfl (by kernel_rfl) (by kernel_rfl) (by kernel_rfl) (fun _ _ _ h => h) (by rfl) ?ya_8 (by assumption) ?ra_8
            case ya_8 => (intro w hSw; (try dsimp only at hSw); go_simp; (try with_reducible rfl))
            simp only [Act.put, List.setIfInBounds_toArray, List.set_cons_zero, List.set_cons_succ]
            refine wpAnyH_ready (rs := [8, 9]) (by kernel_rfl) (by simp) ?_
            refine AllReadyH.cons (o := _) rfl (fun Ka hKa => ?pKaa) (AllReadyH.cons (o := _) rfl (fun Kb hKb => ?pKba) AllReadyH.nil)
            case pKaa =>
              go_simp
              have hc := implPlcPlan_any wr.drew ((j : Int) + 1) (.slice Az z.items.length cz) z.items (KI.out _ (HBr.out.drew)) (t : Int) o
              rw [HPl.out] at hc
              refine hc.mono ?_
              clear hc
              rintro e w8 ⟨u8, v8, rfl, ho8, hb8⟩
              obtain ⟨Al8, cl8, Aw8, cw8, rfl, rfl⟩ := planForm ho8
              have hw8 := (planLk ho8).row
              have HN8 := Lib.hid (show Below wr.heap.size wr w8 from belowNext ((Below.refl _ wr).drew) hb8)
              have HW8 := Lib.hid hw8
              clear ho8 hw8 hb8
              have HN9 := Lib.hid (show Below wr.heap.size wr (w8.alloc (.cells #[.bool false, .slice none 0 0, .slice none 0 0] 41)) from HN8.out.alloc HN8.out.size _)
              have HNf := Lib.hid (show Below wr.heap.size wr (w8.alloc (.cells #[.bool pl.ok, .slice Al8 pl.locks.length cl8, .slice Aw8 pl.writes.length cw8] 41)) from HN8.out.alloc HN8.out.size _)
              go_wp2_with fail
              refine hKa.out _ _ ?kKaa (fun _ => ?dKaa)
              case kKaa => exact KC.out _ HN8.out
              clear hKa Ka
              refine wpAnyH_ready (rs := [9]) (by kernel_rfl) (by simp) ?_
              refine AllReadyH.cons (o := _) rfl (fun Kc hKc => ?pKca) AllReadyH.nil
              go_simp
              go_wp2_with fail
              refine hKc.out _ _ ?kKca (fun _ => ?dKca)
              case kKca => exact KC.out _ HN9.out
              clear hKc Kc
              refine wpAnyH_ready (rs := [10]) (by kernel_rfl) (by simp) ?_
              refine AllReadyH.cons (o := _) rfl (fun Kd hKd => ?pKda) AllReadyH.nil
              go_simp
              go_wp2_with fail
              refine hKd.out _ _ ?kKda (fun _ => ?dKda)
              case kKda => exact KC.out _ HNf.out
              clear hKd Kd
              refine wpAnyH_done (by kernel_rfl) ?eKda _
              go_wp2
              go_meet
              case rel => exact ⟨w8.heap.size, _, _, rfl, Held.new w8 #[.bool pl.ok, .slice Al8 pl.locks.length cl8, .slice Aw8 pl.writes.length cw8] _, (HW8.out.below (belowOne w8 _)).more (by rw [allocSize]; omega), HNf.out⟩
            case pKba =>
              have HNa := Lib.hid (show Below wr.heap.size wr (wr.alloc (.cells #[.bool false, .slice none 0 0, .slice none 0 0] 41)).drew from (belowOne wr (.cells #[.bool false, .slice none 0 0, .slice none 0 0] 41)).drew)
              have HXa := Lib.hid (show Held (wr.alloc (.cells #[.bool false, .slice none 0 0, .slice none 0 0] 41)).drew wr.heap.size [.bool false, .slice none 0 0, .slice none 0 0] from Held.new wr #[.bool false, .slice none 0 0, .slice none 0 0] 41)
              go_simp
              go_wp2_with fail
              refine hKb.out _ _ ?kKba (fun _ => ?dKba)
              case kKba => exact KC.out _ HNa.out
              clear hKb Kb
              refine wpAnyH_ready (rs := [8]) (by kernel_rfl) (by simp) ?_
              refine AllReadyH.cons (o := _) rfl (fun Ke hKe => ?pKea) AllReadyH.nil
              go_simp
              have hc := implPlcPlan_any (wr.alloc (.cells #[.bool false, .slice none 0 0, .slice none 0 0] 41)).drew ((j : Int) + 1) (.slice Az z.items.length cz) z.items (KI.out _ (HBr.out.trans (HNa.out.mono HBr.out.size))) (t : Int) o
              rw [HPl.out] at hc
              refine hc.mono ?_
              clear hc
              rintro e w8 ⟨u8, v8, rfl, ho8, hb8⟩
              obtain ⟨Al8, cl8, Aw8, cw8, rfl, rfl⟩ := planForm ho8
              have HW8 := Lib.hid (planLk ho8)
              have HN8 := Lib.hid (show Below wr.heap.size wr w8 from belowNext (HNa.out) hb8)
              have HX8 := Lib.hid (HXa.out.below hb8 HXa.out.1)
              clear ho8 hb8
              go_wp2_with fail
              refine hKe.out _ _ ?kKea (fun _ => ?dKea)
              case kKea => exact KC.out _ HN8.out
              clear hKe Ke
              have HNf := Lib.hid (show Below wr.heap.size wr (put3 w8 wr.heap.size (.bool pl.ok) (.slice Al8 pl.locks.length cl8) (.slice Aw8 pl.writes.length cw8)) from belowPut3 HN8.out wr.heap.size (Nat.le_refl _) _ _ _)
              have r0 := HX8.out.of 0 _ rfl
              have r1 := HX8.out.of 1 _ rfl
              have r2 := HX8.out.of 2 _ rfl
              have rf := HX8.out.2.1
              refine wpAnyH_ready (rs := [10]) (by kernel_rfl) (by simp) ?_
              refine AllReadyH.cons (o := _) rfl (fun Kf hKf => ?pKfa) AllReadyH.nil
              go_simp
              go_wp2_with fail
              refine hKf.out _ _ ?kKfa (fun _ => ?dKfa)
              case kKfa => exact KC.out _ HNf.out
              clear hKf Kf r0 r1 r2 rf
              refine wpAnyH_done (by kernel_rfl) ?eKfa _
              go_wp2
              go_meet
              case rel => exact ⟨wr.heap.size, _, _, rfl, HX8.out.put3 _ _ _, (HW8.out.keep (w' := put3 w8 wr.heap.size (.bool pl.ok) (.slice Al8 pl.locks.length cl8) (.slice Aw8 pl.writes.length cw8)) fun b hs _ => put3_far _ _ _ _ _ (by have h7 : (wr.alloc (.cells #[.bool false, .slice none 0 0, .slice none 0 0] 41)).heap.size ≤ b := hs.1; rw [allocSize] at h7; show b ≠ wr.heap.size; omega)).row, HNf.out⟩
          case rest =>
          obtain ⟨qb, ul, uv, rfl, hHq, hkq, hbq⟩ := hcut
          obtain ⟨Aa, ca, hfa, hca2, hca1⟩ := hkq.form
          subst hfa
          unfold maxLen at hca2
          have HH1 := Lib.hid hHq
          have HK1 := Lib.hid hkq
          have HBw := Lib.hid (show Below w6.heap.size w6 wc from HBr.out.trans (hbq.mono HBr.out.size))
          clear hHq hkq hbq KC HBr
          generalize wc = wA at *
          have KD := Lib.hid (fun (X : World) (hX : Below wA.heap.size wA X) => KDz.out X (HBw.out.trans (hX.mono HBw.out.size)))
          go_upto_region 16 with fail
          go_cut [18] from 93 to 101 (fun u wc => ∃ qb ul uv, u = .pointer (some ⟨qb, 0, none⟩) ∧ Held wc qb [.bool pr.ok, ul, uv] ∧ strSh.Row wc wc.heap.size ul pr.locks ∧ Below wA.heap.size wA wc)
          case first =>
            have k0 := KD.out _ (Below.refl _ wA).drew
            refine wp_region_held_drew (S := (fun w' => w'.cell? ⟨bl, ol + j, none⟩ = some (.slice Az z.items.length cz) ∧ w'.cell? ⟨w2.heap.size, 0, none⟩ = some (.int .i64 q.kind) ∧ w'.cell? ⟨w2.heap.size, 1, none⟩ = some (.int .i64 q.who) ∧ w'.cell? ⟨w2.heap.size, 2, none⟩ = some (.int .i64 q.inn) ∧ w'.cell? ⟨w2.heap.size, 3, none⟩ = some (.int .i64 q.code) ∧ w'.cell? ⟨w2.heap.size, 4, none⟩ = some (.int .i64 q.sec) ∧ w'.cell? ⟨w2.heap.size, 5, none⟩ = some (.int .i64 q.fam) ∧ w'.cell? ⟨w2.heap.size, 6, none⟩ = some (.int .i64 q.gen))) (by kernel_rfl) ?hSb (fun hHeldb => ?stb)
            case hSb => (first | (dsimp only; (first | with_reducible exact k0 | exact k0)) | (first | with_reducible exact k0 | exact k0))
            refine take_first 0 93 (v := ?vb_1) rfl rfl (by kernel_rfl) (by kernel_rfl) (by kernel_rfl) (fun _ _ _ h => h) (by rfl) ?yb_1 (by assumption) ?rb_1
            case yb_1 => (intro w hSw; (try dsimp only at hSw); go_simp; (try with_reducible rfl))
            simp only [Act.put, List.setIfInBounds_toArray, List.set_cons_zero, List.set_cons_succ]
            refine take_first 1 94 (v := ?vb_2) rfl rfl (by kernel_rfl) (by kernel_rfl) (by kernel_rfl) (fun _ _ _ h => h) (by rfl) ?yb_2 (by assumption) ?rb_2
            case yb_2 => (intro w hSw; (try dsimp only at hSw); go_simp; (try with_reducible rfl))
            simp only [Act.put, List.setIfInBounds_toArray, List.set_cons_zero, List.set_cons_succ]
            refine take_first 2 95 (v := ?vb_3) rfl rfl (by kernel_rfl) (by kernel_rfl) (by kernel_rfl) (fun _ _ _ h => h) (by rfl) ?yb_3 (by assumption) ?rb_3
            case yb_3 => (intro w hSw; (try dsimp only at hSw); go_simp; (try with_reducible rfl))
            simp only [Act.put, List.setIfInBounds_toArray, List.set_cons_zero, List.set_cons_succ]
            refine take_first 3 96 (v := ?vb_4) rfl rfl (by kernel_rfl) (by kernel_rfl) (by kernel_rfl) (fun _ _ _ h => h) (by rfl) ?yb_4 (by assumption) ?rb_4
            case yb_4 => (intro w hSw; (try dsimp only at hSw); go_simp; (try with_reducible rfl))
            simp only [Act.put, List.setIfInBounds_toArray, List.set_cons_zero, List.set_cons_succ]
            refine take_first 4 97 (v := ?vb_5) rfl rfl (by kernel_rfl) (by kernel_rfl) (by kernel_rfl) (fun _ _ _ h => h) (by rfl) ?yb_5 (by assumption) ?rb_5
            case yb_5 => (intro w hSw; (try dsimp only at hSw); go_simp; (try with_reducible rfl))
            simp only [Act.put, List.setIfInBounds_toArray, List.set_cons_zero, List.set_cons_succ]
            refine take_first 5 98 (v := ?vb_6) rfl rfl (by kernel_rfl) (by kernel_rfl) (by kernel_rfl) (fun _ _ _ h => h) (by rfl) ?yb_6 (by assumption) ?rb_6
            case yb_6 => (intro w hSw; (try dsimp only at hSw); go_simp; (try with_reducible rfl))
            simp only [Act.put, List.setIfInBounds_toArray, List.set_cons_zero, List.set_cons_succ]
            refine take_first 6 99 (v := ?vb_7) rfl rfl (by kernel_rfl) (by kernel_rfl) (by kernel_rfl) (fun _ _ _ h => h) (by rfl) ?yb_7 (by assumption) ?rb_7
            case yb_7 => (intro w hSw; (try dsimp only at hSw); go_simp; (try with_reducible rfl))
            simp only [Act.put, List.setIfInBounds_toArray, List.set_cons_zero, List.set_cons_succ]
            refine take_first 7 100 (v := ?vb_8) rfl rfl (by kernel_rfl) (by kernel_rfl) (by kernel_rfl) (fun _ _ _ h => h) (by rfl) ?yb_8 (by assumption) ?rb_8
            case yb_8 => (intro w hSw; (try dsimp only at hSw); go_simp; (try with_reducible rfl))
            simp only [Act.put, List.setIfInBounds_toArray, List.set_cons_zero, List.set_cons_succ]
            refine wpAnyH_ready (rs := [8, 9]) (by kernel_rfl) (by simp) ?_
            refine AllReadyH.cons (o := _) rfl (fun Ka hKa => ?pKab) (AllReadyH.cons (o := _) rfl (fun Kb hKb => ?pKbb) AllReadyH.nil)
            case pKab =>
              go_simp
              have hc := implPlcPlan_any wA.drew ((j : Int) + 1) (.slice Az z.items.length cz) z.items (KI.out _ (HBw.out.drew)) (m : Int) q
              rw [HPr.out] at hc
              refine hc.mono ?_
              clear hc
              rintro e w8 ⟨u8, v8, rfl, ho8, hb8⟩
              obtain ⟨Al8, cl8, Aw8, cw8, rfl, rfl⟩ := planForm ho8
              have hw8 := (planLk ho8).row
              have HN8 := Lib.hid (show Below wA.heap.size wA w8 from belowNext ((Below.refl _ wA).drew) hb8)
              have HW8 := Lib.hid hw8
              clear ho8 hw8 hb8
              have HN9 := Lib.hid (show Below wA.heap.size wA (w8.alloc (.cells #[.bool false, .slice none 0 0, .slice none 0 0] 41)) from HN8.out.alloc HN8.out.size _)
              have HNf := Lib.hid (show Below wA.heap.size wA (w8.alloc (.cells #[.bool pr.ok, .slice Al8 pr.locks.length cl8, .slice Aw8 pr.writes.length cw8] 41)) from HN8.out.alloc HN8.out.size _)
              go_wp2_with fail
              refine hKa.out _ _ ?kKab (fun _ => ?dKab)
              case kKab => exact KD.out _ HN8.out
              clear hKa Ka
              refine wpAnyH_ready (rs := [9]) (by kernel_rfl) (by simp) ?_
              refine AllReadyH.cons (o := _) rfl (fun Kc hKc => ?pKcb) AllReadyH.nil
              go_simp
              go_wp2_with fail
              refine hKc.out _ _ ?kKcb (fun _ => ?dKcb)
              case kKcb => exact KD.out _ HN9.out
              clear hKc Kc
              refine wpAnyH_ready (rs := [10]) (by kernel_rfl) (by simp) ?_
              refine AllReadyH.cons (o := _) rfl (fun Kd hKd => ?pKdb) AllReadyH.nil
              go_simp
              go_wp2_with fail
              refine hKd.out _ _ ?kKdb (fun _ => ?dKdb)
              case kKdb => exact KD.out _ HNf.out
              clear hKd Kd
              refine wpAnyH_done (by kernel_rfl) ?eKdb _
              go_wp2
              go_meet
              case rel => exact ⟨w8.heap.size, _, _, rfl, Held.new w8 #[.bool pr.ok, .slice Al8 pr.locks.length cl8, .slice Aw8 pr.writes.length cw8] _, (HW8.out.below (belowOne w8 _)).more (by rw [allocSize]; omega), HNf.out⟩
            case pKbb =>
              have HNa := Lib.hid (show Below wA.heap.size wA (wA.alloc (.cells #[.bool false, .slice none 0 0, .slice none 0 0] 41)).drew from (belowOne wA (.cells #[.bool false, .slice none 0 0, .slice none 0 0] 41)).drew)
              have HXa := Lib.hid (show Held (wA.alloc (.cells #[.bool false, .slice none 0 0, .slice none 0 0] 41)).drew wA.heap.size [.bool false, .slice none 0 0, .slice none 0 0] from Held.new wA #[.bool false, .slice none 0 0, .slice none 0 0] 41)
              go_simp
              go_wp2_with fail
              refine hKb.out _ _ ?kKbb (fun _ => ?dKbb)
              case kKbb => exact KD.out _ HNa.out
              clear hKb Kb
              refine wpAnyH_ready (rs := [8]) (by kernel_rfl) (by simp) ?_
              refine AllReadyH.cons (o := _) rfl (fun Ke hKe => ?pKeb) AllReadyH.nil
              go_simp
              have hc := implPlcPlan_any (wA.alloc (.cells #[.bool false, .slice none 0 0, .slice none 0 0] 41)).drew ((j : Int) + 1) (.slice Az z.items.length cz) z.items (KI.out _ (HBw.out.trans (HNa.out.mono HBw.out.size))) (m : Int) q
              rw [HPr.out] at hc
              refine hc.mono ?_
              clear hc
              rintro e w8 ⟨u8, v8, rfl, ho8, hb8⟩
              obtain ⟨Al8, cl8, Aw8, cw8, rfl, rfl⟩ := planForm ho8
              have HW8 := Lib.hid (planLk ho8)
              have HN8 := Lib.hid (show Below wA.heap.size wA w8 from belowNext (HNa.out) hb8)
              have HX8 := Lib.hid (HXa.out.below hb8 HXa.out.1)
              clear ho8 hb8
              go_wp2_with fail
              refine hKe.out _ _ ?kKeb (fun _ => ?dKeb)
              case kKeb => exact KD.out _ HN8.out
              clear hKe Ke
              have HNf := Lib.hid (show Below wA.heap.size wA (put3 w8 wA.heap.size (.bool pr.ok) (.slice Al8 pr.locks.length cl8) (.slice Aw8 pr.writes.length cw8)) from belowPut3 HN8.out wA.heap.size (Nat.le_refl _) _ _ _)
              have r0 := HX8.out.of 0 _ rfl
              have r1 := HX8.out.of 1 _ rfl
              have r2 := HX8.out.of 2 _ rfl
              have rf := HX8.out.2.1
              refine wpAnyH_ready (rs := [10]) (by kernel_rfl) (by simp) ?_
              refine AllReadyH.cons (o := _) rfl (fun Kf hKf => ?pKfb) AllReadyH.nil
              go_simp
              go_wp2_with fail
              refine hKf.out _ _ ?kKfb (fun _ => ?dKfb)
              case kKfb => exact KD.out _ HNf.out
              clear hKf Kf r0 r1 r2 rf
              refine wpAnyH_done (by kernel_rfl) ?eKfb _
              go_wp2
              go_meet
              case rel => exact ⟨wA.heap.size, _, _, rfl, HX8.out.put3 _ _ _, (HW8.out.keep (w' := put3 w8 wA.heap.size (.bool pr.ok) (.slice Al8 pr.locks.length cl8) (.slice Aw8 pr.writes.length cw8)) fun b hs _ => put3_far _ _ _ _ _ (by have h7 : (wA.alloc (.cells #[.bool false, .slice none 0 0, .slice none 0 0] 41)).heap.size ≤ b := hs.1; rw [allocSize] at h7; show b ≠ wA.heap.size; omega)).row, HNf.out⟩
          case rest =>
          obtain ⟨qc, ul2, uv2, rfl, hHq, hkq, hbq⟩ := hcut
          obtain ⟨Ba, da, hfa, -, -⟩ := hkq.form
          subst hfa
          have HFc := Lib.hid (fun (X : World) (hX : Below wc.heap.size wc X) => show X.cell? ⟨qc, 1, none⟩ = some (.slice Ba pr.locks.length da) ∧ X.cell? ⟨qb, 1, none⟩ = some (.slice Aa pl.locks.length ca) ∧ strSh.Row X X.heap.size (.slice Aa pl.locks.length ca) pl.locks ∧ strSh.Row X X.heap.size (.slice Ba pr.locks.length da) pr.locks ∧ Below w6.heap.size w6 X from
            have h3 := belowNext hbq hX
            ⟨(hHq.below hX hHq.1).of 1 _ rfl, (HH1.out.below h3 HH1.out.1).of 1 _ rfl, (HK1.out.below h3).more h3.size, (hkq.below hX).more hX.size, HBw.out.trans (h3.mono HBw.out.size)⟩)
          have HBq := Lib.hid (show Below wc.heap.size wc wc from Below.refl _ _)
          clear hHq hkq hbq KD KDz HH1 HK1 HBw KI hsub hwj
          go_wp2
          go_loopw [19] (fun i wr => ∃ k : Nat, k ≤ pl.locks.length ∧ i = .int .i64 k ∧ (∀ l : Nat, l < k → ∀ x, pl.locks[l]? = some x → x ∉ pr.locks) ∧ Below wc.heap.size wc wr) (fun i _ => pl.locks.length - (intOf i).toNat)
          case atStart => exact ⟨0, Nat.zero_le _, rfl, fun l hl => absurd hl (by omega), HBq.out⟩
          case round =>
            clear HBq
            obtain ⟨k, hk, rfl, hfr, hb⟩ := hrel
            have HFr := Lib.hid hfr
            have HBk := Lib.hid hb
            clear hb hfr
            obtain ⟨r1, c1, hrl, hrr, h6⟩ := HFc.out _ HBk.out
            by_cases hkt : k < pl.locks.length
            · have hki : (k : Int) < (pl.locks.length : Int) := by omega
              have hk0 : (0 : Int) ≤ (k : Int) := by omega
              obtain ⟨bk, ok_, dk, x, f1, hx, hBk, hsx, cx⟩ := strs_at hrl hkt
              injection f1 with f1a f1b f1c
              subst f1a
              have HXa := Lib.hid hx
              have HRw := Lib.hid hrr
              have HBd := Lib.hid h6
              have k0 := And.intro r1 (And.intro c1 cx)
              clear c1 cx r1 f1b f1c hsx hx hrl hrr h6
              cases hh : hasT pr.locks x with
              | true =>
                go_wp2
                refine wp_region_held_drew (S := (fun w' => w'.cell? ⟨qc, 1, none⟩ = some (.slice Ba pr.locks.length da) ∧ w'.cell? ⟨qb, 1, none⟩ = some (.slice (some ⟨bk, ok_, none⟩) pl.locks.length ca) ∧ w'.cell? ⟨bk, ok_ + k, none⟩ = some (.string x))) (by kernel_rfl) ?hSl (fun hHeldl => ?stl)
                case hSl => (first | (dsimp only; (first | with_reducible exact k0 | exact k0)) | (first | with_reducible exact k0 | exact k0))
                refine take_first 0 109 (v := ?vl_1) rfl rfl (by kernel_rfl) (by kernel_rfl) (by kernel_rfl) (fun _ _ _ h => h) (by rfl) ?yl_1 (by assumption) ?rl_1
                case yl_1 => (intro w hSw; (try dsimp only at hSw); go_simp; (try with_reducible rfl))
                simp only [Act.put, List.setIfInBounds_toArray, List.set_cons_zero, List.set_cons_succ]
                refine take_first 1 110 (v := ?vl_2) rfl rfl (by kernel_rfl) (by kernel_rfl) (by kernel_rfl) (fun _ _ _ h => h) (by rfl) ?yl_2 (by assumption) ?rl_2
                case yl_2 => (intro w hSw; (try dsimp only at hSw); go_simp; (try with_reducible rfl))
                simp only [Act.put, List.setIfInBounds_toArray, List.set_cons_zero, List.set_cons_succ]
                refine take_first 2 111 (v := ?vl_3) rfl rfl (by kernel_rfl) (by kernel_rfl) (by kernel_rfl) (fun _ _ _ h => h) (by rfl) ?yl_3 (by assumption) ?rl_3
                case yl_3 => (intro w hSw; (try dsimp only at hSw); go_simp; (try with_reducible rfl))
                simp only [Act.put, List.setIfInBounds_toArray, List.set_cons_zero, List.set_cons_succ]
                refine take_first 3 112 (v := ?vl_4) rfl rfl (by kernel_rfl) (by kernel_rfl) (by kernel_rfl) (fun _ _ _ h => h) (by rfl) ?yl_4 (by assumption) ?rl_4
                case yl_4 => (intro w hSw; (try dsimp only at hSw); go_simp; (try with_reducible rfl))
                simp only [Act.put, List.setIfInBounds_toArray, List.set_cons_zero, List.set_cons_succ]
                refine take_first 4 113 (v := ?vl_5) rfl rfl (by kernel_rfl) (by kernel_rfl) (by kernel_rfl) (fun _ _ _ h => h) (by rfl) ?yl_5 (by assumption) ?rl_5
                case yl_5 => (intro w hSw; (try dsimp only at hSw); go_simp; (try with_reducible rfl))
                simp only [Act.put, List.setIfInBounds_toArray, List.set_cons_zero, List.set_cons_succ]
                refine take_first 5 114 (v := ?vl_6) rfl rfl (by kernel_rfl) (by kernel_rfl) (by kernel_rfl) (fun _ _ _ h => h) (by rfl) ?yl_6 (by assumption) ?rl_6
                case yl_6 => (intro w hSw; (try dsimp only at hSw); go_simp; (try with_reducible rfl))
                simp only [Act.put, List.setIfInBounds_toArray, List.set_cons_zero, List.set_cons_succ]
                refine take_first 6 115 (v := ?vl_7) rfl rfl (by kernel_rfl) (by kernel_rfl) (by kernel_rfl) (fun _ _ _ h => h) (by rfl) ?yl_7 (by assumption) ?rl_7
                case yl_7 => (intro w hSw; (try dsimp only at hSw); go_simp; (try with_reducible rfl))
                simp only [Act.put, List.setIfInBounds_toArray, List.set_cons_zero, List.set_cons_succ]
                refine wpAnyH_ready (rs := [7]) (by kernel_rfl) (by simp) ?_
                refine AllReadyH.cons (o := _) rfl (fun Kl_8 hKl_8 => ?cl_8) ?ml_8
                case ml_8 => exact AllReadyH.nil
                go_simp
                refine (jaHas_any _ _ _ _ _ (HRw.out.keep (w' := wr.drew) (fun _ _ _ => rfl))).mono ?_; rintro e wz ⟨rfl, rfl⟩; rw [hh]
                go_wp2_with fail
                refine hKl_8.out _ _ ?kl_8 (fun hHeldl_8 => ?dl_8)
                case kl_8 => (first | (dsimp only; (first | with_reducible exact k0 | exact k0)) | (first | with_reducible exact k0 | exact k0))
                clear hKl_8 Kl_8
                refine wpAnyH_done (by kernel_rfl) ?el _
                clear k0
                go_wp2_with fail
                refine (jaOk_any _).mono ?_
                rintro e wz ⟨rfl, hb⟩
                have HBz := Lib.hid (belowNext (HBB.out _ HBd.out.drew) hb)
                clear hb
                go_wp2
                go_ret
                exact ⟨rfl, HBz.out⟩
              | false =>
                have HNo := Lib.hid (show x ∉ pr.locks from fun hm => by rw [hasT_yes hm] at hh; cases hh)
                go_wp2
                refine wp_region_held_drew (S := (fun w' => w'.cell? ⟨qc, 1, none⟩ = some (.slice Ba pr.locks.length da) ∧ w'.cell? ⟨qb, 1, none⟩ = some (.slice (some ⟨bk, ok_, none⟩) pl.locks.length ca) ∧ w'.cell? ⟨bk, ok_ + k, none⟩ = some (.string x))) (by kernel_rfl) ?hSl2 (fun hHeldl2 => ?stl2)
                case hSl2 => (first | (dsimp only; (first | with_reducible exact k0 | exact k0)) | (first | with_reducible exact k0 | exact k0))
                refine take_first 0 109 (v := ?vl2_1) rfl rfl (by kernel_rfl) (by kernel_rfl) (by kernel_rfl) (fun _ _ _ h => h) (by rfl) ?yl2_1 (by assumption) ?rl2_1
                case yl2_1 => (intro w hSw; (try dsimp only at hSw); go_simp; (try with_reducible rfl))
                simp only [Act.put, List.setIfInBounds_toArray, List.set_cons_zero, List.set_cons_succ]
                refine take_first 1 110 (v := ?vl2_2) rfl rfl (by kernel_rfl) (by kernel_rfl) (by kernel_rfl) (fun _ _ _ h => h) (by rfl) ?yl2_2 (by assumption) ?rl2_2
                case yl2_2 => (intro w hSw; (try dsimp only at hSw); go_simp; (try with_reducible rfl))
                simp only [Act.put, List.setIfInBounds_toArray, List.set_cons_zero, List.set_cons_succ]
                refine take_first 2 111 (v := ?vl2_3) rfl rfl (by kernel_rfl) (by kernel_rfl) (by kernel_rfl) (fun _ _ _ h => h) (by rfl) ?yl2_3 (by assumption) ?rl2_3
                case yl2_3 => (intro w hSw; (try dsimp only at hSw); go_simp; (try with_reducible rfl))
                simp only [Act.put, List.setIfInBounds_toArray, List.set_cons_zero, List.set_cons_succ]
                refine take_first 3 112 (v := ?vl2_4) rfl rfl (by kernel_rfl) (by kernel_rfl) (by kernel_rfl) (fun _ _ _ h => h) (by rfl) ?yl2_4 (by assumption) ?rl2_4
                case yl2_4 => (intro w hSw; (try dsimp only at hSw); go_simp; (try with_reducible rfl))
                simp only [Act.put, List.setIfInBounds_toArray, List.set_cons_zero, List.set_cons_succ]
                refine take_first 4 113 (v := ?vl2_5) rfl rfl (by kernel_rfl) (by kernel_rfl) (by kernel_rfl) (fun _ _ _ h => h) (by rfl) ?yl2_5 (by assumption) ?rl2_5
                case yl2_5 => (intro w hSw; (try dsimp only at hSw); go_simp; (try with_reducible rfl))
                simp only [Act.put, List.setIfInBounds_toArray, List.set_cons_zero, List.set_cons_succ]
                refine take_first 5 114 (v := ?vl2_6) rfl rfl (by kernel_rfl) (by kernel_rfl) (by kernel_rfl) (fun _ _ _ h => h) (by rfl) ?yl2_6 (by assumption) ?rl2_6
                case yl2_6 => (intro w hSw; (try dsimp only at hSw); go_simp; (try with_reducible rfl))
                simp only [Act.put, List.setIfInBounds_toArray, List.set_cons_zero, List.set_cons_succ]
                refine take_first 6 115 (v := ?vl2_7) rfl rfl (by kernel_rfl) (by kernel_rfl) (by kernel_rfl) (fun _ _ _ h => h) (by rfl) ?yl2_7 (by assumption) ?rl2_7
                case yl2_7 => (intro w hSw; (try dsimp only at hSw); go_simp; (try with_reducible rfl))
                simp only [Act.put, List.setIfInBounds_toArray, List.set_cons_zero, List.set_cons_succ]
                refine wpAnyH_ready (rs := [7]) (by kernel_rfl) (by simp) ?_
                refine AllReadyH.cons (o := _) rfl (fun Kl2_8 hKl2_8 => ?cl2_8) ?ml2_8
                case ml2_8 => exact AllReadyH.nil
                go_simp
                refine (jaHas_any _ _ _ _ _ (HRw.out.keep (w' := wr.drew) (fun _ _ _ => rfl))).mono ?_; rintro e wz ⟨rfl, rfl⟩; rw [hh]
                go_wp2_with fail
                refine hKl2_8.out _ _ ?kl2_8 (fun hHeldl2_8 => ?dl2_8)
                case kl2_8 => (first | (dsimp only; (first | with_reducible exact k0 | exact k0)) | (first | with_reducible exact k0 | exact k0))
                clear hKl2_8 Kl2_8
                refine wpAnyH_done (by kernel_rfl) ?el2 _
                clear k0
                go_wp2
                go_roundw
                case rel =>
                  refine ⟨k + 1, by omega, by go_num, fun l hl y hy => ?_, HBk.out.drew⟩
                  rcases Nat.lt_or_ge l k with h | h
                  · exact HFr.out l h y hy
                  · obtain rfl : l = k := by omega
                    rw [HXa.out] at hy
                    exact Option.some.inj hy ▸ HNo.out
                case measure => simp [intOf]; omega
            · have hki : ¬ (k : Int) < (pl.locks.length : Int) := by omega
              have HDj := Lib.hid (show ApartAt xs t m o q j from fun z' hz' y hy => by
                rw [HZe.out] at hz'
                obtain rfl := Option.some.inj hz'
                rw [HPl.out] at hy
                rw [HPr.out]
                obtain ⟨l, hl, e⟩ := List.getElem_of_mem hy
                exact HFr.out l (by omega) y (by rw [List.getElem?_eq_getElem hl, e]))
              have HB6 := Lib.hid h6
              clear hrl hrr h6 r1 HFr
              go_wp2
              go_roundw
              case rel =>
                refine ⟨j + 1, by omega, by go_num, fun l hl => ?_, HB6.out⟩
                rcases Nat.lt_or_ge l j with h | h
                · exact HAp.out l h
                · obtain rfl : l = j := by omega
                  exact HDj.out
              case measure => simp [intOf]; omega
        · have hji : ¬ (j : Int) + 1 ≤ 2 := by omega
          obtain rfl : j = 2 := by omega
          have HBz := Lib.hid (HBB.out _ HBr.out)
          obtain ⟨q0, q1, q2, q3, q4, q5, q6⟩ := HQc.out _ HBr.out
          go_wp2_with fail
          clear q0 q1 q2 q3 q4 q5 q6
          refine (implGloDo_any _ _ xs (HRx.out _ HBr.out).1 (m : Int) q).mono ?_
          rintro e w7 ⟨uu, rfl, hu, hb⟩
          obtain ⟨uss, one, hR2⟩ : ∃ zs ok, gloDo xs (m : Int) q = (zs, ok) := ⟨_, _, rfl⟩
          rw [hR2] at hu ⊢
          dsimp only at hu ⊢
          obtain ⟨Au, cu, huf, -, -⟩ := hu.row.form
          subst huf
          have HB7 := Lib.hid (show Below w6.heap.size w6 w7 from HBr.out.trans (hb.mono HBr.out.size))
          have HUr := Lib.hid hu.row
          clear hu hb
          cases one with
          | false =>
            have HB := Lib.hid (HBB.out _ HB7.out)
            go_wp2_with fail
            refine (jaOk_any _).mono ?_
            rintro e wz ⟨rfl, hb⟩
            have HBz := Lib.hid (belowNext HB.out hb)
            clear hb
            go_wp2
            go_ret
            exact ⟨rfl, HBz.out⟩
          | true =>
            obtain ⟨R, hA1, hA2⟩ := HBoth.out (by rw [hR2]) HAp.out
            rw [HRe.out] at hA1
            rw [hR2] at hA2
            have HA1 := Lib.hid (show gloDo ys (m : Int) q = (R, true) from hA1)
            have HA2 := Lib.hid (show gloDo uss (t : Int) o = (R, true) from hA2)
            clear hA1 hA2 hR2
            obtain ⟨q0, q1, q2, q3, q4, q5, q6⟩ := HQc.out _ HB7.out
            go_wp2_with fail
            clear q0 q1 q2 q3 q4 q5 q6
            refine (implGloDo_any _ _ ys (HRx.out _ HB7.out).2 (m : Int) q).mono ?_
            rintro e w8 ⟨uy, rfl, hy, hb⟩
            rw [HA1.out] at hy ⊢
            dsimp only at hy ⊢
            obtain ⟨Ay, cy, hyf, -, -⟩ := hy.row.form
            subst hyf
            have HB8 := Lib.hid (show Below w6.heap.size w6 w8 from HB7.out.trans (hb.mono HB7.out.size))
            have HYr := Lib.hid hy.row
            replace HUr := Lib.hid ((HUr.out.below hb).more hb.size)
            clear hy hb
            obtain ⟨q0, q1, q2, q3, q4, q5, q6⟩ := HOc.out _ HB8.out
            go_wp2_with fail
            clear q0 q1 q2 q3 q4 q5 q6
            refine (implGloDo_any _ _ uss HUr.out (t : Int) o).mono ?_
            rintro e w9 ⟨uv, rfl, hv, hb⟩
            rw [HA2.out] at hv ⊢
            dsimp only at hv ⊢
            obtain ⟨Av, cv, hvf, -, -⟩ := hv.row.form
            subst hvf
            have HB9 := Lib.hid (show Below w6.heap.size w6 w9 from HB8.out.trans (hb.mono HB8.out.size))
            have HVr := Lib.hid hv.row
            replace HYr := Lib.hid ((HYr.out.below hb).more hb.size)
            clear hv hb
            go_wp2_with fail
            refine (jaStos_same _ _ _ R HYr.out HVr.out).mono ?_
            rintro e wz ⟨rfl, hb⟩
            have HBe := Lib.hid (belowNext (HBB.out _ HB9.out) hb)
            clear hb
            go_wp2
            go_ret
            exact ⟨rfl, HBe.out⟩

end Go.Proofs.YtecdibpiojgppaaGreat
