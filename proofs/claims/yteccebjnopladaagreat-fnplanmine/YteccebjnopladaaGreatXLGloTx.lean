/- Texts that follow each other, merged: LGloTx, LPlanMine. -/
import Derived.Test.YteccebjnopladaaGreatXDrawOpen
import Derived.Test.YteccebjnopladaaGreatXGlo
import Derived.Test.YteccebjnopladaaGreatXPlayMay
import Derived.Test.YteccebjnopladaaGreatXJaSto
import Derived.Deep.CutRange
import Derived.Deep.DeepCutAuto

/- The walk of FnGloTx. By gdgen.py. -/
namespace Go.Proofs.YteccebjnopladaaGreat
open Go.RowKit

set_option maxRecDepth 100000 in
set_option maxHeartbeats 20000000 in
theorem lawGloTx_any (w : World) (v : Value) (n : Nat) (hv : Code8 w v n) :
    Calls Tryz.prog 7 #[v] w fun e w' => e = .returned (.bool true) ∧ Below w.heap.size w w' := by
  have HV := Lib.hid hv
  obtain ⟨A, c, f, rfl, h1, h2, -, -⟩ := hv
  unfold maxLen at h2
  by_cases hn : 1048576 < n
  · have hn' : (1048576 : Int) < (n : Int) := by omega
    go_enter Tryz.func7, Tryz.ntmps7
    go_wp2
    go_ret
    exact ⟨rfl, Below.refl _ _⟩
  have hn' : (n : Int) ≤ 1048576 := by omega
  clear hn
  go_enter Tryz.func7, Tryz.ntmps7
  go_wp2_with fail
  refine (drawGloDo_any _ _ n HV.out).mono ?_
  rintro e w1 ⟨u, xs, tx, o, rfl, hxl, hxi, t0, t1, hrow, hb1⟩
  obtain ⟨Al, cl, hlf, -, -⟩ := hrow.form
  rw [hxl] at hlf
  subst hlf
  have HB := Lib.hid (belowNext hb1 (belowOne w1 (.cells #[.int .i64 o.kind, .int .i64 o.who, .int .i64 o.inn, .int .i64 o.code, .int .i64 o.sec, .int .i64 o.fam, .int .i64 o.gen] 37)))
  have HR := Lib.hid ((hrow.below (belowOne w1 (.cells #[.int .i64 o.kind, .int .i64 o.who, .int .i64 o.inn, .int .i64 o.code, .int .i64 o.sec, .int .i64 o.fam, .int .i64 o.gen] 37))).more (belowOne w1 (.cells #[.int .i64 o.kind, .int .i64 o.who, .int .i64 o.inn, .int .i64 o.code, .int .i64 o.sec, .int .i64 o.fam, .int .i64 o.gen] 37)).size)
  have HO := Lib.hid (Held.new w1 #[.int .i64 o.kind, .int .i64 o.who, .int .i64 o.inn, .int .i64 o.code, .int .i64 o.sec, .int .i64 o.fam, .int .i64 o.gen] 37)
  have HXI := Lib.hid hxi
  clear hrow hb1 HV hxi
  unfold opV
  obtain ⟨q0, q1, q2, q3, q4, q5, q6⟩ := HO.out.seven
  go_wp2_with fail
  clear q0 q1 q2 q3 q4 q5 q6
  refine (implGloDo_any _ _ xs HR.out tx o).mono ?_
  rintro e w2 ⟨ux, rfl, hx, hb⟩
  obtain ⟨ys, ok, hR⟩ : ∃ ys ok, gloDo xs tx o = (ys, ok) := ⟨_, _, rfl⟩
  rw [hR] at hx ⊢
  dsimp only at hx ⊢
  have HRe := Lib.hid hR
  obtain ⟨Ax, cx, hxf, -, -⟩ := hx.row.form
  subst hxf
  replace HB := Lib.hid (belowNext HB.out hb)
  replace HR := Lib.hid ((HR.out.below hb).more hb.size)
  replace HO := Lib.hid (HO.out.below hb HO.out.1)
  have HX := Lib.hid hx.row
  clear hb hx hR
  obtain ⟨q0, q1, q2, q3, q4, q5, q6⟩ := HO.out.seven
  go_wp2_with fail
  clear q0 q1 q2 q3 q4 q5 q6
  refine (specGloDo_any _ _ xs HR.out tx o).mono ?_
  rintro e w3 ⟨us, rfl, hs, hb⟩
  rw [HRe.out] at hs ⊢
  dsimp only at hs ⊢
  obtain ⟨As, cs, hsf, -, -⟩ := hs.row.form
  subst hsf
  replace HB := Lib.hid (belowNext HB.out hb)
  replace HR := Lib.hid ((HR.out.below hb).more hb.size)
  replace HO := Lib.hid (HO.out.below hb HO.out.1)
  replace HX := Lib.hid ((HX.out.below hb).more hb.size)
  have HS := Lib.hid (lsto_row.1 hs.row)
  clear hb hs
  have hself : (ok != ok) = false := by simp
  go_wp2_with fail
  refine (jaStos_same _ _ _ ys HX.out HS.out).mono ?_
  rintro e w4 ⟨rfl, hb⟩
  replace HB := Lib.hid (belowNext HB.out hb)
  replace HR := Lib.hid ((HR.out.below hb).more hb.size)
  replace HO := Lib.hid (HO.out.below hb HO.out.1)
  replace HX := Lib.hid ((HX.out.below hb).more hb.size)
  clear hb HS
  cases ok with
  | false =>
    clear HX HR HO HXI hself
    go_wp2_with fail
    refine (jaOk_any _).mono ?_
    rintro e wz ⟨rfl, hb⟩
    have HBz := Lib.hid (belowNext HB.out hb)
    clear hb
    go_wp2
    go_ret
    exact ⟨rfl, HBz.out⟩
  | true =>
    clear hself
    have h2 : (gloDo xs tx o).2 = true := by rw [HRe.out]
    obtain ⟨a, b, c, hxs, hg, ho, ht, hmay, hst⟩ := glo_yes h2
    rw [HRe.out] at hst
    have hys : ys = [⟨stepP a 1 tx o⟩, ⟨stepP b 2 tx o⟩, ⟨stepP c 3 tx o⟩] := hst
    clear hst h2
    obtain ⟨tt0, tt1⟩ := inB_parts ht
    obtain ⟨t, rfl⟩ := Int.eq_ofNat_of_zero_le tt0
    obtain ⟨m, hm⟩ : ∃ m : Nat, ((t : Int) + 1 + (n : Int) % 20) % 30 = (m : Int) := ⟨(t + 1 + n % 20) % 30, by omega⟩
    have hm30 : m < 30 := by omega
    have hc13 : c.length ≤ 13 := by
      have h1 := HXI.out ⟨c⟩ (by rw [hxs]; simp)
      have h2 := (stoB_three (plc_parts (gloB_parts hg).2.2).1).1
      have h3 : c.length ≤ 13 ∨ c.length = 41 := h1
      omega
    have HPl := Lib.hid (And.intro hg (And.intro ho (And.intro ht hmay)))
    have HXs := Lib.hid hxs
    have HYs := Lib.hid hys
    clear hg ho ht hmay hxs hys HXI
    obtain ⟨q0, q1, q2, q3, q4, q5, q6⟩ := HO.out.seven
    go_wp2_with fail
    clear q0 q1 q2 q3 q4 q5 q6
    refine (implGloDo_any _ _ xs HR.out (m : Int) o).mono ?_
    rintro e w5 ⟨uz, rfl, hz, hb⟩
    obtain ⟨zs, ok2, hR2⟩ : ∃ zs ok, gloDo xs (m : Int) o = (zs, ok) := ⟨_, _, rfl⟩
    rw [hR2] at hz ⊢
    dsimp only at hz ⊢
    have HR2 := Lib.hid hR2
    obtain ⟨Az, cz, hzf, -, -⟩ := hz.row.form
    subst hzf
    replace HB := Lib.hid (belowNext HB.out hb)
    replace HR := Lib.hid ((HR.out.below hb).more hb.size)
    replace HX := Lib.hid ((HX.out.below hb).more hb.size)
    have HZ := Lib.hid hz.row
    clear hb hz hR2 HO
    cases ok2 with
    | false =>
      have hne : ((t : Int) != (m : Int)) = true := by
        simp only [bne_iff_ne, ne_eq]
        intro e
        have h1 := HRe.out
        rw [e, HR2.out] at h1
        injection h1 with _ h1
        cases h1
      clear HX HR HZ
      go_wp2
      go_ret
      exact ⟨rfl, HB.out⟩
    | true =>
      go_upto_region 14 with fail
      have h2 : (gloDo xs (m : Int) o).2 = true := by rw [HR2.out]
      have hzs : zs = [⟨stepP a 1 t o⟩, ⟨stepP b 2 t o⟩, ⟨stepP c 3 (m : Int) o⟩] ∧ (stepP c 3 (t : Int) o).length = c.length + 1 ∧ (stepP c 3 (m : Int) o).length = c.length + 1 := by
        obtain ⟨hg, ho, ht, hmay⟩ := HPl.out
        obtain ⟨a', b', c', hxs, -, -, ht', hmay', hst⟩ := glo_yes h2
        rw [HXs.out] at hxs
        simp only [List.cons.injEq, Sto.mk.injEq, and_true] at hxs
        obtain ⟨rfl, rfl, rfl⟩ := hxs
        rw [HR2.out] at hst
        have hst' : zs = [⟨stepP a 1 (m : Int) o⟩, ⟨stepP b 2 (m : Int) o⟩, ⟨stepP c 3 (m : Int) o⟩] := hst
        have hp3 := (gloB_parts hg).2.2
        refine ⟨?_, done_len hp3 ho ht (gloMay_parts hmay).2.2 (by omega), done_len hp3 ho ht' (gloMay_parts hmay').2.2 (by omega)⟩
        rw [hst', step_tx (tx := (t : Int)) (q := 1) (by decide) (m : Int), step_tx (tx := (t : Int)) (q := 2) (by decide) (m : Int)]
      obtain ⟨hzs, hl1, hl2⟩ := hzs
      have hys := HYs.out
      have hxs := HXs.out
      subst hys hzs hxs
      generalize stepP a 1 (t : Int) o = sa at *
      generalize stepP b 2 (t : Int) o = sb at *
      generalize stepP c 3 (t : Int) o = sc at *
      generalize stepP c 3 (m : Int) o = sd at *
      obtain ⟨by_, oy, dy, y0, v0, e1, hy0, hBy, ry0, ri0⟩ := stos_at HX.out (k := 0) (by simp)
      obtain ⟨by1, oy1, dy1, y1, v1, e2, hy1, hBy1, ry1, ri1⟩ := stos_at HX.out (k := 1) (by simp)
      obtain ⟨by2, oy2, dy2, y2, v2, e3, hy2, hBy2, ry2, ri2⟩ := stos_at HX.out (k := 2) (by simp)
      obtain ⟨bz, oz, dz, z0, p0, f1, hz0, hBz, rz0, rj0⟩ := stos_at HZ.out (k := 0) (by simp)
      obtain ⟨bz1, oz1, dz1, z1, p1, f2, hz1, hBz1, rz1, rj1⟩ := stos_at HZ.out (k := 1) (by simp)
      obtain ⟨bz2, oz2, dz2, z2, p2, f3, hz2, hBz2, rz2, rj2⟩ := stos_at HZ.out (k := 2) (by simp)
      obtain ⟨bx, ox, dx, x2, g2, k1, hx2, hBx, rx2, rk2⟩ := stos_at HR.out (k := 2) (by simp)
      have hy0' := Option.some.inj hy0
      have hy1' := Option.some.inj hy1
      have hy2' := Option.some.inj hy2
      have hz0' := Option.some.inj hz0
      have hz1' := Option.some.inj hz1
      have hz2' := Option.some.inj hz2
      have hx2' := Option.some.inj hx2
      subst hy0' hy1' hy2' hz0' hz1' hz2' hx2'
      injection e1 with e1a e1b e1c
      injection e2 with e2a e2b e2c
      injection e3 with e3a e3b e3c
      injection f1 with f1a f1b f1c
      injection f2 with f2a f2b f2c
      injection f3 with f3a f3b f3c
      injection k1 with k1a k1b k1c
      subst e1a f1a k1a
      clear e1b e1c e2b e2c e3b e3c f1b f1c f2b f2c f3b f3c k1b k1c
      simp only [Option.some.injEq, Addr.mk.injEq, and_true] at e2a e3a f2a f3a
      obtain ⟨rfl, rfl⟩ := e2a
      obtain ⟨rfl, rfl⟩ := e3a
      obtain ⟨rfl, rfl⟩ := f2a
      obtain ⟨rfl, rfl⟩ := f3a
      obtain ⟨A0, c0, hf0, -, -⟩ := ri0.form
      obtain ⟨A1, c1, hf1, -, -⟩ := ri1.form
      obtain ⟨A2, c2, hf2, -, -⟩ := ri2.form
      obtain ⟨B0, d0, hg0, -, -⟩ := rj0.form
      obtain ⟨B1, d1, hg1, -, -⟩ := rj1.form
      obtain ⟨B2, d2, hg2, -, -⟩ := rj2.form
      obtain ⟨X2, xc2, hk2, -, -⟩ := rk2.form
      have hf2' : v2 = .slice A2 (c.length + 1) c2 := by rw [hf2]; exact congrArg (fun n => Value.slice A2 n c2) hl1
      have hg2' : p2 = .slice B2 (c.length + 1) d2 := by rw [hg2]; exact congrArg (fun n => Value.slice B2 n d2) hl2
      have hf0' : v0 = .slice A0 sa.length c0 := hf0
      have hf1' : v1 = .slice A1 sb.length c1 := hf1
      have hg0' : p0 = .slice B0 sa.length d0 := hg0
      have hg1' : p1 = .slice B1 sb.length d1 := hg1
      have hk2' : g2 = .slice X2 c.length xc2 := hk2
      subst hf0' hf1' hf2' hg0' hg1' hg2' hk2'
      have HI0 := Lib.hid (items_row.1 ri0)
      have HI1 := Lib.hid (items_row.1 ri1)
      have HJ0 := Lib.hid (items_row.1 rj0)
      have HJ1 := Lib.hid (items_row.1 rj1)
      have HAll := Lib.hid (fun (X : World) (hX : Below w5.heap.size w5 X) => show X.cell? ⟨by_, oy, none⟩ = some (.slice A0 sa.length c0) ∧ X.cell? ⟨by_, oy + 1, none⟩ = some (.slice A1 sb.length c1) ∧ X.cell? ⟨by_, oy + 2, none⟩ = some (.slice A2 (c.length + 1) c2) ∧ X.cell? ⟨bz, oz, none⟩ = some (.slice B0 sa.length d0) ∧ X.cell? ⟨bz, oz + 1, none⟩ = some (.slice B1 sb.length d1) ∧ X.cell? ⟨bz, oz + 2, none⟩ = some (.slice B2 (c.length + 1) d2) ∧ X.cell? ⟨bx, ox + 2, none⟩ = some (.slice X2 c.length xc2) from
        ⟨(hX.cell (p := ⟨by_, oy, none⟩) hBy).trans ry0, (hX.cell (p := ⟨by_, oy + 1, none⟩) hBy).trans ry1, (hX.cell (p := ⟨by_, oy + 2, none⟩) hBy).trans ry2, (hX.cell (p := ⟨bz, oz, none⟩) hBz).trans rz0, (hX.cell (p := ⟨bz, oz + 1, none⟩) hBz).trans rz1, (hX.cell (p := ⟨bz, oz + 2, none⟩) hBz).trans rz2, (hX.cell (p := ⟨bx, ox + 2, none⟩) hBx).trans rx2⟩)
      have HW1 := Lib.hid (show Below w5.heap.size w5 w5.drew from (Below.refl _ _).drew)
      have j0 := HAll.out _ HW1.out
      have hc1 : (c.length : Int) + 1 ≤ 100 := by omega
      have hwc : IntKind.i64.wrap ((c.length : Int) + 1) = (c.length : Int) + 1 := IntWalk.i64_in _ (by omega)
      have hcc : (((c.length + 1 : Nat) : Int) == ((c.length : Nat) : Int) + 1) = true := by simp
      have hcd : (((c.length + 1 : Nat) : Int) == ((c.length + 1 : Nat) : Int)) = true := by simp
      have hce : (((c.length : Nat) : Int) + 1 == ((c.length : Nat) : Int) + 1) = true := by simp
      clear hy0 hy1 hy2 hz0 hz1 hz2 hx2 ry0 ry1 ry2 rz0 rz1 rz2 rx2 ri0 ri1 ri2 rj0 rj1 rj2 rk2 hf0 hf1 hf2 hg0 hg1 hg2 hk2 hBy1 hBy2 hBz1 hBz2 HX HZ HR HRe HR2 HPl HXs HYs h2
      try simp only [List.length_cons, List.length_nil]
      refine wp_region_held_drew (S := (fun w' => w'.cell? ⟨by_, oy, none⟩ = some (.slice A0 sa.length c0) ∧ w'.cell? ⟨by_, oy + 1, none⟩ = some (.slice A1 sb.length c1) ∧ w'.cell? ⟨by_, oy + 2, none⟩ = some (.slice A2 (c.length + 1) c2) ∧ w'.cell? ⟨bz, oz, none⟩ = some (.slice B0 sa.length d0) ∧ w'.cell? ⟨bz, oz + 1, none⟩ = some (.slice B1 sb.length d1) ∧ w'.cell? ⟨bz, oz + 2, none⟩ = some (.slice B2 (c.length + 1) d2) ∧ w'.cell? ⟨bx, ox + 2, none⟩ = some (.slice X2 c.length xc2))) (by kernel_rfl) ?hSy (fun hHeldy => ?sty)
      case hSy => (first | (dsimp only; (first | with_reducible exact j2 | with_reducible exact j1 | with_reducible exact j0 | exact j0)) | (first | with_reducible exact j2 | with_reducible exact j1 | with_reducible exact j0 | exact j0))
      refine take_first 0 67 (v := ?vy_1) rfl rfl (by kernel_rfl) (by kernel_rfl) (by kernel_rfl) (fun _ _ _ h => h) (by rfl) ?yy_1 (by assumption) ?ry_1
      case yy_1 => (intro w hSw; (try dsimp only at hSw); go_simp; (try with_reducible rfl))
      simp only [Act.put, List.setIfInBounds_toArray, List.set_cons_zero, List.set_cons_succ]
      refine take_first 1 68 (v := ?vy_2) rfl rfl (by kernel_rfl) (by kernel_rfl) (by kernel_rfl) (fun _ _ _ h => h) (by rfl) ?yy_2 (by assumption) ?ry_2
      case yy_2 => (intro w hSw; (try dsimp only at hSw); go_simp; (try with_reducible rfl))
      simp only [Act.put, List.setIfInBounds_toArray, List.set_cons_zero, List.set_cons_succ]
      refine take_first 2 69 (v := ?vy_3) rfl rfl (by kernel_rfl) (by kernel_rfl) (by kernel_rfl) (fun _ _ _ h => h) (by rfl) ?yy_3 (by assumption) ?ry_3
      case yy_3 => (intro w hSw; (try dsimp only at hSw); go_simp; (try with_reducible rfl))
      simp only [Act.put, List.setIfInBounds_toArray, List.set_cons_zero, List.set_cons_succ]
      refine take_first 3 70 (v := ?vy_4) rfl rfl (by kernel_rfl) (by kernel_rfl) (by kernel_rfl) (fun _ _ _ h => h) (by rfl) ?yy_4 (by assumption) ?ry_4
      case yy_4 => (intro w hSw; (try dsimp only at hSw); go_simp; (try with_reducible rfl))
      simp only [Act.put, List.setIfInBounds_toArray, List.set_cons_zero, List.set_cons_succ]
      refine take_first 4 71 (v := ?vy_5) rfl rfl (by kernel_rfl) (by kernel_rfl) (by kernel_rfl) (fun _ _ _ h => h) (by rfl) ?yy_5 (by assumption) ?ry_5
      case yy_5 => (intro w hSw; (try dsimp only at hSw); go_simp; (try with_reducible rfl))
      simp only [Act.put, List.setIfInBounds_toArray, List.set_cons_zero, List.set_cons_succ]
      refine take_first 5 72 (v := ?vy_6) rfl rfl (by kernel_rfl) (by kernel_rfl) (by kernel_rfl) (fun _ _ _ h => h) (by rfl) ?yy_6 (by assumption) ?ry_6
      case yy_6 => (intro w hSw; (try dsimp only at hSw); go_simp; (try with_reducible rfl))
      simp only [Act.put, List.setIfInBounds_toArray, List.set_cons_zero, List.set_cons_succ]
      refine wpAnyH_ready (rs := [6]) (by kernel_rfl) (by simp) ?_
      refine AllReadyH.cons (o := _) rfl (fun Ky_7 hKy_7 => ?cy_7) ?my_7
      case my_7 => exact AllReadyH.nil
      go_simp
      refine (jaSto_same _ _ _ sa ((HI0.out.below HW1.out).more HW1.out.size) ((HJ0.out.below HW1.out).more HW1.out.size)).mono ?_; rintro e w6 ⟨rfl, hb6⟩; have HW2 := Lib.hid (HW1.out.trans (hb6.mono HW1.out.size)); have j1 := HAll.out _ HW2.out; clear hb6
      go_wp2_with fail
      refine hKy_7.out _ _ ?ky_7 (fun hHeldy_7 => ?dy_7)
      case ky_7 => (first | (dsimp only; (first | with_reducible exact j2 | with_reducible exact j1 | with_reducible exact j0 | exact j0)) | (first | with_reducible exact j2 | with_reducible exact j1 | with_reducible exact j0 | exact j0))
      clear hKy_7 Ky_7
      refine take_first 7 74 (v := ?vy_8) rfl rfl (by kernel_rfl) (by kernel_rfl) (by kernel_rfl) (fun _ _ _ h => h) (by rfl) ?yy_8 (by assumption) ?ry_8
      case yy_8 => (intro w hSw; (try dsimp only at hSw); go_simp; (try with_reducible rfl))
      simp only [Act.put, List.setIfInBounds_toArray, List.set_cons_zero, List.set_cons_succ]
      refine take_first 8 75 (v := ?vy_9) rfl rfl (by kernel_rfl) (by kernel_rfl) (by kernel_rfl) (fun _ _ _ h => h) (by rfl) ?yy_9 (by assumption) ?ry_9
      case yy_9 => (intro w hSw; (try dsimp only at hSw); go_simp; (try with_reducible rfl))
      simp only [Act.put, List.setIfInBounds_toArray, List.set_cons_zero, List.set_cons_succ]
      refine take_first 9 76 (v := ?vy_10) rfl rfl (by kernel_rfl) (by kernel_rfl) (by kernel_rfl) (fun _ _ _ h => h) (by rfl) ?yy_10 (by assumption) ?ry_10
      case yy_10 => (intro w hSw; (try dsimp only at hSw); go_simp; (try with_reducible rfl))
      simp only [Act.put, List.setIfInBounds_toArray, List.set_cons_zero, List.set_cons_succ]
      refine take_first 10 77 (v := ?vy_11) rfl rfl (by kernel_rfl) (by kernel_rfl) (by kernel_rfl) (fun _ _ _ h => h) (by rfl) ?yy_11 (by assumption) ?ry_11
      case yy_11 => (intro w hSw; (try dsimp only at hSw); go_simp; (try with_reducible rfl))
      simp only [Act.put, List.setIfInBounds_toArray, List.set_cons_zero, List.set_cons_succ]
      refine take_first 11 78 (v := ?vy_12) rfl rfl (by kernel_rfl) (by kernel_rfl) (by kernel_rfl) (fun _ _ _ h => h) (by rfl) ?yy_12 (by assumption) ?ry_12
      case yy_12 => (intro w hSw; (try dsimp only at hSw); go_simp; (try with_reducible rfl))
      simp only [Act.put, List.setIfInBounds_toArray, List.set_cons_zero, List.set_cons_succ]
      refine take_first 12 79 (v := ?vy_13) rfl rfl (by kernel_rfl) (by kernel_rfl) (by kernel_rfl) (fun _ _ _ h => h) (by rfl) ?yy_13 (by assumption) ?ry_13
      case yy_13 => (intro w hSw; (try dsimp only at hSw); go_simp; (try with_reducible rfl))
      simp only [Act.put, List.setIfInBounds_toArray, List.set_cons_zero, List.set_cons_succ]
      refine take_first 13 80 (v := ?vy_14) rfl rfl (by kernel_rfl) (by kernel_rfl) (by kernel_rfl) (fun _ _ _ h => h) (by rfl) ?yy_14 (by assumption) ?ry_14
      case yy_14 => (intro w hSw; (try dsimp only at hSw); go_simp; (try with_reducible rfl))
      simp only [Act.put, List.setIfInBounds_toArray, List.set_cons_zero, List.set_cons_succ]
      refine wpAnyH_ready (rs := [14]) (by kernel_rfl) (by simp) ?_
      refine AllReadyH.cons (o := _) rfl (fun Ky_15 hKy_15 => ?cy_15) ?my_15
      case my_15 => exact AllReadyH.nil
      go_simp
      refine (jaSto_same _ _ _ sb ((HI1.out.below HW2.out).more HW2.out.size) ((HJ1.out.below HW2.out).more HW2.out.size)).mono ?_; rintro e w7 ⟨rfl, hb7⟩; have HW3 := Lib.hid (HW2.out.trans (hb7.mono HW2.out.size)); have j2 := HAll.out _ HW3.out; clear hb7
      go_wp2_with fail
      refine hKy_15.out _ _ ?ky_15 (fun hHeldy_15 => ?dy_15)
      case ky_15 => (first | (dsimp only; (first | with_reducible exact j2 | with_reducible exact j1 | with_reducible exact j0 | exact j0)) | (first | with_reducible exact j2 | with_reducible exact j1 | with_reducible exact j0 | exact j0))
      clear hKy_15 Ky_15
      refine take_first 15 82 (v := ?vy_16) rfl rfl (by kernel_rfl) (by kernel_rfl) (by kernel_rfl) (fun _ _ _ h => h) (by rfl) ?yy_16 (by assumption) ?ry_16
      case yy_16 => (intro w hSw; (try dsimp only at hSw); go_simp; (try with_reducible rfl))
      simp only [Act.put, List.setIfInBounds_toArray, List.set_cons_zero, List.set_cons_succ]
      refine take_first 16 83 (v := ?vy_17) rfl rfl (by kernel_rfl) (by kernel_rfl) (by kernel_rfl) (fun _ _ _ h => h) (by rfl) ?yy_17 (by assumption) ?ry_17
      case yy_17 => (intro w hSw; (try dsimp only at hSw); go_simp; (try with_reducible rfl))
      simp only [Act.put, List.setIfInBounds_toArray, List.set_cons_zero, List.set_cons_succ]
      refine take_first 17 84 (v := ?vy_18) rfl rfl (by kernel_rfl) (by kernel_rfl) (by kernel_rfl) (fun _ _ _ h => h) (by rfl) ?yy_18 (by assumption) ?ry_18
      case yy_18 => (intro w hSw; (try dsimp only at hSw); go_simp; (try with_reducible rfl))
      simp only [Act.put, List.setIfInBounds_toArray, List.set_cons_zero, List.set_cons_succ]
      refine take_first 18 85 (v := ?vy_19) rfl rfl (by kernel_rfl) (by kernel_rfl) (by kernel_rfl) (fun _ _ _ h => h) (by rfl) ?yy_19 (by assumption) ?ry_19
      case yy_19 => (intro w hSw; (try dsimp only at hSw); go_simp; (try with_reducible rfl))
      simp only [Act.put, List.setIfInBounds_toArray, List.set_cons_zero, List.set_cons_succ]
      refine take_first 19 86 (v := ?vy_20) rfl rfl (by kernel_rfl) (by kernel_rfl) (by kernel_rfl) (fun _ _ _ h => h) (by rfl) ?yy_20 (by assumption) ?ry_20
      case yy_20 => (intro w hSw; (try dsimp only at hSw); go_simp; (try with_reducible rfl))
      simp only [Act.put, List.setIfInBounds_toArray, List.set_cons_zero, List.set_cons_succ]
      refine take_first 20 87 (v := ?vy_21) rfl rfl (by kernel_rfl) (by kernel_rfl) (by kernel_rfl) (fun _ _ _ h => h) (by rfl) ?yy_21 (by assumption) ?ry_21
      case yy_21 => (intro w hSw; (try dsimp only at hSw); go_simp; (try with_reducible rfl))
      simp only [Act.put, List.setIfInBounds_toArray, List.set_cons_zero, List.set_cons_succ]
      refine take_first 21 88 (v := ?vy_22) rfl rfl (by kernel_rfl) (by kernel_rfl) (by kernel_rfl) (fun _ _ _ h => h) (by rfl) ?yy_22 (by assumption) ?ry_22
      case yy_22 => (intro w hSw; (try dsimp only at hSw); go_simp; (try with_reducible rfl))
      simp only [Act.put, List.setIfInBounds_toArray, List.set_cons_zero, List.set_cons_succ]
      refine take_first 22 89 (v := ?vy_23) rfl rfl (by kernel_rfl) (by kernel_rfl) (by kernel_rfl) (fun _ _ _ h => h) (by rfl) ?yy_23 (by assumption) ?ry_23
      case yy_23 => (intro w hSw; (try dsimp only at hSw); go_simp; (try with_reducible rfl))
      simp only [Act.put, List.setIfInBounds_toArray, List.set_cons_zero, List.set_cons_succ]
      refine take_first 23 90 (v := ?vy_24) rfl rfl (by kernel_rfl) (by kernel_rfl) (by kernel_rfl) (fun _ _ _ h => h) (by rfl) ?yy_24 (by assumption) ?ry_24
      case yy_24 => (intro w hSw; (try dsimp only at hSw); go_simp; (try with_reducible rfl))
      simp only [Act.put, List.setIfInBounds_toArray, List.set_cons_zero, List.set_cons_succ]
      refine take_first 24 91 (v := ?vy_25) rfl rfl (by kernel_rfl) (by kernel_rfl) (by kernel_rfl) (fun _ _ _ h => h) (by rfl) ?yy_25 (by assumption) ?ry_25
      case yy_25 => (intro w hSw; (try dsimp only at hSw); go_simp; (try with_reducible rfl))
      simp only [Act.put, List.setIfInBounds_toArray, List.set_cons_zero, List.set_cons_succ]
      refine take_first 25 92 (v := ?vy_26) rfl rfl (by kernel_rfl) (by kernel_rfl) (by kernel_rfl) (fun _ _ _ h => h) (by rfl) ?yy_26 (by assumption) ?ry_26
      case yy_26 => (intro w hSw; (try dsimp only at hSw); go_simp; (try with_reducible rfl))
      simp only [Act.put, List.setIfInBounds_toArray, List.set_cons_zero, List.set_cons_succ]
      refine take_first 26 93 (v := ?vy_27) rfl rfl (by kernel_rfl) (by kernel_rfl) (by kernel_rfl) (fun _ _ _ h => h) (by rfl) ?yy_27 (by assumption) ?ry_27
      case yy_27 => (intro w hSw; (try dsimp only at hSw); go_simp; (try with_reducible rfl))
      simp only [Act.put, List.setIfInBounds_toArray, List.set_cons_zero, List.set_cons_succ]
      refine take_first 27 94 (v := ?vy_28) rfl rfl (by kernel_rfl) (by kernel_rfl) (by kernel_rfl) (fun _ _ _ h => h) (by rfl) ?yy_28 (by assumption) ?ry_28
      case yy_28 => (intro w hSw; (try dsimp only at hSw); go_simp; (try with_reducible rfl))
      simp only [Act.put, List.setIfInBounds_toArray, List.set_cons_zero, List.set_cons_succ]
      refine take_first 28 95 (v := ?vy_29) rfl rfl (by kernel_rfl) (by kernel_rfl) (by kernel_rfl) (fun _ _ _ h => h) (by rfl) ?yy_29 (by assumption) ?ry_29
      case yy_29 => (intro w hSw; (try dsimp only at hSw); go_simp; (try with_reducible rfl))
      simp only [Act.put, List.setIfInBounds_toArray, List.set_cons_zero, List.set_cons_succ]
      refine take_first 29 96 (v := ?vy_30) rfl rfl (by kernel_rfl) (by kernel_rfl) (by kernel_rfl) (fun _ _ _ h => h) (by rfl) ?yy_30 (by assumption) ?ry_30
      case yy_30 => (intro w hSw; (try dsimp only at hSw); go_simp; (try with_reducible rfl))
      simp only [Act.put, List.setIfInBounds_toArray, List.set_cons_zero, List.set_cons_succ]
      refine take_first 30 97 (v := ?vy_31) rfl rfl (by kernel_rfl) (by kernel_rfl) (by kernel_rfl) (fun _ _ _ h => h) (by rfl) ?yy_31 (by assumption) ?ry_31
      case yy_31 => (intro w hSw; (try dsimp only at hSw); go_simp; (try with_reducible rfl))
      simp only [Act.put, List.setIfInBounds_toArray, List.set_cons_zero, List.set_cons_succ]
      refine take_first 31 98 (v := ?vy_32) rfl rfl (by kernel_rfl) (by kernel_rfl) (by kernel_rfl) (fun _ _ _ h => h) (by rfl) ?yy_32 (by assumption) ?ry_32
      case yy_32 => (intro w hSw; (try dsimp only at hSw); go_simp; (try with_reducible rfl))
      simp only [Act.put, List.setIfInBounds_toArray, List.set_cons_zero, List.set_cons_succ]
      refine take_first 32 99 (v := ?vy_33) rfl rfl (by kernel_rfl) (by kernel_rfl) (by kernel_rfl) (fun _ _ _ h => h) (by rfl) ?yy_33 (by assumption) ?ry_33
      case yy_33 => (intro w hSw; (try dsimp only at hSw); go_simp; (try with_reducible rfl))
      simp only [Act.put, List.setIfInBounds_toArray, List.set_cons_zero, List.set_cons_succ]
      refine take_first 33 100 (v := ?vy_34) rfl rfl (by kernel_rfl) (by kernel_rfl) (by kernel_rfl) (fun _ _ _ h => h) (by rfl) ?yy_34 (by assumption) ?ry_34
      case yy_34 => (intro w hSw; (try dsimp only at hSw); go_simp; (try with_reducible rfl))
      simp only [Act.put, List.setIfInBounds_toArray, List.set_cons_zero, List.set_cons_succ]
      refine take_first 34 101 (v := ?vy_35) rfl rfl (by kernel_rfl) (by kernel_rfl) (by kernel_rfl) (fun _ _ _ h => h) (by rfl) ?yy_35 (by assumption) ?ry_35
      case yy_35 => (intro w hSw; (try dsimp only at hSw); go_simp; (try with_reducible rfl))
      simp only [Act.put, List.setIfInBounds_toArray, List.set_cons_zero, List.set_cons_succ]
      refine take_first 35 102 (v := ?vy_36) rfl rfl (by kernel_rfl) (by kernel_rfl) (by kernel_rfl) (fun _ _ _ h => h) (by rfl) ?yy_36 (by assumption) ?ry_36
      case yy_36 => (intro w hSw; (try dsimp only at hSw); go_simp; (try with_reducible rfl))
      simp only [Act.put, List.setIfInBounds_toArray, List.set_cons_zero, List.set_cons_succ]
      refine take_first 36 103 (v := ?vy_37) rfl rfl (by kernel_rfl) (by kernel_rfl) (by kernel_rfl) (fun _ _ _ h => h) (by rfl) ?yy_37 (by assumption) ?ry_37
      case yy_37 => (intro w hSw; (try dsimp only at hSw); go_simp; (try with_reducible rfl))
      simp only [Act.put, List.setIfInBounds_toArray, List.set_cons_zero, List.set_cons_succ]
      refine take_first 37 104 (v := ?vy_38) rfl rfl (by kernel_rfl) (by kernel_rfl) (by kernel_rfl) (fun _ _ _ h => h) (by rfl) ?yy_38 (by assumption) ?ry_38
      case yy_38 => (intro w hSw; (try dsimp only at hSw); go_simp; (try with_reducible rfl))
      simp only [Act.put, List.setIfInBounds_toArray, List.set_cons_zero, List.set_cons_succ]
      refine take_first 38 105 (v := ?vy_39) rfl rfl (by kernel_rfl) (by kernel_rfl) (by kernel_rfl) (fun _ _ _ h => h) (by rfl) ?yy_39 (by assumption) ?ry_39
      case yy_39 => (intro w hSw; (try dsimp only at hSw); go_simp; (try with_reducible rfl))
      simp only [Act.put, List.setIfInBounds_toArray, List.set_cons_zero, List.set_cons_succ]
      refine take_first 39 106 (v := ?vy_40) rfl rfl (by kernel_rfl) (by kernel_rfl) (by kernel_rfl) (fun _ _ _ h => h) (by rfl) ?yy_40 (by assumption) ?ry_40
      case yy_40 => (intro w hSw; (try dsimp only at hSw); go_simp; (try with_reducible rfl))
      simp only [Act.put, List.setIfInBounds_toArray, List.set_cons_zero, List.set_cons_succ]
      refine take_first 40 107 (v := ?vy_41) rfl rfl (by kernel_rfl) (by kernel_rfl) (by kernel_rfl) (fun _ _ _ h => h) (by rfl) ?yy_41 (by assumption) ?ry_41
      case yy_41 => (intro w hSw; (try dsimp only at hSw); go_simp; (try with_reducible rfl))
      simp only [Act.put, List.setIfInBounds_toArray, List.set_cons_zero, List.set_cons_succ]
      refine take_first 41 108 (v := ?vy_42) rfl rfl (by kernel_rfl) (by kernel_rfl) (by kernel_rfl) (fun _ _ _ h => h) (by rfl) ?yy_42 (by assumption) ?ry_42
      case yy_42 => (intro w hSw; (try dsimp only at hSw); go_simp; (try with_reducible rfl))
      simp only [Act.put, List.setIfInBounds_toArray, List.set_cons_zero, List.set_cons_succ]
      refine take_first 42 109 (v := ?vy_43) rfl rfl (by kernel_rfl) (by kernel_rfl) (by kernel_rfl) (fun _ _ _ h => h) (by rfl) ?yy_43 (by assumption) ?ry_43
      case yy_43 => (intro w hSw; (try dsimp only at hSw); go_simp; (try with_reducible rfl))
      simp only [Act.put, List.setIfInBounds_toArray, List.set_cons_zero, List.set_cons_succ]
      refine take_first 43 2 (v := ?vy_44) rfl rfl (by kernel_rfl) (by kernel_rfl) (by kernel_rfl) (fun _ _ _ h => h) (by rfl) ?yy_44 (by assumption) ?ry_44
      case yy_44 => (intro w hSw; (try dsimp only at hSw); go_simp; (try with_reducible rfl))
      simp only [Act.put, List.setIfInBounds_toArray, List.set_cons_zero, List.set_cons_succ]
      refine wpAnyH_done (by kernel_rfl) ?ey _
      clear j0 j1 j2
      go_wp2
      go_ret
      exact ⟨rfl, belowNext HB.out HW3.out⟩

end Go.Proofs.YteccebjnopladaaGreat

/- The walk of FnPlanMine. By gdgen.py. -/
namespace Go.Proofs.YteccebjnopladaaGreat
open Go.RowKit

theorem glo_small {xs : List Sto} {a b c : List Item} (hx : xs = [⟨a⟩, ⟨b⟩, ⟨c⟩]) (hg : gloB [⟨a⟩, ⟨b⟩, ⟨c⟩] = true) (hl : ∀ x ∈ xs, x.items.length ≤ 13 ∨ x.items.length = 41) : a.length ≤ 13 ∧ b.length ≤ 13 ∧ c.length ≤ 13 := by
  obtain ⟨g1, g2, g3⟩ := gloB_parts hg
  have l1 := (stoB_three (plc_parts g1).1).1
  have l2 := (stoB_three (plc_parts g2).1).1
  have l3 := (stoB_three (plc_parts g3).1).1
  have m1 : a.length ≤ 13 ∨ a.length = 41 := hl ⟨a⟩ (by rw [hx]; simp)
  have m2 : b.length ≤ 13 ∨ b.length = 41 := hl ⟨b⟩ (by rw [hx]; simp)
  have m3 : c.length ≤ 13 ∨ c.length = 41 := hl ⟨c⟩ (by rw [hx]; simp)
  omega

set_option maxRecDepth 100000 in
set_option maxHeartbeats 20000000 in
theorem lawPlanMine_any (w : World) (v : Value) (n : Nat) (hv : Code8 w v n) :
    Calls Tryz.prog 8 #[v] w fun e w' => e = .returned (.bool true) ∧ Below w.heap.size w w' := by
  have HV := Lib.hid hv
  obtain ⟨A, c, f, rfl, h1, h2, -, -⟩ := hv
  unfold maxLen at h2
  by_cases hn : 1048576 < n
  · have hn' : (1048576 : Int) < (n : Int) := by omega
    go_enter Tryz.func8, Tryz.ntmps8
    go_wp2
    go_ret
    exact ⟨rfl, Below.refl _ _⟩
  have hn' : (n : Int) ≤ 1048576 := by omega
  clear hn
  go_enter Tryz.func8, Tryz.ntmps8
  go_wp2_with fail
  refine (drawGloDo_any _ _ n HV.out).mono ?_
  rintro e w1 ⟨u, xs, tx, o, rfl, hxl, hxi, t0, t1, hrow, hb1⟩
  obtain ⟨Al, cl, hlf, -, -⟩ := hrow.form
  rw [hxl] at hlf
  subst hlf
  have HB := Lib.hid (belowNext hb1 (belowOne w1 (.cells #[.int .i64 o.kind, .int .i64 o.who, .int .i64 o.inn, .int .i64 o.code, .int .i64 o.sec, .int .i64 o.fam, .int .i64 o.gen] 37)))
  have HR := Lib.hid ((hrow.below (belowOne w1 (.cells #[.int .i64 o.kind, .int .i64 o.who, .int .i64 o.inn, .int .i64 o.code, .int .i64 o.sec, .int .i64 o.fam, .int .i64 o.gen] 37))).more (belowOne w1 (.cells #[.int .i64 o.kind, .int .i64 o.who, .int .i64 o.inn, .int .i64 o.code, .int .i64 o.sec, .int .i64 o.fam, .int .i64 o.gen] 37)).size)
  have HO := Lib.hid (Held.new w1 #[.int .i64 o.kind, .int .i64 o.who, .int .i64 o.inn, .int .i64 o.code, .int .i64 o.sec, .int .i64 o.fam, .int .i64 o.gen] 37)
  have HXI := Lib.hid hxi
  clear hrow hb1 HV hxi
  unfold opV
  obtain ⟨q0, q1, q2, q3, q4, q5, q6⟩ := HO.out.seven
  go_wp2_with fail
  clear q0 q1 q2 q3 q4 q5 q6
  refine (implGloDo_any _ _ xs HR.out tx o).mono ?_
  rintro e w2 ⟨ux, rfl, hx, hb⟩
  obtain ⟨ys, ok, hR⟩ : ∃ ys ok, gloDo xs tx o = (ys, ok) := ⟨_, _, rfl⟩
  rw [hR] at hx ⊢
  dsimp only at hx ⊢
  have HRe := Lib.hid hR
  obtain ⟨Ax, cx, hxf, -, -⟩ := hx.row.form
  subst hxf
  replace HB := Lib.hid (belowNext HB.out hb)
  replace HR := Lib.hid ((HR.out.below hb).more hb.size)
  replace HO := Lib.hid (HO.out.below hb HO.out.1)
  have HX := Lib.hid hx.row
  clear hb hx hR
  obtain ⟨q0, q1, q2, q3, q4, q5, q6⟩ := HO.out.seven
  go_wp2_with fail
  clear q0 q1 q2 q3 q4 q5 q6
  refine (specGloDo_any _ _ xs HR.out tx o).mono ?_
  rintro e w3 ⟨us, rfl, hs, hb⟩
  rw [HRe.out] at hs ⊢
  dsimp only at hs ⊢
  obtain ⟨As, cs, hsf, -, -⟩ := hs.row.form
  subst hsf
  replace HB := Lib.hid (belowNext HB.out hb)
  replace HR := Lib.hid ((HR.out.below hb).more hb.size)
  replace HO := Lib.hid (HO.out.below hb HO.out.1)
  replace HX := Lib.hid ((HX.out.below hb).more hb.size)
  have HS := Lib.hid (lsto_row.1 hs.row)
  clear hb hs
  have hself : (ok != ok) = false := by simp
  clear HS
  cases ok with
  | false =>
    clear HX HR HXI hself
    have q0 := HO.out.of 0 _ rfl
    go_wp2_with fail
    refine (jaOk_any _).mono ?_
    rintro e wz ⟨rfl, hb⟩
    have HBz := Lib.hid (belowNext HB.out hb)
    clear hb
    go_wp2
    go_ret
    exact ⟨rfl, HBz.out⟩
  | true =>
    clear hself
    have h2 : (gloDo xs tx o).2 = true := by rw [HRe.out]
    obtain ⟨a, b, c, hxs, hg, ho, ht, hmay, hst⟩ := glo_yes h2
    rw [HRe.out] at hst
    have hys : ys = [⟨stepP a 1 tx o⟩, ⟨stepP b 2 tx o⟩, ⟨stepP c 3 tx o⟩] := hst
    clear hst h2
    by_cases hk1 : o.kind = 1
    · have e1 : (o.kind == 1) = true := by simp [hk1]
      clear hk1 HX HR HXI hys hxs hg ho ht hmay
      have q0 := HO.out.of 0 _ rfl
      go_wp2_with fail
      refine (jaOk_any _).mono ?_
      rintro e wz ⟨rfl, hb⟩
      have HBz := Lib.hid (belowNext HB.out hb)
      clear hb
      go_wp2
      go_ret
      exact ⟨rfl, HBz.out⟩
    have e1 : (o.kind == 1) = false := by simp [hk1]
    obtain ⟨m1, m2, m3⟩ := gloMay_parts hmay
    obtain ⟨l1, l2, l3⟩ := glo_small hxs hg HXI.out
    have hgo := (glo_step (k := 13) hg ho ht l1 l2 l3 (by omega)).1
    rw [← hys] at hgo
    have HGo := Lib.hid hgo
    have hp2 := (gloB_parts hg).2.1
    obtain ⟨who, hw0, hwa, hwk⟩ := mine_facts hp2 ho hk1 m2
    have HWa := Lib.hid hwa
    have HWk := Lib.hid hwk
    have HSB := Lib.hid (plc_parts hp2).1
    have hpl : plcP b 2 tx o = planP b 2 tx o := by unfold plcP; rw [ho, hp2, ht]; rfl
    obtain ⟨pl, hpe⟩ : ∃ pl, planP b 2 tx o = pl := ⟨_, rfl⟩
    rw [hpe] at hpl
    have HPl := Lib.hid hpl
    have hwl : pl.writes.length ≤ 41 := by
      have h1 : (planP b 2 tx o).writes.length ≤ b.length + 2 := by
        unfold planP doneP inP1 inP2 inP5 mayP2 mayP3 mayP4 mayP5 noP
        repeat' split
        all_goals first | (simp; done) | (simp; omega) | (simp only [List.length_map]; have := List.length_filter_le (famB o.who) b; omega)
      rw [hpe] at h1; omega
    rw [hpe] at HWa
    subst hxs
    clear hwa hwk hg ho ht hmay hk1 m1 m2 m3 l1 l2 l3 hgo hp2 hpl hpe hys HXI
    obtain ⟨bl, ol, dl, x1, p1, f1, hx1, hB1, r1, hi1⟩ := stos_at HR.out (k := 1) (by simp)
    have hx1' : (⟨b⟩ : Sto) = x1 := Option.some.inj hx1
    subst hx1'
    injection f1 with f1a f1b f1c
    subst f1a
    obtain ⟨Ai, ci, hfi, -, -⟩ := hi1.form
    subst hfi
    have hi1' : Items w3 w3.heap.size (.slice Ai b.length ci) b := items_row.1 hi1
    have KC := Lib.hid (fun (X : World) (hX : Below w3.heap.size w3 X) => show X.cell? ⟨bl, ol + 1, none⟩ = some (.slice Ai b.length ci) ∧ X.cell? ⟨w1.heap.size, 0, none⟩ = some (.int .i64 o.kind) ∧ X.cell? ⟨w1.heap.size, 1, none⟩ = some (.int .i64 o.who) ∧ X.cell? ⟨w1.heap.size, 2, none⟩ = some (.int .i64 o.inn) ∧ X.cell? ⟨w1.heap.size, 3, none⟩ = some (.int .i64 o.code) ∧ X.cell? ⟨w1.heap.size, 4, none⟩ = some (.int .i64 o.sec) ∧ X.cell? ⟨w1.heap.size, 5, none⟩ = some (.int .i64 o.fam) ∧ X.cell? ⟨w1.heap.size, 6, none⟩ = some (.int .i64 o.gen) from
      ⟨(hX.cell (p := ⟨bl, ol + 1, none⟩) hB1).trans r1, (HO.out.below hX HO.out.1).seven⟩)
    have KI := Lib.hid (fun (X : World) (hX : Below w3.heap.size w3 X) => show Items X X.heap.size (.slice Ai b.length ci) b from (hi1'.below hX).more hX.size)
    have HZ1 := Lib.hid HO.out.1
    clear hx1 f1b f1c hi1 hi1' HR r1
    have k0 := KC.out _ (Below.refl _ w3).drew
    have q0 := (KC.out _ (Below.refl _ w3)).2.1
    go_upto_region 10 with fail
    clear q0
    go_cut [10] from 49 to 54 (fun u wc => ∃ qb ul uv, u = .pointer (some ⟨qb, 0, none⟩) ∧ Held wc qb [.bool pl.ok, ul, uv] ∧ wrSh.Row wc wc.heap.size uv pl.writes ∧ Below w3.heap.size w3 wc)
    case first =>
      refine wp_region_held_drew (S := (fun w' => w'.cell? ⟨bl, ol + 1, none⟩ = some (.slice Ai b.length ci) ∧ w'.cell? ⟨w1.heap.size, 0, none⟩ = some (.int .i64 o.kind) ∧ w'.cell? ⟨w1.heap.size, 1, none⟩ = some (.int .i64 o.who) ∧ w'.cell? ⟨w1.heap.size, 2, none⟩ = some (.int .i64 o.inn) ∧ w'.cell? ⟨w1.heap.size, 3, none⟩ = some (.int .i64 o.code) ∧ w'.cell? ⟨w1.heap.size, 4, none⟩ = some (.int .i64 o.sec) ∧ w'.cell? ⟨w1.heap.size, 5, none⟩ = some (.int .i64 o.fam) ∧ w'.cell? ⟨w1.heap.size, 6, none⟩ = some (.int .i64 o.gen))) (by kernel_rfl) ?hSz (fun hHeldz => ?stz)
      case hSz => (first | (dsimp only; (first | with_reducible exact k0 | exact k0)) | (first | with_reducible exact k0 | exact k0))
      refine take_first 0 49 (v := ?vz_1) rfl rfl (by kernel_rfl) (by kernel_rfl) (by kernel_rfl) (fun _ _ _ h => h) (by rfl) ?yz_1 (by assumption) ?rz_1
      case yz_1 => (intro w hSw; (try dsimp only at hSw); go_simp; (try with_reducible rfl))
      simp only [Act.put, List.setIfInBounds_toArray, List.set_cons_zero, List.set_cons_succ]
      refine take_first 1 50 (v := ?vz_2) rfl rfl (by kernel_rfl) (by kernel_rfl) (by kernel_rfl) (fun _ _ _ h => h) (by rfl) ?yz_2 (by assumption) ?rz_2
      case yz_2 => (intro w hSw; (try dsimp only at hSw); go_simp; (try with_reducible rfl))
      simp only [Act.put, List.setIfInBounds_toArray, List.set_cons_zero, List.set_cons_succ]
      refine take_first 2 51 (v := ?vz_3) rfl rfl (by kernel_rfl) (by kernel_rfl) (by kernel_rfl) (fun _ _ _ h => h) (by rfl) ?yz_3 (by assumption) ?rz_3
      case yz_3 => (intro w hSw; (try dsimp only at hSw); go_simp; (try with_reducible rfl))
      simp only [Act.put, List.setIfInBounds_toArray, List.set_cons_zero, List.set_cons_succ]
      refine take_first 3 52 (v := ?vz_4) rfl rfl (by kernel_rfl) (by kernel_rfl) (by kernel_rfl) (fun _ _ _ h => h) (by rfl) ?yz_4 (by assumption) ?rz_4
      case yz_4 => (intro w hSw; (try dsimp only at hSw); go_simp; (try with_reducible rfl))
      simp only [Act.put, List.setIfInBounds_toArray, List.set_cons_zero, List.set_cons_succ]
      refine take_first 4 53 (v := ?vz_5) rfl rfl (by kernel_rfl) (by kernel_rfl) (by kernel_rfl) (fun _ _ _ h => h) (by rfl) ?yz_5 (by assumption) ?rz_5
      case yz_5 => (intro w hSw; (try dsimp only at hSw); go_simp; (try with_reducible rfl))
      simp only [Act.put, List.setIfInBounds_toArray, List.set_cons_zero, List.set_cons_succ]
      refine wpAnyH_ready (rs := [5, 6]) (by kernel_rfl) (by simp) ?_
      refine AllReadyH.cons (o := _) rfl (fun Ka hKa => ?pKa) (AllReadyH.cons (o := _) rfl (fun Kb hKb => ?pKb) AllReadyH.nil)
      case pKa =>
        go_simp
        have hc := implPlcPlan_any w3.drew 2 (.slice Ai b.length ci) b (KI.out _ (Below.refl _ w3).drew) tx o
        rw [HPl.out] at hc
        refine hc.mono ?_
        clear hc
        rintro e w8 ⟨u8, v8, rfl, ho8, hb8⟩
        obtain ⟨Al, cl8, Aw, cw, rfl, rfl⟩ := planForm ho8
        have hw8 := (planWr ho8).row
        have HN8 := Lib.hid (show Below w3.heap.size w3 w8 from belowNext ((Below.refl _ w3).drew) hb8)
        have HW8 := Lib.hid hw8
        clear ho8 hw8 hb8
        have HN9 := Lib.hid (show Below w3.heap.size w3 (w8.alloc (.cells #[.bool false, .slice none 0 0, .slice none 0 0] 31)) from HN8.out.alloc HN8.out.size _)
        have HNf := Lib.hid (show Below w3.heap.size w3 (w8.alloc (.cells #[.bool pl.ok, .slice Al pl.locks.length cl8, .slice Aw pl.writes.length cw] 31)) from HN8.out.alloc HN8.out.size _)
        go_wp2_with fail
        refine hKa.out _ _ ?kKa (fun _ => ?dKa)
        case kKa => exact KC.out _ HN8.out
        clear hKa Ka
        refine wpAnyH_ready (rs := [6]) (by kernel_rfl) (by simp) ?_
        refine AllReadyH.cons (o := _) rfl (fun Kc hKc => ?pKc) AllReadyH.nil
        go_simp
        go_wp2_with fail
        refine hKc.out _ _ ?kKc (fun _ => ?dKc)
        case kKc => exact KC.out _ HN9.out
        clear hKc Kc
        refine wpAnyH_ready (rs := [7]) (by kernel_rfl) (by simp) ?_
        refine AllReadyH.cons (o := _) rfl (fun Kd hKd => ?pKd) AllReadyH.nil
        go_simp
        go_wp2_with fail
        refine hKd.out _ _ ?kKd (fun _ => ?dKd)
        case kKd => exact KC.out _ HNf.out
        clear hKd Kd
        refine wpAnyH_done (by kernel_rfl) ?eKd _
        go_wp2
        go_meet
        case rel => exact ⟨w8.heap.size, _, _, rfl, Held.new w8 #[.bool pl.ok, .slice Al pl.locks.length cl8, .slice Aw pl.writes.length cw] _, (HW8.out.below (belowOne w8 _)).more (by rw [allocSize]; omega), HNf.out⟩
      case pKb =>
        have HNa := Lib.hid (show Below w3.heap.size w3 (w3.alloc (.cells #[.bool false, .slice none 0 0, .slice none 0 0] 31)).drew from (belowOne w3 (.cells #[.bool false, .slice none 0 0, .slice none 0 0] 31)).drew)
        have HXa := Lib.hid (show Held (w3.alloc (.cells #[.bool false, .slice none 0 0, .slice none 0 0] 31)).drew w3.heap.size [.bool false, .slice none 0 0, .slice none 0 0] from Held.new w3 #[.bool false, .slice none 0 0, .slice none 0 0] 31)
        go_simp
        go_wp2_with fail
        refine hKb.out _ _ ?kKb (fun _ => ?dKb)
        case kKb => exact KC.out _ HNa.out
        clear hKb Kb
        refine wpAnyH_ready (rs := [5]) (by kernel_rfl) (by simp) ?_
        refine AllReadyH.cons (o := _) rfl (fun Ke hKe => ?pKe) AllReadyH.nil
        go_simp
        have hc := implPlcPlan_any (w3.alloc (.cells #[.bool false, .slice none 0 0, .slice none 0 0] 31)).drew 2 (.slice Ai b.length ci) b (KI.out _ HNa.out) tx o
        rw [HPl.out] at hc
        refine hc.mono ?_
        clear hc
        rintro e w8 ⟨u8, v8, rfl, ho8, hb8⟩
        obtain ⟨Al, cl8, Aw, cw, rfl, rfl⟩ := planForm ho8
        have HW8 := Lib.hid (planWr ho8)
        have HN8 := Lib.hid (show Below w3.heap.size w3 w8 from belowNext (HNa.out) hb8)
        have HX8 := Lib.hid (HXa.out.below hb8 HXa.out.1)
        clear ho8 hb8
        go_wp2_with fail
        refine hKe.out _ _ ?kKe (fun _ => ?dKe)
        case kKe => exact KC.out _ HN8.out
        clear hKe Ke
        have HNf := Lib.hid (show Below w3.heap.size w3 (put3 w8 w3.heap.size (.bool pl.ok) (.slice Al pl.locks.length cl8) (.slice Aw pl.writes.length cw)) from belowPut3 HN8.out w3.heap.size (Nat.le_refl _) _ _ _)
        have r0 := HX8.out.of 0 _ rfl
        have r1 := HX8.out.of 1 _ rfl
        have r2 := HX8.out.of 2 _ rfl
        have rf := HX8.out.2.1
        refine wpAnyH_ready (rs := [7]) (by kernel_rfl) (by simp) ?_
        refine AllReadyH.cons (o := _) rfl (fun Kf hKf => ?pKf) AllReadyH.nil
        go_simp
        go_wp2_with fail
        refine hKf.out _ _ ?kKf (fun _ => ?dKf)
        case kKf => exact KC.out _ HNf.out
        clear hKf Kf r0 r1 r2 rf
        refine wpAnyH_done (by kernel_rfl) ?eKf _
        go_wp2
        go_meet
        case rel => exact ⟨w3.heap.size, _, _, rfl, HX8.out.put3 _ _ _, (HW8.out.keep (w' := put3 w8 w3.heap.size (.bool pl.ok) (.slice Al pl.locks.length cl8) (.slice Aw pl.writes.length cw)) fun b hs _ => put3_far _ _ _ _ _ (by have h7 : (w3.alloc (.cells #[.bool false, .slice none 0 0, .slice none 0 0] 31)).heap.size ≤ b := hs.1; rw [allocSize] at h7; show b ≠ w3.heap.size; omega)).row, HNf.out⟩
    case rest =>
      obtain ⟨qb, ul, uv, rfl, hHq, hwq, hbq⟩ := hcut
      clear k0
      obtain ⟨Ab, cb, hfb, -, -⟩ := hwq.form
      subst hfb
      have HFc := Lib.hid (fun (X : World) (hX : Below wc.heap.size wc X) => show (X.cell? ⟨bl, ol + 1, none⟩ = some (.slice Ai b.length ci) ∧ X.cell? ⟨w1.heap.size, 0, none⟩ = some (.int .i64 o.kind) ∧ X.cell? ⟨w1.heap.size, 1, none⟩ = some (.int .i64 o.who)) ∧ X.cell? ⟨qb, 2, none⟩ = some (.slice Ab pl.writes.length cb) ∧ Items X X.heap.size (.slice Ai b.length ci) b ∧ wrSh.Row X X.heap.size (.slice Ab pl.writes.length cb) pl.writes ∧ Below w3.heap.size w3 X from
        have h3 := belowNext hbq hX
        ⟨⟨(KC.out _ h3).1, (KC.out _ h3).2.1, (KC.out _ h3).2.2.1⟩, (hHq.below hX hHq.1).of 2 _ rfl, KI.out _ h3, (hwq.below hX).more hX.size, h3⟩)
      have HBc := Lib.hid (show Below wc.heap.size wc wc from Below.refl _ _)
      clear hHq hwq hbq KI KC
      go_wp2
      go_loopw [11, 12] (fun y i wr => ∃ (q : Nat) (yv : Int), q ≤ pl.writes.length ∧ i = .int .i64 q ∧ y = .int .i64 yv ∧ (q = 0 ∧ yv = -1 ∨ 0 < q ∧ yv = who) ∧ Below wc.heap.size wc wr) (fun _ i _ => pl.writes.length - (intOf i).toNat)
      case atStart => exact ⟨0, -1, Nat.zero_le _, rfl, rfl, .inl ⟨rfl, rfl⟩, HBc.out⟩
      case round =>
        clear HBc
        obtain ⟨q, yv, hq, rfl, rfl, hyv, hb⟩ := hrel
        have HBq := Lib.hid hb
        clear hb
        obtain ⟨⟨r1, kk0, kk1⟩, r2, -, hwr, -⟩ := HFc.out _ HBq.out
        by_cases hqt : q < pl.writes.length
        · have hqi : (q : Int) < (pl.writes.length : Int) := by omega
          have hq0 : (0 : Int) ≤ (q : Int) := by omega
          obtain ⟨bw, ow, dw, x, cs, g1, hx, hBw, hrw, hcw⟩ := hwr.at_ (k := q) hqt
          injection g1 with g1a g1b g1c
          subst g1a
          obtain ⟨pv, rfl, hsw, hpv⟩ := wr_rel.1 hrw
          obtain ⟨Av, cv, hvf, -, -⟩ := hpv.form
          subst hvf
          have y0 : wr.cell? ⟨bw, ow + q * 3, none⟩ = some (.string x.key) := hcw 0 _ rfl
          have y2 : wr.cell? ⟨bw, ow + q * 3 + 2, none⟩ = some (.slice Av x.val.length cv) := hcw 2 _ rfl
          obtain ⟨hov0, hov1⟩ := HWa.out x (List.mem_of_getElem? hx)
          have HOv := Lib.hid (And.intro hov0 hov1)
          have HPv := Lib.hid (ints_row.1 hpv)
          have k0 := And.intro r1 (And.intro r2 y0)
          have HBs := Lib.hid (show Below wc.heap.size wc wr.drew from HBq.out.drew)
          have HY2 := Lib.hid (And.intro hBw (And.intro y0 y2))
          clear hx hrw hcw hpv g1b g1c hov0 hov1 hwr r1 r2 kk0 kk1 y0 y2 hsw
          go_wp2
          refine wp_region_held_drew (S := (fun w' => w'.cell? ⟨bl, ol + 1, none⟩ = some (.slice Ai b.length ci) ∧ w'.cell? ⟨qb, 2, none⟩ = some (.slice (some ⟨bw, ow, none⟩) pl.writes.length cb) ∧ w'.cell? ⟨bw, ow + q * 3, none⟩ = some (.string x.key))) (by kernel_rfl) ?hSp (fun hHeldp => ?stp)
          case hSp => (first | (dsimp only; (first | with_reducible exact k2 | with_reducible exact k0 | exact k0)) | (first | with_reducible exact k2 | with_reducible exact k0 | exact k0))
          refine take_first 0 63 (v := ?vp_1) rfl rfl (by kernel_rfl) (by kernel_rfl) (by kernel_rfl) (fun _ _ _ h => h) (by rfl) ?yp_1 (by assumption) ?rp_1
          case yp_1 => (intro w hSw; (try dsimp only at hSw); go_simp; (try with_reducible rfl))
          simp only [Act.put, List.setIfInBounds_toArray, List.set_cons_zero, List.set_cons_succ]
          refine take_first 1 64 (v := ?vp_2) rfl rfl (by kernel_rfl) (by kernel_rfl) (by kernel_rfl) (fun _ _ _ h => h) (by rfl) ?yp_2 (by assumption) ?rp_2
          case yp_2 => (intro w hSw; (try dsimp only at hSw); go_simp; (try with_reducible rfl))
          simp only [Act.put, List.setIfInBounds_toArray, List.set_cons_zero, List.set_cons_succ]
          refine take_first 2 65 (v := ?vp_3) rfl rfl (by kernel_rfl) (by kernel_rfl) (by kernel_rfl) (fun _ _ _ h => h) (by rfl) ?yp_3 (by assumption) ?rp_3
          case yp_3 => (intro w hSw; (try dsimp only at hSw); go_simp; (try with_reducible rfl))
          simp only [Act.put, List.setIfInBounds_toArray, List.set_cons_zero, List.set_cons_succ]
          refine take_first 3 66 (v := ?vp_4) rfl rfl (by kernel_rfl) (by kernel_rfl) (by kernel_rfl) (fun _ _ _ h => h) (by rfl) ?yp_4 (by assumption) ?rp_4
          case yp_4 => (intro w hSw; (try dsimp only at hSw); go_simp; (try with_reducible rfl))
          simp only [Act.put, List.setIfInBounds_toArray, List.set_cons_zero, List.set_cons_succ]
          refine take_first 4 67 (v := ?vp_5) rfl rfl (by kernel_rfl) (by kernel_rfl) (by kernel_rfl) (fun _ _ _ h => h) (by rfl) ?yp_5 (by assumption) ?rp_5
          case yp_5 => (intro w hSw; (try dsimp only at hSw); go_simp; (try with_reducible rfl))
          simp only [Act.put, List.setIfInBounds_toArray, List.set_cons_zero, List.set_cons_succ]
          refine take_first 5 68 (v := ?vp_6) rfl rfl (by kernel_rfl) (by kernel_rfl) (by kernel_rfl) (fun _ _ _ h => h) (by rfl) ?yp_6 (by assumption) ?rp_6
          case yp_6 => (intro w hSw; (try dsimp only at hSw); go_simp; (try with_reducible rfl))
          simp only [Act.put, List.setIfInBounds_toArray, List.set_cons_zero, List.set_cons_succ]
          refine take_first 6 69 (v := ?vp_7) rfl rfl (by kernel_rfl) (by kernel_rfl) (by kernel_rfl) (fun _ _ _ h => h) (by rfl) ?yp_7 (by assumption) ?rp_7
          case yp_7 => (intro w hSw; (try dsimp only at hSw); go_simp; (try with_reducible rfl))
          simp only [Act.put, List.setIfInBounds_toArray, List.set_cons_zero, List.set_cons_succ]
          refine take_first 7 70 (v := ?vp_8) rfl rfl (by kernel_rfl) (by kernel_rfl) (by kernel_rfl) (fun _ _ _ h => h) (by rfl) ?yp_8 (by assumption) ?rp_8
          case yp_8 => (intro w hSw; (try dsimp only at hSw); go_simp; (try with_reducible rfl))
          simp only [Act.put, List.setIfInBounds_toArray, List.set_cons_zero, List.set_cons_succ]
          refine take_first 8 71 (v := ?vp_9) rfl rfl (by kernel_rfl) (by kernel_rfl) (by kernel_rfl) (fun _ _ _ h => h) (by rfl) ?yp_9 (by assumption) ?rp_9
          case yp_9 => (intro w hSw; (try dsimp only at hSw); go_simp; (try with_reducible rfl))
          simp only [Act.put, List.setIfInBounds_toArray, List.set_cons_zero, List.set_cons_succ]
          refine wpAnyH_ready (rs := [9]) (by kernel_rfl) (by simp) ?_
          refine AllReadyH.cons (o := _) rfl (fun Kp_10 hKp_10 => ?cp_10) ?mp_10
          case mp_10 => exact AllReadyH.nil
          go_simp
          (with_reducible refine (implStoGet_any _ _ b _ (HFc.out _ HBs.out).2.2.1).mono ?_); rintro e w7 ⟨u7, rfl, ho7, hb7⟩; rw [getOk_yes HSB.out]; rw [getV_yes HSB.out] at ho7; have HB7 := Lib.hid (HBs.out.trans (hb7.mono HBs.out.size)); have HB7r := Lib.hid (show Below wr.heap.size wr w7 from belowNext (Below.refl _ wr).drew hb7); have HO7 := Lib.hid ho7; have k2 := And.intro (HFc.out _ HB7.out).1.1 (And.intro (HFc.out _ HB7.out).2.1 ((HB7r.out.cell (p := ⟨bw, ow + q * 3, none⟩) HY2.out.1).trans HY2.out.2.1)); clear ho7 hb7
          go_wp2_with fail
          refine hKp_10.out _ _ ?kp_10 (fun hHeldp_10 => ?dp_10)
          case kp_10 => (first | (dsimp only; (first | with_reducible exact k2 | with_reducible exact k0 | exact k0)) | (first | with_reducible exact k2 | with_reducible exact k0 | exact k0))
          clear hKp_10 Kp_10
          refine take_first 10 62 (v := ?vp_11) rfl rfl (by kernel_rfl) (by kernel_rfl) (by kernel_rfl) (fun _ _ _ h => h) (by rfl) ?yp_11 (by assumption) ?rp_11
          case yp_11 => (intro w hSw; (try dsimp only at hSw); go_simp; (try with_reducible rfl))
          simp only [Act.put, List.setIfInBounds_toArray, List.set_cons_zero, List.set_cons_succ]
          refine take_first 11 73 (v := ?vp_12) rfl rfl (by kernel_rfl) (by kernel_rfl) (by kernel_rfl) (fun _ _ _ h => h) (by rfl) ?yp_12 (by assumption) ?rp_12
          case yp_12 => (intro w hSw; (try dsimp only at hSw); go_simp; (try with_reducible rfl))
          simp only [Act.put, List.setIfInBounds_toArray, List.set_cons_zero, List.set_cons_succ]
          refine take_first 12 74 (v := ?vp_13) rfl rfl (by kernel_rfl) (by kernel_rfl) (by kernel_rfl) (fun _ _ _ h => h) (by rfl) ?yp_13 (by assumption) ?rp_13
          case yp_13 => (intro w hSw; (try dsimp only at hSw); go_simp; (try with_reducible rfl))
          simp only [Act.put, List.setIfInBounds_toArray, List.set_cons_zero, List.set_cons_succ]
          refine take_first 13 13 (v := ?vp_14) rfl rfl (by kernel_rfl) (by kernel_rfl) (by kernel_rfl) (fun _ _ _ h => h) (by rfl) ?yp_14 (by assumption) ?rp_14
          case yp_14 => (intro w hSw; (try dsimp only at hSw); go_simp; (try with_reducible rfl))
          simp only [Act.put, List.setIfInBounds_toArray, List.set_cons_zero, List.set_cons_succ]
          refine take_first 14 14 (v := ?vp_15) rfl rfl (by kernel_rfl) (by kernel_rfl) (by kernel_rfl) (fun _ _ _ h => h) (by rfl) ?yp_15 (by assumption) ?rp_15
          case yp_15 => (intro w hSw; (try dsimp only at hSw); go_simp; (try with_reducible rfl))
          simp only [Act.put, List.setIfInBounds_toArray, List.set_cons_zero, List.set_cons_succ]
          refine wpAnyH_done (by kernel_rfl) ?ep _
          clear k0 k2 HBs
          obtain ⟨A7, c7, hf7, l7, d7, row7⟩ := HO7.out.ints
          subst hf7
          clear HO7
          have HF7 := Lib.hid (And.intro (HFc.out _ HB7.out).2.1 ((HB7r.out.cell (p := ⟨bw, ow + q * 3 + 2, none⟩) HY2.out.1).trans HY2.out.2.2))
          have HP7 := Lib.hid ((HPv.out.below HB7r.out).more HB7r.out.size)
          have HYv := Lib.hid hyv
          clear hyv HY2 HPv
          cases hkp : lookOk b x.key with
          | true =>
            have hov := HOv.out
            unfold ownV at hov
            rw [hkp, if_pos rfl] at hov
            obtain ⟨bv, ov, hAv, hBv, hcv⟩ := row7 hov.1
            subst hAv
            have v0 : w7.cell? ⟨bv, ov, none⟩ = some (.int .i64 (nth (lookV b x.key) 0)) := hcv 0 hov.1
            rw [hov.2] at v0
            have n0 : 0 < (lookV b x.key).length := hov.1
            have n1 : (0 : Int) < ((lookV b x.key).length : Int) := by omega
            have n2 : (((lookV b x.key).length : Int) == 0) = false := by rw [beq_eq_false_iff_ne]; omega
            clear hcv row7 hov hkp HOv HP7 HF7
            rcases HYv.out with ⟨-, rfl⟩ | ⟨-, rfl⟩
            · go_wp2
              go_roundw
              case rel => exact ⟨q + 1, who, by omega, by go_num, rfl, .inr ⟨by omega, rfl⟩, HB7.out⟩
              case measure => simp [intOf]; omega
            · have w1 : (yv != yv) = false := by simp
              go_wp2
              go_roundw
              case rel => exact ⟨q + 1, yv, by omega, by go_num, rfl, .inr ⟨by omega, rfl⟩, HB7.out⟩
              case measure => simp [intOf]; omega
          | false =>
            have hov := HOv.out
            unfold ownV at hov
            rw [hkp, if_neg (by decide)] at hov
            obtain ⟨Av', cv', hvf, lv, dv, rowv⟩ := HP7.out
            injection hvf with hvfa hvfb hvfc
            subst hvfa
            obtain ⟨bv, ov, hAv, hBv, hcv⟩ := rowv hov.1
            subst hAv
            have v0 : w7.cell? ⟨bv, ov, none⟩ = some (.int .i64 (nth x.val 0)) := hcv 0 hov.1
            rw [hov.2] at v0
            have n0 : 0 < x.val.length := hov.1
            have n1 : (0 : Int) < (x.val.length : Int) := by omega
            have n2 : ((x.val.length : Int) == 0) = false := by rw [beq_eq_false_iff_ne]; omega
            obtain ⟨z1, z2⟩ := HF7.out
            clear hcv row7 rowv hov hkp HOv HP7 HF7 hvfb hvfc lv dv
            rcases HYv.out with ⟨-, rfl⟩ | ⟨-, rfl⟩
            · go_wp2
              go_roundw
              case rel => exact ⟨q + 1, who, by omega, by go_num, rfl, .inr ⟨by omega, rfl⟩, HB7.out⟩
              case measure => simp [intOf]; omega
            · have w1 : (yv != yv) = false := by simp
              go_wp2
              go_roundw
              case rel => exact ⟨q + 1, yv, by omega, by go_num, rfl, .inr ⟨by omega, rfl⟩, HB7.out⟩
              case measure => simp [intOf]; omega
        · have hqi : ¬ (q : Int) < (pl.writes.length : Int) := by omega
          have HYv := Lib.hid hyv
          have HBe := Lib.hid (belowNext HB.out (HFc.out _ HBq.out).2.2.2.2)
          have HXe := Lib.hid ((HX.out.below (HFc.out _ HBq.out).2.2.2.2).more (HFc.out _ HBq.out).2.2.2.2.size)
          clear hyv hwr r1 kk0 kk1
          go_wp2_with fail
          refine (implGloOk_any _ _ ys HXe.out).mono ?_
          rintro e w9 ⟨rfl, hb9⟩
          rw [HGo.out]
          have HB9 := Lib.hid (HBq.out.trans (hb9.mono HBq.out.size))
          have HBz := Lib.hid (belowNext HBe.out hb9)
          obtain ⟨⟨-, kk0, kk1⟩, -, -, -, -⟩ := HFc.out _ HB9.out
          clear hb9 r2
          rcases HYv.out with ⟨-, rfl⟩ | ⟨-, rfl⟩
          · go_wp2
            go_ret
            exact ⟨rfl, HBz.out⟩
          · have w0 : ¬ yv < 0 := by omega
            rcases HWk.out with h3 | h3 | h3
            · have e3 : (o.kind == 3) = true := by simp [h3]
              clear h3
              go_wp2
              go_ret
              exact ⟨rfl, HBz.out⟩
            · have e3 : (o.kind == 3) = false := by simp [h3]
              have e4 : (o.kind == 4) = true := by simp [h3]
              clear h3
              go_wp2
              go_ret
              exact ⟨rfl, HBz.out⟩
            · have e5 : (yv == o.who) = true := by simp [h3]
              clear h3
              cases e3 : (o.kind == 3)
              · cases e4 : (o.kind == 4)
                · go_wp2
                  go_ret
                  exact ⟨rfl, HBz.out⟩
                · go_wp2
                  go_ret
                  exact ⟨rfl, HBz.out⟩
              · go_wp2
                go_ret
                exact ⟨rfl, HBz.out⟩

end Go.Proofs.YteccebjnopladaaGreat
