/- The walk of FnGloDo. By gdgen.py. -/
import Derived.Test.YteccebjnopladaaGreatXDrawOpen
import Derived.Test.YteccebjnopladaaGreatXGlo
import Derived.Test.YteccebjnopladaaGreatXPlayMay
import Derived.Test.YteccebjnopladaaGreatXJaSto
import Derived.Test.YteccebjnopladaaGreatXPlanLaw
import Derived.Deep.CutRange
import Derived.Deep.DeepCutAuto
namespace Go.Proofs.YteccebjnopladaaGreat
open Go.RowKit

/-- Passed over: it is not wanted. -/
theorem pass_by {P : Program} {md : Region.Mode} {ops : Array Oper} {Q : Exit → Act → World → Prop} {S : World → Prop} (i d : Nat) {oi : Oper} {fuel : Nat} {listed : Array Bool} {a : Act} {w : World} (hi : ops[i]? = some oi) (hd : oi.dst = some d)
    (hs : Region.noSelect ops = true) (hf : Region.free md ops listed i = true) (hr : (Region.ready md ops listed).contains i = true)
    (hQ : ∀ c a w, Q (.panic c) (a.put oi.dst undef) w → Q (.panic c) a w) (hw : Region.wanted oi (yielded ops a.tmps) = false) (hS : S w)
    (h : wpAnyH P md ops Q S fuel (listed.setIfInBounds i true) (a.put (some d) undef) w) : wpAnyH P md ops Q S (fuel + 1) listed a w :=
  wpAnyH_take hi hs hf hr hQ (.inr ⟨hw, rfl⟩) hS (by rw [hd]; exact h)
theorem glo_no {xs : List Sto} {tx : Int} {o : Op} (h : (gloB xs && (opB o && inB tx 0 29)) = false) : gloDo xs tx o = ([], false) := by unfold gloDo; rw [h]; rfl
theorem glo_is {xs ys : List Sto} {tx : Int} {o : Op} {ok : Bool} (hg : gloB xs = true) (ho : opB o = true) (ht : inB tx 0 29 = true) (h : gloDo xs tx o = (ys, ok)) (hl : ∀ x ∈ xs, x.items.length ≤ 13 ∨ x.items.length = 41) :
    (placesP o).all (okP xs tx o) = ok ∧ gloB ys = true ∧ ys.length = 3 ∧ ∀ (k : Nat) (z y : Sto), xs[k]? = some z → ys[k]? = some y → y.items = if (ok && memB (placesP o) ((k : Int) + 1)) = true then stoDo z.items (plcP z.items ((k : Int) + 1) tx o).writes else z.items := by
  have hok : (placesP o).all (okP xs tx o) = ok := by
    unfold gloDo at h
    rw [hg, ho, ht] at h
    simp only [Bool.and_self, if_true] at h
    exact (Prod.mk.injEq _ _ _ _).mp h |>.2
  match xs, gloB_three hg with
  | [⟨a⟩, ⟨b⟩, ⟨c⟩], _ =>
    have hd := gloDo_three hg ho ht
    rw [h] at hd
    obtain ⟨g1, g2, g3⟩ := gloB_parts hg
    have l1 := (stoB_three (plc_parts g1).1).1
    have l2 := (stoB_three (plc_parts g2).1).1
    have l3 := (stoB_three (plc_parts g3).1).1
    have m1 : a.length ≤ 13 ∨ a.length = 41 := hl ⟨a⟩ (by simp)
    have m2 : b.length ≤ 13 ∨ b.length = 41 := hl ⟨b⟩ (by simp)
    have m3 : c.length ≤ 13 ∨ c.length = 41 := hl ⟨c⟩ (by simp)
    have hs := (glo_step (k := 13) (tx := tx) (o := o) hg ho ht (by omega) (by omega) (by omega) (by omega)).1
    have p1 : plcP a 1 tx o = planP a 1 tx o := by unfold plcP; rw [ho, g1, ht]; rfl
    have p2 : plcP b 2 tx o = planP b 2 tx o := by unfold plcP; rw [ho, g2, ht]; rfl
    have p3 : plcP c 3 tx o = planP c 3 tx o := by unfold plcP; rw [ho, g3, ht]; rfl
    obtain ⟨hy, hk⟩ := (Prod.mk.injEq _ _ _ _).mp hd
    rw [hk] at hok
    cases hm : gloMay a b c tx o with
    | false =>
      rw [hm] at hy hk
      have hy' : ys = [⟨a⟩, ⟨b⟩, ⟨c⟩] := hy
      subst hy' hk
      refine ⟨by rw [← hm]; exact hok, hg, rfl, fun k z y hz hy => ?_⟩
      rw [hz] at hy
      rw [← Option.some.inj hy]
      rfl
    | true =>
      rw [hm] at hy hk
      have hy' : ys = [⟨stepP a 1 tx o⟩, ⟨stepP b 2 tx o⟩, ⟨stepP c 3 tx o⟩] := hy
      subst hy' hk
      refine ⟨by rw [← hm]; exact hok, hs, rfl, fun k z y hz hy => ?_⟩
      have hk3 : k < 3 := (List.getElem?_eq_some_iff.1 hz).1
      rcases (by omega : k = 0 ∨ k = 1 ∨ k = 2) with rfl | rfl | rfl
      · have hz' := Option.some.inj hz
        have hy' := Option.some.inj hy
        subst hz' hy'
        show stepP a 1 tx o = if (true && memB (placesP o) 1) = true then stoDo a (plcP a 1 tx o).writes else a
        rw [memB_places ho (.inl rfl), p1, Bool.true_and]; rfl
      · have hz' := Option.some.inj hz
        have hy' := Option.some.inj hy
        subst hz' hy'
        show stepP b 2 tx o = if (true && memB (placesP o) 2) = true then stoDo b (plcP b 2 tx o).writes else b
        rw [memB_places ho (.inr (.inl rfl)), p2, Bool.true_and]; rfl
      · have hz' := Option.some.inj hz
        have hy' := Option.some.inj hy
        subst hz' hy'
        show stepP c 3 tx o = if (true && memB (placesP o) 3) = true then stoDo c (plcP c 3 tx o).writes else c
        rw [memB_places ho (.inr (.inr rfl)), p3, Bool.true_and]; rfl

set_option maxRecDepth 100000 in
set_option maxHeartbeats 20000000 in
theorem lawGloDo_any (w : World) (v : Value) (n : Nat) (hv : Code8 w v n) :
    Calls Tryz.prog 6 #[v] w fun e w' => e = .returned (.bool true) ∧ Below w.heap.size w w' := by
  have HV := Lib.hid hv
  obtain ⟨A, c, f, rfl, h1, h2, -, -⟩ := hv
  unfold maxLen at h2
  by_cases hn : 1048576 < n
  · have hn' : (1048576 : Int) < (n : Int) := by omega
    go_enter Tryz.func6, Tryz.ntmps6
    go_wp2
    go_ret
    exact ⟨rfl, Below.refl _ _⟩
  have hn' : (n : Int) ≤ 1048576 := by omega
  clear hn
  go_enter Tryz.func6, Tryz.ntmps6
  go_wp2_with fail
  refine (drawGloDo_any _ _ n HV.out).mono ?_
  rintro e w1 ⟨u, xs, tx, o, rfl, hxl, hxi, t0, t1, hrow, hb1⟩
  obtain ⟨Al, cl, hlf, -, -⟩ := hrow.form
  rw [hxl] at hlf
  subst hlf
  have HB := Lib.hid (belowNext hb1 (belowOne w1 (.cells #[.int .i64 o.kind, .int .i64 o.who, .int .i64 o.inn, .int .i64 o.code, .int .i64 o.sec, .int .i64 o.fam, .int .i64 o.gen] 37)))
  have HR := Lib.hid ((hrow.below (belowOne w1 (.cells #[.int .i64 o.kind, .int .i64 o.who, .int .i64 o.inn, .int .i64 o.code, .int .i64 o.sec, .int .i64 o.fam, .int .i64 o.gen] 37))).more (belowOne w1 (.cells #[.int .i64 o.kind, .int .i64 o.who, .int .i64 o.inn, .int .i64 o.code, .int .i64 o.sec, .int .i64 o.fam, .int .i64 o.gen] 37)).size)
  have HO := Lib.hid (Held.new w1 #[.int .i64 o.kind, .int .i64 o.who, .int .i64 o.inn, .int .i64 o.code, .int .i64 o.sec, .int .i64 o.fam, .int .i64 o.gen] 37)
  have HXI := Lib.hid hxi
  clear hrow hb1 HV hxi
  unfold opV
  obtain ⟨q0, q1, q2, q3, q4, q5, q6⟩ := HO.out.seven
  go_wp2_with fail
  clear q0 q1 q2 q3 q4 q5 q6
  refine (implGloDo_any _ _ xs HR.out tx o).mono ?_
  rintro e w2 ⟨ux, rfl, hx, hb⟩
  obtain ⟨ys, ok, hR⟩ : ∃ ys ok, gloDo xs tx o = (ys, ok) := ⟨_, _, rfl⟩
  rw [hR] at hx ⊢
  dsimp only at hx ⊢
  have HRe := Lib.hid hR
  obtain ⟨Ax, cx, hxf, -, -⟩ := hx.row.form
  subst hxf
  replace HB := Lib.hid (belowNext HB.out hb)
  replace HR := Lib.hid ((HR.out.below hb).more hb.size)
  replace HO := Lib.hid (HO.out.below hb HO.out.1)
  have HX := Lib.hid hx.row
  clear hb hx hR
  obtain ⟨q0, q1, q2, q3, q4, q5, q6⟩ := HO.out.seven
  go_wp2_with fail
  clear q0 q1 q2 q3 q4 q5 q6
  refine (specGloDo_any _ _ xs HR.out tx o).mono ?_
  rintro e w3 ⟨us, rfl, hs, hb⟩
  rw [HRe.out] at hs ⊢
  dsimp only at hs ⊢
  obtain ⟨As, cs, hsf, -, -⟩ := hs.row.form
  subst hsf
  replace HB := Lib.hid (belowNext HB.out hb)
  replace HR := Lib.hid ((HR.out.below hb).more hb.size)
  replace HO := Lib.hid (HO.out.below hb HO.out.1)
  replace HX := Lib.hid ((HX.out.below hb).more hb.size)
  have HS := Lib.hid (lsto_row.1 hs.row)
  clear hb hs
  have hself : (ok != ok) = false := by simp
  go_wp2_with fail
  refine (jaStos_same _ _ _ ys HX.out HS.out).mono ?_
  rintro e w4 ⟨rfl, hb⟩
  replace HB := Lib.hid (belowNext HB.out hb)
  replace HR := Lib.hid ((HR.out.below hb).more hb.size)
  replace HO := Lib.hid (HO.out.below hb HO.out.1)
  replace HX := Lib.hid ((HX.out.below hb).more hb.size)
  clear hb HS
  go_wp2_with fail
  refine (specGloOk_any _ _ xs HR.out).mono ?_
  rintro e w5 ⟨rfl, hb⟩
  replace HB := Lib.hid (belowNext HB.out hb)
  replace HR := Lib.hid ((HR.out.below hb).more hb.size)
  replace HO := Lib.hid (HO.out.below hb HO.out.1)
  replace HX := Lib.hid ((HX.out.below hb).more hb.size)
  clear hb
  have HNo := Lib.hid (fun (h : (gloB xs && (opB o && inB tx 0 29)) = false) => show ys = [] ∧ ok = false from by have h1 := HRe.out.symm.trans (glo_no h); exact (Prod.mk.injEq _ _ _ _).mp h1)
  cases hg : gloB xs with
  | false =>
    obtain ⟨rfl, rfl⟩ := HNo.out (by rw [hg]; rfl)
    clear hg HNo HX HR HO HXI hself
    go_wp2_with fail
    refine (jaOk_any _).mono ?_
    rintro e wz ⟨rfl, hb⟩
    have HBz := Lib.hid (belowNext HB.out hb)
    clear hb
    go_wp2
    go_ret
    exact ⟨rfl, HBz.out⟩
  | true =>
    have HG := Lib.hid hg
    clear hg
    obtain ⟨q0, q1, q2, q3, q4, q5, q6⟩ := HO.out.seven
    go_wp2_with fail
    clear q0 q1 q2 q3 q4 q5 q6
    refine (specOpOk_any _ o).mono ?_
    rintro e w6 ⟨rfl, hb⟩
    replace HB := Lib.hid (belowNext HB.out hb)
    replace HR := Lib.hid ((HR.out.below hb).more hb.size)
    replace HO := Lib.hid (HO.out.below hb HO.out.1)
    replace HX := Lib.hid ((HX.out.below hb).more hb.size)
    clear hb
    cases ho : opB o with
    | false =>
      obtain ⟨rfl, rfl⟩ := HNo.out (by rw [ho]; simp)
      clear ho HNo HX HR HO HXI hself
      go_wp2_with fail
      refine (jaOk_any _).mono ?_
      rintro e wz ⟨rfl, hb⟩
      have HBz := Lib.hid (belowNext HB.out hb)
      clear hb
      go_wp2
      go_ret
      exact ⟨rfl, HBz.out⟩
    | true =>
      have HOo := Lib.hid ho
      clear ho
      by_cases hx0 : tx < 0
      · obtain ⟨rfl, rfl⟩ := HNo.out (by rw [show inB tx 0 29 = false from inB_no (.inl hx0)]; simp)
        clear HNo HX HR HO HXI hself
        go_wp2_with fail
        refine (jaOk_any _).mono ?_
        rintro e wz ⟨rfl, hb⟩
        have HBz := Lib.hid (belowNext HB.out hb)
        clear hb
        go_wp2
        go_ret
        exact ⟨rfl, HBz.out⟩
      by_cases hx1 : 29 < tx
      · obtain ⟨rfl, rfl⟩ := HNo.out (by rw [show inB tx 0 29 = false from inB_no (.inr hx1)]; simp)
        clear HNo HX HR HO HXI hself
        go_wp2_with fail
        refine (jaOk_any _).mono ?_
        rintro e wz ⟨rfl, hb⟩
        have HBz := Lib.hid (belowNext HB.out hb)
        clear hb
        go_wp2
        go_ret
        exact ⟨rfl, HBz.out⟩
      have HT := Lib.hid (show inB tx 0 29 = true from inB_yes (by omega) (by omega))
      have HIs := Lib.hid (glo_is HG.out HOo.out HT.out HRe.out HXI.out)
      clear HNo HXI hself
      obtain ⟨q0, q1, q2, q3, q4, q5, q6⟩ := HO.out.seven
      go_wp2_with fail
      clear q0 q1 q2 q3 q4 q5 q6
      refine (implOpPlaces_any _ o).mono ?_
      rintro e w7 ⟨up, rfl, hop, hb⟩
      replace HB := Lib.hid (belowNext HB.out hb)
      replace HR := Lib.hid ((HR.out.below hb).more hb.size)
      replace HO := Lib.hid (HO.out.below hb HO.out.1)
      replace HX := Lib.hid ((HX.out.below hb).more hb.size)
      have HPl := Lib.hid hop.ints
      have hpl := places_len o
      have HPin := Lib.hid (places_in (o := o))
      obtain ⟨Lp, hLp⟩ : ∃ Lp, placesP o = Lp := ⟨_, rfl⟩
      have HLp := Lib.hid hLp
      rw [hLp] at HPl hpl HPin
      clear hb hop hLp
      obtain ⟨A7, c7, hf7, l7, d7, row7⟩ := HPl.out
      subst hf7
      unfold maxLen at d7
      have HR7 := Lib.hid row7
      obtain ⟨bl, ol, dl, x0, p0, f1, hx0', hBl, r0, hi0⟩ := stos_at HR.out (k := 0) (by omega)
      injection f1 with f1a f1b f1c
      subst f1a
      have HLc := Lib.hid (fun (k : Nat) (hk : k < 3) => show ∃ (z : Sto) (Az : Option Addr) (cz : Nat), xs[k]? = some z ∧ w7.cell? ⟨bl, ol + k, none⟩ = some (.slice Az z.items.length cz) ∧ bl < w7.heap.size ∧ Items w7 w7.heap.size (.slice Az z.items.length cz) z.items from by
        obtain ⟨b', o', d', z, pz, g1, hz, hBz, rz, hiz⟩ := stos_at HR.out (k := k) (by omega)
        injection g1 with g1a _ _
        injection g1a with g1a
        injection g1a with g1a g1b _
        subst g1a g1b
        obtain ⟨Az, cz, hfz, -, -⟩ := hiz.form
        subst hfz
        exact ⟨z, Az, cz, hz, rz, hBz, items_row.1 hiz⟩)
      have HC := Lib.hid (fun (X : World) (hX : Below w7.heap.size w7 X) => show X.cell? ⟨w1.heap.size, 0, none⟩ = some (.int .i64 o.kind) ∧ X.cell? ⟨w1.heap.size, 1, none⟩ = some (.int .i64 o.who) ∧ X.cell? ⟨w1.heap.size, 2, none⟩ = some (.int .i64 o.inn) ∧ X.cell? ⟨w1.heap.size, 3, none⟩ = some (.int .i64 o.code) ∧ X.cell? ⟨w1.heap.size, 4, none⟩ = some (.int .i64 o.sec) ∧ X.cell? ⟨w1.heap.size, 5, none⟩ = some (.int .i64 o.fam) ∧ X.cell? ⟨w1.heap.size, 6, none⟩ = some (.int .i64 o.gen) from (HO.out.below hX HO.out.1).seven)
      have HBc := Lib.hid (show Below w7.heap.size w7 w7 from Below.refl _ _)
      clear hx0' r0 hi0 hBl f1b f1c row7
      go_wp2
      go_loopw [11, 12] (fun y i wr => ∃ k : Nat, k ≤ Lp.length ∧ i = .int .i64 k ∧ y = .bool ((Lp.take k).all (okP xs tx o)) ∧ Below w7.heap.size w7 wr) (fun _ i _ => Lp.length - (intOf i).toNat)
      case atStart => exact ⟨0, Nat.zero_le _, rfl, rfl, HBc.out⟩
      case round =>
        clear HBc
        obtain ⟨k, hk, rfl, rfl, hb⟩ := hrel
        have HBr := Lib.hid hb
        clear hb
        by_cases hlt : k < Lp.length
        · have hki : (k : Int) < (Lp.length : Int) := by omega
          have hk0 : (0 : Int) ≤ (k : Int) := by omega
          have HSt := Lib.hid (show (Lp.take (k + 1)).all (okP xs tx o) = ((Lp.take k).all (okP xs tx o) && okP xs tx o (nth Lp k)) by rw [List.take_add_one, List.getElem?_eq_getElem hlt, List.all_append, nth_get hlt]; simp)
          cases hm : (Lp.take k).all (okP xs tx o) with
          | false =>
            rw [hm] at HSt
            clear hm
            go_wp2
            refine wp_region_held_drew (S := (fun w' => True)) (by kernel_rfl) ?hSa (fun hHelda => ?sta)
            case hSa => (first | (dsimp only; (exact trivial)) | (exact trivial))
            refine take_first 0 81 (v := ?va_1) rfl rfl (by kernel_rfl) (by kernel_rfl) (by kernel_rfl) (fun _ _ _ h => h) (by rfl) ?ya_1 (by assumption) ?ra_1
            case ya_1 => (intro w hSw; (try dsimp only at hSw); go_simp; (try with_reducible rfl))
            simp only [Act.put, List.setIfInBounds_toArray, List.set_cons_zero, List.set_cons_succ]
            refine take_first 1 82 (v := ?va_2) rfl rfl (by kernel_rfl) (by kernel_rfl) (by kernel_rfl) (fun _ _ _ h => h) (by rfl) ?ya_2 (by assumption) ?ra_2
            case ya_2 => (intro w hSw; (try dsimp only at hSw); go_simp; (try with_reducible rfl))
            simp only [Act.put, List.setIfInBounds_toArray, List.set_cons_zero, List.set_cons_succ]
            refine pass_by 2 83 rfl rfl (by kernel_rfl) (by kernel_rfl) (by kernel_rfl) (fun _ _ _ h => h) (by rfl) (by assumption) ?ra_3
            simp only [Act.put, List.setIfInBounds_toArray, List.set_cons_zero, List.set_cons_succ]
            refine pass_by 3 84 rfl rfl (by kernel_rfl) (by kernel_rfl) (by kernel_rfl) (fun _ _ _ h => h) (by rfl) (by assumption) ?ra_4
            simp only [Act.put, List.setIfInBounds_toArray, List.set_cons_zero, List.set_cons_succ]
            refine pass_by 4 85 rfl rfl (by kernel_rfl) (by kernel_rfl) (by kernel_rfl) (fun _ _ _ h => h) (by rfl) (by assumption) ?ra_5
            simp only [Act.put, List.setIfInBounds_toArray, List.set_cons_zero, List.set_cons_succ]
            refine pass_by 5 86 rfl rfl (by kernel_rfl) (by kernel_rfl) (by kernel_rfl) (fun _ _ _ h => h) (by rfl) (by assumption) ?ra_6
            simp only [Act.put, List.setIfInBounds_toArray, List.set_cons_zero, List.set_cons_succ]
            refine pass_by 6 87 rfl rfl (by kernel_rfl) (by kernel_rfl) (by kernel_rfl) (fun _ _ _ h => h) (by rfl) (by assumption) ?ra_7
            simp only [Act.put, List.setIfInBounds_toArray, List.set_cons_zero, List.set_cons_succ]
            refine pass_by 7 88 rfl rfl (by kernel_rfl) (by kernel_rfl) (by kernel_rfl) (fun _ _ _ h => h) (by rfl) (by assumption) ?ra_8
            simp only [Act.put, List.setIfInBounds_toArray, List.set_cons_zero, List.set_cons_succ]
            refine pass_by 8 89 rfl rfl (by kernel_rfl) (by kernel_rfl) (by kernel_rfl) (fun _ _ _ h => h) (by rfl) (by assumption) ?ra_9
            simp only [Act.put, List.setIfInBounds_toArray, List.set_cons_zero, List.set_cons_succ]
            refine pass_by 9 90 rfl rfl (by kernel_rfl) (by kernel_rfl) (by kernel_rfl) (fun _ _ _ h => h) (by rfl) (by assumption) ?ra_10
            simp only [Act.put, List.setIfInBounds_toArray, List.set_cons_zero, List.set_cons_succ]
            refine pass_by 10 91 rfl rfl (by kernel_rfl) (by kernel_rfl) (by kernel_rfl) (fun _ _ _ h => h) (by rfl) (by assumption) ?ra_11
            simp only [Act.put, List.setIfInBounds_toArray, List.set_cons_zero, List.set_cons_succ]
            refine pass_by 11 92 rfl rfl (by kernel_rfl) (by kernel_rfl) (by kernel_rfl) (fun _ _ _ h => h) (by rfl) (by assumption) ?ra_12
            simp only [Act.put, List.setIfInBounds_toArray, List.set_cons_zero, List.set_cons_succ]
            refine pass_by 12 93 rfl rfl (by kernel_rfl) (by kernel_rfl) (by kernel_rfl) (fun _ _ _ h => h) (by rfl) (by assumption) ?ra_13
            simp only [Act.put, List.setIfInBounds_toArray, List.set_cons_zero, List.set_cons_succ]
            refine pass_by 13 94 rfl rfl (by kernel_rfl) (by kernel_rfl) (by kernel_rfl) (fun _ _ _ h => h) (by rfl) (by assumption) ?ra_14
            simp only [Act.put, List.setIfInBounds_toArray, List.set_cons_zero, List.set_cons_succ]
            refine pass_by 14 95 rfl rfl (by kernel_rfl) (by kernel_rfl) (by kernel_rfl) (fun _ _ _ h => h) (by rfl) (by assumption) ?ra_15
            simp only [Act.put, List.setIfInBounds_toArray, List.set_cons_zero, List.set_cons_succ]
            refine pass_by 15 96 rfl rfl (by kernel_rfl) (by kernel_rfl) (by kernel_rfl) (fun _ _ _ h => h) (by rfl) (by assumption) ?ra_16
            simp only [Act.put, List.setIfInBounds_toArray, List.set_cons_zero, List.set_cons_succ]
            refine pass_by 16 97 rfl rfl (by kernel_rfl) (by kernel_rfl) (by kernel_rfl) (fun _ _ _ h => h) (by rfl) (by assumption) ?ra_17
            simp only [Act.put, List.setIfInBounds_toArray, List.set_cons_zero, List.set_cons_succ]
            refine pass_by 17 98 rfl rfl (by kernel_rfl) (by kernel_rfl) (by kernel_rfl) (fun _ _ _ h => h) (by rfl) (by assumption) ?ra_18
            simp only [Act.put, List.setIfInBounds_toArray, List.set_cons_zero, List.set_cons_succ]
            refine take_first 18 99 (v := ?va_19) rfl rfl (by kernel_rfl) (by kernel_rfl) (by kernel_rfl) (fun _ _ _ h => h) (by rfl) ?ya_19 (by assumption) ?ra_19
            case ya_19 => (intro w hSw; (try dsimp only at hSw); go_simp; (try with_reducible rfl))
            simp only [Act.put, List.setIfInBounds_toArray, List.set_cons_zero, List.set_cons_succ]
            refine take_first 19 11 (v := ?va_20) rfl rfl (by kernel_rfl) (by kernel_rfl) (by kernel_rfl) (fun _ _ _ h => h) (by rfl) ?ya_20 (by assumption) ?ra_20
            case ya_20 => (intro w hSw; (try dsimp only at hSw); go_simp; (try with_reducible rfl))
            simp only [Act.put, List.setIfInBounds_toArray, List.set_cons_zero, List.set_cons_succ]
            refine wpAnyH_done (by kernel_rfl) ?ea _
            go_wp2
            go_roundw
            case rel => exact ⟨k + 1, by omega, by go_num, by rw [HSt.out]; rfl, HBr.out.drew⟩
            case measure => simp [intOf]; omega
          | true =>
            rw [hm, Bool.true_and] at HSt
            clear hm
            have hpin := HPin.out (nth Lp k) (by rw [nth_get hlt]; exact List.getElem_mem hlt)
            obtain ⟨j, hj⟩ : ∃ j : Nat, nth Lp k = (j : Int) + 1 := ⟨(nth Lp k - 1).toNat, by omega⟩
            have hj3 : j < 3 := by omega
            obtain ⟨z, Az, cz, hz, rz, hBz, hiz⟩ := HLc.out j hj3
            obtain ⟨b7, o7, hA7, hB7, hc7⟩ := HR7.out (by omega)
            subst hA7
            have y7 : wr.cell? ⟨b7, o7 + k, none⟩ = some (.int .i64 ((j : Int) + 1)) := by rw [← hj]; exact (HBr.out.cell (p := ⟨b7, o7 + k, none⟩) hB7).trans (hc7 k hlt)
            have HOk := Lib.hid (show okP xs tx o (nth Lp k) = (plcP z.items ((j : Int) + 1) tx o).ok by unfold okP atP; rw [hj, show ((j : Int) + 1 - 1).toNat = j by omega, hz]; rfl)
            have HIz := Lib.hid (fun (X : World) (hX : Below w7.heap.size w7 X) => show Items X X.heap.size (.slice Az z.items.length cz) z.items from (hiz.below hX).more hX.size)
            have k0 := And.intro y7 (And.intro ((HBr.out.cell (p := ⟨bl, ol + j, none⟩) hBz).trans rz) (HC.out _ HBr.out))
            have HKk := Lib.hid (fun (X : World) (hX : Below w7.heap.size w7 X) => show X.cell? ⟨b7, o7 + k, none⟩ = some (.int .i64 ((j : Int) + 1)) ∧ X.cell? ⟨bl, ol + j, none⟩ = some (.slice Az z.items.length cz) ∧ X.cell? ⟨w1.heap.size, 0, none⟩ = some (.int .i64 o.kind) ∧ X.cell? ⟨w1.heap.size, 1, none⟩ = some (.int .i64 o.who) ∧ X.cell? ⟨w1.heap.size, 2, none⟩ = some (.int .i64 o.inn) ∧ X.cell? ⟨w1.heap.size, 3, none⟩ = some (.int .i64 o.code) ∧ X.cell? ⟨w1.heap.size, 4, none⟩ = some (.int .i64 o.sec) ∧ X.cell? ⟨w1.heap.size, 5, none⟩ = some (.int .i64 o.fam) ∧ X.cell? ⟨w1.heap.size, 6, none⟩ = some (.int .i64 o.gen) from ⟨by rw [← hj]; exact (hX.cell (p := ⟨b7, o7 + k, none⟩) hB7).trans (hc7 k hlt), (hX.cell (p := ⟨bl, ol + j, none⟩) hBz).trans rz, HC.out _ hX⟩)
            have hsub : (j : Int) + 1 - 1 = (j : Int) := by omega
            have hwj : IntKind.i64.wrap (j : Int) = (j : Int) := IntWalk.i64_in _ (by omega)
            have j0 : (0 : Int) ≤ (j : Int) := by omega
            have j3 : (j : Int) < 3 := by omega
            have HBd := Lib.hid (show Below w7.heap.size w7 wr.drew from HBr.out.drew)
            have hfl : ∀ (b : Bool) (A1 A2 : Option Addr) (n1 c1 n2 c2 : Nat) (w : World), (Instr.field 31 (.agg #[.bool b, .slice A1 n1 c1, .slice A2 n2 c2]) 0).run Tryz.prog w = .ok (.bool b) w := fun _ _ _ _ _ _ _ _ => by kernel_rfl
            clear hc7 y7 rz hiz hz hpin hj
            go_wp2
            refine wp_region_held_drew (S := (fun w' => w'.cell? ⟨b7, o7 + k, none⟩ = some (.int .i64 ((j : Int) + 1)) ∧ w'.cell? ⟨bl, ol + j, none⟩ = some (.slice Az z.items.length cz) ∧ w'.cell? ⟨w1.heap.size, 0, none⟩ = some (.int .i64 o.kind) ∧ w'.cell? ⟨w1.heap.size, 1, none⟩ = some (.int .i64 o.who) ∧ w'.cell? ⟨w1.heap.size, 2, none⟩ = some (.int .i64 o.inn) ∧ w'.cell? ⟨w1.heap.size, 3, none⟩ = some (.int .i64 o.code) ∧ w'.cell? ⟨w1.heap.size, 4, none⟩ = some (.int .i64 o.sec) ∧ w'.cell? ⟨w1.heap.size, 5, none⟩ = some (.int .i64 o.fam) ∧ w'.cell? ⟨w1.heap.size, 6, none⟩ = some (.int .i64 o.gen))) (by kernel_rfl) ?hSb (fun hHeldb => ?stb)
            case hSb => (first | (dsimp only; (first | with_reducible exact k1 | with_reducible exact k0 | exact k0)) | (first | with_reducible exact k1 | with_reducible exact k0 | exact k0))
            refine take_first 0 81 (v := ?vb_1) rfl rfl (by kernel_rfl) (by kernel_rfl) (by kernel_rfl) (fun _ _ _ h => h) (by rfl) ?yb_1 (by assumption) ?rb_1
            case yb_1 => (intro w hSw; (try dsimp only at hSw); go_simp; (try with_reducible rfl))
            simp only [Act.put, List.setIfInBounds_toArray, List.set_cons_zero, List.set_cons_succ]
            refine take_first 1 82 (v := ?vb_2) rfl rfl (by kernel_rfl) (by kernel_rfl) (by kernel_rfl) (fun _ _ _ h => h) (by rfl) ?yb_2 (by assumption) ?rb_2
            case yb_2 => (intro w hSw; (try dsimp only at hSw); go_simp; (try with_reducible rfl))
            simp only [Act.put, List.setIfInBounds_toArray, List.set_cons_zero, List.set_cons_succ]
            refine take_first 2 83 (v := ?vb_3) rfl rfl (by kernel_rfl) (by kernel_rfl) (by kernel_rfl) (fun _ _ _ h => h) (by rfl) ?yb_3 (by assumption) ?rb_3
            case yb_3 => (intro w hSw; (try dsimp only at hSw); go_simp; (try with_reducible rfl))
            simp only [Act.put, List.setIfInBounds_toArray, List.set_cons_zero, List.set_cons_succ]
            refine take_first 3 84 (v := ?vb_4) rfl rfl (by kernel_rfl) (by kernel_rfl) (by kernel_rfl) (fun _ _ _ h => h) (by rfl) ?yb_4 (by assumption) ?rb_4
            case yb_4 => (intro w hSw; (try dsimp only at hSw); go_simp; (try with_reducible rfl))
            simp only [Act.put, List.setIfInBounds_toArray, List.set_cons_zero, List.set_cons_succ]
            refine take_first 4 85 (v := ?vb_5) rfl rfl (by kernel_rfl) (by kernel_rfl) (by kernel_rfl) (fun _ _ _ h => h) (by rfl) ?yb_5 (by assumption) ?rb_5
            case yb_5 => (intro w hSw; (try dsimp only at hSw); go_simp; (try with_reducible rfl))
            simp only [Act.put, List.setIfInBounds_toArray, List.set_cons_zero, List.set_cons_succ]
            refine take_first 5 86 (v := ?vb_6) rfl rfl (by kernel_rfl) (by kernel_rfl) (by kernel_rfl) (fun _ _ _ h => h) (by rfl) ?yb_6 (by assumption) ?rb_6
            case yb_6 => (intro w hSw; (try dsimp only at hSw); go_simp; (try with_reducible rfl))
            simp only [Act.put, List.setIfInBounds_toArray, List.set_cons_zero, List.set_cons_succ]
            refine take_first 6 87 (v := ?vb_7) rfl rfl (by kernel_rfl) (by kernel_rfl) (by kernel_rfl) (fun _ _ _ h => h) (by rfl) ?yb_7 (by assumption) ?rb_7
            case yb_7 => (intro w hSw; (try dsimp only at hSw); go_simp; (try with_reducible rfl))
            simp only [Act.put, List.setIfInBounds_toArray, List.set_cons_zero, List.set_cons_succ]
            refine take_first 7 88 (v := ?vb_8) rfl rfl (by kernel_rfl) (by kernel_rfl) (by kernel_rfl) (fun _ _ _ h => h) (by rfl) ?yb_8 (by assumption) ?rb_8
            case yb_8 => (intro w hSw; (try dsimp only at hSw); go_simp; (try with_reducible rfl))
            simp only [Act.put, List.setIfInBounds_toArray, List.set_cons_zero, List.set_cons_succ]
            refine take_first 8 89 (v := ?vb_9) rfl rfl (by kernel_rfl) (by kernel_rfl) (by kernel_rfl) (fun _ _ _ h => h) (by rfl) ?yb_9 (by assumption) ?rb_9
            case yb_9 => (intro w hSw; (try dsimp only at hSw); go_simp; (try with_reducible rfl))
            simp only [Act.put, List.setIfInBounds_toArray, List.set_cons_zero, List.set_cons_succ]
            refine take_first 9 90 (v := ?vb_10) rfl rfl (by kernel_rfl) (by kernel_rfl) (by kernel_rfl) (fun _ _ _ h => h) (by rfl) ?yb_10 (by assumption) ?rb_10
            case yb_10 => (intro w hSw; (try dsimp only at hSw); go_simp; (try with_reducible rfl))
            simp only [Act.put, List.setIfInBounds_toArray, List.set_cons_zero, List.set_cons_succ]
            refine take_first 10 91 (v := ?vb_11) rfl rfl (by kernel_rfl) (by kernel_rfl) (by kernel_rfl) (fun _ _ _ h => h) (by rfl) ?yb_11 (by assumption) ?rb_11
            case yb_11 => (intro w hSw; (try dsimp only at hSw); go_simp; (try with_reducible rfl))
            simp only [Act.put, List.setIfInBounds_toArray, List.set_cons_zero, List.set_cons_succ]
            refine take_first 11 92 (v := ?vb_12) rfl rfl (by kernel_rfl) (by kernel_rfl) (by kernel_rfl) (fun _ _ _ h => h) (by rfl) ?yb_12 (by assumption) ?rb_12
            case yb_12 => (intro w hSw; (try dsimp only at hSw); go_simp; (try with_reducible rfl))
            simp only [Act.put, List.setIfInBounds_toArray, List.set_cons_zero, List.set_cons_succ]
            refine take_first 12 93 (v := ?vb_13) rfl rfl (by kernel_rfl) (by kernel_rfl) (by kernel_rfl) (fun _ _ _ h => h) (by rfl) ?yb_13 (by assumption) ?rb_13
            case yb_13 => (intro w hSw; (try dsimp only at hSw); go_simp; (try with_reducible rfl))
            simp only [Act.put, List.setIfInBounds_toArray, List.set_cons_zero, List.set_cons_succ]
            refine take_first 13 94 (v := ?vb_14) rfl rfl (by kernel_rfl) (by kernel_rfl) (by kernel_rfl) (fun _ _ _ h => h) (by rfl) ?yb_14 (by assumption) ?rb_14
            case yb_14 => (intro w hSw; (try dsimp only at hSw); go_simp; (try with_reducible rfl))
            simp only [Act.put, List.setIfInBounds_toArray, List.set_cons_zero, List.set_cons_succ]
            refine take_first 14 95 (v := ?vb_15) rfl rfl (by kernel_rfl) (by kernel_rfl) (by kernel_rfl) (fun _ _ _ h => h) (by rfl) ?yb_15 (by assumption) ?rb_15
            case yb_15 => (intro w hSw; (try dsimp only at hSw); go_simp; (try with_reducible rfl))
            simp only [Act.put, List.setIfInBounds_toArray, List.set_cons_zero, List.set_cons_succ]
            refine take_first 15 96 (v := ?vb_16) rfl rfl (by kernel_rfl) (by kernel_rfl) (by kernel_rfl) (fun _ _ _ h => h) (by rfl) ?yb_16 (by assumption) ?rb_16
            case yb_16 => (intro w hSw; (try dsimp only at hSw); go_simp; (try with_reducible rfl))
            simp only [Act.put, List.setIfInBounds_toArray, List.set_cons_zero, List.set_cons_succ]
            refine wpAnyH_ready (rs := [16]) (by kernel_rfl) (by simp) ?_
            refine AllReadyH.cons (o := _) rfl (fun Kb_17 hKb_17 => ?cb_17) ?mb_17
            case mb_17 => exact AllReadyH.nil
            go_simp
            refine (implPlcPlan_any _ ((j : Int) + 1) _ z.items (HIz.out _ HBd.out) tx o).mono ?_; rintro e w8 ⟨u8, v8, rfl, ho8, hb8⟩; obtain ⟨Al8, cl8, Aw8, cw8, rfl, rfl⟩ := planForm ho8; have HB8 := Lib.hid (HBd.out.trans (hb8.mono HBd.out.size)); have k1 := HKk.out _ HB8.out; clear hb8 ho8
            go_wp2_with fail
            refine hKb_17.out _ _ ?kb_17 (fun hHeldb_17 => ?db_17)
            case kb_17 => (first | (dsimp only; (first | with_reducible exact k1 | with_reducible exact k0 | exact k0)) | (first | with_reducible exact k1 | with_reducible exact k0 | exact k0))
            clear hKb_17 Kb_17
            refine take_first 17 98 (v := ?vb_18) rfl rfl (by kernel_rfl) (by kernel_rfl) (by kernel_rfl) (fun _ _ _ h => h) (by rfl) ?yb_18 (by assumption) ?rb_18
            case yb_18 => (intro w hSw; (try dsimp only at hSw); go_simp; (try with_reducible rfl))
            simp only [Act.put, List.setIfInBounds_toArray, List.set_cons_zero, List.set_cons_succ]
            refine take_first 18 99 (v := ?vb_19) rfl rfl (by kernel_rfl) (by kernel_rfl) (by kernel_rfl) (fun _ _ _ h => h) (by rfl) ?yb_19 (by assumption) ?rb_19
            case yb_19 => (intro w hSw; (try dsimp only at hSw); go_simp; (try with_reducible rfl))
            simp only [Act.put, List.setIfInBounds_toArray, List.set_cons_zero, List.set_cons_succ]
            refine take_first 19 11 (v := ?vb_20) rfl rfl (by kernel_rfl) (by kernel_rfl) (by kernel_rfl) (fun _ _ _ h => h) (by rfl) ?yb_20 (by assumption) ?rb_20
            case yb_20 => (intro w hSw; (try dsimp only at hSw); go_simp; (try with_reducible rfl))
            simp only [Act.put, List.setIfInBounds_toArray, List.set_cons_zero, List.set_cons_succ]
            refine wpAnyH_done (by kernel_rfl) ?eb _
            clear k0 k1
            go_wp2
            go_roundw
            case rel => exact ⟨k + 1, by omega, by go_num, by rw [HSt.out, HOk.out], HB8.out⟩
            case measure => simp [intOf]; omega
        · have hkl : k = Lp.length := by omega
          have hmay : (Lp.take k).all (okP xs tx o) = ok := by rw [hkl, List.take_length, ← HLp.out]; exact HIs.out.1
          rw [hmay]
          have hself : (ok != ok) = false := by simp
          have hki : ¬ (k : Int) < (Lp.length : Int) := by omega
          have HXk := Lib.hid ((HX.out.below HBr.out).more HBr.out.size)
          clear hmay
          go_wp2_with fail
          refine (implGloOk_any _ _ ys HXk.out).mono ?_
          rintro e w8 ⟨rfl, hb8⟩
          rw [HIs.out.2.1]
          have HB8 := Lib.hid (show Below w7.heap.size w7 w8 from HBr.out.trans (hb8.mono HBr.out.size))
          have HX8 := Lib.hid ((HXk.out.below hb8).more hb8.size)
          have HZ8 := Lib.hid (show w7.heap.size ≤ w8.heap.size from HB8.out.size)
          have HBn := Lib.hid (show Below w8.heap.size w8 w8 from Below.refl _ _)
          clear hb8 HXk HBr hkl hki hself
          go_wp2
          go_loopw [13] (fun i wr => ∃ k : Nat, k ≤ 3 ∧ i = .int .i64 k ∧ Below w8.heap.size w8 wr) (fun i _ => 3 - (intOf i).toNat)
          case atStart => exact ⟨0, by omega, rfl, HBn.out⟩
          case round =>
            clear HBn
            obtain ⟨k, hk, rfl, hb⟩ := hrel
            have HBr8 := Lib.hid hb
            have HBr := Lib.hid (show Below w7.heap.size w7 wr from HB8.out.trans (hb.mono HZ8.out))
            clear hb
            by_cases hk3 : k < 3
            · have hki : (k : Int) < 3 := by omega
              have hk0 : (0 : Int) ≤ (k : Int) := by omega
              have hyl := HIs.out.2.2.1
              obtain ⟨z, Az, cz, hz, rz, hBz, hiz⟩ := HLc.out k hk3
              obtain ⟨bx, ox, dx, y, py, g1, hy, hBy, ry, riy⟩ := stos_at HX8.out (k := k) (by omega)
              have hyi := HIs.out.2.2.2 k z y hz hy
              rw [HLp.out] at hyi
              injection g1 with g1a g1b g1c
              subst g1a
              obtain ⟨Ay, cy, hfy, -, -⟩ := riy.form
              subst hfy
              have HYi := Lib.hid hyi
              have hkyi : (k : Int) < (ys.length : Int) := by omega
              have hZc : wr.cell? ⟨bl, ol + k, none⟩ = some (.slice Az z.items.length cz) := (HBr.out.cell (p := ⟨bl, ol + k, none⟩) hBz).trans rz
              have HIz := Lib.hid (fun (X : World) (hX : Below w7.heap.size w7 X) => show Items X X.heap.size (.slice Az z.items.length cz) z.items from (hiz.below hX).more hX.size)
              have HIy := Lib.hid (fun (X : World) (hX : Below w8.heap.size w8 X) => show Items X X.heap.size (.slice Ay y.items.length cy) y.items from items_row.1 ((riy.below hX).more hX.size))
              have HKy := Lib.hid (fun (X : World) (hX : Below w8.heap.size w8 X) => show X.cell? ⟨bx, ox + k, none⟩ = some (.slice Ay y.items.length cy) from (hX.cell (p := ⟨bx, ox + k, none⟩) hBy).trans ry)
              have HKz := Lib.hid (fun (X : World) (hX : Below w7.heap.size w7 X) => show X.cell? ⟨bl, ol + k, none⟩ = some (.slice Az z.items.length cz) ∧ X.cell? ⟨w1.heap.size, 0, none⟩ = some (.int .i64 o.kind) ∧ X.cell? ⟨w1.heap.size, 1, none⟩ = some (.int .i64 o.who) ∧ X.cell? ⟨w1.heap.size, 2, none⟩ = some (.int .i64 o.inn) ∧ X.cell? ⟨w1.heap.size, 3, none⟩ = some (.int .i64 o.code) ∧ X.cell? ⟨w1.heap.size, 4, none⟩ = some (.int .i64 o.sec) ∧ X.cell? ⟨w1.heap.size, 5, none⟩ = some (.int .i64 o.fam) ∧ X.cell? ⟨w1.heap.size, 6, none⟩ = some (.int .i64 o.gen) from ⟨(hX.cell (p := ⟨bl, ol + k, none⟩) hBz).trans rz, HC.out _ hX⟩)
              have HXb := Lib.hid (Held.new wr #[.slice Az z.items.length cz] 35)
              have HBx := Lib.hid (belowOne wr (.cells #[.slice Az z.items.length cz] 35))
              have HBx7 := Lib.hid (HBr.out.trans (HBx.out.mono HBr.out.size))
              have HBx8 := Lib.hid (HBr8.out.trans (HBx.out.mono HBr8.out.size))
              have hzb : wr.heap.size < (wr.alloc (.cells #[.slice Az z.items.length cz] 35)).heap.size := by simp
              clear hz rz hiz hy ry riy hyi g1b g1c hyl
              go_upto_region 22 with fail
              clear hZc
              go_cut [124] from 118 to 123 (fun u wc => u = .bool (ok && memB Lp ((k : Int) + 1)) ∧ Below (wr.alloc (.cells #[.slice Az z.items.length cz] 35)).heap.size (wr.alloc (.cells #[.slice Az z.items.length cz] 35)) wc)
              case first =>
                have hwk : IntKind.i64.wrap ((k : Int) + 1) = (k : Int) + 1 := IntWalk.i64_in _ (by omega)
                cases ok with
                | false =>
                  go_wp2
                  go_meet
                  case rel => exact ⟨rfl, Below.refl _ _⟩
                | true =>
                  go_wp2_with fail
                  refine (jaIn_any _ _ _ Lp ((k : Int) + 1) ((HPl.out.below HBx7.out).more HBx7.out.size)).mono ?_
                  rintro e wz ⟨rfl, rfl⟩
                  go_wp2
                  go_meet
                  case rel => exact ⟨by rw [Bool.true_and], Below.refl _ _⟩
              case rest =>
              obtain ⟨rfl, hbc⟩ := hcut
              obtain ⟨bb, hbb⟩ : ∃ bb, (ok && memB Lp ((k : Int) + 1)) = bb := ⟨_, rfl⟩
              rw [hbb]
              rw [hbb] at HYi
              clear hbb
              have HXc := Lib.hid (HXb.out.below hbc hzb)
              have HD7 := Lib.hid (HBx7.out.trans (hbc.mono HBx7.out.size))
              have HD8 := Lib.hid (HBx8.out.trans (hbc.mono HBx8.out.size))
              have HDz := Lib.hid (show wr.heap.size < wc.heap.size from HXc.out.1)
              clear hbc HXb HBx HBx7 HBx8 hzb
              generalize wc = wD at *
              go_upto_if 124 with fail
              go_cut [] from 125 to 139 (fun wc => ∃ (A : Option Addr) (c : Nat), Held wc wr.heap.size [.slice A y.items.length c] ∧ Items wc wc.heap.size (.slice A y.items.length c) y.items ∧ Below w7.heap.size w7 wc ∧ Below w8.heap.size w8 wc)
              case first =>
                have hwk : IntKind.i64.wrap ((k : Int) + 1) = (k : Int) + 1 := IntWalk.i64_in _ (by omega)
                cases bb with
                | false =>
                  have hyz : y.items = z.items := by rw [HYi.out]; rfl
                  go_wp2
                  go_meet
                  case rel => exact ⟨Az, cz, by rw [hyz]; exact HXc.out, by rw [hyz]; exact HIz.out _ HD7.out, HD7.out, HD8.out⟩
                | true =>
                    have HYd := Lib.hid (show y.items = stoDo z.items (plcP z.items ((k : Int) + 1) tx o).writes by rw [HYi.out]; rfl)
                    have k0 := HKz.out _ HD7.out
                    have HBd := Lib.hid (show Below w7.heap.size w7 wD.drew from HD7.out.drew)
                    have HBe := Lib.hid (show Below wD.heap.size wD wD.drew from (Below.refl _ _).drew)
                    have hf2 : ∀ (b : Bool) (A1 A2 : Option Addr) (n1 c1 n2 c2 : Nat) (w : World), (Instr.field 31 (.agg #[.bool b, .slice A1 n1 c1, .slice A2 n2 c2]) 2).run Tryz.prog w = .ok (.slice A2 n2 c2) w := fun _ _ _ _ _ _ _ _ => by kernel_rfl
                    go_wp2
                    refine region_l (S := (fun w' => w'.cell? ⟨bl, ol + k, none⟩ = some (.slice Az z.items.length cz) ∧ w'.cell? ⟨w1.heap.size, 0, none⟩ = some (.int .i64 o.kind) ∧ w'.cell? ⟨w1.heap.size, 1, none⟩ = some (.int .i64 o.who) ∧ w'.cell? ⟨w1.heap.size, 2, none⟩ = some (.int .i64 o.inn) ∧ w'.cell? ⟨w1.heap.size, 3, none⟩ = some (.int .i64 o.code) ∧ w'.cell? ⟨w1.heap.size, 4, none⟩ = some (.int .i64 o.sec) ∧ w'.cell? ⟨w1.heap.size, 5, none⟩ = some (.int .i64 o.fam) ∧ w'.cell? ⟨w1.heap.size, 6, none⟩ = some (.int .i64 o.gen))) 15 (by kernel_rfl) ?hSg (fun hHeldg => ?stg)
                    case hSg => (first | (dsimp only; (first | with_reducible exact k2 | with_reducible exact k1 | with_reducible exact k0 | exact k0)) | (first | with_reducible exact k2 | with_reducible exact k1 | with_reducible exact k0 | exact k0))
                    refine take_l 0 125 (v := ?vg_1) rfl rfl (by kernel_rfl) (by kernel_rfl) (by kernel_rfl) (by kernel_rfl) (fun _ _ _ h => h) (by rfl) ?yg_1 (by assumption) ?rg_1
                    case yg_1 => (intro w hSw; (try dsimp only at hSw); go_simp; (try with_reducible rfl))
                    simp only [Act.put, List.setIfInBounds_toArray, List.set_cons_zero, List.set_cons_succ]
                    refine take_l 1 126 (v := ?vg_2) rfl rfl (by kernel_rfl) (by kernel_rfl) (by kernel_rfl) (by kernel_rfl) (fun _ _ _ h => h) (by rfl) ?yg_2 (by assumption) ?rg_2
                    case yg_2 => (intro w hSw; (try dsimp only at hSw); go_simp; (try with_reducible rfl))
                    simp only [Act.put, List.setIfInBounds_toArray, List.set_cons_zero, List.set_cons_succ]
                    refine take_l 2 127 (v := ?vg_3) rfl rfl (by kernel_rfl) (by kernel_rfl) (by kernel_rfl) (by kernel_rfl) (fun _ _ _ h => h) (by rfl) ?yg_3 (by assumption) ?rg_3
                    case yg_3 => (intro w hSw; (try dsimp only at hSw); go_simp; (try with_reducible rfl))
                    simp only [Act.put, List.setIfInBounds_toArray, List.set_cons_zero, List.set_cons_succ]
                    refine take_l 3 128 (v := ?vg_4) rfl rfl (by kernel_rfl) (by kernel_rfl) (by kernel_rfl) (by kernel_rfl) (fun _ _ _ h => h) (by rfl) ?yg_4 (by assumption) ?rg_4
                    case yg_4 => (intro w hSw; (try dsimp only at hSw); go_simp; (try with_reducible rfl))
                    simp only [Act.put, List.setIfInBounds_toArray, List.set_cons_zero, List.set_cons_succ]
                    refine take_l 4 129 (v := ?vg_5) rfl rfl (by kernel_rfl) (by kernel_rfl) (by kernel_rfl) (by kernel_rfl) (fun _ _ _ h => h) (by rfl) ?yg_5 (by assumption) ?rg_5
                    case yg_5 => (intro w hSw; (try dsimp only at hSw); go_simp; (try with_reducible rfl))
                    simp only [Act.put, List.setIfInBounds_toArray, List.set_cons_zero, List.set_cons_succ]
                    refine take_l 5 130 (v := ?vg_6) rfl rfl (by kernel_rfl) (by kernel_rfl) (by kernel_rfl) (by kernel_rfl) (fun _ _ _ h => h) (by rfl) ?yg_6 (by assumption) ?rg_6
                    case yg_6 => (intro w hSw; (try dsimp only at hSw); go_simp; (try with_reducible rfl))
                    simp only [Act.put, List.setIfInBounds_toArray, List.set_cons_zero, List.set_cons_succ]
                    refine take_l 6 131 (v := ?vg_7) rfl rfl (by kernel_rfl) (by kernel_rfl) (by kernel_rfl) (by kernel_rfl) (fun _ _ _ h => h) (by rfl) ?yg_7 (by assumption) ?rg_7
                    case yg_7 => (intro w hSw; (try dsimp only at hSw); go_simp; (try with_reducible rfl))
                    simp only [Act.put, List.setIfInBounds_toArray, List.set_cons_zero, List.set_cons_succ]
                    refine take_l 7 132 (v := ?vg_8) rfl rfl (by kernel_rfl) (by kernel_rfl) (by kernel_rfl) (by kernel_rfl) (fun _ _ _ h => h) (by rfl) ?yg_8 (by assumption) ?rg_8
                    case yg_8 => (intro w hSw; (try dsimp only at hSw); go_simp; (try with_reducible rfl))
                    simp only [Act.put, List.setIfInBounds_toArray, List.set_cons_zero, List.set_cons_succ]
                    refine take_l 8 133 (v := ?vg_9) rfl rfl (by kernel_rfl) (by kernel_rfl) (by kernel_rfl) (by kernel_rfl) (fun _ _ _ h => h) (by rfl) ?yg_9 (by assumption) ?rg_9
                    case yg_9 => (intro w hSw; (try dsimp only at hSw); go_simp; (try with_reducible rfl))
                    simp only [Act.put, List.setIfInBounds_toArray, List.set_cons_zero, List.set_cons_succ]
                    refine take_l 9 134 (v := ?vg_10) rfl rfl (by kernel_rfl) (by kernel_rfl) (by kernel_rfl) (by kernel_rfl) (fun _ _ _ h => h) (by rfl) ?yg_10 (by assumption) ?rg_10
                    case yg_10 => (intro w hSw; (try dsimp only at hSw); go_simp; (try with_reducible rfl))
                    simp only [Act.put, List.setIfInBounds_toArray, List.set_cons_zero, List.set_cons_succ]
                    refine take_l 10 135 (v := ?vg_11) rfl rfl (by kernel_rfl) (by kernel_rfl) (by kernel_rfl) (by kernel_rfl) (fun _ _ _ h => h) (by rfl) ?yg_11 (by assumption) ?rg_11
                    case yg_11 => (intro w hSw; (try dsimp only at hSw); go_simp; (try with_reducible rfl))
                    simp only [Act.put, List.setIfInBounds_toArray, List.set_cons_zero, List.set_cons_succ]
                    refine take_l 11 136 (v := ?vg_12) rfl rfl (by kernel_rfl) (by kernel_rfl) (by kernel_rfl) (by kernel_rfl) (fun _ _ _ h => h) (by rfl) ?yg_12 (by assumption) ?rg_12
                    case yg_12 => (intro w hSw; (try dsimp only at hSw); go_simp; (try with_reducible rfl))
                    simp only [Act.put, List.setIfInBounds_toArray, List.set_cons_zero, List.set_cons_succ]
                    refine one_l 12 rfl (by kernel_rfl) (fun Kg_13 hKg_13 => ?cg_13)
                    go_simp
                    refine (implPlcPlan_any _ ((k : Int) + 1) _ z.items (HIz.out _ HBd.out) tx o).mono ?_; rintro e w9 ⟨u9, v9, rfl, ho9, hb9⟩; obtain ⟨Al9, cl9, Aw9, cw9, rfl, rfl⟩ := planForm ho9; have HW9 := Lib.hid (wrts_row.1 (planWr ho9).row); have HB9 := Lib.hid (HBd.out.trans (hb9.mono HBd.out.size)); have HE9 := Lib.hid (HBe.out.trans (hb9.mono HBe.out.size)); have k1 := HKz.out _ HB9.out; clear hb9 ho9
                    go_wp2_with fail
                    refine hKg_13.out _ _ ?kg_13 (fun hHoldg_13 => ?dg_13)
                    case kg_13 => (intro _; (first | (dsimp only; (first | with_reducible exact k2 | with_reducible exact k1 | with_reducible exact k0 | exact k0)) | (first | with_reducible exact k2 | with_reducible exact k1 | with_reducible exact k0 | exact k0)))
                    clear hKg_13 Kg_13
                    have hHeldg_13 := hHoldg_13 (by decide)
                    clear hHoldg_13
                    refine take_l 13 138 (v := ?vg_14) rfl rfl (by kernel_rfl) (by kernel_rfl) (by kernel_rfl) (by kernel_rfl) (fun _ _ _ h => h) (by rfl) ?yg_14 (by assumption) ?rg_14
                    case yg_14 => (intro w hSw; (try dsimp only at hSw); go_simp; (try with_reducible rfl))
                    simp only [Act.put, List.setIfInBounds_toArray, List.set_cons_zero, List.set_cons_succ]
                    refine one_l 14 rfl (by kernel_rfl) (fun Kg_15 hKg_15 => ?cg_15)
                    go_simp
                    refine (implStoDo_any _ _ _ z.items _ (HIz.out _ HB9.out) HW9.out).mono ?_; rintro e wa ⟨ua, rfl, hoa, hba⟩; rw [← HYd.out] at hoa; obtain ⟨Aa, ca, hfa, -, -⟩ := hoa.row.form; subst hfa; have HOa := Lib.hid hoa; have HBa := Lib.hid (HB9.out.trans (hba.mono HB9.out.size)); have HEa := Lib.hid (HE9.out.trans (hba.mono HE9.out.size)); have HZa := Lib.hid HE9.out.size; have k2 := HKz.out _ HBa.out; have r0 := (HXc.out.below HEa.out HXc.out.1).of 0 _ rfl; have rf := (HXc.out.below HEa.out HXc.out.1).2.1 0; clear hba hoa
                    go_wp2_with fail
                    refine hKg_15.out _ _ ?kg_15 (fun hHoldg_15 => ?dg_15)
                    case kg_15 => (intro _; (first | (dsimp only; (first | with_reducible exact k2 | with_reducible exact k1 | with_reducible exact k0 | exact k0)) | (first | with_reducible exact k2 | with_reducible exact k1 | with_reducible exact k0 | exact k0)))
                    clear hKg_15 Kg_15
                    have hHeldg_15 := hHoldg_15 (by decide)
                    clear hHoldg_15
                    refine one_l 15 rfl (by kernel_rfl) (fun Kg_16 hKg_16 => ?cg_16)
                    go_simp
                    skip
                    go_wp2_with fail
                    refine hKg_16.out _ _ ?kg_16 (fun hHoldg_16 => ?dg_16)
                    case kg_16 => exact fun h => absurd rfl h
                    clear hKg_16 Kg_16
                    clear hHoldg_16
                    refine done_l (by kernel_rfl) ?eg _
                    have HXf := Lib.hid ((HXc.out.below HEa.out HXc.out.1).set_ (i := 0) (.slice Aa y.items.length ca))
                    skip
                    clear k0 k1 k2 r0 rf
                    go_wp2
                    go_meet
                    case rel =>
                      refine ⟨Aa, ca, HXf.out, ?_, ?_, ?_⟩
                      · have h1 : itSh.Own 95 (wa.setCell ⟨wr.heap.size, 0, none⟩ (.slice Aa y.items.length ca)) _ (.slice Aa y.items.length ca) y.items := HOa.out.keep fun b hb _ => Below.heap_setCell _ _ _ _ (by have h3 := hb.1; have h4 := HZa.out; have h5 := HDz.out; show b ≠ wr.heap.size; omega)
                        exact items_row.1 h1.row
                      · exact HBa.out.setCell (p := ⟨wr.heap.size, 0, none⟩) HBr.out.size _
                      · exact (HD8.out.trans (HEa.out.mono HD8.out.size)).setCell (p := ⟨wr.heap.size, 0, none⟩) HBr8.out.size _
              case rest =>
                obtain ⟨Ac, cc, hHc, hIc, h7c, h8c⟩ := hcut
                have k0 := And.intro (HKy.out _ h8c.drew) (hHc.of 0 _ rfl)
                have HId := Lib.hid hIc
                have HHd := Lib.hid hHc
                have H8d := Lib.hid h8c
                clear hHc hIc h7c h8c
                go_wp2
                refine wp_region_held_drew (S := (fun w' => w'.cell? ⟨bx, ox + k, none⟩ = some (.slice Ay y.items.length cy) ∧ w'.cell? ⟨wr.heap.size, 0, none⟩ = some (.slice Ac y.items.length cc))) (by kernel_rfl) ?hSj (fun hHeldj => ?stj)
                case hSj => (first | (dsimp only; (first | with_reducible exact k1 | with_reducible exact k0 | exact k0 | exact k1)) | (first | with_reducible exact k1 | with_reducible exact k0 | exact k0 | exact k1))
                refine take_first 0 140 (v := ?vj_1) rfl rfl (by kernel_rfl) (by kernel_rfl) (by kernel_rfl) (fun _ _ _ h => h) (by rfl) ?yj_1 (by assumption) ?rj_1
                case yj_1 => (intro w hSw; (try dsimp only at hSw); go_simp; (try with_reducible rfl))
                simp only [Act.put, List.setIfInBounds_toArray, List.set_cons_zero, List.set_cons_succ]
                refine take_first 1 141 (v := ?vj_2) rfl rfl (by kernel_rfl) (by kernel_rfl) (by kernel_rfl) (fun _ _ _ h => h) (by rfl) ?yj_2 (by assumption) ?rj_2
                case yj_2 => (intro w hSw; (try dsimp only at hSw); go_simp; (try with_reducible rfl))
                simp only [Act.put, List.setIfInBounds_toArray, List.set_cons_zero, List.set_cons_succ]
                refine take_first 2 142 (v := ?vj_3) rfl rfl (by kernel_rfl) (by kernel_rfl) (by kernel_rfl) (fun _ _ _ h => h) (by rfl) ?yj_3 (by assumption) ?rj_3
                case yj_3 => (intro w hSw; (try dsimp only at hSw); go_simp; (try with_reducible rfl))
                simp only [Act.put, List.setIfInBounds_toArray, List.set_cons_zero, List.set_cons_succ]
                refine take_first 3 143 (v := ?vj_4) rfl rfl (by kernel_rfl) (by kernel_rfl) (by kernel_rfl) (fun _ _ _ h => h) (by rfl) ?yj_4 (by assumption) ?rj_4
                case yj_4 => (intro w hSw; (try dsimp only at hSw); go_simp; (try with_reducible rfl))
                simp only [Act.put, List.setIfInBounds_toArray, List.set_cons_zero, List.set_cons_succ]
                refine take_first 4 144 (v := ?vj_5) rfl rfl (by kernel_rfl) (by kernel_rfl) (by kernel_rfl) (fun _ _ _ h => h) (by rfl) ?yj_5 (by assumption) ?rj_5
                case yj_5 => (intro w hSw; (try dsimp only at hSw); go_simp; (try with_reducible rfl))
                simp only [Act.put, List.setIfInBounds_toArray, List.set_cons_zero, List.set_cons_succ]
                refine wpAnyH_ready (rs := [5]) (by kernel_rfl) (by simp) ?_
                refine AllReadyH.cons (o := _) rfl (fun Kj_6 hKj_6 => ?cj_6) ?mj_6
                case mj_6 => exact AllReadyH.nil
                go_simp
                refine (jaSto_same _ _ _ y.items (HIy.out _ H8d.out.drew) (show Items wc.drew wc.heap.size _ _ from HId.out.keep fun _ _ _ => rfl)).mono ?_; rintro e wk ⟨rfl, hbk⟩; have H8k := Lib.hid (H8d.out.drew.trans (hbk.mono H8d.out.size)); have k1 := And.intro (HKy.out _ H8k.out) ((Held.below (show Held wc.drew wr.heap.size [.slice Ac y.items.length cc] from HHd.out) hbk HHd.out.1).of 0 _ rfl); clear hbk
                go_wp2_with fail
                refine hKj_6.out _ _ ?kj_6 (fun hHeldj_6 => ?dj_6)
                case kj_6 => (first | (dsimp only; (first | with_reducible exact k1 | with_reducible exact k0 | exact k0 | exact k1)) | (first | with_reducible exact k1 | with_reducible exact k0 | exact k0 | exact k1))
                clear hKj_6 Kj_6
                refine take_first 6 146 (v := ?vj_7) rfl rfl (by kernel_rfl) (by kernel_rfl) (by kernel_rfl) (fun _ _ _ h => h) (by rfl) ?yj_7 (by assumption) ?rj_7
                case yj_7 => (intro w hSw; (try dsimp only at hSw); go_simp; (try with_reducible rfl))
                simp only [Act.put, List.setIfInBounds_toArray, List.set_cons_zero, List.set_cons_succ]
                refine wpAnyH_done (by kernel_rfl) ?ej _
                clear k0 k1
                go_wp2
                go_roundw
                case rel => exact ⟨k + 1, by omega, by go_num, H8k.out⟩
                case measure => simp [intOf]; omega
            · have hki : ¬ (k : Int) < 3 := by omega
              have HBz := Lib.hid (belowNext HB.out HBr.out)
              go_wp2
              go_ret
              exact ⟨rfl, HBz.out⟩

end Go.Proofs.YteccebjnopladaaGreat
