/- What is done at once, by the model: l4Do, GloDo. By sglogen2.py. -/
import Derived.Test.YtecdibpiojgppaaGreatXCopyI
import Derived.Test.YtecdibpiojgppaaGreatXPlanLaw
namespace Go.Proofs.YtecdibpiojgppaaGreat
open Go.RowKit

theorem places_three {o : Op} (ho : opB o = true) : placesP o = ([1, 2, 3] : List Int).filter (hereB o.kind) := by unfold placesP upto; rw [if_pos ho]; rfl
theorem gloB_at {xs : List Sto} (h : gloB xs = true) {q : Int} {i : Nat} {y : Sto} (hq : q = (i : Int) + 1) (hi : i < 3) (hy : xs[i]? = some y) : plcB q y.items = true := by
  match xs, h with
  | [a, b, c], h =>
    simp only [gloB, Bool.and_eq_true] at h
    rcases (by omega : i = 0 ∨ i = 1 ∨ i = 2) with rfl | rfl | rfl
    · simp at hy; subst hy hq; exact h.1
    · simp at hy; subst hy hq; exact h.2.1
    · simp at hy; subst hy hq; exact h.2.2
  | [], h => cases h
  | [_], h => cases h
  | [_, _], h => cases h
  | _ :: _ :: _ :: _ :: _, h => cases h
theorem gloB_short40 : ∀ {xs : List Sto}, gloB xs = true → ∀ x ∈ xs, x.items.length ≤ 40
  | [a, b, c], h => by
    simp only [gloB, plcB, Bool.and_eq_true] at h
    intro x hx
    simp only [List.mem_cons, List.not_mem_nil, or_false] at hx
    rcases hx with rfl | rfl | rfl
    · exact (stoB_three h.1.2.1).1
    · exact (stoB_three h.2.1.2.1).1
    · exact (stoB_three h.2.2.2.1).1
  | [], h => by cases h
  | [_], h => by cases h
  | [_, _], h => by cases h
  | _ :: _ :: _ :: _ :: _, h => by cases h
theorem planWr {W : World} {S : Nat → Prop} {a b : Value} {k : Bool} {pl : Plan} (h : planSh.own W S [.bool k, a, b] pl) : wrSh.Own 77 W S b pl.writes := by
  obtain ⟨u, v, S1, S2, e, h1, h2, -, s2, -⟩ := plan_own.1 h
  simp only [List.cons.injEq, and_true] at e
  obtain ⟨-, rfl, rfl⟩ := e
  exact h2.mono s2
/-- What holds while the model does something at all places. -/
structure DoI (w0 w1 : World) (o : Op) (us : Value) (W : World) (ys : List Sto) : Prop where
  op : Held W w0.heap.size [.int .i64 o.kind, .int .i64 o.who, .int .i64 o.inn, .int .i64 o.code, .int .i64 o.sec, .int .i64 o.fam, .int .i64 o.gen]
  own : lstoSh.Own 35 W (fun b => w1.heap.size ≤ b ∧ b < W.heap.size) us ys
  bel : Below w1.heap.size w1 W
section
variable {w0 w1 W W' : World} {o : Op} {us : Value} {ys : List Sto}
theorem DoI.next (h : DoI w0 w1 o us W ys) (hb : Below W.heap.size W W') : DoI w0 w1 o us W' ys :=
  ⟨h.op.below hb h.op.1, (h.own.below hb).mono fun _ hb' => ⟨hb'.1, Nat.lt_of_lt_of_le hb'.2 hb.size⟩, belowNext h.bel hb⟩
theorem DoI.put (h : DoI w0 w1 o us W ys) (hw : w0.heap.size < w1.heap.size) (hb : Below W.heap.size W W') {i g cap : Nat} (hi : i < ys.length) (hv : us = .slice (some ⟨g, 0, none⟩) ys.length cap) (hg : w1.heap.size ≤ g ∧ g < W.heap.size) {u : Value} {its : List Item} (ho : ItemsIn W' (fun b => W.heap.size ≤ b ∧ b < W'.heap.size) u its) :
    DoI w0 w1 o us (W'.setCell ⟨g, i, none⟩ u) (ys.set i ⟨its⟩) := by
  have hn := h.next hb
  have hz := hb.size
  have hsz : (W'.setCell ⟨g, i, none⟩ u).heap.size = W'.heap.size := by simp [World.setCell]
  refine ⟨hn.op.farS (p := ⟨g, i, none⟩) (by show w0.heap.size ≠ g; omega) u, ?_, ?_⟩
  · have h1 := h.own.cap.put hi hv (fun b _ hlt => hb.block b hlt) (lsto_own (x := ⟨its⟩).2 ⟨u, rfl, ho⟩) (fun b h1 h2 => by have := h2.2; omega)
    have e1 : i * lstoSh.wd = i := Nat.mul_one _
    rw [e1] at h1
    exact h1.mono fun b hb' => by
      rw [hsz]
      rcases hb' with hb' | hb'
      · have := hb'.1; omega
      · have := h.bel.size; omega
  · exact hn.bel.setCell (p := ⟨g, i, none⟩) hg.1 u
end

/-- What l4Do answers. -/
def DoneL (r : List Sto × Bool) (w : World) (e : Ending) (w' : World) : Prop :=
  ∃ u, e = .returned (.tuple #[u, .bool r.2]) ∧ stoSh.Row w' w'.heap.size u r.1 ∧ Below w.heap.size w w'

set_option maxRecDepth 100000 in
set_option maxHeartbeats 8000000 in
theorem l4Do_any (w : World) (v : Value) (xs : List Sto) (hv : stoSh.Row w w.heap.size v xs) (tx : Int) (o : Op) (hg : gloB xs = true) (ho : opB o = true) (ht : inB tx 0 29 = true) :
    Calls Tryz.prog 42 #[v, .int .i64 tx, opV o] w (DoneL (gloDo xs tx o) w) := by
  have hDo : gloDo xs tx o = ((if (placesP o).all (okP xs tx o) then (placesP o).map (pendP xs tx o) else []).foldl putP xs, (placesP o).all (okP xs tx o)) := by unfold gloDo; rw [hg, ho, ht]; rfl
  obtain ⟨A, c, rfl, hc2, hc1⟩ := hv.form
  unfold maxLen at hc2
  have HD := Lib.hid hDo
  have HG := Lib.hid hg
  have HO := Lib.hid ho
  have HTx := Lib.hid ht
  have HXl := Lib.hid (gloB_three hg)
  have HV0 := Lib.hid fun W (h : Below w.heap.size w W) => (hv.below h).more h.size
  have HB0 := Lib.hid (belowOne w (.cells #[.int .i64 o.kind, .int .i64 o.who, .int .i64 o.inn, .int .i64 o.code, .int .i64 o.sec, .int .i64 o.fam, .int .i64 o.gen] 25))
  have HX0 := Lib.hid (Held.new w #[.int .i64 o.kind, .int .i64 o.who, .int .i64 o.inn, .int .i64 o.code, .int .i64 o.sec, .int .i64 o.fam, .int .i64 o.gen] 25)
  clear hv hDo hg ho ht
  unfold opV
  go_enter Tryz.func42, Tryz.ntmps42
  obtain ⟨q0, q1, q2, q3, q4, q5, q6⟩ := HX0.out.seven
  go_wp2_with fail
  clear q0 q1 q2 q3 q4 q5 q6
  refine (specOpPlaces_any _ o).mono ?_
  rintro e w1 ⟨up, rfl, hup, hb⟩
  obtain ⟨Ap, cp, rfl, hcp2, hcp1⟩ := hup.form
  unfold maxLen at hcp2
  have HB1 := Lib.hid (belowNext HB0.out hb)
  have HX1 := Lib.hid (HX0.out.below hb HX0.out.1)
  have HPl := Lib.hid fun W (h : Below w1.heap.size w1 W) => (hup.below h).more h.size
  have HV := Lib.hid fun W (h : Below w1.heap.size w1 W) => HV0.out W (belowNext HB1.out h)
  have hw1 : w.heap.size < w1.heap.size := HX1.out.1
  clear hup hb HB0 HX0 HV0
  go_wp2_with fail
  refine (l4Copy_any _ _ xs (HV.out _ (Below.refl _ _)) (by rw [HXl.out]; omega) (fun x hx => ⟨by have h1 := gloB_short40 HG.out x hx; omega, (gloB_short HG.out x hx).2⟩)).mono ?_
  rintro e w2 ⟨us, rfl, hus, hb⟩
  have HI := Lib.hid (show DoI w w1 o us w2 xs from ⟨HX1.out.below hb HX1.out.1, hus, hb⟩)
  obtain ⟨Au, cu, rfl, hcu2, hcu1⟩ := hus.row.form
  unfold maxLen at hcu2
  clear hus hb HX1
  go_wp2
  go_loopw [10] (fun i wr => ∃ (k : Nat) (ys : List Sto), k ≤ (placesP o).length ∧ i = .int .i64 k ∧ (∀ j q, j < k → (placesP o)[j]? = some q → okP xs tx o q = true) ∧ ys = (((placesP o).take k).map (pendP xs tx o)).foldl putP xs ∧ ys.length = xs.length ∧ DoI w w1 o (.slice Au xs.length cu) wr ys) (fun i _ => (placesP o).length - (intOf i).toNat)
  case atStart => exact ⟨0, xs, Nat.zero_le _, rfl, fun j _ h => absurd h (by omega), rfl, rfl, HI.out⟩
  case round =>
    clear HI
    obtain ⟨k, ys, hk, rfl, he, hys, hyl, hI⟩ := hrel
    have HE := Lib.hid he
    have HI := Lib.hid hI
    have HYs := Lib.hid hys
    have HYl := Lib.hid hyl
    clear he hI hys hyl
    by_cases hlt : k < (placesP o).length
    · obtain ⟨q, hq⟩ : ∃ q, (placesP o)[k]? = some q := ⟨_, List.getElem?_eq_getElem hlt⟩
      obtain ⟨hq1, hq3⟩ := places_in q (List.mem_of_getElem? hq)
      have HH : Hid (hereB o.kind q = true) := Lib.hid (by have h := List.mem_of_getElem? hq; rw [places_three HO.out] at h; exact (List.mem_filter.1 h).2)
      obtain ⟨i, hi⟩ : ∃ i : Nat, q = (i : Int) + 1 := ⟨(q - 1).toNat, by omega⟩
      have hix : i < xs.length := by rw [HXl.out]; omega
      obtain ⟨Ap', cp', e0, _, _, hrow⟩ := HPl.out wr HI.out.bel
      injection e0 with e0a _ e0c
      subst e0a e0c
      obtain ⟨bp, op, rfl, hbp, hcell⟩ := hrow (by omega)
      have cq : wr.cell? ⟨bp, op + k, none⟩ = some (.int .i64 q) := by
        have h : wr.cell? ⟨bp, op + k, none⟩ = some (.int .i64 (nth (placesP o) k)) := hcell k hlt
        rw [nth_get hlt] at h
        rw [List.getElem?_eq_getElem hlt] at hq
        rw [Option.some.inj hq] at h
        exact h
      obtain ⟨bx, ox, cx, y, uy, e1, hy, hbx, g0, huy⟩ := stos_at (HV.out wr HI.out.bel) (k := i) hix
      obtain ⟨Ay, cyc, rfl, -, -⟩ := huy.form
      injection e1 with e1a _ e1c
      subst e1a e1c
      have HAt : Hid (atP xs q = y.items) := Lib.hid (by unfold atP; rw [show (q - 1).toNat = i by omega, hy]; rfl)
      have HPq : Hid (plcB q y.items = true) := Lib.hid (gloB_at HG.out hi (by omega) hy)
      have KI := Lib.hid fun V (h : Below wr.heap.size wr V) => ((items_row.1 huy).below h).more h.size
      have KC := Lib.hid fun V (h : Below wr.heap.size wr V) => And.intro ((h.cell (p := ⟨bp, op + k, none⟩) hbp).trans cq) (And.intro ((h.cell (p := ⟨bx, ox + i, none⟩) hbx).trans g0) (HI.out.op.below h HI.out.op.1).seven)
      have HQ := Lib.hid hq
      have HIi := Lib.hid hi
      have hi' : q - 1 = (i : Int) := by omega
      have f0 : (i : Int) ≤ 2 := by omega
      have hw : IntKind.i64.wrap (i : Int) = (i : Int) := IntWalk.i64_in _ (by omega)
      have hwq : IntKind.i64.wrap (q - 1) = (i : Int) := by rw [hi']; exact hw
      have f1 : (0 : Int) ≤ (i : Int) := by omega
      have f2 : (i : Int) < (xs.length : Int) := by omega
      have f3 : (0 : Int) ≤ (k : Int) := by omega
      have f4 : (k : Int) < ((placesP o).length : Int) := by omega
      obtain ⟨pl, hpl⟩ : ∃ pl, planP y.items q tx o = pl := ⟨_, rfl⟩
      have HPc := Lib.hid hpl
      have k0 := KC.out _ (Below.refl _ wr)
      have HIx := Lib.hid hix
      clear hq hi hy huy hpl g0 cq hcell hrow hix
      go_upto_region 6 with fail
      go_cut [11] from 22 to 58 (fun u wc => ∃ qb ul uv, u = .pointer (some ⟨qb, 0, none⟩) ∧ Held wc qb [.bool pl.ok, ul, uv] ∧ wrSh.Row wc wc.heap.size uv pl.writes ∧ wr.heap.size ≤ qb ∧ Below wr.heap.size wr wc)
      case first =>
        refine wp_region_held_drew (S := (fun w' => w'.cell? ⟨bp, op + k, none⟩ = some (.int .i64 q) ∧ w'.cell? ⟨bx, ox + i, none⟩ = some (.slice Ay y.items.length cyc) ∧ w'.cell? ⟨w.heap.size, 0, none⟩ = some (.int .i64 o.kind) ∧ w'.cell? ⟨w.heap.size, 1, none⟩ = some (.int .i64 o.who) ∧ w'.cell? ⟨w.heap.size, 2, none⟩ = some (.int .i64 o.inn) ∧ w'.cell? ⟨w.heap.size, 3, none⟩ = some (.int .i64 o.code) ∧ w'.cell? ⟨w.heap.size, 4, none⟩ = some (.int .i64 o.sec) ∧ w'.cell? ⟨w.heap.size, 5, none⟩ = some (.int .i64 o.fam) ∧ w'.cell? ⟨w.heap.size, 6, none⟩ = some (.int .i64 o.gen))) (by kernel_rfl) ?hSz (fun hHeldz => ?stz)
        case hSz => (first | (dsimp only; (exact k0)) | (exact k0))
        refine take_first 0 22 (v := ?vz_1) rfl rfl (by kernel_rfl) (by kernel_rfl) (by kernel_rfl) (fun _ _ _ h => h) (by rfl) ?yz_1 (by assumption) ?rz_1
        case yz_1 => (intro w hSw; (try dsimp only at hSw); go_simp; (try with_reducible rfl))
        simp only [Act.put, List.setIfInBounds_toArray, List.set_cons_zero, List.set_cons_succ]
        refine take_first 1 23 (v := ?vz_2) rfl rfl (by kernel_rfl) (by kernel_rfl) (by kernel_rfl) (fun _ _ _ h => h) (by rfl) ?yz_2 (by assumption) ?rz_2
        case yz_2 => (intro w hSw; (try dsimp only at hSw); go_simp; (try with_reducible rfl))
        simp only [Act.put, List.setIfInBounds_toArray, List.set_cons_zero, List.set_cons_succ]
        refine take_first 2 24 (v := ?vz_3) rfl rfl (by kernel_rfl) (by kernel_rfl) (by kernel_rfl) (fun _ _ _ h => h) (by rfl) ?yz_3 (by assumption) ?rz_3
        case yz_3 => (intro w hSw; (try dsimp only at hSw); go_simp; (try with_reducible rfl))
        simp only [Act.put, List.setIfInBounds_toArray, List.set_cons_zero, List.set_cons_succ]
        refine take_first 3 25 (v := ?vz_4) rfl rfl (by kernel_rfl) (by kernel_rfl) (by kernel_rfl) (fun _ _ _ h => h) (by rfl) ?yz_4 (by assumption) ?rz_4
        case yz_4 => (intro w hSw; (try dsimp only at hSw); go_simp; (try with_reducible rfl))
        simp only [Act.put, List.setIfInBounds_toArray, List.set_cons_zero, List.set_cons_succ]
        refine take_first 4 26 (v := ?vz_5) rfl rfl (by kernel_rfl) (by kernel_rfl) (by kernel_rfl) (fun _ _ _ h => h) (by rfl) ?yz_5 (by assumption) ?rz_5
        case yz_5 => (intro w hSw; (try dsimp only at hSw); go_simp; (try with_reducible rfl))
        simp only [Act.put, List.setIfInBounds_toArray, List.set_cons_zero, List.set_cons_succ]
        refine take_first 5 27 (v := ?vz_6) rfl rfl (by kernel_rfl) (by kernel_rfl) (by kernel_rfl) (fun _ _ _ h => h) (by rfl) ?yz_6 (by assumption) ?rz_6
        case yz_6 => (intro w hSw; (try dsimp only at hSw); go_simp; (try with_reducible rfl))
        simp only [Act.put, List.setIfInBounds_toArray, List.set_cons_zero, List.set_cons_succ]
        refine take_first 6 28 (v := ?vz_7) rfl rfl (by kernel_rfl) (by kernel_rfl) (by kernel_rfl) (fun _ _ _ h => h) (by rfl) ?yz_7 (by assumption) ?rz_7
        case yz_7 => (intro w hSw; (try dsimp only at hSw); go_simp; (try with_reducible rfl))
        simp only [Act.put, List.setIfInBounds_toArray, List.set_cons_zero, List.set_cons_succ]
        refine take_first 7 29 (v := ?vz_8) rfl rfl (by kernel_rfl) (by kernel_rfl) (by kernel_rfl) (fun _ _ _ h => h) (by rfl) ?yz_8 (by assumption) ?rz_8
        case yz_8 => (intro w hSw; (try dsimp only at hSw); go_simp; (try with_reducible rfl))
        simp only [Act.put, List.setIfInBounds_toArray, List.set_cons_zero, List.set_cons_succ]
        refine take_first 8 30 (v := ?vz_9) rfl rfl (by kernel_rfl) (by kernel_rfl) (by kernel_rfl) (fun _ _ _ h => h) (by rfl) ?yz_9 (by assumption) ?rz_9
        case yz_9 => (intro w hSw; (try dsimp only at hSw); go_simp; (try with_reducible rfl))
        simp only [Act.put, List.setIfInBounds_toArray, List.set_cons_zero, List.set_cons_succ]
        refine take_first 9 31 (v := ?vz_10) rfl rfl (by kernel_rfl) (by kernel_rfl) (by kernel_rfl) (fun _ _ _ h => h) (by rfl) ?yz_10 (by assumption) ?rz_10
        case yz_10 => (intro w hSw; (try dsimp only at hSw); go_simp; (try with_reducible rfl))
        simp only [Act.put, List.setIfInBounds_toArray, List.set_cons_zero, List.set_cons_succ]
        refine take_first 10 32 (v := ?vz_11) rfl rfl (by kernel_rfl) (by kernel_rfl) (by kernel_rfl) (fun _ _ _ h => h) (by rfl) ?yz_11 (by assumption) ?rz_11
        case yz_11 => (intro w hSw; (try dsimp only at hSw); go_simp; (try with_reducible rfl))
        simp only [Act.put, List.setIfInBounds_toArray, List.set_cons_zero, List.set_cons_succ]
        refine take_first 11 33 (v := ?vz_12) rfl rfl (by kernel_rfl) (by kernel_rfl) (by kernel_rfl) (fun _ _ _ h => h) (by rfl) ?yz_12 (by assumption) ?rz_12
        case yz_12 => (intro w hSw; (try dsimp only at hSw); go_simp; (try with_reducible rfl))
        simp only [Act.put, List.setIfInBounds_toArray, List.set_cons_zero, List.set_cons_succ]
        refine take_first 12 34 (v := ?vz_13) rfl rfl (by kernel_rfl) (by kernel_rfl) (by kernel_rfl) (fun _ _ _ h => h) (by rfl) ?yz_13 (by assumption) ?rz_13
        case yz_13 => (intro w hSw; (try dsimp only at hSw); go_simp; (try with_reducible rfl))
        simp only [Act.put, List.setIfInBounds_toArray, List.set_cons_zero, List.set_cons_succ]
        refine take_first 13 35 (v := ?vz_14) rfl rfl (by kernel_rfl) (by kernel_rfl) (by kernel_rfl) (fun _ _ _ h => h) (by rfl) ?yz_14 (by assumption) ?rz_14
        case yz_14 => (intro w hSw; (try dsimp only at hSw); go_simp; (try with_reducible rfl))
        simp only [Act.put, List.setIfInBounds_toArray, List.set_cons_zero, List.set_cons_succ]
        refine wpAnyH_ready (rs := [14, 15]) (by kernel_rfl) (by simp) ?_
        refine AllReadyH.cons (o := _) rfl (fun Ka hKa => ?pKa) (AllReadyH.cons (o := _) rfl (fun Kb hKb => ?pKb) AllReadyH.nil)
        case pKa =>
          go_simp
          have hc := specPlan_any wr.drew q tx o (.slice Ay y.items.length cyc) y.items (KI.out _ (Below.refl _ wr).drew) HPq.out HO.out HTx.out HH.out
          rw [HPc.out] at hc
          refine hc.mono ?_
          clear hc
          rintro e w8 ⟨u8, v8, rfl, ho8, hb8⟩
          obtain ⟨Al, cl, Aw, cw, rfl, rfl⟩ := planForm ho8
          have hw8 := (planWr ho8).row
          have HN8 := Lib.hid (show Below wr.heap.size wr w8 from belowNext ((Below.refl _ wr).drew) hb8)
          have HW8 := Lib.hid hw8
          clear ho8 hw8 hb8
          have HN9 := Lib.hid (show Below wr.heap.size wr (w8.alloc (.cells #[.bool false, .slice none 0 0, .slice none 0 0] 41)) from HN8.out.alloc HN8.out.size _)
          have HNf := Lib.hid (show Below wr.heap.size wr (w8.alloc (.cells #[.bool pl.ok, .slice Al pl.locks.length cl, .slice Aw pl.writes.length cw] 41)) from HN8.out.alloc HN8.out.size _)
          go_wp2_with fail
          refine hKa.out _ _ ?kKa (fun _ => ?dKa)
          case kKa => exact KC.out _ HN8.out
          clear hKa Ka
          refine wpAnyH_ready (rs := [15]) (by kernel_rfl) (by simp) ?_
          refine AllReadyH.cons (o := _) rfl (fun Kc hKc => ?pKc) AllReadyH.nil
          go_simp
          go_wp2_with fail
          refine hKc.out _ _ ?kKc (fun _ => ?dKc)
          case kKc => exact KC.out _ HN9.out
          clear hKc Kc
          refine wpAnyH_ready (rs := [16]) (by kernel_rfl) (by simp) ?_
          refine AllReadyH.cons (o := _) rfl (fun Kd hKd => ?pKd) AllReadyH.nil
          go_simp
          go_wp2_with fail
          refine hKd.out _ _ ?kKd (fun _ => ?dKd)
          case kKd => exact KC.out _ HNf.out
          clear hKd Kd
          refine wpAnyH_done (by kernel_rfl) ?eKd _
          go_wp2
          go_meet
          case rel => exact ⟨w8.heap.size, _, _, rfl, Held.new w8 #[.bool pl.ok, .slice Al pl.locks.length cl, .slice Aw pl.writes.length cw] _, (HW8.out.below (belowOne w8 _)).more (by rw [allocSize]; omega), HN8.out.size, HNf.out⟩
        case pKb =>
          have HNa := Lib.hid (show Below wr.heap.size wr (wr.alloc (.cells #[.bool false, .slice none 0 0, .slice none 0 0] 41)).drew from (belowOne wr (.cells #[.bool false, .slice none 0 0, .slice none 0 0] 41)).drew)
          have HXa := Lib.hid (show Held (wr.alloc (.cells #[.bool false, .slice none 0 0, .slice none 0 0] 41)).drew wr.heap.size [.bool false, .slice none 0 0, .slice none 0 0] from Held.new wr #[.bool false, .slice none 0 0, .slice none 0 0] 41)
          go_simp
          go_wp2_with fail
          refine hKb.out _ _ ?kKb (fun _ => ?dKb)
          case kKb => exact KC.out _ HNa.out
          clear hKb Kb
          refine wpAnyH_ready (rs := [14]) (by kernel_rfl) (by simp) ?_
          refine AllReadyH.cons (o := _) rfl (fun Ke hKe => ?pKe) AllReadyH.nil
          go_simp
          have hc := specPlan_any (wr.alloc (.cells #[.bool false, .slice none 0 0, .slice none 0 0] 41)).drew q tx o (.slice Ay y.items.length cyc) y.items (KI.out _ HNa.out) HPq.out HO.out HTx.out HH.out
          rw [HPc.out] at hc
          refine hc.mono ?_
          clear hc
          rintro e w8 ⟨u8, v8, rfl, ho8, hb8⟩
          obtain ⟨Al, cl, Aw, cw, rfl, rfl⟩ := planForm ho8
          have HW8 := Lib.hid (planWr ho8)
          have HN8 := Lib.hid (show Below wr.heap.size wr w8 from belowNext (HNa.out) hb8)
          have HX8 := Lib.hid (HXa.out.below hb8 HXa.out.1)
          clear ho8 hb8
          go_wp2_with fail
          refine hKe.out _ _ ?kKe (fun _ => ?dKe)
          case kKe => exact KC.out _ HN8.out
          clear hKe Ke
          have HNf := Lib.hid (show Below wr.heap.size wr (put3 w8 wr.heap.size (.bool pl.ok) (.slice Al pl.locks.length cl) (.slice Aw pl.writes.length cw)) from belowPut3 HN8.out wr.heap.size (Nat.le_refl _) _ _ _)
          have r0 := HX8.out.of 0 _ rfl
          have r1 := HX8.out.of 1 _ rfl
          have r2 := HX8.out.of 2 _ rfl
          have rf := HX8.out.2.1
          refine wpAnyH_ready (rs := [16]) (by kernel_rfl) (by simp) ?_
          refine AllReadyH.cons (o := _) rfl (fun Kf hKf => ?pKf) AllReadyH.nil
          go_simp
          go_wp2_with fail
          refine hKf.out _ _ ?kKf (fun _ => ?dKf)
          case kKf => exact KC.out _ HNf.out
          clear hKf Kf r0 r1 r2 rf
          refine wpAnyH_done (by kernel_rfl) ?eKf _
          go_wp2
          go_meet
          case rel => exact ⟨wr.heap.size, _, _, rfl, HX8.out.put3 _ _ _, (HW8.out.keep (w' := put3 w8 wr.heap.size (.bool pl.ok) (.slice Al pl.locks.length cl) (.slice Aw pl.writes.length cw)) fun b hs _ => put3_far _ _ _ _ _ (by have h7 : (wr.alloc (.cells #[.bool false, .slice none 0 0, .slice none 0 0] 41)).heap.size ≤ b := hs.1; rw [allocSize] at h7; show b ≠ wr.heap.size; omega)).row, Nat.le_refl _, HNf.out⟩
      case rest =>
        obtain ⟨qb, ul, uv, rfl, hHq, hwq', hqw, hbq⟩ := hcut
        have HI2 := Lib.hid (HI.out.next hbq)
        have b0 := hHq.of 0 _ rfl
        have HHq := Lib.hid hHq
        have HWq := Lib.hid hwq'
        have HBq := Lib.hid hbq
        obtain ⟨Aw, cw, rfl, -, -⟩ := hwq'.form
        have HPeq : Hid (plcP y.items q tx o = pl) := Lib.hid (by unfold plcP; rw [HPq.out, HO.out, HTx.out]; exact HPc.out)
        have HOk : Hid (okP xs tx o q = pl.ok) := Lib.hid (by unfold okP; rw [HAt.out, HPeq.out])
        have HPd : Hid (pendP xs tx o q = ⟨q, pl.writes⟩) := Lib.hid (by unfold pendP; rw [HAt.out, HPeq.out])
        clear hHq hwq' hbq k0 HI
        cases hok : pl.ok with
        | false =>
          rw [hok] at b0
          have HAll : Hid ((placesP o).all (okP xs tx o) = false) := Lib.hid (List.all_eq_false.2 ⟨q, List.mem_of_getElem? HQ.out, by rw [HOk.out, hok]; simp⟩)
          clear hok
          go_wp2
          go_ret2
          rw [HD.out, HAll.out]
          exact ⟨_, rfl, HV.out _ HI2.out.bel, belowNext HB1.out HI2.out.bel⟩
        | true =>
          rw [hok] at b0
          have HF : Hid (∀ j z, j < k + 1 → (placesP o)[j]? = some z → okP xs tx o z = true) := Lib.hid fun j z hj hz => by
            rcases Nat.lt_or_ge j k with h1 | h1
            · exact HE.out j z h1 hz
            · have : j = k := by omega
              subst this
              rw [HQ.out] at hz
              injection hz with hz
              rw [← hz, HOk.out, hok]
          clear hok
          have hiy : i < ys.length := by rw [HYl.out]; exact HIx.out
          obtain ⟨g, cap, z, cz, Sj, e2, hz, hSg, hgw, hoz, hSj, hcz, hfr, -, -⟩ := HI2.out.own.at_ (j := i) hiy
          obtain ⟨uz, rfl, huz⟩ := lsto_own.1 hoz
          obtain ⟨Az, cz, rfl, -, -⟩ := huz.form
          rw [HYl.out] at e2
          injection e2 with e2a _ e2c
          subst e2a e2c
          have g0 : wc.cell? ⟨g, i, none⟩ = some (.slice Az z.items.length cz) := by
            have h := hcz 0 _ rfl
            rwa [show i * lstoSh.wd + 0 = i from Nat.mul_one _] at h
          have JI := Lib.hid fun V (h : Below wc.heap.size wc V) => (huz.items.below h).more h.size
          have JW := Lib.hid fun V (h : Below wc.heap.size wc V) => wrts_row.1 ((HWq.out.below h).more h.size)
          have hbp' : bp < wc.heap.size := by have := HBq.out.size; omega
          have JC := Lib.hid fun V (h : Below wc.heap.size wc V) => And.intro ((h.cell (p := ⟨bp, op + k, none⟩) hbp').trans (KC.out _ HBq.out).1) (And.intro ((h.cell (p := ⟨g, i, none⟩) hgw).trans g0) ((HHq.out.below h HHq.out.1).of 2 _ rfl))
          have HSg := Lib.hid hSg
          have HZ := Lib.hid hz
          have HIy := Lib.hid hiy
          have f5 : (i : Int) < (ys.length : Int) := by omega
          have k0 := JC.out _ (Below.refl _ wc).drew
          clear huz hcz hoz hz hSj hfr hiy hSg g0
          go_wp2
          clear b0
          refine region_l (S := (fun w' => w'.cell? ⟨bp, op + k, none⟩ = some (.int .i64 q) ∧ w'.cell? ⟨g, i, none⟩ = some (.slice Az z.items.length cz) ∧ w'.cell? ⟨qb, 2, none⟩ = some (.slice Aw pl.writes.length cw))) 18 (by kernel_rfl) ?hSy (fun hHeldy => ?sty)
          case hSy => (first | (dsimp only; (first | with_reducible exact k1 | exact k0)) | (first | with_reducible exact k1 | exact k0))
          refine take_l 0 41 (v := ?vy_1) rfl rfl (by kernel_rfl) (by kernel_rfl) (by kernel_rfl) (by kernel_rfl) (fun _ _ _ h => h) (by rfl) ?yy_1 (by assumption) ?ry_1
          case yy_1 => (intro w hSw; (try dsimp only at hSw); go_simp; (try with_reducible rfl))
          simp only [Act.put, List.setIfInBounds_toArray, List.set_cons_zero, List.set_cons_succ]
          refine take_l 1 42 (v := ?vy_2) rfl rfl (by kernel_rfl) (by kernel_rfl) (by kernel_rfl) (by kernel_rfl) (fun _ _ _ h => h) (by rfl) ?yy_2 (by assumption) ?ry_2
          case yy_2 => (intro w hSw; (try dsimp only at hSw); go_simp; (try with_reducible rfl))
          simp only [Act.put, List.setIfInBounds_toArray, List.set_cons_zero, List.set_cons_succ]
          refine take_l 2 43 (v := ?vy_3) rfl rfl (by kernel_rfl) (by kernel_rfl) (by kernel_rfl) (by kernel_rfl) (fun _ _ _ h => h) (by rfl) ?yy_3 (by assumption) ?ry_3
          case yy_3 => (intro w hSw; (try dsimp only at hSw); go_simp; (try with_reducible rfl))
          simp only [Act.put, List.setIfInBounds_toArray, List.set_cons_zero, List.set_cons_succ]
          refine take_l 3 44 (v := ?vy_4) rfl rfl (by kernel_rfl) (by kernel_rfl) (by kernel_rfl) (by kernel_rfl) (fun _ _ _ h => h) (by rfl) ?yy_4 (by assumption) ?ry_4
          case yy_4 => (intro w hSw; (try dsimp only at hSw); go_simp; (try with_reducible rfl))
          simp only [Act.put, List.setIfInBounds_toArray, List.set_cons_zero, List.set_cons_succ]
          refine take_l 4 45 (v := ?vy_5) rfl rfl (by kernel_rfl) (by kernel_rfl) (by kernel_rfl) (by kernel_rfl) (fun _ _ _ h => h) (by rfl) ?yy_5 (by assumption) ?ry_5
          case yy_5 => (intro w hSw; (try dsimp only at hSw); go_simp; (try with_reducible rfl))
          simp only [Act.put, List.setIfInBounds_toArray, List.set_cons_zero, List.set_cons_succ]
          refine take_l 5 46 (v := ?vy_6) rfl rfl (by kernel_rfl) (by kernel_rfl) (by kernel_rfl) (by kernel_rfl) (fun _ _ _ h => h) (by rfl) ?yy_6 (by assumption) ?ry_6
          case yy_6 => (intro w hSw; (try dsimp only at hSw); go_simp; (try with_reducible rfl))
          simp only [Act.put, List.setIfInBounds_toArray, List.set_cons_zero, List.set_cons_succ]
          refine take_l 6 47 (v := ?vy_7) rfl rfl (by kernel_rfl) (by kernel_rfl) (by kernel_rfl) (by kernel_rfl) (fun _ _ _ h => h) (by rfl) ?yy_7 (by assumption) ?ry_7
          case yy_7 => (intro w hSw; (try dsimp only at hSw); go_simp; (try with_reducible rfl))
          simp only [Act.put, List.setIfInBounds_toArray, List.set_cons_zero, List.set_cons_succ]
          refine take_l 7 48 (v := ?vy_8) rfl rfl (by kernel_rfl) (by kernel_rfl) (by kernel_rfl) (by kernel_rfl) (fun _ _ _ h => h) (by rfl) ?yy_8 (by assumption) ?ry_8
          case yy_8 => (intro w hSw; (try dsimp only at hSw); go_simp; (try with_reducible rfl))
          simp only [Act.put, List.setIfInBounds_toArray, List.set_cons_zero, List.set_cons_succ]
          refine take_l 8 49 (v := ?vy_9) rfl rfl (by kernel_rfl) (by kernel_rfl) (by kernel_rfl) (by kernel_rfl) (fun _ _ _ h => h) (by rfl) ?yy_9 (by assumption) ?ry_9
          case yy_9 => (intro w hSw; (try dsimp only at hSw); go_simp; (try with_reducible rfl))
          simp only [Act.put, List.setIfInBounds_toArray, List.set_cons_zero, List.set_cons_succ]
          refine take_l 9 50 (v := ?vy_10) rfl rfl (by kernel_rfl) (by kernel_rfl) (by kernel_rfl) (by kernel_rfl) (fun _ _ _ h => h) (by rfl) ?yy_10 (by assumption) ?ry_10
          case yy_10 => (intro w hSw; (try dsimp only at hSw); go_simp; (try with_reducible rfl))
          simp only [Act.put, List.setIfInBounds_toArray, List.set_cons_zero, List.set_cons_succ]
          refine take_l 10 51 (v := ?vy_11) rfl rfl (by kernel_rfl) (by kernel_rfl) (by kernel_rfl) (by kernel_rfl) (fun _ _ _ h => h) (by rfl) ?yy_11 (by assumption) ?ry_11
          case yy_11 => (intro w hSw; (try dsimp only at hSw); go_simp; (try with_reducible rfl))
          simp only [Act.put, List.setIfInBounds_toArray, List.set_cons_zero, List.set_cons_succ]
          refine take_l 11 52 (v := ?vy_12) rfl rfl (by kernel_rfl) (by kernel_rfl) (by kernel_rfl) (by kernel_rfl) (fun _ _ _ h => h) (by rfl) ?yy_12 (by assumption) ?ry_12
          case yy_12 => (intro w hSw; (try dsimp only at hSw); go_simp; (try with_reducible rfl))
          simp only [Act.put, List.setIfInBounds_toArray, List.set_cons_zero, List.set_cons_succ]
          refine take_l 12 53 (v := ?vy_13) rfl rfl (by kernel_rfl) (by kernel_rfl) (by kernel_rfl) (by kernel_rfl) (fun _ _ _ h => h) (by rfl) ?yy_13 (by assumption) ?ry_13
          case yy_13 => (intro w hSw; (try dsimp only at hSw); go_simp; (try with_reducible rfl))
          simp only [Act.put, List.setIfInBounds_toArray, List.set_cons_zero, List.set_cons_succ]
          refine take_l 13 54 (v := ?vy_14) rfl rfl (by kernel_rfl) (by kernel_rfl) (by kernel_rfl) (by kernel_rfl) (fun _ _ _ h => h) (by rfl) ?yy_14 (by assumption) ?ry_14
          case yy_14 => (intro w hSw; (try dsimp only at hSw); go_simp; (try with_reducible rfl))
          simp only [Act.put, List.setIfInBounds_toArray, List.set_cons_zero, List.set_cons_succ]
          refine take_l 14 55 (v := ?vy_15) rfl rfl (by kernel_rfl) (by kernel_rfl) (by kernel_rfl) (by kernel_rfl) (fun _ _ _ h => h) (by rfl) ?yy_15 (by assumption) ?ry_15
          case yy_15 => (intro w hSw; (try dsimp only at hSw); go_simp; (try with_reducible rfl))
          simp only [Act.put, List.setIfInBounds_toArray, List.set_cons_zero, List.set_cons_succ]
          refine take_l 15 56 (v := ?vy_16) rfl rfl (by kernel_rfl) (by kernel_rfl) (by kernel_rfl) (by kernel_rfl) (fun _ _ _ h => h) (by rfl) ?yy_16 (by assumption) ?ry_16
          case yy_16 => (intro w hSw; (try dsimp only at hSw); go_simp; (try with_reducible rfl))
          simp only [Act.put, List.setIfInBounds_toArray, List.set_cons_zero, List.set_cons_succ]
          refine one_l 16 rfl (by kernel_rfl) (fun Ky_17 hKy_17 => ?cy_17)
          go_simp
          refine (specStoDo_any _ _ _ z.items pl.writes (JI.out _ (Below.refl _ wc).drew) (JW.out _ (Below.refl _ wc).drew)).mono ?_; rintro e w9 ⟨u9, rfl, ho9, hb9⟩; obtain ⟨A9, n9, c9, hf9⟩ := ownSlice ho9; subst hf9; have HN9 := Lib.hid (show Below wc.heap.size wc w9 from (Below.refl _ wc).drew.trans hb9); have k1 := JC.out _ HN9.out; obtain ⟨g7, c7, y7, cs7, Sj7, e7, -, -, -, -, -, -, qf, -, -⟩ := (HI2.out.next HN9.out).own.at_ (j := i) HIy.out; rw [HYl.out] at e7; injection e7 with e7 _ e7c; injection e7 with e7; injection e7 with e7 _ _; subst e7; subst e7c; have HO9 := Lib.hid ((ho9.toIn (S' := fun b => wc.heap.size ≤ b) (fun _ h => h) (fun _ h => h)).keep2 (w' := w9) (S' := fun b => wc.heap.size ≤ b ∧ b < w9.heap.size) (fun _ _ _ => rfl) (fun b hlt h => ⟨h, hlt⟩)); clear hb9 ho9
          go_wp2_with fail
          refine hKy_17.out _ _ ?ky_17 (fun hHoldy_17 => ?dy_17)
          case ky_17 => (intro _; (first | (dsimp only; (first | with_reducible exact k1 | exact k0)) | (first | with_reducible exact k1 | exact k0)))
          clear hKy_17 Ky_17
          have hHeldy_17 := hHoldy_17 (by decide)
          clear hHoldy_17
          refine take_l 17 58 (v := ?vy_18) rfl rfl (by kernel_rfl) (by kernel_rfl) (by kernel_rfl) (by kernel_rfl) (fun _ _ _ h => h) (by rfl) ?yy_18 (by assumption) ?ry_18
          case yy_18 => (intro w hSw; (try dsimp only at hSw); go_simp; (try with_reducible rfl))
          simp only [Act.put, List.setIfInBounds_toArray, List.set_cons_zero, List.set_cons_succ]
          refine one_l 18 rfl (by kernel_rfl) (fun Ky_19 hKy_19 => ?cy_19)
          go_simp
          skip
          go_wp2_with fail
          refine hKy_19.out _ _ ?ky_19 (fun hHoldy_19 => ?dy_19)
          case ky_19 => exact fun h => absurd rfl h
          clear hKy_19 Ky_19
          clear hHoldy_19
          refine done_l (by kernel_rfl) ?ey _
          have HT := Lib.hid (HI2.out.put hw1 HN9.out HIy.out (by rw [HYl.out]) HSg.out HO9.out)
          clear k0 k1 qf
          go_wp2
          go_roundw
          case rel => exact ⟨k + 1, _, by omega, by go_num, HF.out, by rw [take_snoc HQ.out, List.map_append, List.foldl_append, ← HYs.out, List.map_cons, List.map_nil, HPd.out]; exact (putP_eq (x := ⟨q, pl.writes⟩) HIi.out HZ.out).symm, by rw [List.length_set]; exact HYl.out, HT.out⟩
          case measure => simp [intOf]; omega
    · have HOk : Hid ((placesP o).all (okP xs tx o) = true) := Lib.hid (List.all_eq_true.2 fun q hq => by
        obtain ⟨j, hj, rfl⟩ := List.getElem_of_mem hq
        exact HE.out j _ (by omega) (List.getElem?_eq_getElem hj))
      have HYf : Hid (ys = ((placesP o).map (pendP xs tx o)).foldl putP xs) := Lib.hid (by have h := HYs.out; rwa [List.take_of_length_le (by omega)] at h)
      go_wp2
      go_ret2
      rw [HD.out, HOk.out, if_pos rfl, ← HYf.out]
      exact ⟨_, rfl, lsto_row.1 HI.out.own.row, belowNext HB1.out HI.out.bel⟩

end Go.Proofs.YtecdibpiojgppaaGreat
