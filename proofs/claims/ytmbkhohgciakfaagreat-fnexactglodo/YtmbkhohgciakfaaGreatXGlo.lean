/- Texts that follow each other, merged: Glo, GloDoI. -/
import Derived.Test.YtmbkhohgciakfaaGreatXHStoStore
import Derived.Test.YtmbkhohgciakfaaGreatXPlanSh
import Derived.Test.YtmbkhohgciakfaaGreatXPlcOkS
import Derived.Test.YtmbkhohgciakfaaGreatXGloPlan2

/- GloNew and GloOk, of the program and of the model. -/
namespace Go.Proofs.YtmbkhohgciakfaaGreat
open Go.RowKit

/-- Three places that keep nothing. -/
def newG : List Sto := [⟨[]⟩, ⟨[]⟩, ⟨[]⟩]
/-- Three places keep what they may. -/
def gloB : List Sto → Bool
  | [a, b, c] => plcB 1 a.items && (plcB 2 b.items && plcB 3 c.items)
  | _ => false
def GloTo (xs : List Sto) (k : Nat) : Prop := ∀ j x, j < k → xs[j]? = some x → plcB ((j : Int) + 1) x.items = true
theorem GloTo.start (xs : List Sto) : GloTo xs 0 := fun j _ h => absurd h (by omega)
theorem GloTo.step {xs : List Sto} {k : Nat} {x : Sto} (h : GloTo xs k) (hx : xs[k]? = some x) (hp : plcB ((k : Int) + 1) x.items = true) : GloTo xs (k + 1) := by
  intro j y hj hy
  rcases Nat.lt_or_ge j k with hlt | hge
  · exact h j y hlt hy
  · have : j = k := by omega
    subst this
    rw [hx] at hy
    injection hy with hy
    rw [← hy]; exact hp
theorem len3 {α : Type} {l : List α} (h : l.length = 3) : ∃ a b c, l = [a, b, c] := by
  match l, h with
  | [a, b, c], _ => exact ⟨a, b, c, rfl⟩
theorem gloB_len {xs : List Sto} (h : xs.length ≠ 3) : gloB xs = false := by
  match xs, h with
  | [], _ => rfl
  | [_], _ => rfl
  | [_, _], _ => rfl
  | [_, _, _], h => exact absurd rfl h
  | _ :: _ :: _ :: _ :: _, _ => rfl
theorem gloB_bad {xs : List Sto} {k : Nat} {x : Sto} (h : xs.length = 3) (hx : xs[k]? = some x) (hp : plcB ((k : Int) + 1) x.items = false) : gloB xs = false := by
  obtain ⟨a, b, c, rfl⟩ := len3 h
  have hk : k = 0 ∨ k = 1 ∨ k = 2 := by
    have := (List.getElem?_eq_some_iff.1 hx).1
    simp at this; omega
  rcases hk with rfl | rfl | rfl
  · have : a = x := by simpa using hx
    subst this
    have hp' : plcB 1 a.items = false := hp
    simp [gloB, hp']
  · have : b = x := by simpa using hx
    subst this
    have hp' : plcB 2 b.items = false := hp
    simp [gloB, hp']
  · have : c = x := by simpa using hx
    subst this
    have hp' : plcB 3 c.items = false := hp
    simp [gloB, hp']
theorem gloB_yes {xs : List Sto} (h : xs.length = 3) (ht : GloTo xs 3) : gloB xs = true := by
  obtain ⟨a, b, c, rfl⟩ := len3 h
  have h1 : plcB 1 a.items = true := ht 0 a (by omega) rfl
  have h2 : plcB 2 b.items = true := ht 1 b (by omega) rfl
  have h3 : plcB 3 c.items = true := ht 2 c (by omega) rfl
  simp [gloB, h1, h2, h3]

theorem made3 (W : World) : (Instr.makeSlice 59 (.int .i64 3) (.int .i64 3)).run Tryz.prog W = .ok (.slice (some ⟨W.heap.size, 0, none⟩) 3 3) (W.alloc (.cells (madeCells #[.slice none 0 0] 3) 35)) := madeStoStore 3 (by omega) W
set_option maxRecDepth 100000 in
theorem specGloNew_any (w : World) : Calls Tryz.prog 99 #[] w (CopiedSl stoSh 35 newG w) := by
  have HO := Lib.hid (Sh.Own.lit stoSh 35 w #[.slice none 0 0, .slice none 0 0, .slice none 0 0] newG (fun _ => [.slice none 0 0]) (fun _ _ => False) (fun _ => False) (by unfold maxLen; simp [newG]) rfl
    (fun j x hx => ⟨by
      have hj : j = 0 ∨ j = 1 ∨ j = 2 := by
        have := (List.getElem?_eq_some_iff.1 hx).1
        simp [newG] at this; omega
      have : x = ⟨[]⟩ := by rcases hj with rfl | rfl | rfl <;> simpa [newG] using hx.symm
      subst this
      exact sto_own.2 ⟨_, rfl, Sh.Own.nil _ _⟩, fun _ h => h.elim⟩) (fun _ _ _ _ _ h => h.elim))
  go_enter Tryz.func99, Tryz.ntmps99
  go_wp2
  go_ret
  exact ⟨_, rfl, HO.out.mono fun b hb => ⟨by rcases hb with hb | hb; exact hb.elim; omega, by rcases hb with hb | hb; exact hb.elim; simp; omega⟩, belowOne _ _⟩

set_option maxRecDepth 100000 in
set_option maxHeartbeats 1000000 in
theorem implGloOk_any (w : World) (v : Value) (xs : List Sto) (hv : stoSh.Row w w.heap.size v xs) :
    Calls Tryz.prog 35 #[v] w fun e w' => e = .returned (.bool (gloB xs)) ∧ Below w.heap.size w w' := by
  obtain ⟨A, c, rfl, hc2, hc1⟩ := hv.form
  unfold maxLen at hc2
  by_cases h3 : (xs.length : Int) = 3
  · have HL := Lib.hid (show xs.length = 3 by omega)
    go_enter Tryz.func35, Tryz.ntmps35
    go_wp2
    go_loopw [10] (fun i wr => ∃ k : Nat, k ≤ xs.length ∧ i = .int .i64 k ∧ GloTo xs k ∧ Below w.heap.size w wr) (fun i _ => xs.length - (intOf i).toNat)
    case atStart => exact ⟨0, Nat.zero_le _, rfl, GloTo.start xs, Below.refl _ _⟩
    case round =>
      obtain ⟨k, hk, rfl, he, hb⟩ := hrel
      by_cases hlt : k < xs.length
      · obtain ⟨b, off, c', x, u, e1, hx, hB, hcu, hu⟩ := stos_at (hv.below hb) (k := k) hlt
        obtain ⟨A', c'', hu', _, _⟩ := hu.form
        subst hu'
        injection e1 with e1a e1b e1c
        subst e1a
        have hk3 : (k : Int) < 3 := by omega
        have HB := Lib.hid (hb.alloc hb.size (.cells #[.slice A' x.items.length c''] 35))
        have HU := Lib.hid (items_row.1 ((hu.alloc hb.size (.cells #[.slice A' x.items.length c''] 35)).more (B' := (wr.alloc (.cells #[.slice A' x.items.length c''] 35)).heap.size) (by have := hb.size; simp; omega)))
        have HI := Lib.hid hx
        have HE := Lib.hid he
        clear e1b e1c hv hu hx hb he
        rcases hp : plcB ((k : Int) + 1) x.items
        · have HK := Lib.hid (gloB_bad HL.out HI.out hp)
          have HP := Lib.hid ((Int.add_comm 1 (k : Int)) ▸ hp)
          clear hp
          go_wp2_with fail
          refine (implPlcOk_any _ _ _ _ HU.out).mono ?_
          rintro e w1 ⟨rfl, hb1⟩
          rw [HP.out]
          have HB1 := Lib.hid (HB.out.trans (hb1.mono HB.out.size))
          clear hb1
          go_wp2
          go_ret
          exact ⟨ret_bool HK.out.symm, HB1.out⟩
        · have HF := Lib.hid (HE.out.step HI.out hp)
          have HP := Lib.hid ((Int.add_comm 1 (k : Int)) ▸ hp)
          clear hp
          go_wp2_with fail
          refine (implPlcOk_any _ _ _ _ HU.out).mono ?_
          rintro e w1 ⟨rfl, hb1⟩
          rw [HP.out]
          have HB1 := Lib.hid (HB.out.trans (hb1.mono HB.out.size))
          clear hb1
          go_wp2
          go_roundw
          case rel => exact ⟨k + 1, by omega, by go_num, HF.out, HB1.out⟩
          case measure => simp [intOf]; omega
      · have HK := Lib.hid (gloB_yes HL.out ((show k = 3 by omega) ▸ he))
        clear hv
        go_wp2
        go_ret
        exact ⟨ret_bool HK.out.symm, hb⟩
  · have HK := Lib.hid (gloB_len (xs := xs) (by omega))
    clear hv
    go_enter Tryz.func35, Tryz.ntmps35
    go_wp2
    go_ret
    exact ⟨ret_bool HK.out.symm, Below.refl _ _⟩
set_option maxRecDepth 100000 in
set_option maxHeartbeats 1000000 in
theorem specGloOk_any (w : World) (v : Value) (xs : List Sto) (hv : stoSh.Row w w.heap.size v xs) :
    Calls Tryz.prog 33 #[v] w fun e w' => e = .returned (.bool (gloB xs)) ∧ Below w.heap.size w w' := by
  obtain ⟨A, c, rfl, hc2, hc1⟩ := hv.form
  unfold maxLen at hc2
  by_cases h3 : (xs.length : Int) = 3
  · have HL := Lib.hid (show xs.length = 3 by omega)
    go_enter Tryz.func33, Tryz.ntmps33
    go_wp2
    go_loopw [3] (fun i wr => ∃ k : Nat, k ≤ xs.length ∧ i = .int .i64 k ∧ GloTo xs k ∧ Below w.heap.size w wr) (fun i _ => xs.length - (intOf i).toNat)
    case atStart => exact ⟨0, Nat.zero_le _, rfl, GloTo.start xs, Below.refl _ _⟩
    case round =>
      obtain ⟨k, hk, rfl, he, hb⟩ := hrel
      by_cases hlt : k < xs.length
      · obtain ⟨b, off, c', x, u, e1, hx, hB, hcu, hu⟩ := stos_at (hv.below hb) (k := k) hlt
        obtain ⟨A', c'', hu', _, _⟩ := hu.form
        subst hu'
        injection e1 with e1a e1b e1c
        subst e1a
        have hk3 : (k : Int) < 3 := by omega
        have HB := Lib.hid hb
        have HU := Lib.hid (items_row.1 (hu.more (B' := wr.heap.size) hb.size))
        have HI := Lib.hid hx
        have HE := Lib.hid he
        clear e1b e1c hv hu hx hb he
        rcases hp : plcB ((k : Int) + 1) x.items
        · have HK := Lib.hid (gloB_bad HL.out HI.out hp)
          have HP := Lib.hid hp
          clear hp
          go_wp2_with fail
          refine (specPlcOk_any _ _ _ _ HU.out).mono ?_
          rintro e w1 ⟨rfl, hb1⟩
          rw [HP.out]
          have HB1 := Lib.hid (HB.out.trans (hb1.mono HB.out.size))
          clear hb1
          go_wp2
          go_ret
          exact ⟨ret_bool HK.out.symm, HB1.out⟩
        · have HF := Lib.hid (HE.out.step HI.out hp)
          have HP := Lib.hid hp
          clear hp
          go_wp2_with fail
          refine (specPlcOk_any _ _ _ _ HU.out).mono ?_
          rintro e w1 ⟨rfl, hb1⟩
          rw [HP.out]
          have HB1 := Lib.hid (HB.out.trans (hb1.mono HB.out.size))
          clear hb1
          go_wp2
          go_roundw
          case rel => exact ⟨k + 1, by omega, by go_num, HF.out, HB1.out⟩
          case measure => simp [intOf]; omega
      · have HK := Lib.hid (gloB_yes HL.out ((show k = 3 by omega) ▸ he))
        clear hv
        go_wp2
        go_ret
        exact ⟨ret_bool HK.out.symm, hb⟩
  · have HK := Lib.hid (gloB_len (xs := xs) (by omega))
    clear hv
    go_enter Tryz.func33, Tryz.ntmps33
    go_wp2
    go_ret
    exact ⟨ret_bool HK.out.symm, Below.refl _ _⟩

end Go.Proofs.YtmbkhohgciakfaaGreat

/- impl.GloDo. -/
namespace Go.Proofs.YtmbkhohgciakfaaGreat
open Go.RowKit

theorem places_in {o : Op} : ∀ q ∈ placesP o, 1 ≤ q ∧ q ≤ 3 := by
  intro q hq
  unfold placesP at hq
  split at hq
  · unfold upto at hq
    have h := List.mem_of_mem_take (List.mem_filter.1 hq).1
    simp at h
    omega
  · simp at hq
theorem gloB_three {xs : List Sto} (h : gloB xs = true) : xs.length = 3 := by
  by_cases e : xs.length = 3
  · exact e
  · rw [gloB_len e] at h; cases h
theorem sto_short {its : List Item} (h : stoB its = true) : its.length ≤ 1048576 ∧ Short its its.length := by
  obtain ⟨h1, h2, -⟩ := stoB_three h
  refine ⟨by omega, fun j it _ hit => ?_⟩
  obtain ⟨-, a2, -, a4, -⟩ := itemB_parts (h2 it (List.mem_of_getElem? hit))
  exact ⟨by omega, by omega⟩
theorem gloB_short : ∀ {xs : List Sto}, gloB xs = true → ∀ x ∈ xs, x.items.length ≤ 1048576 ∧ Short x.items x.items.length
  | [a, b, c], h => by
    simp only [gloB, plcB, Bool.and_eq_true] at h
    intro x hx
    simp only [List.mem_cons, List.not_mem_nil, or_false] at hx
    rcases hx with rfl | rfl | rfl
    · exact sto_short h.1.2.1
    · exact sto_short h.2.1.2.1
    · exact sto_short h.2.2.2.1
  | [], h => by cases h
  | [_], h => by cases h
  | [_, _], h => by cases h
  | _ :: _ :: _ :: _ :: _, h => by cases h
/-- What all places keep behind an operation, and whether it is so. -/
def gloDo (xs : List Sto) (tx : Int) (o : Op) : List Sto × Bool :=
  if (gloB xs && (opB o && inB tx 0 29)) = true then ((if (placesP o).all (okP xs tx o) then (placesP o).map (pendP xs tx o) else []).foldl putP xs, (placesP o).all (okP xs tx o)) else ([], false)
def GloMade (r : List Sto × Bool) (w : World) (e : Ending) (w' : World) : Prop :=
  ∃ u, e = .returned (.tuple #[u, .bool r.2]) ∧ stoSh.Own 35 w' (fun b => w.heap.size ≤ b ∧ b < w'.heap.size) u r.1 ∧ Below w.heap.size w w'
theorem GloMade.none {w w' : World} (hb : Below w.heap.size w w') : GloMade ([], false) w (.returned (.tuple #[.slice none 0 0, .bool false])) w' := ⟨_, rfl, Sh.Own.nil _ _, hb⟩

set_option maxRecDepth 100000 in
set_option maxHeartbeats 4000000 in
theorem implGloDo_any (w : World) (v : Value) (xs : List Sto) (hv : stoSh.Row w w.heap.size v xs) (tx : Int) (o : Op) :
    Calls Tryz.prog 30 #[v, .int .i64 tx, opV o] w (GloMade (gloDo xs tx o) w) := by
  obtain ⟨A, c, rfl, hc2, hc1⟩ := hv.form
  have HV := Lib.hid fun W (h : Below w.heap.size w W) => (hv.below h).more h.size
  have HB := Lib.hid (belowOne w (.cells #[.int .i64 o.kind, .int .i64 o.who, .int .i64 o.inn, .int .i64 o.code, .int .i64 o.sec, .int .i64 o.fam, .int .i64 o.gen] 37))
  have HX := Lib.hid (Held.new w #[.int .i64 o.kind, .int .i64 o.who, .int .i64 o.inn, .int .i64 o.code, .int .i64 o.sec, .int .i64 o.fam, .int .i64 o.gen] 37)
  clear hv
  unfold opV
  go_enter Tryz.func30, Tryz.ntmps30
  go_wp2_with fail
  refine (implGloOk_any _ _ xs (HV.out _ HB.out)).mono ?_
  rintro e w2 ⟨rfl, hb⟩
  have HB2 := Lib.hid (belowNext HB.out hb)
  have HX2 := Lib.hid (HX.out.below hb HX.out.1)
  clear hb HB HX
  cases hg : gloB xs with
  | false =>
    have HD : Hid (gloDo xs tx o = ([], false)) := Lib.hid (by unfold gloDo; rw [hg]; rfl)
    clear hg
    go_wp2
    go_ret2
    rw [HD.out]
    exact GloMade.none HB2.out
  | true =>
    have HG := Lib.hid hg
    clear hg
    obtain ⟨q0, q1, q2, q3, q4, q5, q6⟩ := HX2.out.seven
    go_wp2_with fail
    clear q0 q1 q2 q3 q4 q5 q6
    refine (implOpOk_any _ o).mono ?_
    rintro e w3 ⟨rfl, hb⟩
    have HB3 := Lib.hid (belowNext HB2.out hb)
    have HX3 := Lib.hid (HX2.out.below hb HX2.out.1)
    clear hb HB2 HX2
    cases ho : opB o with
    | false =>
      have HD : Hid (gloDo xs tx o = ([], false)) := Lib.hid (by unfold gloDo; rw [HG.out, ho]; rfl)
      clear ho
      go_wp2
      go_ret2
      rw [HD.out]
      exact GloMade.none HB3.out
    | true =>
      have HO := Lib.hid ho
      clear ho
      go_wp2_with fail
      refine (txIn_any _ _).mono ?_
      rintro e w3' ⟨rfl, rfl⟩
      cases ht : inB tx 0 29 with
      | false =>
        have HD : Hid (gloDo xs tx o = ([], false)) := Lib.hid (by unfold gloDo; rw [HG.out, HO.out, ht]; rfl)
        clear ht
        go_wp2
        go_ret2
        rw [HD.out]
        exact GloMade.none HB3.out
      | true =>
        have HD : Hid (gloDo xs tx o = ((if (placesP o).all (okP xs tx o) then (placesP o).map (pendP xs tx o) else []).foldl putP xs, (placesP o).all (okP xs tx o))) := Lib.hid (by unfold gloDo; rw [HG.out, HO.out, ht]; rfl)
        clear ht
        have HLx := Lib.hid (gloB_three HG.out)
        go_wp2_with fail
        refine (copyStores_any _ _ xs (HV.out _ HB3.out) (by rw [HLx.out]; omega) (gloB_short HG.out)).mono ?_
        rintro e w5 ⟨us, rfl, hus, hb⟩
        obtain ⟨Au, cu, rfl, -, -⟩ := hus.row.form
        have HB5 := Lib.hid (belowNext HB3.out hb)
        have HX5 := Lib.hid ((HX3.out.below hb HX3.out.1).after (.cells #[.slice Au xs.length cu, .slice none 0 0] 111))
        have HBa := Lib.hid (HB5.out.alloc HB5.out.size (.cells #[.slice Au xs.length cu, .slice none 0 0] 111))
        have HPa := Lib.hid (Held.new w5 #[.slice Au xs.length cu, .slice none 0 0] 111)
        have HUa := Lib.hid (hus.below (belowOne w5 (.cells #[.slice Au xs.length cu, .slice none 0 0] 111)))
        have hz3 := HB3.out.size
        have hz5 := HB5.out.size
        clear hus hb HB3 HX3
        obtain ⟨q0, q1, q2, q3, q4, q5, q6⟩ := HX5.out.seven
        go_wp2_with fail
        clear q0 q1 q2 q3 q4 q5 q6
        refine (plan_any _ w5.heap.size _ xs tx o _ HPa.out HUa.out (fun h => by have := h.2; omega) HLx.out places_in).mono ?_
        rintro e w6 ⟨rfl, uw, S2, hp6, hu6, hw6, hs6, ho6⟩
        obtain ⟨ps, hps⟩ : ∃ ps, (if (placesP o).all (okP xs tx o) then (placesP o).map (pendP xs tx o) else []) = ps := ⟨_, rfl⟩
        rw [hps] at hw6
        have HPs := Lib.hid hps
        have HIn : Hid (∀ x ∈ ps, 1 ≤ x.place ∧ x.place ≤ xs.length) := Lib.hid (by
          intro x hx
          rw [← hps] at hx
          split at hx
          · obtain ⟨q, hq, rfl⟩ := List.mem_map.1 hx
            have := places_in q hq
            rw [HLx.out]
            exact ⟨this.1, this.2⟩
          · simp at hx)
        clear hps
        obtain ⟨B, hB⟩ : ∃ B, (placesP o).all (okP xs tx o) = B := ⟨_, rfl⟩
        rw [hB]
        have HBb := Lib.hid hB
        clear hB
        have H6 := Lib.hid (And.intro hp6 (And.intro hu6 (And.intro hw6 (And.intro hs6 ho6))))
        clear hp6 hu6 hw6 hs6 ho6
        go_wp2_with fail
        refine (write_any _ w5.heap.size _ _ xs ps _ S2 H6.out.1 H6.out.2.1 H6.out.2.2.1 (fun b h1 h2 => by have h7 := H6.out.2.2.2.1 b h2; rw [allocSize] at h7; have := h1.2; omega) (fun h => by have := h.2; omega) HIn.out (by rw [HLx.out]; omega)).mono ?_
        rintro e w7 ⟨rfl, hp7, hu7, ho7⟩
        have c0 := hp7.of 0 _ rfl
        have HU7 := Lib.hid hu7.cap
        have HO7 := Lib.hid ho7
        clear hp7 hu7 ho7
        go_wp2
        go_ret2
        have hz6 := H6.out.2.2.2.2.size
        rw [allocSize] at hz6
        rw [HD.out, HPs.out, HBb.out]
        refine ⟨.slice Au xs.length cu, rfl, HU7.out.mono fun b hb => ⟨?_, hb.2⟩, ?_⟩
        · rcases hb.1 with h | h
          · have := h.1; omega
          · omega
        · exact (HBa.out.trans (H6.out.2.2.2.2.below (by rw [allocSize]; omega) fun i hi => by have hi' : i = w5.heap.size := hi; omega)).trans (HO7.out.below (by omega) fun i hi => by have := hi.1; omega)

end Go.Proofs.YtmbkhohgciakfaaGreat
