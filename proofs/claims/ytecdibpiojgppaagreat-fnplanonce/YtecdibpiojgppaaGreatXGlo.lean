/- Texts that follow each other, merged: Glo, GloDoI, GloPlain. -/
import Derived.Test.YtecdibpiojgppaaGreatXHStoStore
import Derived.Test.YtecdibpiojgppaaGreatXPlanSh
import Derived.Test.YtecdibpiojgppaaGreatXGloPlan2
import Derived.Test.YtecdibpiojgppaaGreatXStoDoS

/- GloNew and GloOk, of the program and of the model. -/
namespace Go.Proofs.YtecdibpiojgppaaGreat
open Go.RowKit

/-- Three places that keep nothing. -/
def newG : List Sto := [⟨[]⟩, ⟨[]⟩, ⟨[]⟩]
/-- Three places keep what they may. -/
def gloB : List Sto → Bool
  | [a, b, c] => plcB 1 a.items && (plcB 2 b.items && plcB 3 c.items)
  | _ => false
def GloTo (xs : List Sto) (k : Nat) : Prop := ∀ j x, j < k → xs[j]? = some x → plcB ((j : Int) + 1) x.items = true
theorem GloTo.start (xs : List Sto) : GloTo xs 0 := fun j _ h => absurd h (by omega)
theorem GloTo.step {xs : List Sto} {k : Nat} {x : Sto} (h : GloTo xs k) (hx : xs[k]? = some x) (hp : plcB ((k : Int) + 1) x.items = true) : GloTo xs (k + 1) := by
  intro j y hj hy
  rcases Nat.lt_or_ge j k with hlt | hge
  · exact h j y hlt hy
  · have : j = k := by omega
    subst this
    rw [hx] at hy
    injection hy with hy
    rw [← hy]; exact hp
theorem len3 {α : Type} {l : List α} (h : l.length = 3) : ∃ a b c, l = [a, b, c] := by
  match l, h with
  | [a, b, c], _ => exact ⟨a, b, c, rfl⟩
theorem gloB_len {xs : List Sto} (h : xs.length ≠ 3) : gloB xs = false := by
  match xs, h with
  | [], _ => rfl
  | [_], _ => rfl
  | [_, _], _ => rfl
  | [_, _, _], h => exact absurd rfl h
  | _ :: _ :: _ :: _ :: _, _ => rfl
theorem gloB_bad {xs : List Sto} {k : Nat} {x : Sto} (h : xs.length = 3) (hx : xs[k]? = some x) (hp : plcB ((k : Int) + 1) x.items = false) : gloB xs = false := by
  obtain ⟨a, b, c, rfl⟩ := len3 h
  have hk : k = 0 ∨ k = 1 ∨ k = 2 := by
    have := (List.getElem?_eq_some_iff.1 hx).1
    simp at this; omega
  rcases hk with rfl | rfl | rfl
  · have : a = x := by simpa using hx
    subst this
    have hp' : plcB 1 a.items = false := hp
    simp [gloB, hp']
  · have : b = x := by simpa using hx
    subst this
    have hp' : plcB 2 b.items = false := hp
    simp [gloB, hp']
  · have : c = x := by simpa using hx
    subst this
    have hp' : plcB 3 c.items = false := hp
    simp [gloB, hp']
theorem gloB_yes {xs : List Sto} (h : xs.length = 3) (ht : GloTo xs 3) : gloB xs = true := by
  obtain ⟨a, b, c, rfl⟩ := len3 h
  have h1 : plcB 1 a.items = true := ht 0 a (by omega) rfl
  have h2 : plcB 2 b.items = true := ht 1 b (by omega) rfl
  have h3 : plcB 3 c.items = true := ht 2 c (by omega) rfl
  simp [gloB, h1, h2, h3]

set_option maxRecDepth 100000 in
theorem specGloNew_any (w : World) : Calls Tryz.prog 71 #[] w (CopiedSl stoSh 35 newG w) := by
  have HO := Lib.hid (Sh.Own.lit stoSh 35 w #[.slice none 0 0, .slice none 0 0, .slice none 0 0] newG (fun _ => [.slice none 0 0]) (fun _ _ => False) (fun _ => False) (by unfold maxLen; simp [newG]) rfl
    (fun j x hx => ⟨by
      have hj : j = 0 ∨ j = 1 ∨ j = 2 := by
        have := (List.getElem?_eq_some_iff.1 hx).1
        simp [newG] at this; omega
      have : x = ⟨[]⟩ := by rcases hj with rfl | rfl | rfl <;> simpa [newG] using hx.symm
      subst this
      exact sto_own.2 ⟨_, rfl, Sh.Own.nil _ _⟩, fun _ h => h.elim⟩) (fun _ _ _ _ _ h => h.elim))
  go_enter Tryz.func71, Tryz.ntmps71
  go_wp2
  go_ret
  exact ⟨_, rfl, HO.out.mono fun b hb => ⟨by rcases hb with hb | hb; exact hb.elim; omega, by rcases hb with hb | hb; exact hb.elim; simp; omega⟩, belowOne _ _⟩

set_option maxRecDepth 100000 in
set_option maxHeartbeats 1000000 in
theorem implGloOk_any (w : World) (v : Value) (xs : List Sto) (hv : stoSh.Row w w.heap.size v xs) :
    Calls Tryz.prog 34 #[v] w fun e w' => e = .returned (.bool (gloB xs)) ∧ Below w.heap.size w w' := by
  obtain ⟨A, c, rfl, hc2, hc1⟩ := hv.form
  unfold maxLen at hc2
  by_cases h3 : (xs.length : Int) = 3
  · have HL := Lib.hid (show xs.length = 3 by omega)
    go_enter Tryz.func34, Tryz.ntmps34
    go_wp2
    go_loopw [10] (fun i wr => ∃ k : Nat, k ≤ xs.length ∧ i = .int .i64 k ∧ GloTo xs k ∧ Below w.heap.size w wr) (fun i _ => xs.length - (intOf i).toNat)
    case atStart => exact ⟨0, Nat.zero_le _, rfl, GloTo.start xs, Below.refl _ _⟩
    case round =>
      obtain ⟨k, hk, rfl, he, hb⟩ := hrel
      by_cases hlt : k < xs.length
      · obtain ⟨b, off, c', x, u, e1, hx, hB, hcu, hu⟩ := stos_at (hv.below hb) (k := k) hlt
        obtain ⟨A', c'', hu', _, _⟩ := hu.form
        subst hu'
        injection e1 with e1a e1b e1c
        subst e1a
        have hk3 : (k : Int) < 3 := by omega
        have HB := Lib.hid (hb.alloc hb.size (.cells #[.slice A' x.items.length c''] 35))
        have HU := Lib.hid (items_row.1 ((hu.alloc hb.size (.cells #[.slice A' x.items.length c''] 35)).more (B' := (wr.alloc (.cells #[.slice A' x.items.length c''] 35)).heap.size) (by have := hb.size; simp; omega)))
        have HI := Lib.hid hx
        have HE := Lib.hid he
        clear e1b e1c hv hu hx hb he
        rcases hp : plcB ((k : Int) + 1) x.items
        · have HK := Lib.hid (gloB_bad HL.out HI.out hp)
          have HP := Lib.hid ((Int.add_comm 1 (k : Int)) ▸ hp)
          clear hp
          go_wp2_with fail
          refine (implPlcOk_any _ _ _ _ HU.out).mono ?_
          rintro e w1 ⟨rfl, hb1⟩
          rw [HP.out]
          have HB1 := Lib.hid (HB.out.trans (hb1.mono HB.out.size))
          clear hb1
          go_wp2
          go_ret
          exact ⟨ret_bool HK.out.symm, HB1.out⟩
        · have HF := Lib.hid (HE.out.step HI.out hp)
          have HP := Lib.hid ((Int.add_comm 1 (k : Int)) ▸ hp)
          clear hp
          go_wp2_with fail
          refine (implPlcOk_any _ _ _ _ HU.out).mono ?_
          rintro e w1 ⟨rfl, hb1⟩
          rw [HP.out]
          have HB1 := Lib.hid (HB.out.trans (hb1.mono HB.out.size))
          clear hb1
          go_wp2
          go_roundw
          case rel => exact ⟨k + 1, by omega, by go_num, HF.out, HB1.out⟩
          case measure => simp [intOf]; omega
      · have HK := Lib.hid (gloB_yes HL.out ((show k = 3 by omega) ▸ he))
        clear hv
        go_wp2
        go_ret
        exact ⟨ret_bool HK.out.symm, hb⟩
  · have HK := Lib.hid (gloB_len (xs := xs) (by omega))
    clear hv
    go_enter Tryz.func34, Tryz.ntmps34
    go_wp2
    go_ret
    exact ⟨ret_bool HK.out.symm, Below.refl _ _⟩
set_option maxRecDepth 100000 in
set_option maxHeartbeats 1000000 in
theorem specGloOk_any (w : World) (v : Value) (xs : List Sto) (hv : stoSh.Row w w.heap.size v xs) :
    Calls Tryz.prog 40 #[v] w fun e w' => e = .returned (.bool (gloB xs)) ∧ Below w.heap.size w w' := by
  obtain ⟨A, c, rfl, hc2, hc1⟩ := hv.form
  unfold maxLen at hc2
  by_cases h3 : (xs.length : Int) = 3
  · have HL := Lib.hid (show xs.length = 3 by omega)
    go_enter Tryz.func40, Tryz.ntmps40
    go_wp2
    go_loopw [3] (fun i wr => ∃ k : Nat, k ≤ xs.length ∧ i = .int .i64 k ∧ GloTo xs k ∧ Below w.heap.size w wr) (fun i _ => xs.length - (intOf i).toNat)
    case atStart => exact ⟨0, Nat.zero_le _, rfl, GloTo.start xs, Below.refl _ _⟩
    case round =>
      obtain ⟨k, hk, rfl, he, hb⟩ := hrel
      by_cases hlt : k < xs.length
      · obtain ⟨b, off, c', x, u, e1, hx, hB, hcu, hu⟩ := stos_at (hv.below hb) (k := k) hlt
        obtain ⟨A', c'', hu', _, _⟩ := hu.form
        subst hu'
        injection e1 with e1a e1b e1c
        subst e1a
        have hk3 : (k : Int) < 3 := by omega
        have HB := Lib.hid hb
        have HU := Lib.hid (items_row.1 (hu.more (B' := wr.heap.size) hb.size))
        have HI := Lib.hid hx
        have HE := Lib.hid he
        clear e1b e1c hv hu hx hb he
        rcases hp : plcB ((k : Int) + 1) x.items
        · have HK := Lib.hid (gloB_bad HL.out HI.out hp)
          have HP := Lib.hid hp
          clear hp
          go_wp2_with fail
          refine (specPlcOk_any _ _ _ _ HU.out).mono ?_
          rintro e w1 ⟨rfl, hb1⟩
          rw [HP.out]
          have HB1 := Lib.hid (HB.out.trans (hb1.mono HB.out.size))
          clear hb1
          go_wp2
          go_ret
          exact ⟨ret_bool HK.out.symm, HB1.out⟩
        · have HF := Lib.hid (HE.out.step HI.out hp)
          have HP := Lib.hid hp
          clear hp
          go_wp2_with fail
          refine (specPlcOk_any _ _ _ _ HU.out).mono ?_
          rintro e w1 ⟨rfl, hb1⟩
          rw [HP.out]
          have HB1 := Lib.hid (HB.out.trans (hb1.mono HB.out.size))
          clear hb1
          go_wp2
          go_roundw
          case rel => exact ⟨k + 1, by omega, by go_num, HF.out, HB1.out⟩
          case measure => simp [intOf]; omega
      · have HK := Lib.hid (gloB_yes HL.out ((show k = 3 by omega) ▸ he))
        clear hv
        go_wp2
        go_ret
        exact ⟨ret_bool HK.out.symm, hb⟩
  · have HK := Lib.hid (gloB_len (xs := xs) (by omega))
    clear hv
    go_enter Tryz.func40, Tryz.ntmps40
    go_wp2
    go_ret
    exact ⟨ret_bool HK.out.symm, Below.refl _ _⟩

end Go.Proofs.YtecdibpiojgppaaGreat

/- impl.GloDo. -/
namespace Go.Proofs.YtecdibpiojgppaaGreat
open Go.RowKit

theorem places_in {o : Op} : ∀ q ∈ placesP o, 1 ≤ q ∧ q ≤ 3 := by
  intro q hq
  unfold placesP at hq
  split at hq
  · unfold upto at hq
    have h := List.mem_of_mem_take (List.mem_filter.1 hq).1
    simp at h
    omega
  · simp at hq
theorem gloB_three {xs : List Sto} (h : gloB xs = true) : xs.length = 3 := by
  by_cases e : xs.length = 3
  · exact e
  · rw [gloB_len e] at h; cases h
theorem sto_short {its : List Item} (h : stoB its = true) : its.length ≤ 1048576 ∧ Short its its.length := by
  obtain ⟨h1, h2, -⟩ := stoB_three h
  refine ⟨by omega, fun j it _ hit => ?_⟩
  obtain ⟨-, a2, -, a4, -⟩ := itemB_parts (h2 it (List.mem_of_getElem? hit))
  exact ⟨by omega, by omega⟩
theorem gloB_short : ∀ {xs : List Sto}, gloB xs = true → ∀ x ∈ xs, x.items.length ≤ 1048576 ∧ Short x.items x.items.length
  | [a, b, c], h => by
    simp only [gloB, plcB, Bool.and_eq_true] at h
    intro x hx
    simp only [List.mem_cons, List.not_mem_nil, or_false] at hx
    rcases hx with rfl | rfl | rfl
    · exact sto_short h.1.2.1
    · exact sto_short h.2.1.2.1
    · exact sto_short h.2.2.2.1
  | [], h => by cases h
  | [_], h => by cases h
  | [_, _], h => by cases h
  | _ :: _ :: _ :: _ :: _, h => by cases h
/-- What all places keep behind an operation, and whether it is so. -/
def gloDo (xs : List Sto) (tx : Int) (o : Op) : List Sto × Bool :=
  if (gloB xs && (opB o && inB tx 0 29)) = true then ((if (placesP o).all (okP xs tx o) then (placesP o).map (pendP xs tx o) else []).foldl putP xs, (placesP o).all (okP xs tx o)) else ([], false)
def GloMade (r : List Sto × Bool) (w : World) (e : Ending) (w' : World) : Prop :=
  ∃ u, e = .returned (.tuple #[u, .bool r.2]) ∧ stoSh.Own 35 w' (fun b => w.heap.size ≤ b ∧ b < w'.heap.size) u r.1 ∧ Below w.heap.size w w'
theorem GloMade.none {w w' : World} (hb : Below w.heap.size w w') : GloMade ([], false) w (.returned (.tuple #[.slice none 0 0, .bool false])) w' := ⟨_, rfl, Sh.Own.nil _ _, hb⟩

set_option maxRecDepth 100000 in
set_option maxHeartbeats 4000000 in
theorem implGloDo_any (w : World) (v : Value) (xs : List Sto) (hv : stoSh.Row w w.heap.size v xs) (tx : Int) (o : Op) :
    Calls Tryz.prog 8 #[v, .int .i64 tx, opV o] w (GloMade (gloDo xs tx o) w) := by
  obtain ⟨A, c, rfl, hc2, hc1⟩ := hv.form
  have HV := Lib.hid fun W (h : Below w.heap.size w W) => (hv.below h).more h.size
  have HB := Lib.hid (belowOne w (.cells #[.int .i64 o.kind, .int .i64 o.who, .int .i64 o.inn, .int .i64 o.code, .int .i64 o.sec, .int .i64 o.fam, .int .i64 o.gen] 25))
  have HX := Lib.hid (Held.new w #[.int .i64 o.kind, .int .i64 o.who, .int .i64 o.inn, .int .i64 o.code, .int .i64 o.sec, .int .i64 o.fam, .int .i64 o.gen] 25)
  clear hv
  unfold opV
  go_enter Tryz.func8, Tryz.ntmps8
  go_wp2_with fail
  refine (implGloOk_any _ _ xs (HV.out _ HB.out)).mono ?_
  rintro e w2 ⟨rfl, hb⟩
  have HB2 := Lib.hid (belowNext HB.out hb)
  have HX2 := Lib.hid (HX.out.below hb HX.out.1)
  clear hb HB HX
  cases hg : gloB xs with
  | false =>
    have HD : Hid (gloDo xs tx o = ([], false)) := Lib.hid (by unfold gloDo; rw [hg]; rfl)
    clear hg
    go_wp2
    go_ret2
    rw [HD.out]
    exact GloMade.none HB2.out
  | true =>
    have HG := Lib.hid hg
    clear hg
    obtain ⟨q0, q1, q2, q3, q4, q5, q6⟩ := HX2.out.seven
    go_wp2_with fail
    clear q0 q1 q2 q3 q4 q5 q6
    refine (implOpOk_any _ o).mono ?_
    rintro e w3 ⟨rfl, hb⟩
    have HB3 := Lib.hid (belowNext HB2.out hb)
    have HX3 := Lib.hid (HX2.out.below hb HX2.out.1)
    clear hb HB2 HX2
    cases ho : opB o with
    | false =>
      have HD : Hid (gloDo xs tx o = ([], false)) := Lib.hid (by unfold gloDo; rw [HG.out, ho]; rfl)
      clear ho
      go_wp2
      go_ret2
      rw [HD.out]
      exact GloMade.none HB3.out
    | true =>
      have HO := Lib.hid ho
      clear ho
      go_wp2_with fail
      refine (txIn_any _ _).mono ?_
      rintro e w3' ⟨rfl, rfl⟩
      cases ht : inB tx 0 29 with
      | false =>
        have HD : Hid (gloDo xs tx o = ([], false)) := Lib.hid (by unfold gloDo; rw [HG.out, HO.out, ht]; rfl)
        clear ht
        go_wp2
        go_ret2
        rw [HD.out]
        exact GloMade.none HB3.out
      | true =>
        have HD : Hid (gloDo xs tx o = ((if (placesP o).all (okP xs tx o) then (placesP o).map (pendP xs tx o) else []).foldl putP xs, (placesP o).all (okP xs tx o))) := Lib.hid (by unfold gloDo; rw [HG.out, HO.out, ht]; rfl)
        clear ht
        have HLx := Lib.hid (gloB_three HG.out)
        go_wp2_with fail
        refine (copyStores_any _ _ xs (HV.out _ HB3.out) (by rw [HLx.out]; omega) (gloB_short HG.out)).mono ?_
        rintro e w5 ⟨us, rfl, hus, hb⟩
        obtain ⟨Au, cu, rfl, -, -⟩ := hus.row.form
        have HB5 := Lib.hid (belowNext HB3.out hb)
        have HX5 := Lib.hid ((HX3.out.below hb HX3.out.1).after (.cells #[.slice Au xs.length cu, .slice none 0 0] 72))
        have HBa := Lib.hid (HB5.out.alloc HB5.out.size (.cells #[.slice Au xs.length cu, .slice none 0 0] 72))
        have HPa := Lib.hid (Held.new w5 #[.slice Au xs.length cu, .slice none 0 0] 72)
        have HUa := Lib.hid (hus.below (belowOne w5 (.cells #[.slice Au xs.length cu, .slice none 0 0] 72)))
        have hz3 := HB3.out.size
        have hz5 := HB5.out.size
        clear hus hb HB3 HX3
        obtain ⟨q0, q1, q2, q3, q4, q5, q6⟩ := HX5.out.seven
        go_wp2_with fail
        clear q0 q1 q2 q3 q4 q5 q6
        refine (plan_any _ w5.heap.size _ xs tx o _ HPa.out HUa.out (fun h => by have := h.2; omega) HLx.out places_in).mono ?_
        rintro e w6 ⟨rfl, uw, S2, hp6, hu6, hw6, hs6, ho6⟩
        obtain ⟨ps, hps⟩ : ∃ ps, (if (placesP o).all (okP xs tx o) then (placesP o).map (pendP xs tx o) else []) = ps := ⟨_, rfl⟩
        rw [hps] at hw6
        have HPs := Lib.hid hps
        have HIn : Hid (∀ x ∈ ps, 1 ≤ x.place ∧ x.place ≤ xs.length) := Lib.hid (by
          intro x hx
          rw [← hps] at hx
          split at hx
          · obtain ⟨q, hq, rfl⟩ := List.mem_map.1 hx
            have := places_in q hq
            rw [HLx.out]
            exact ⟨this.1, this.2⟩
          · simp at hx)
        clear hps
        obtain ⟨B, hB⟩ : ∃ B, (placesP o).all (okP xs tx o) = B := ⟨_, rfl⟩
        rw [hB]
        have HBb := Lib.hid hB
        clear hB
        have H6 := Lib.hid (And.intro hp6 (And.intro hu6 (And.intro hw6 (And.intro hs6 ho6))))
        clear hp6 hu6 hw6 hs6 ho6
        go_wp2_with fail
        refine (write_any _ w5.heap.size _ _ xs ps _ S2 H6.out.1 H6.out.2.1 H6.out.2.2.1 (fun b h1 h2 => by have h7 := H6.out.2.2.2.1 b h2; rw [allocSize] at h7; have := h1.2; omega) (fun h => by have := h.2; omega) HIn.out (by rw [HLx.out]; omega)).mono ?_
        rintro e w7 ⟨rfl, hp7, hu7, ho7⟩
        have c0 := hp7.of 0 _ rfl
        have HU7 := Lib.hid hu7.cap
        have HO7 := Lib.hid ho7
        clear hp7 hu7 ho7
        go_wp2
        go_ret2
        have hz6 := H6.out.2.2.2.2.size
        rw [allocSize] at hz6
        rw [HD.out, HPs.out, HBb.out]
        refine ⟨.slice Au xs.length cu, rfl, HU7.out.mono fun b hb => ⟨?_, hb.2⟩, ?_⟩
        · rcases hb.1 with h | h
          · have := h.1; omega
          · omega
        · exact (HBa.out.trans (H6.out.2.2.2.2.below (by rw [allocSize]; omega) fun i hi => by have hi' : i = w5.heap.size := hi; omega)).trans (HO7.out.below (by omega) fun i hi => by have := hi.1; omega)

end Go.Proofs.YtecdibpiojgppaaGreat

/- What is done at once, as facts on maps of names. Plain facts. -/
namespace Go.Proofs.YtecdibpiojgppaaGreat
open Go.RowKit

/- Names. -/
theorem keyN_digit (c : UInt8) {n : Int} (h : n ≤ 9) : keyN c n = ⟨#[c]⟩ ++ digS n := by unfold keyN numS; rw [if_pos (by omega)]
theorem bytes_tail {c : UInt8} {s t : ByteArray} (h : (⟨#[c]⟩ : ByteArray) ++ s = ⟨#[c]⟩ ++ t) : s = t := by
  have h1 := congrArg ByteArray.data h
  simp only [ByteArray.data_append] at h1
  exact ByteArray.ext (Array.append_right_inj _ |>.1 h1)
theorem numS_inj : ∀ a : Fin 30, ∀ b : Fin 30, numS (a.val : Int) = numS (b.val : Int) → a = b := by decide +kernel
theorem keyT_inj {c : UInt8} {a b : Int} (ha : 0 ≤ a) (ha' : a ≤ 29) (hb : 0 ≤ b) (hb' : b ≤ 29) (h : keyN c a = keyN c b) : a = b := by
  obtain ⟨a, rfl⟩ := Int.eq_ofNat_of_zero_le ha
  obtain ⟨b, rfl⟩ := Int.eq_ofNat_of_zero_le hb
  have := numS_inj ⟨a, by omega⟩ ⟨b, by omega⟩ (bytes_tail h)
  have := congrArg Fin.val this
  simp at this; omega
theorem keyB_num : ∀ a : Fin 30, keyB (keyN 97 (a.val : Int)) = true ∧ keyB (keyN 115 (a.val : Int)) = true ∧ keyB (keyN 99 (a.val : Int)) = true ∧ keyB (keyN 102 (a.val : Int)) = true := by decide +kernel
theorem keyB_keyN {n : Int} (h0 : 0 ≤ n) (h9 : n ≤ 29) : keyB (keyN 97 n) = true ∧ keyB (keyN 115 n) = true ∧ keyB (keyN 99 n) = true ∧ keyB (keyN 102 n) = true := by
  obtain ⟨a, rfl⟩ := Int.eq_ofNat_of_zero_le h0
  exact keyB_num ⟨a, by omega⟩
theorem keyN_size2 (c : UInt8) {n : Int} (h : n ≤ 9) : (keyN c n).size = 2 := by
  rw [keyN_digit c h, append_size, digS_size]; rfl

/- Writes. -/
/-- How many things may come in. -/
def puts (ws : List Wr) : Nat := (ws.filter fun x => !x.del).length
theorem doFold_puts : ∀ (ws : List Wr) {its : List Item}, stoB its = true → (∀ x ∈ ws, x.ok = true) → its.length + ws.length ≤ 40 → ∃ cur, ws.foldl doStep (some its) = some cur ∧ stoB cur = true ∧ cur.length ≤ its.length + puts ws ∧ ∀ key, look cur key = lookW ws key (look its key)
  | [], its, h, _, _ => ⟨its, rfl, h, by simp [puts], fun _ => rfl⟩
  | x :: ws, its, h, hw, hl => by
    simp only [List.length_cons] at hl
    obtain ⟨s1, s2, s3, s4⟩ := stoStep h (hw x (List.mem_cons_self ..)) (by omega)
    obtain ⟨f1, f2, f3, f4⟩ := wAll_facts (wk := x.key) (wv := x.val) (stoB_three h).2.2 x.del
    obtain ⟨cur, c1, c2, c3, c4⟩ := doFold_puts ws s2 (fun y hy => hw y (List.mem_cons_of_mem _ hy)) (by omega)
    refine ⟨cur, ?_, c2, ?_, fun key => ?_⟩
    · rw [List.foldl_cons, s1]; exact c1
    · have : puts (x :: ws) = puts ws + (if x.del = true then 0 else 1) := by
        unfold puts; cases hd : x.del <;> simp [List.filter, hd]
      omega
    · rw [c4, s4]; rfl
/-- Writes of names that are kept: no room is wanted. -/
theorem doFold_kept : ∀ (ws : List Wr) {its : List Item}, stoB its = true → (∀ x ∈ ws, x.ok = true ∧ x.del = false ∧ lookOk its x.key = true) → ∃ cur, ws.foldl doStep (some its) = some cur ∧ stoB cur = true ∧ cur.length = its.length ∧ ∀ key, look cur key = lookW ws key (look its key)
  | [], its, h, _ => ⟨its, rfl, h, rfl, fun _ => rfl⟩
  | x :: ws, its, h, hw => by
    obtain ⟨hx, hd, hk⟩ := hw x (List.mem_cons_self ..)
    obtain ⟨h1, h2, h3⟩ := stoB_three h
    obtain ⟨f1, f2, f3, f4⟩ := wAll_facts (wk := x.key) (wv := x.val) h3 x.del
    have hlen : (wAll x.key x.del x.val its).length = its.length := by
      unfold lookOk at hk
      rw [hk, hd] at f3
      rw [hd]
      simpa using f3
    have hstep : doStep (some its) x = some (wAll x.key x.del x.val its) := by
      unfold doStep
      simp only [Option.bind_some, hx, if_true]
      rw [if_neg (by omega)]
    have hsto : stoB (wAll x.key x.del x.val its) = true := stoB_of (by omega) (fun it hit => by
      rcases f4 it hit with h' | ⟨hd, rfl⟩
      · exact h2 it h'
      · exact Wr.item hx hd) f1
    obtain ⟨cur, c1, c2, c3, c4⟩ := doFold_kept ws hsto (fun y hy => by
      obtain ⟨a, b, c⟩ := hw y (List.mem_cons_of_mem _ hy)
      refine ⟨a, b, ?_⟩
      unfold lookOk
      rw [f2, hd]
      by_cases e : x.key = y.key
      · rw [if_pos e]; rfl
      · rw [if_neg e]; exact c)
    refine ⟨cur, ?_, c2, by omega, fun key => ?_⟩
    · rw [List.foldl_cons, hstep]; exact c1
    · rw [c4, f2]; rfl
theorem lookW_cases : ∀ (ws : List Wr) {key : ByteArray} {d : Option Item} {x : Item}, lookW ws key d = some x → (∃ y ∈ ws, y.del = false ∧ x = ⟨y.key, y.val⟩) ∨ d = some x
  | [], _, _, _, h => .inr h
  | y :: ws, key, d, x, h => by
    rcases lookW_cases ws (d := if y.key = key then (if y.del = true then none else some ⟨y.key, y.val⟩) else d) h with ⟨z, hz, h2⟩ | h2
    · exact .inl ⟨z, List.mem_cons_of_mem _ hz, h2⟩
    · by_cases e : y.key = key
      · rw [if_pos e] at h2
        cases hd : y.del with
        | true => rw [hd] at h2; simp at h2
        | false => rw [hd] at h2; simp at h2; exact .inl ⟨y, List.mem_cons_self .., hd, h2.symm⟩
      · rw [if_neg e] at h2; exact .inr h2
/-- What writes leave may be kept, if what they put may. -/
theorem form_of {q : Int} {its cur : List Item} {ws : List Wr} (hf : formB q its = true) (hs : stoB cur = true) (hl : ∀ key, look cur key = lookW ws key (look its key)) (hw : ∀ x ∈ ws, x.del = false → itP q x.key x.val = true) : formB q cur = true := by
  unfold formB at *
  rw [List.all_eq_true] at *
  intro x hx
  have h1 := look_self (stoB_three hs).2.2 hx
  rw [hl] at h1
  rcases lookW_cases ws h1 with ⟨y, hy, hd, rfl⟩ | h2
  · exact hw y hy hd
  · exact hf x (look_in h2).1

/- Plans. -/
theorem sto_of {its cur : List Item} {ws : List Wr} (h : stoB its = true) (hc : ws.foldl doStep (some its) = some cur) : stoDo its ws = cur := by unfold stoDo doAll; rw [if_pos h, hc]; rfl
theorem wr_ok {k : ByteArray} {v : List Int} (hk : keyB k = true) (hl : 1 ≤ v.length) (hl' : v.length ≤ 3) (hv : ∀ n ∈ v, 0 ≤ n ∧ n ≤ 9999) : (⟨k, false, v⟩ : Wr).ok = true := by
  unfold Wr.ok wrtB valB
  simp only [hk, Bool.true_and, Bool.false_eq_true, if_false, Bool.and_eq_true, decide_eq_true_iff, List.all_eq_true]
  exact ⟨⟨hl, hl'⟩, fun n hn => by simpa using hv n hn⟩
theorem wr_del {k : ByteArray} (hk : keyB k = true) : (⟨k, true, []⟩ : Wr).ok = true := by
  unfold Wr.ok wrtB; simp [hk]
theorem plc_parts {q : Int} {its : List Item} (h : plcB q its = true) : stoB its = true ∧ formB q its = true := by
  unfold plcB at h; simp only [Bool.and_eq_true] at h; exact h.2
/-- What a plan writes may be kept. -/
def Fits (q : Int) (ws : List Wr) : Prop := ∀ x ∈ ws, x.ok = true ∧ (x.del = false → itP q x.key x.val = true)
theorem fits_nil (q : Int) : Fits q [] := fun _ h => absurd h (by simp)
theorem fits_one {q : Int} {x : Wr} (h1 : x.ok = true) (h2 : x.del = false → itP q x.key x.val = true) : Fits q [x] := fun y hy => by
  have : y = x := by simpa using hy
  exact this ▸ ⟨h1, h2⟩
theorem fits_two {q : Int} {x y : Wr} (h1 : x.ok = true ∧ (x.del = false → itP q x.key x.val = true)) (h2 : y.ok = true ∧ (y.del = false → itP q y.key y.val = true)) : Fits q [x, y] := fun z hz => by
  have : z = x ∨ z = y := by simpa using hz
  rcases this with rfl | rfl
  · exact h1
  · exact h2
theorem itP_fam {k : ByteArray} {n : Int} (hn : n ≤ 9) (hk : k = keyN 102 n) {a b c : Int} (ha : a ≤ 9) (hb : 1 ≤ b) (hb' : b ≤ 99) (hc : c ≤ 1) : itP 2 k [a, b, c] = true := by
  subst hk
  rw [itP2, decide_eq_true_iff]
  refine ⟨keyN_size2 _ hn, ha, .inr ⟨?_, rfl, hb, hb', hc⟩⟩
  rw [chr0_keyN]; rfl
theorem fam_item {its : List Item} {x : Item} (hs : stoB its = true) (hf : formB 2 its = true) (hx : x ∈ its) (hc : chr0 x.key = 102) : x.val.length = 3 ∧ 0 ≤ nth x.val 0 ∧ nth x.val 0 ≤ 9 ∧ 1 ≤ nth x.val 1 ∧ nth x.val 1 ≤ 99 ∧ 0 ≤ nth x.val 2 ∧ nth x.val 2 ≤ 1 ∧ x.key.size = 2 := by
  have h1 : itP 2 x.key x.val = true := by unfold formB at hf; exact List.all_eq_true.1 hf x hx
  have h2 := itemB_parts ((stoB_three hs).2.1 x hx)
  rw [itP2, decide_eq_true_iff, hc] at h1
  have e : x.val.length = 3 := by omega
  have := h2.2.2.2.2 0 (by omega)
  have := h2.2.2.2.2 1 (by omega)
  have := h2.2.2.2.2 2 (by omega)
  omega
theorem famB_parts {who : Int} {x : Item} (h : famB who x = true) : chr0 x.key = 102 ∧ nth x.val 0 = who ∧ nth x.val 2 = 1 := by
  unfold famB at h
  simp only [Bool.and_eq_true, decide_eq_true_iff, beq_iff_eq] at h
  refine ⟨?_, h.2.1, h.2.2⟩
  have h0 : 0 < x.key.size := by
    have := (Array.getElem?_eq_some_iff.1 h.1).1
    exact this
  rw [chr0_at h0]
  have := (Array.getElem?_eq_some_iff.1 h.1).2
  have h3 : x.key[0]'h0 = 102 := this
  rw [h3]; rfl
section
variable {its : List Item} {tx : Int} {o : Op}
theorem fits_plan {q : Int} (hq : q = 1 ∨ q = 2 ∨ q = 3) (hp : plcB q its = true) (ho : opB o = true) (ht : inB tx 0 29 = true) : Fits q (planP its q tx o).writes := by
  obtain ⟨hs, hf⟩ := plc_parts hp
  obtain ⟨b0, b1, b2, b3, b4, b5, b6, b7, b8, b9, b10, b11⟩ := opB_parts ho
  obtain ⟨t0, t1⟩ := inB_parts ht
  have hk := opK_kind ho
  rcases hq with rfl | rfl | rfl
  · unfold planP
    rw [if_neg (by decide), if_pos rfl]
    split
    · unfold inP1; split
      · exact fits_nil _
      · refine fits_one (wr_ok (keyB_keyN b2 (by omega)).2.1 (by simp) (by simp) (by simp; omega)) fun _ => ?_
        show itP 1 (keyN 115 o.inn) [o.who] = true
        rw [itP1, decide_eq_true_iff, chr0_keyN]
        exact ⟨keyN_size2 _ b3, b1, rfl, rfl⟩
    split
    · exact fits_nil _
    split
    · unfold inP5; split
      · exact fits_one (wr_del (keyB_keyN b2 (by omega)).2.1) fun h => by cases h
      · exact fits_nil _
    · exact fits_nil _
  · unfold planP
    rw [if_neg (by decide), if_neg (by decide)]
    split
    · unfold mayP2; split
      · exact fits_nil _
      · have h9 : 0 ≤ secS o.sec ∧ secS o.sec ≤ 9999 := by rw [secS_yes b6 b7]; omega
        refine fits_one (wr_ok (keyB_keyN b4 (by omega)).2.2.1 (by simp) (by simp) (by simp; omega)) fun _ => ?_
        show itP 2 (keyN 99 o.code) [o.who, secS o.sec] = true
        rw [itP2, decide_eq_true_iff, chr0_keyN]
        exact ⟨keyN_size2 _ b5, b1, .inl ⟨rfl, rfl⟩⟩
    split
    · unfold mayP3; split
      · rename_i ht
        unfold tradeB at ht
        simp only [Bool.and_eq_true] at ht
        have hc := code_found hs hf ht.1
        refine fits_two ⟨wr_del (keyB_keyN b4 (by omega)).2.2.1, fun h => by cases h⟩ ⟨wr_ok (keyB_keyN b8 (by omega)).2.2.2 (by simp) (by simp) (by simp; omega), fun _ => itP_fam b9 rfl (by omega) (by omega) (by omega) (by omega)⟩
      · exact fits_nil _
    split
    · unfold mayP4; split
      · rename_i ht
        unfold nextB useB at ht
        simp only [Bool.and_eq_true] at ht
        have hc := fam_found hs hf ht.1
        have h99 : nth (lookV its (keyN 102 o.fam)) 1 ≠ 99 := by simpa using ht.2.2.1
        refine fits_one ?_ fun _ => ?_
        · refine wr_ok (keyB_keyN b8 (by omega)).2.2.2 ?_ ?_ ?_
          · unfold nextV; split <;> simp
          · unfold nextV; split <;> simp
          · unfold nextV; split <;> simp <;> omega
        · show itP 2 (keyN 102 o.fam) (nextV (lookV its (keyN 102 o.fam)) o.gen) = true
          unfold nextV; split
          · exact itP_fam b9 rfl (by omega) (by omega) (by omega) (by omega)
          · exact itP_fam b9 rfl (by omega) (by omega) (by omega) (by omega)
      · exact fits_nil _
    split
    · intro x hx
      have hx' : x ∈ (its.filter (famB o.who)).map fun it => (⟨it.key, false, [nth it.val 0, nth it.val 1, 0]⟩ : Wr) := hx
      obtain ⟨y, hy, rfl⟩ := List.mem_map.1 hx'
      obtain ⟨hy1, hy2⟩ := List.mem_filter.1 hy
      obtain ⟨p1, p2, p3⟩ := famB_parts hy2
      have h9 := fam_item hs hf hy1 p1
      have hkey : keyB y.key = true := by
        have := (stoB_three hs).2.1 y hy1
        unfold itemB at this
        simp only [Bool.and_eq_true] at this
        exact this.1
      refine ⟨wr_ok hkey (by simp) (by simp) (by simp; omega), fun _ => ?_⟩
      show itP 2 y.key [nth y.val 0, nth y.val 1, 0] = true
      rw [itP2, decide_eq_true_iff]
      exact ⟨h9.2.2.2.2.2.2.2, h9.2.2.1, .inr ⟨p1, rfl, h9.2.2.2.1, h9.2.2.2.2.1, by show (0 : Int) ≤ 1; omega⟩⟩
    · exact fits_nil _
  · unfold planP
    rw [if_pos rfl]
    unfold doneP; split
    · exact fits_nil _
    · refine fits_one (wr_ok (keyB_keyN t0 t1).1 (by simp) (by simp) (by simp; omega)) fun _ => ?_
      show itP 3 (keyN 97 tx) [o.kind] = true
      rw [itP3, decide_eq_true_iff, chr0_keyN]
      exact ⟨rfl, rfl⟩
/-- What a place keeps behind what it plans. -/
theorem step_facts {q : Int} (hq : q = 1 ∨ q = 2 ∨ q = 3) (hp : plcB q its = true) (ho : opB o = true) (ht : inB tx 0 29 = true) (hl : its.length ≤ 38) :
    plcB q (stoDo its (planP its q tx o).writes) = true ∧ (stoDo its (planP its q tx o).writes).length ≤ its.length + 1 ∧ ∀ key, look (stoDo its (planP its q tx o).writes) key = lookW (planP its q tx o).writes key (look its key) := by
  have hfit := fits_plan hq hp ho ht
  obtain ⟨hs, hf⟩ := plc_parts hp
  have hin : inB q 1 3 = true := by rcases hq with rfl | rfl | rfl <;> decide
  suffices h : ∃ cur, (planP its q tx o).writes.foldl doStep (some its) = some cur ∧ stoB cur = true ∧ cur.length ≤ its.length + 1 ∧ ∀ key, look cur key = lookW (planP its q tx o).writes key (look its key) by
    obtain ⟨cur, c1, c2, c3, c4⟩ := h
    rw [sto_of hs c1]
    exact ⟨plcB_yes hin c2 (form_of hf c2 c4 fun x hx => (hfit x hx).2), c3, c4⟩
  have short : (planP its q tx o).writes.length ≤ 2 ∧ puts (planP its q tx o).writes ≤ 1 → ∃ cur, (planP its q tx o).writes.foldl doStep (some its) = some cur ∧ stoB cur = true ∧ cur.length ≤ its.length + 1 ∧ ∀ key, look cur key = lookW (planP its q tx o).writes key (look its key) := fun h => by
    obtain ⟨cur, c1, c2, c3, c4⟩ := doFold_puts _ hs (fun x hx => (hfit x hx).1) (show its.length + (planP its q tx o).writes.length ≤ 40 by omega)
    exact ⟨cur, c1, c2, by omega, c4⟩
  by_cases h5 : q = 2 ∧ o.kind = 5
  · obtain ⟨rfl, h5⟩ := h5
    have e : planP its 2 tx o = mayP5 its o := by simp [planP, h5]
    rw [e] at hfit ⊢
    obtain ⟨cur, c1, c2, c3, c4⟩ := doFold_kept (mayP5 its o).writes hs (fun x hx => by
      refine ⟨(hfit x hx).1, ?_⟩
      have hx' : x ∈ (its.filter (famB o.who)).map fun it => (⟨it.key, false, [nth it.val 0, nth it.val 1, 0]⟩ : Wr) := hx
      obtain ⟨y, hy, rfl⟩ := List.mem_map.1 hx'
      refine ⟨rfl, ?_⟩
      exact lookOk_some (look_self (stoB_three hs).2.2 (List.mem_filter.1 hy).1))
    exact ⟨cur, c1, c2, by omega, c4⟩
  · apply short
    clear short hfit
    have hk := opK_kind ho
    unfold planP
    split
    · unfold doneP; split <;> simp [noP, puts]
    split
    · split
      · unfold inP1; split <;> simp [noP, puts]
      split
      · simp [inP2, puts]
      split
      · unfold inP5; split <;> simp [noP, puts]
      · simp [puts]
    split
    · unfold mayP2; split <;> simp [noP, puts]
    split
    · unfold mayP3; split <;> simp [noP, puts]
    split
    · unfold mayP4; split <;> simp [noP, puts]
    split
    · omega
    · simp [puts]
end

/- All places. -/
def stepP (its : List Item) (q tx : Int) (o : Op) : List Item := if hereB o.kind q = true then stoDo its (planP its q tx o).writes else its
def mayP (its : List Item) (q tx : Int) (o : Op) : Bool := !hereB o.kind q || (planP its q tx o).ok
def gloMay (a b c : List Item) (tx : Int) (o : Op) : Bool := mayP a 1 tx o && (mayP b 2 tx o && mayP c 3 tx o)
theorem gloB_parts {a b c : List Item} (h : gloB [⟨a⟩, ⟨b⟩, ⟨c⟩] = true) : plcB 1 a = true ∧ plcB 2 b = true ∧ plcB 3 c = true := by
  simp only [gloB, Bool.and_eq_true] at h
  exact ⟨h.1, h.2.1, h.2.2⟩
theorem gloB_mk {a b c : List Item} (h1 : plcB 1 a = true) (h2 : plcB 2 b = true) (h3 : plcB 3 c = true) : gloB [⟨a⟩, ⟨b⟩, ⟨c⟩] = true := by simp [gloB, h1, h2, h3]
theorem gloDo_three {a b c : List Item} {tx : Int} {o : Op} (hg : gloB [⟨a⟩, ⟨b⟩, ⟨c⟩] = true) (ho : opB o = true) (ht : inB tx 0 29 = true) :
    gloDo [⟨a⟩, ⟨b⟩, ⟨c⟩] tx o = (if gloMay a b c tx o = true then [⟨stepP a 1 tx o⟩, ⟨stepP b 2 tx o⟩, ⟨stepP c 3 tx o⟩] else [⟨a⟩, ⟨b⟩, ⟨c⟩], gloMay a b c tx o) := by
  obtain ⟨h1, h2, h3⟩ := gloB_parts hg
  have p1 : plcP a 1 tx o = planP a 1 tx o := by unfold plcP; rw [ho, h1, ht]; rfl
  have p2 : plcP b 2 tx o = planP b 2 tx o := by unfold plcP; rw [ho, h2, ht]; rfl
  have p3 : plcP c 3 tx o = planP c 3 tx o := by unfold plcP; rw [ho, h3, ht]; rfl
  have a1 : atP [⟨a⟩, ⟨b⟩, ⟨c⟩] 1 = a := rfl
  have a2 : atP [⟨a⟩, ⟨b⟩, ⟨c⟩] 2 = b := rfl
  have a3 : atP [⟨a⟩, ⟨b⟩, ⟨c⟩] 3 = c := rfl
  have k1 : okP [⟨a⟩, ⟨b⟩, ⟨c⟩] tx o 1 = (planP a 1 tx o).ok := by unfold okP; rw [a1, p1]
  have k2 : okP [⟨a⟩, ⟨b⟩, ⟨c⟩] tx o 2 = (planP b 2 tx o).ok := by unfold okP; rw [a2, p2]
  have k3 : okP [⟨a⟩, ⟨b⟩, ⟨c⟩] tx o 3 = (planP c 3 tx o).ok := by unfold okP; rw [a3, p3]
  have d1 : pendP [⟨a⟩, ⟨b⟩, ⟨c⟩] tx o 1 = ⟨1, (planP a 1 tx o).writes⟩ := by unfold pendP; rw [a1, p1]
  have d2 : pendP [⟨a⟩, ⟨b⟩, ⟨c⟩] tx o 2 = ⟨2, (planP b 2 tx o).writes⟩ := by unfold pendP; rw [a2, p2]
  have d3 : pendP [⟨a⟩, ⟨b⟩, ⟨c⟩] tx o 3 = ⟨3, (planP c 3 tx o).writes⟩ := by unfold pendP; rw [a3, p3]
  have e3 : hereB o.kind 3 = true := by simp [hereB]
  have hpl : placesP o = ([1, 2, 3] : List Int).filter (hereB o.kind) := by unfold placesP upto; rw [if_pos ho]; rfl
  unfold gloDo
  rw [hg, ho, ht, hpl]
  simp only [Bool.and_self, if_true]
  have g : gloMay a b c tx o = ((!hereB o.kind 1 || (planP a 1 tx o).ok) && ((!hereB o.kind 2 || (planP b 2 tx o).ok) && (planP c 3 tx o).ok)) := by unfold gloMay mayP; rw [e3]; rfl
  rw [g]
  have s3 : stepP c 3 tx o = stoDo c (planP c 3 tx o).writes := by unfold stepP; rw [if_pos e3]
  rw [s3]
  unfold stepP
  generalize hA : planP a 1 tx o = pa
  generalize hB : planP b 2 tx o = pb
  generalize hC : planP c 3 tx o = pc
  rw [hA] at k1 d1
  rw [hB] at k2 d2
  rw [hC] at k3 d3
  cases e1 : hereB o.kind 1 <;> cases e2 : hereB o.kind 2 <;> simp only [List.filter, e1, e2, e3, List.all_cons, List.all_nil, List.map_cons, List.map_nil, k1, k2, k3, d1, d2, d3]
  all_goals cases f1 : pa.ok <;> cases f2 : pb.ok <;> cases f3 : pc.ok <;> rfl
/-- Behind what is done all places keep what they may, and at most one thing more each. -/
theorem glo_step {a b c : List Item} {tx : Int} {o : Op} {k : Nat} (hg : gloB [⟨a⟩, ⟨b⟩, ⟨c⟩] = true) (ho : opB o = true) (ht : inB tx 0 29 = true) (ha : a.length ≤ k) (hb : b.length ≤ k) (hc : c.length ≤ k) (hk : k ≤ 38) :
    gloB [⟨stepP a 1 tx o⟩, ⟨stepP b 2 tx o⟩, ⟨stepP c 3 tx o⟩] = true ∧ (stepP a 1 tx o).length ≤ k + 1 ∧ (stepP b 2 tx o).length ≤ k + 1 ∧ (stepP c 3 tx o).length ≤ k + 1 := by
  obtain ⟨h1, h2, h3⟩ := gloB_parts hg
  have one : ∀ {its : List Item} {q : Int}, (q = 1 ∨ q = 2 ∨ q = 3) → plcB q its = true → its.length ≤ k → plcB q (stepP its q tx o) = true ∧ (stepP its q tx o).length ≤ k + 1 := by
    intro its q hq hp hl
    unfold stepP
    split
    · obtain ⟨s1, s2, -⟩ := step_facts hq hp ho ht (by omega)
      exact ⟨s1, by omega⟩
    · exact ⟨hp, by omega⟩
  obtain ⟨x1, y1⟩ := one (.inl rfl) h1 ha
  obtain ⟨x2, y2⟩ := one (.inr (.inl rfl)) h2 hb
  obtain ⟨x3, y3⟩ := one (.inr (.inr rfl)) h3 hc
  exact ⟨gloB_mk x1 x2 x3, y1, y2, y3⟩

end Go.Proofs.YtecdibpiojgppaaGreat
