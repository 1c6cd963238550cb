/- A drawn store. -/
import Derived.Test.YtecdibpiojgppaaGreatXOwnWr
import Derived.Test.YtecdibpiojgppaaGreatXStoDoS
namespace Go.Proofs.YtecdibpiojgppaaGreat
open Go.RowKit

theorem toGrown {w w' : World} (h : Below w.heap.size w w') (row : Option Nat) : w.grownBy w' row := ⟨h.os, h.tape, h.output, h.size, fun k hk _ => h.block k hk⟩

structure StW (w : World) (g : Nat) (P : Int) (xb : Nat) (vx : Value) (its : List Item) (W : World) : Prop where
  hr : Held W w.heap.size [.slice none 0 0]
  hx : Held W xb [vx]
  own : OwnIt W (w.heap.size + 1) (fun b => w.heap.size + 1 ≤ b ∧ b ≠ xb) vx its
  ne : vx.ownBlock ≠ some xb
  dr : Drew g P w W
section
variable {w W W1 W' : World} {g xb : Nat} {P P' : Int} {vx vn : Value} {its ys : List Item}
theorem StW.below (h : StW w g P xb vx its W) (hg : g < w.heap.size) (hn : Below W.heap.size W W') : StW w g P xb vx its W' :=
  ⟨h.hr.below hn h.hr.1, h.hx.below hn h.hx.1, h.own.below hn, h.ne, h.dr.grown (row := none) (toGrown hn none) (fun _ e => by cases e) hg⟩
theorem StW.draw (h : StW w g P xb vx its W) (hg : g < w.heap.size) (hx : w.heap.size < xb) (hd : Drew g P' W W') : StW w g P' xb vx its W' :=
  ⟨h.hr.drew hd (by omega), h.hx.drew hd (by omega), h.own.keep (fun b hb hS => hd.2.block b hb (fun e => by have := Option.some.inj e; rcases hS with h | h <;> omega)) hd.2.size, h.ne, h.dr.trans hd⟩
theorem StW.xHeld (h : StW w g P xb vx its W) (hgr : W.grownBy W1 vx.ownBlock) : Held W1 xb [vx] := by
  have hk := hgr.block xb h.hx.1 (fun e => h.ne e.symm)
  exact ⟨Nat.lt_of_lt_of_le h.hx.1 hgr.size, fun j => (World.frozen?_of_block (a := ⟨xb, j, none⟩) hk).trans (h.hx.2.1 j), fun j u hu => (World.cell?_of_block (a := ⟨xb, j, none⟩) hk).trans (h.hx.2.2 j u hu)⟩
theorem StW.rHeld (h : StW w g P xb vx its W) (hgr : W.grownBy W1 vx.ownBlock) : Held W1 w.heap.size [.slice none 0 0] :=
  h.hr.below (B := w.heap.size + 1) ((Below.refl _ W).grown hgr h.hr.1 fun k hk => (ownItLt h.own k hk).1) (by omega)
theorem StW.wrote (h : StW w g P xb vx its W) (hg : g < w.heap.size) (hx : w.heap.size < xb) (hgr : W.grownBy W1 vx.ownBlock) (ho : OwnIt W1 (w.heap.size + 1) (fun b => w.heap.size + 1 ≤ b ∧ b ≠ xb) vn ys) (hw : vn.ownBlock = vx.ownBlock ∨ vn.ownBlock = some W.heap.size) :
    StW w g P xb vn ys (W1.setCell ⟨xb, 0, none⟩ vn) := by
  have hlt := ownItLt h.own
  have hz := h.hx.1
  have hne : vn.ownBlock ≠ some xb := by
    rcases hw with e | e
    · rw [e]; exact h.ne
    · rw [e]; intro e'; have := Option.some.inj e'; omega
  have hb : Below (w.heap.size + 1) W W1 := (Below.refl _ W).grown hgr (by omega) fun k hk => (hlt k hk).1
  exact ⟨(h.hr.below hb (by omega)).far (by show _ ≠ xb; omega) _, (h.xHeld hgr).set_ (i := 0) vn, ho.setCell2 (fun hS => hS.2 rfl) hne _, hne,
    (h.dr.grown hgr (fun k hk => by have := (hlt k hk).1; omega) hg).setCell (p := ⟨xb, 0, none⟩) (by show _ ≤ xb; omega) hg _⟩
theorem StW.fin (h : StW w g P xb vx its W) (hg : g < w.heap.size) : Held (W.setCell ⟨w.heap.size, 0, none⟩ vx) w.heap.size [vx] ∧ OwnIt (W.setCell ⟨w.heap.size, 0, none⟩ vx) w.heap.size (w.heap.size ≤ ·) vx its ∧ Drew g P w (W.setCell ⟨w.heap.size, 0, none⟩ vx) :=
  ⟨h.hr.set_ (i := 0) vx, (h.own.setCell (p := ⟨w.heap.size, 0, none⟩) (fun hS => by have : w.heap.size + 1 ≤ w.heap.size := hS.1; omega) (by show w.heap.size < _; omega) vx).weaken (by omega) (fun b hb => by omega), h.dr.setCell (p := ⟨w.heap.size, 0, none⟩) (by show _ ≤ w.heap.size; omega) hg _⟩
theorem StW.src (h : StW w g P xb vx its W) {B : Nat} (hB : W.heap.size ≤ B) {W2 : World} {A : Option Addr} {c : Nat} {xs : List Int} (ho : OwnInts W2 B (.slice A xs.length c) xs) : IntsIn W2 (fun b => (w.heap.size + 1 ≤ b ∧ b ≠ xb) ∧ vx.ownBlock ≠ some b) (.slice A xs.length c) xs := by
  have hz := h.hx.1
  have hr := h.hr.1
  exact ho.toIn.keep (fun _ _ _ => rfl) (Nat.le_refl _) fun b _ hb => ⟨⟨by omega, by omega⟩, fun e => by have := (ownItLt h.own b e).2; omega⟩
end

theorem OwnIt.weaken2 {w : World} {lo lo' : Nat} {S S' : Nat → Prop} {v : Value} {its : List Item} (h : OwnIt w lo S v its) (hl : lo' ≤ lo) (hS : ∀ b, b < w.heap.size → S b → S' b) : OwnIt w lo' S' v its := by
  obtain ⟨U, h1, h3⟩ := h
  refine ⟨U, ⟨h1.1, h1.2.elim Or.inl fun ⟨g, cap, cur, hv, hg, r⟩ => Or.inr ⟨g, cap, cur, hv, Nat.le_trans hl hg, r⟩⟩, fun j it hit => ?_⟩
  obtain ⟨a, b⟩ := h3 j it hit
  exact ⟨a, b.keep (fun _ _ _ => rfl) (Nat.le_refl _) (fun _ hb h => ⟨hS _ hb h.1, h.2⟩)⟩
theorem itemsNilB (w : World) (B : Nat) : Items w B (.slice none 0 0) [] := ⟨none, 0, rfl, by simp, Nat.zero_le _, fun h => absurd h (by simp)⟩

/-- How long the slice in a box is. -/
def boxLen (w : World) (xb : Nat) : Nat := match w.cell? ⟨xb, 0, none⟩ with
  | some (.slice _ n _) => n
  | _ => 0
theorem boxLen_at {w : World} {xb n c : Nat} {A : Option Addr} (h : w.cell? ⟨xb, 0, none⟩ = some (.slice A n c)) : boxLen w xb = n := by unfold boxLen; rw [h]

/-- Names and numbers of a drawn store. -/
def Fine4 (its : List Item) : Prop := ∀ it ∈ its, it.key.size ≤ 3 ∧ it.val.length ≤ 4
theorem Fine.four {its : List Item} (h : Fine its) : Fine4 its := fun it hi => by have := h it hi; omega
theorem Fine4.snoc {its : List Item} {it : Item} (h : Fine4 its) (h1 : it.key.size ≤ 3 ∧ it.val.length ≤ 4) : Fine4 (its ++ [it]) := by
  intro x hx
  rcases List.mem_append.1 hx with h' | h'
  · exact h x h'
  · have : x = it := by simpa using h'
    rw [this]; exact h1

/-- What a draw of a store leaves. -/
def DrewSto (g : Nat) (P : Int) (w : World) (e : Ending) (w' : World) : Prop :=
  ∃ v its, e = .returned (.agg #[v]) ∧ its.length ≤ 41 ∧ Fine4 its ∧ OwnIt w' w.heap.size (w.heap.size ≤ ·) v its ∧ Drew g P w w'
/-- The same, and how many there are. -/
def DrewSto2 (g : Nat) (P : Int) (w : World) (e : Ending) (w' : World) : Prop :=
  ∃ v its, e = .returned (.agg #[v]) ∧ (its.length ≤ 13 ∨ its.length = 41) ∧ Fine4 its ∧ OwnIt w' w.heap.size (w.heap.size ≤ ·) v its ∧ Drew g P w w'
theorem StW.gives2 {w W : World} {g xb : Nat} {P P' : Int} {vx : Value} {its : List Item} (h : StW w g P xb vx its W) (hg : g < w.heap.size) (hl : its.length ≤ 13 ∨ its.length = 41) (hf : Fine4 its) (hP : P ≤ P') : DrewSto2 g P' w (.returned (.agg #[vx])) (W.setCell ⟨w.heap.size, 0, none⟩ vx) :=
  ⟨vx, its, rfl, hl, hf, (h.fin hg).2.1, (h.fin hg).2.2.1.more hP, (h.fin hg).2.2.2⟩
theorem doFold_len : ∀ (ws : List Wr) {its : List Item}, stoB its = true → its.length + ws.length ≤ 40 → ∀ cur, ws.foldl doStep (some its) = some cur → cur.length ≤ its.length + ws.length
  | [], its, _, _, cur, h => by
    have : its = cur := Option.some.inj h
    subst this; simp
  | x :: ws, its, hs, hl, cur, h => by
    rw [List.foldl_cons] at h
    rw [List.length_cons] at hl ⊢
    cases hx : x.ok with
    | true =>
      obtain ⟨s1, s2, s3, -⟩ := stoStep hs hx (by omega)
      rw [s1] at h
      have := doFold_len ws s2 (by omega) cur h
      omega
    | false =>
      rw [show doStep (some its) x = none by unfold doStep; simp [hx], foldNone] at h
      cases h
theorem stoDo_nil_len (ws : List Wr) (hl : ws.length ≤ 40) : (stoDo [] ws).length ≤ ws.length := by
  unfold stoDo doAll
  rw [if_pos (by decide)]
  cases h : ws.foldl doStep (some []) with
  | none => simp
  | some cur => have := doFold_len ws (its := []) (by decide) (by simpa using hl) cur h; simpa using this

theorem Down.reachNot {ops : Array Oper} {L : Nat → Bool} (h : Down ops L) (f m i : Nat) (hr : Go.Proofs.YtecdibpiojgppaaGreat.reach ops f m i = true) (hL : L i = false) : L m = false := by
  cases hm : L m with
  | false => rfl
  | true => have := h.reach f m i hr hm; rw [hL] at this; cases this
def stGood (g xb z : Nat) (vx : Value) (i : Nat) (W : World) (u : Value) : Prop :=
  match i with
  | 0 => u = .pointer (some ⟨xb, 0, none⟩)
  | 1 => u = vx
  | 2 => u = .pointer (some ⟨g, 0, none⟩)
  | 3 => ∃ (xs : List Int) (B : Nat), xs.length ≤ 4 ∧ OwnInts W B u xs ∧ z ≤ B
  | 4 => ∃ (u' : Value) (xs : List Int) (B : Nat), u = .agg #[.string ⟨#[122, 57]⟩, u'] ∧ xs.length ≤ 4 ∧ OwnInts W B u' xs ∧ z ≤ B
  | 5 => ∃ (u' : Value) (xs : List Int) (B D : Nat), u = .slice (some ⟨D, 0, none⟩) 1 1 ∧ xs.length ≤ 4 ∧ Held W D [.string ⟨#[122, 57]⟩, u'] ∧ OwnInts W B u' xs ∧ z ≤ B
  | _ => True
theorem stGood_next {g xb z : Nat} {vx : Value} {W W' : World} (hn : Below W.heap.size W W') (j : Nat) (u : Value) (h : stGood g xb z vx j W u) : stGood g xb z vx j W' u := by
  match j, h with
  | 0, h => exact h
  | 1, h => exact h
  | 2, h => exact h
  | 3, ⟨xs, B, h1, h2, h3⟩ => exact ⟨xs, B, h1, h2.below hn, h3⟩
  | 4, ⟨u', xs, B, h0, h1, h2, h3⟩ => exact ⟨u', xs, B, h0, h1, h2.below hn, h3⟩
  | 5, ⟨u', xs, B, D, h0, h1, h2, h3, h4⟩ => exact ⟨u', xs, B, D, h0, h1, h2.below hn h2.1, h3.below hn, h4⟩
  | n + 6, h => exact h
def stInv (w : World) (g : Nat) (P : Int) (xb z : Nat) (vx : Value) (its : List Item) (L : Nat → Bool) (U : Nat → Value) (W : World) : Prop :=
  (L 6 = false → (∀ j, L j = true → stGood g xb z vx j W (U j)) ∧ StW w g (if L 3 = true then P + 10 else P) xb vx its W ∧ z ≤ W.heap.size) ∧
    (L 6 = true → L 8 = false → ∃ (W0 : World) (xs : List Int), xs.length ≤ 4 ∧ StW w g (P + 10) xb vx its W0 ∧ W0.grownBy W vx.ownBlock ∧ OwnIt W (w.heap.size + 1) (fun b => w.heap.size + 1 ≤ b ∧ b ≠ xb) (U 6) (its ++ [⟨⟨#[122, 57]⟩, xs⟩]) ∧ ((U 6).ownBlock = vx.ownBlock ∨ (U 6).ownBlock = some W0.heap.size)) ∧
    (L 7 = true → U 7 = .pointer (some ⟨xb, 0, none⟩)) ∧ (L 8 = true → ∃ xs : List Int, xs.length ≤ 4 ∧ StW w g (P + 10) xb (U 6) (its ++ [⟨⟨#[122, 57]⟩, xs⟩]) W)
theorem stStep {w : World} {g : Nat} {P : Int} {xb z : Nat} {vx : Value} {its : List Item} {L : Nat → Bool} {U : Nat → Value} {W W' : World} {i : Nat} {u : Value} (hi : i < 6) (hi3 : i ≠ 3) (h6 : L 6 = false) (h7 : L 7 = false) (h8 : L 8 = false) (hG : ∀ j, L j = true → stGood g xb z vx j W (U j))
    (hW : StW w g (if L 3 = true then P + 10 else P) xb vx its W ∧ z ≤ W.heap.size) (hgw : g < w.heap.size) (hn : Below W.heap.size W W') (hu : stGood g xb z vx i W' u) : stInv w g P xb z vx its (upd L i true) (upd U i u) W' := by
  have e6 : upd L i true 6 = false := by rw [upd_other _ _ (by omega)]; exact h6
  have e7 : upd L i true 7 = false := by rw [upd_other _ _ (by omega)]; exact h7
  have e8 : upd L i true 8 = false := by rw [upd_other _ _ (by omega)]; exact h8
  have e3 : upd L i true 3 = L 3 := by rw [upd_other _ _ (by omega)]
  refine ⟨fun _ => ⟨RInv.next (Good := stGood g xb z vx) hG (fun j x h => stGood_next hn j x h) hu, by rw [e3]; exact hW.1.below hgw hn, Nat.le_trans hW.2 hn.size⟩, fun h => ?_, fun h => ?_, fun h => ?_⟩
  · rw [e6] at h; cases h
  · rw [e7] at h; cases h
  · rw [e8] at h; cases h

set_option maxRecDepth 100000 in
set_option maxHeartbeats 2000000 in
theorem l20Sto_two (w : World) (g : Nat) (P n : Int) (hr : Rds w g P) (hP0 : 0 ≤ P) (hP : P ≤ 600000000) (hn : n ≤ 1000000) :
    Calls Tryz.prog 31 #[.pointer (some ⟨g, 0, none⟩), .int .i64 n] w (DrewSto2 g (P + 1000) w) := by
  have hgw := hr.lt
  have HA := Lib.hid (show Drew g P w (w.alloc (.cells #[.slice none 0 0] 35)) from ⟨hr.alloc _, World.grownBy_alloc _ _ _⟩)
  have HH := Lib.hid (Held.new w #[.slice none 0 0] 35)
  have z0 : (w.alloc (.cells #[.slice none 0 0] 35)).heap.size = w.heap.size + 1 := by simp
  clear hr
  go_enter Tryz.func31, Tryz.ntmps31
  go_wp2_with fail
  refine (l20Writes_any _ g _ _ HA.out.1 hP0 (by omega) (by omega)).mono ?_
  rintro e w1 ⟨v1, ws1, rfl, hl1, ho1, hd1⟩
  obtain ⟨g1, c1, rfl, -⟩ := ho1.form
  rw [z0] at ho1
  have HD1 := Lib.hid (HA.out.trans hd1)
  have HH1 := Lib.hid (HH.out.drew hd1 (by omega))
  have HO1 := Lib.hid ho1
  have hz1 : w.heap.size + 1 ≤ w1.heap.size := by have := hd1.2.size; omega
  clear ho1 hd1 HA HH z0
  go_wp2_with fail
  refine (l20Writes_any _ g _ _ HD1.out.1 (by omega) (by omega) (by omega)).mono ?_
  rintro e w2 ⟨v2, ws2, rfl, hl2, ho2, hd2⟩
  obtain ⟨qs, g2, c2, hqw, rfl, hcells, hqs⟩ := ho2.source
  have HD2 := Lib.hid (HD1.out.trans hd2)
  have HH2 := Lib.hid (HH1.out.drew hd2 (by omega))
  have HO2 := Lib.hid (HO1.out.drew hd2 (by omega))
  have HC := Lib.hid hcells
  have HQ := Lib.hid (fun p hp => (⟨(hqs p hp).1, (hqs p hp).2.keep (fun _ _ _ => rfl) (Nat.le_refl _) fun b _ hb => ⟨Nat.le_trans hz1 hb, fun e => by have := (HO1.out.lt b e).2; omega⟩⟩ : p.1.key.size ≤ maxLen ∧ IntsIn w2 (fun b => w.heap.size + 1 ≤ b ∧ (Value.slice (some ⟨g1, 0, none⟩) ws1.length c1).ownBlock ≠ some b) p.2 p.1.val))
  have hql : qs.length ≤ 6 := by rw [← hqw, List.length_map] at hl2; exact hl2
  have hz2 : w1.heap.size ≤ w2.heap.size := hd2.2.size
  clear ho2 hd2 hcells hqs HD1 HH1 HO1
  go_wp2_with (at_builtin; refine wpl_append_writes rfl _ _ rfl (w.heap.size + 1) _ _ ws1 rfl HO2.out qs ⟨g2, 0, none⟩ c2 rfl HQ.out HC.out (by omega) (by omega) ?_; intro u3 w3 ho3 hg3; have HO3 := Lib.hid ho3; have HG3 := Lib.hid hg3; clear ho3 hg3)
  refine (specStoDo_any _ _ _ [] (ws1 ++ qs.map Prod.fst) (itemsNilB _ _) HO3.out.wrts).mono ?_
  rintro e w4 ⟨u4, rfl, ho4, hb4⟩
  obtain ⟨A4, n4, c4, e4⟩ := ownSlice ho4
  subst e4
  have hfine := stoDo_fine [] (ws1 ++ qs.map Prod.fst)
  have h12 : (stoDo [] (ws1 ++ qs.map Prod.fst)).length ≤ 12 := by
    have h := stoDo_nil_len (ws1 ++ qs.map Prod.fst) (by rw [List.length_append, List.length_map]; omega)
    rw [List.length_append, List.length_map] at h; omega
  generalize hits : stoDo [] (ws1 ++ qs.map Prod.fst) = its at *
  clear hits hqw
  have hr3 : Held w3 w.heap.size [.slice none 0 0] := HH2.out.below ((Below.refl (w.heap.size + 1) w2).grown HG3.out (by omega) fun k hk => (HO2.out.lt k hk).1) (by omega)
  have hz3 : w.heap.size < w3.heap.size := hr3.1
  have hd3 := (HD2.out.grown HG3.out (fun k hk => by have := (HO2.out.lt k hk).1; omega) hgw)
  have hz4 : w3.heap.size ≤ w4.heap.size := hb4.size
  have H0 := Lib.hid (show StW w g (P + 300 + 300) w4.heap.size (.slice A4 n4 c4) its (w4.alloc (.cells #[.slice A4 n4 c4] 35)) from
    ⟨(hr3.below hb4 hz3).after _, Held.new w4 #[.slice A4 n4 c4] 35, (ho4.weaken2 (by omega) (fun b hb hS => ⟨by omega, by omega⟩)).alloc _, fun e => by have := (ownItLt ho4 _ e).2; omega, (hd3.grown (row := none) (toGrown hb4 none) (fun _ e => by cases e) hgw).alloc _⟩)
  have hxb : w.heap.size < w4.heap.size := by omega
  have h40 : its.length ≤ 12 := h12
  have HF := Lib.hid hfine.2.four
  clear hr3 hd3 ho4 hb4 hfine HO2 HO3 HG3 HC HQ HD2 HH2 hz3 hz4
  go_wp2_with fail
  refine (odd_any _ g _ _ H0.out.dr.1 (by omega) hn).mono ?_
  rintro e w5 ⟨bb, rfl, hbb, hd5⟩
  have H5 := Lib.hid (H0.out.draw hgw hxb hd5)
  clear hbb hd5 H0
  have d3 := H5.out.hx.of 0 _ rfl
  have r0 := H5.out.hr.of 0 _ rfl
  have rf := H5.out.hr.2.1 0
  cases bb
  · go_wp2
    have q0 := (H5.out.fin hgw).1.of 0 _ rfl
    exact bodyPost_ret (v := .agg #[.slice A4 n4 c4]) (by simp [results, Tryz.results31, go_sem, q0]) rfl (H5.out.gives2 hgw (by omega) HF.out (by omega))
  · go_wp2_with fail
    refine (pick_rds _ g _ _ H5.out.dr.1 (by omega) (by omega)).mono ?_
    rintro e w6 ⟨m, rfl, hm0, hm1, hd6⟩
    obtain ⟨m, rfl⟩ := Int.eq_ofNat_of_zero_le hm0
    have hm : m < 3 := by have := hm1 (by omega); omega
    have H6 := Lib.hid (H5.out.draw hgw hxb hd6)
    clear hm0 hm1 hd6 H5 d3 r0 rf
    have d3 := H6.out.hx.of 0 _ rfl
    have hz6 : w4.heap.size < w6.heap.size := H6.out.hx.1
    rcases (by omega : m = 0 ∨ m = 1 ∨ m = 2) with rfl | rfl | rfl
    · have HI := Lib.hid (OwnInts.lit w6 w6.heap.size (Nat.le_refl _) [1] (by unfold maxLen; simp))
      have H7 := Lib.hid ((H6.out.below hgw (belowOne w6 (.cells #[.int .i64 1] 3))).below hgw (belowOne _ (.cells #[.string ⟨#[97, 48]⟩, .slice (some ⟨w6.heap.size, 0, none⟩) 1 1] 95)))
      have HU := Lib.hid (H6.out.src (Nat.le_refl _) ((HI.out.alloc (.cells #[.string ⟨#[97, 48]⟩, .slice (some ⟨w6.heap.size, 0, none⟩) 1 1] 95))))
      have hsrc := Held.new (w6.alloc (.cells #[.int .i64 1] 3)) #[.string ⟨#[97, 48]⟩, .slice (some ⟨w6.heap.size, 0, none⟩) 1 1] 95
      have z7 : (w6.alloc (.cells #[.int .i64 1] 3)).heap.size = w6.heap.size + 1 := by simp
      rw [z7] at hsrc
      have HS := Lib.hid hsrc
      clear hsrc z7
      go_wp2_with (at_builtin; refine wpl_append_item2 rfl _ _ rfl (w.heap.size + 1) _ _ its rfl H7.out.own ⟨⟨#[97, 48]⟩, [1]⟩ _ _ _ _ rfl (by show 2 ≤ _; unfold maxLen; omega) HU.out HS.out (by omega) (by simp; omega) ?_; intro v8 w8 ho8 hg8 hw8; obtain ⟨A8, n8, c8, e8⟩ := ownSlice ho8; subst e8; have H8 := Lib.hid (H7.out.wrote hgw hxb hg8 ho8 hw8); have x8 := (H7.out.xHeld hg8).of 0 _ rfl; have f8 := (H7.out.xHeld hg8).2.1 0; have r8 := (H7.out.rHeld hg8).of 0 _ rfl; have rf8 := (H7.out.rHeld hg8).2.1 0; clear ho8 hg8 hw8)
      have q0 := (H8.out.fin hgw).1.of 0 _ rfl
      exact bodyPost_ret (v := .agg #[.slice A8 n8 c8]) (by simp [results, Tryz.results31, go_sem, q0]) rfl (H8.out.gives2 hgw (by simp; omega) (HF.out.snoc ⟨by show 2 ≤ 3; omega, by simp⟩) (by omega))
    · have hvlt : ∀ b, (Value.slice A4 n4 c4).ownBlock = some b → ∀ {B : Nat}, w6.heap.size ≤ B → B ≤ b → False := fun b e B h1 h2 => by have := (ownItLt H6.out.own b e).2; omega
      go_wp2
      refine wp_region_inv2 (by kernel_rfl) (fun L a W => ∃ U : Nat → Value, a = { tmps := #[.pointer (some ⟨g, 0, none⟩), .int .i64 n, undef, undef, .pointer (some ⟨w.heap.size, 0, none⟩), .pointer (some ⟨w4.heap.size, 0, none⟩), .agg #[.slice none 0 0], .pointer (some ⟨g, 0, none⟩), .slice (some ⟨g1, 0, none⟩) ws1.length c1, .pointer (some ⟨g, 0, none⟩), .slice (some ⟨g2, 0, none⟩) qs.length c2, u3, .agg #[.slice A4 n4 c4], .pointer (some ⟨g, 0, none⟩), .int .i64 n, .bool true, .pointer (some ⟨g, 0, none⟩), .int .i64 1, undef, undef, undef, undef, undef, undef, undef, undef, undef, undef, undef, .bool false, .bool false, undef, undef, undef, undef, undef, undef, undef, .bool true, .bool true, U 0, U 1, U 2, U 3, U 4, U 5, U 6, U 7, undef], defers := [] } ∧ stInv w g (P + 300 + 300 + 1 + 1) w4.heap.size w6.heap.size (.slice A4 n4 c4) its L U W) (fun i o ho e he => (backB_at (by kernel_rfl) i o ho e he).1) (fun i o ho e he => (backB_at (by kernel_rfl) i o ho e he).2) ?h0 ?hstep ?hend
      case h0 =>
        exact ⟨fun _ => undef, rfl, fun _ => ⟨fun j h => absurd h (by simp), by simpa using H6.out.below hgw (Below.refl _ _).drew, Nat.le_refl _⟩, fun h => absurd h (by simp), fun h => absurd h (by simp), fun h => absurd h (by simp)⟩
      case hstep =>
        clear H6 HF d3
        rintro L a W i o ho hLi hpre hdn ⟨U, rfl, h1, h2, h7', -⟩ K hK
        have hi : i < 9 := (Array.getElem?_eq_some_iff.1 ho).1
        have hd4 : L 3 = false → L 4 = false := fun hL => hdn.reachNot 5 4 3 (by kernel_rfl) hL
        have hd5 : L 3 = false → L 5 = false := fun hL => hdn.reachNot 5 5 3 (by kernel_rfl) hL
        have hd6 : ∀ j, j < 6 → L j = false → L 6 = false := fun j hj hL => hdn.notYet 6 6 6 (by kernel_rfl) hj hL
        have hd7 : ∀ j, j < 7 → L j = false → L 7 = false := fun j hj hL => hdn.notYet 1 7 7 (by kernel_rfl) hj hL
        have hd8 : ∀ j, j < 8 → L j = false → L 8 = false := fun j hj hL => hdn.notYet 1 8 8 (by kernel_rfl) hj hL
        clear hdn
        have HK := Lib.hid hK
        have HZ := Lib.hid h2
        clear hK h2
        by_cases hi6 : i < 6
        · have h6 := hd6 i hi6 hLi
          have h7 := hd7 i (by omega) hLi
          have h8 := hd8 i (by omega) hLi
          obtain ⟨hG, hW, hzW⟩ := h1 h6
          have HG := Lib.hid hG
          have HW := Lib.hid (And.intro hW hzW)
          clear hG hW hzW h1 hd6 hd7 hd8 h7' HZ
          rcases (by omega : i = 0 ∨ i = 1 ∨ i = 2 ∨ i = 3 ∨ i = 4 ∨ i = 5) with rfl | rfl | rfl | rfl | rfl | rfl
          all_goals (simp at ho; subst ho; simp at hpre)
          · go_simp
            exact HK.out _ _ ⟨upd U 0 (.pointer (some ⟨w4.heap.size, 0, none⟩)), by simp [upd], stStep (by decide) (by decide) h6 h7 h8 HG.out HW.out hgw (Below.refl _ _) (rfl)⟩
          · have e0 : U 0 = (.pointer (some ⟨w4.heap.size, 0, none⟩)) := HG.out 0 (by simp [hpre])
            have cb := HW.out.1.hx.of 0 _ rfl
            go_simp
            exact HK.out _ _ ⟨upd U 1 (.slice A4 n4 c4), by simp [upd, e0], stStep (by decide) (by decide) h6 h7 h8 HG.out HW.out hgw (Below.refl _ _) (rfl)⟩
          · go_simp
            exact HK.out _ _ ⟨upd U 2 (.pointer (some ⟨g, 0, none⟩)), by simp [upd], stStep (by decide) (by decide) h6 h7 h8 HG.out HW.out hgw (Below.refl _ _) (rfl)⟩
          · have e0 : U 2 = (.pointer (some ⟨g, 0, none⟩)) := HG.out 2 (by simp [hpre])
            have hw := HW.out.1
            rw [hLi] at hw
            have HW' := Lib.hid hw
            clear hw
            have h4 := hd4 hLi
            have h5 := hd5 hLi
            clear hd4 hd5
            go_simp
            go_wp2_with (go_at_call 74; refine (l20Val_any _ g _ _ HW'.out.dr.1 (by simp; omega) (by simp; omega) (by omega)).mono ?_; rintro e W5 ⟨u5, xs5, rfl, hl5, ho5, hd5⟩)
            refine HK.out _ _ ⟨upd U 3 u5, by simp [upd, e0], fun _ => ⟨fun j hj => ?_, by simpa [upd] using HW'.out.draw hgw hxb hd5, Nat.le_trans HW.out.2 hd5.2.size⟩, fun h => absurd h (by simp [upd, h6]), fun h => absurd h (by simp [upd, h7]), fun h => absurd h (by simp [upd, h8])⟩
            by_cases ej : j = 3
            · subst ej
              rw [upd_same]
              exact ⟨xs5, _, hl5, ho5, HW.out.2⟩
            · rw [upd_other _ _ ej] at hj ⊢
              have hg := HG.out j hj
              match j, hg with
              | 0, h => exact h
              | 1, h => exact h
              | 2, h => exact h
              | 4, _ => rw [h4] at hj; cases hj
              | 5, _ => rw [h5] at hj; cases hj
              | n + 6, _ => trivial
          · obtain ⟨xs, B, hxl, hown, hB⟩ := HG.out 3 (by simp [hpre])
            obtain ⟨A', c', e1, -, -⟩ := hown.ints.form
            have HOwn := Lib.hid hown
            clear hown
            go_simp
            exact HK.out _ _ ⟨upd U 4 (.agg #[.string ⟨#[122, 57]⟩, U 3]), by simp [upd, e1], stStep (by decide) (by decide) h6 h7 h8 HG.out HW.out hgw (Below.refl _ _) (⟨_, xs, B, rfl, hxl, HOwn.out, hB⟩)⟩
          · obtain ⟨u', xs, B, e0, hxl, hown, hB⟩ := HG.out 4 (by simp [hpre])
            obtain ⟨A', c', rfl, -, -⟩ := hown.ints.form
            have HOwn := Lib.hid hown
            clear hown
            go_simp
            exact HK.out _ _ ⟨upd U 5 (.slice (some ⟨W.heap.size, 0, none⟩) 1 1), by simp [upd, e0], stStep (by decide) (by decide) h6 h7 h8 HG.out HW.out hgw (belowOne W _) (⟨_, xs, B, W.heap.size, rfl, hxl, Held.new W #[.string ⟨#[122, 57]⟩, .slice A' xs.length c'] 95, HOwn.out.alloc _, hB⟩)⟩
        · rcases (by omega : i = 6 ∨ i = 7 ∨ i = 8) with rfl | rfl | rfl
          · have h7 := hd7 6 (by omega) hLi
            have h8 := hd8 6 (by omega) hLi
            obtain ⟨hG, hW, hzW⟩ := h1 hLi
            have HG := Lib.hid hG
            clear hG h1 hd4 hd5 hd6 hd7 hd8 h7' HZ
            simp at ho; subst ho; simp at hpre
            have hw := hW
            rw [hpre.2.2] at hw
            have e0 : U 1 = (.slice A4 n4 c4) := HG.out 1 (by simp [hpre])
            obtain ⟨u', xs, B, D, e1, hxl, hheld, hown, hB⟩ := HG.out 5 (by simp [hpre])
            obtain ⟨A', c', rfl, -, -⟩ := hown.ints.form
            have hrr := hw.hr.1
            refine step_append_item2 rfl (.tmp 41) (.tmp 45) rfl (w.heap.size + 1) _ (.slice A4 n4 c4) its (by simp [Act.eval, e0]) hw.own ⟨⟨#[122, 57]⟩, xs⟩ A' xs.length c' D (by simp [Act.eval, e1]) (by show 2 ≤ _; unfold maxLen; omega)
              (hown.toIn.keep (fun _ _ _ => rfl) (Nat.le_refl _) fun b _ hb => ⟨⟨by omega, by omega⟩, fun e => hvlt b e hB hb⟩) hheld (by omega) (by omega) fun v' W' ho hg hwh => ?_
            exact HK.out _ _ ⟨upd U 6 v', by simp [upd, Act.put], fun h => absurd h (by simp [upd]), fun _ _ => ⟨W, xs, hxl, by simpa using hw, hg, by rw [upd_same]; exact ho, by rw [upd_same]; exact hwh⟩, fun h => absurd h (by simp [upd, h7]), fun h => absurd h (by simp [upd, h8])⟩
          · have h8 := hd8 7 (by omega) hLi
            clear h1 hd4 hd5 hd6 hd7 hd8 h7'
            simp at ho; subst ho; simp at hpre
            have h6 : L 6 = true := by simp [hpre]
            go_simp
            exact HK.out _ _ ⟨upd U 7 (.pointer (some ⟨w4.heap.size, 0, none⟩)), by simp [upd], fun h => absurd h (by simp [upd, h6]), fun _ _ => by have := HZ.out h6 h8; simpa [upd] using this, fun _ => by simp [upd], fun h => absurd h (by simp [upd, h8])⟩
          · clear h1 hd4 hd5 hd6 hd7 hd8
            simp at ho; subst ho; simp at hpre
            have h6 : L 6 = true := by simp [hpre]
            have e0 : U 7 = (.pointer (some ⟨w4.heap.size, 0, none⟩)) := h7' (by simp [hpre])
            obtain ⟨W0, xs, hxl, hst, hg, hown, hwh⟩ := HZ.out h6 hLi
            have cb := (hst.xHeld hg).of 0 _ rfl
            have fb := (hst.xHeld hg).2.1 0
            obtain ⟨A8, n8, c8, e8⟩ := ownSlice hown
            have HF' := Lib.hid (hst.wrote hgw hxb hg hown hwh)
            clear hst hg hown hwh
            go_simp
            rw [← e8]
            exact HK.out _ _ ⟨U, by simp [e0], fun h => absurd h (by simp [upd, h6]), fun _ h => absurd h (by simp [upd]), fun _ => e0, fun _ => ⟨xs, hxl, HF'.out⟩⟩
      case hend =>
        rintro L a W hL ⟨U, rfl, -, -, -, h8⟩
        obtain ⟨xs, hxl, hst⟩ := h8 (hL 8 (by decide))
        obtain ⟨A8, n8, c8, e8⟩ := ownSlice hst.own
        have HS := Lib.hid hst
        clear hst
        generalize U 6 = v6 at *
        subst e8
        have d3' := HS.out.hx.of 0 _ rfl
        have r0 := HS.out.hr.of 0 _ rfl
        have rf := HS.out.hr.2.1 0
        go_wp2
        have q0 := (HS.out.fin hgw).1.of 0 _ rfl
        exact bodyPost_ret (v := .agg #[.slice A8 n8 c8]) (by simp [results, Tryz.results31, go_sem, q0]) rfl (HS.out.gives2 hgw (by simp; omega) (HF.out.snoc ⟨by show 2 ≤ 3; omega, hxl⟩) (by omega))
    · go_wp2
      go_loopw [] (fun wr => ∃ (vx : Value) (its : List Item), its.length ≤ 41 ∧ Fine4 its ∧ StW w g (P + 300 + 300 + 1 + 1) w4.heap.size vx its wr) (fun wr => 41 - boxLen wr w4.heap.size)
      case atStart => exact ⟨_, its, by omega, HF.out, H6.out⟩
      case round =>
        clear H6 HF d3 hz6 h40
        obtain ⟨vx, its, h41, hf, hst⟩ := hrel
        have hz : w4.heap.size < wr.heap.size := hst.hx.1
        obtain ⟨Av, cv, hvf, hcm, -⟩ := hst.own.items.form
        subst hvf
        unfold maxLen at hcm
        have HF := Lib.hid hf
        have H6 := Lib.hid hst
        have d3 := hst.hx.of 0 _ rfl
        have HL := Lib.hid (boxLen_at d3)
        clear hf hst
        by_cases hlt : its.length ≤ 40
        · have HI := Lib.hid (OwnInts.lit wr wr.heap.size (Nat.le_refl _) [1] (by unfold maxLen; simp))
          have H7 := Lib.hid ((H6.out.below hgw (belowOne wr (.cells #[.int .i64 1] 3))).below hgw (belowOne _ (.cells #[.string ⟨#[122, 57]⟩, .slice (some ⟨wr.heap.size, 0, none⟩) 1 1] 95)))
          have HU := Lib.hid (H6.out.src (Nat.le_refl _) ((HI.out.alloc (.cells #[.string ⟨#[122, 57]⟩, .slice (some ⟨wr.heap.size, 0, none⟩) 1 1] 95))))
          have hsrc := Held.new (wr.alloc (.cells #[.int .i64 1] 3)) #[.string ⟨#[122, 57]⟩, .slice (some ⟨wr.heap.size, 0, none⟩) 1 1] 95
          have z7 : (wr.alloc (.cells #[.int .i64 1] 3)).heap.size = wr.heap.size + 1 := by simp
          rw [z7] at hsrc
          have HS := Lib.hid hsrc
          clear hsrc z7
          go_wp2_with (at_builtin; refine wpl_append_item2 rfl _ _ rfl (w.heap.size + 1) _ _ its rfl H7.out.own ⟨⟨#[122, 57]⟩, [1]⟩ _ _ _ _ rfl (by show 2 ≤ _; unfold maxLen; omega) HU.out HS.out (by omega) (by simp; omega) ?_; intro v8 w8 ho8 hg8 hw8; obtain ⟨A8, c8, e8, -, -⟩ := ho8.items.form; subst e8; have H8 := Lib.hid (H7.out.wrote hgw hxb hg8 ho8 hw8); have x8 := (H7.out.xHeld hg8).of 0 _ rfl; have f8 := (H7.out.xHeld hg8).2.1 0; clear ho8 hg8 hw8)
          have h8 := H8.out
          simp only [List.length_append, List.length_cons, List.length_nil, Nat.zero_add] at h8
          have hl8 := boxLen_at (h8.hx.of 0 _ rfl)
          exact ⟨⟨_, its ++ [⟨⟨#[122, 57]⟩, [1]⟩], by simp; omega, HF.out.snoc ⟨by show 2 ≤ 3; omega, by simp⟩, h8⟩, by rw [HL.out, hl8]; omega⟩
        · have hfl : ¬ ((its.length : Int) ≤ 40) := by omega
          have r0 := H6.out.hr.of 0 _ rfl
          have rf := H6.out.hr.2.1 0
          go_wp2
          have q0 := (H6.out.fin hgw).1.of 0 _ rfl
          exact bodyPost_ret (v := .agg #[.slice Av its.length cv]) (by simp [results, Tryz.results31, go_sem, q0]) rfl (H6.out.gives2 hgw (by omega) HF.out (by omega))
end Go.Proofs.YtecdibpiojgppaaGreat
