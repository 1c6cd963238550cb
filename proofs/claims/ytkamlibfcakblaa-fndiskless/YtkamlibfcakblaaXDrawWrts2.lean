/- Texts that follow each other, merged: DrawWrts2, DrawReg, RegInv3. -/
import Derived.Test.YtkamlibfcakblaaXCopyI
import Derived.Test.YtkamlibfcakblaaXOwnWr
import Derived.Test.YtkamlibfcakblaaXOwnIt
import Derived.Test.YtkamlibfcakblaaXCopy
import Derived.Test.YtkamlibfcakblaaXGet

/- Drawn writes, each part in a block of its own. -/
namespace Go.Proofs.Ytkamlibfcakblaa
open Go.RowKit

theorem infoWrD : (Try.prog.info? 86).map (fun i => (i.zero, i.size, i.bytes)) = some (some (.agg #[.string ByteArray.empty, .bool false, .slice none 0 0]), wrSh.wd, 48) := by kernel_rfl
/-- No name is longer than a drawn one, no value either. -/
def Drawn1 (y : Wr) : Prop := y.key.size ≤ 1000002 ∧ y.val.length ≤ 4
theorem sh_drew {α : Type} {A : Sh α} {e : TypeId} {w w' : World} {S : Nat → Prop} {v : Value} {xs : List α} {g : Nat} {P : Int} (h : A.Own e w S v xs) (hd : Drew g P w w') (hg : ∀ b, S b → b ≠ g) : A.Own e w' S v xs :=
  h.keep fun b hb hlt => hd.2.block b hlt fun e => hg b hb (Option.some.inj e)

set_option maxRecDepth 100000 in
set_option maxHeartbeats 1000000 in
theorem l20Writes_own (w : World) (g : Nat) (P n : Int) (hr : Rds w g P) (hP0 : 0 ≤ P) (hP : P ≤ 700000000) (hn : n ≤ 1000000) :
    Calls Try.prog 115 #[.pointer (some ⟨g, 0, none⟩), .int .i64 n] w fun e w' => ∃ v ws, e = .returned v ∧ ws.length ≤ 6 ∧ (∀ y ∈ ws, Drawn1 y) ∧ wrSh.Own 86 w' (fun b => w.heap.size ≤ b ∧ b < w'.heap.size) v ws ∧ Drew g (P + 300) w w' := by
  have hgw := hr.lt
  have HA := Lib.hid (show Drew g P w (w.alloc (.cells #[] 86)) from ⟨hr.alloc _, World.grownBy_alloc _ _ _⟩)
  have HO := Lib.hid ((Sh.Own.lit0 wrSh 86 w).mono (S' := fun b => w.heap.size ≤ b) (fun b hb => by omega))
  clear hr
  go_enter Try.func115, Try.ntmps115
  go_wp2_with fail
  refine (pick_rds _ g _ _ HA.out.1 (by omega) (by omega)).mono ?_
  rintro e w2 ⟨k, rfl, hk0, hk1, hd2⟩
  obtain ⟨k, rfl⟩ := Int.eq_ofNat_of_zero_le hk0
  have hk : k < 6 := by have := hk1 (by omega); omega
  have HD2 := Lib.hid (HA.out.trans hd2)
  have HO2 := Lib.hid (sh_drew HO.out hd2 (fun b hb => by omega))
  clear hk0 hk1 hd2 HA HO
  go_wp2
  go_loopw [5, 6] (fun a b wr => ∃ (ws : List Wr) (j : Nat) (A0 : Option Addr) (c0 : Nat), a = .slice A0 ws.length c0 ∧ wrSh.Own 86 wr (fun b => w.heap.size ≤ b) a ws ∧ (∀ y ∈ ws, Drawn1 y) ∧ b = .int .i64 j ∧ j ≤ 5 ∧ ws.length + j ≤ 5 ∧ Drew g (P + 201 - 40 * j) w wr) (fun _ b _ => (intOf b).toNat)
  case atStart => exact ⟨[], k, _, _, rfl, HO2.out, fun _ h => absurd h (by simp), rfl, by omega, by simp; omega, HD2.out.1.more (by omega), HD2.out.2⟩
  case round =>
    clear HD2 HO2
    obtain ⟨ws, j, A0, c0, rfl, hown, hfi, rfl, hj2, hxj, hd⟩ := hrel
    have HO := Lib.hid hown
    have HD := Lib.hid hd
    have HFi := Lib.hid hfi
    have hz : w.heap.size ≤ wr.heap.size := hd.2.size
    clear hown hd hfi
    by_cases hj : 0 < j
    · go_wp2_with fail
      refine (l20Write_any _ g _ _ HD.out.1 (by omega) (by omega) (by omega)).mono ?_
      rintro e w3 ⟨s, d, v, xs, rfl, hs, hxs, hown3, hd3⟩
      obtain ⟨Av, cv, hvf, -, -⟩ := hown3.ints.form
      subst hvf
      have HD3 := Lib.hid (HD.out.trans hd3)
      have HQ := Lib.hid (Sh.Own.below (w' := w3.alloc (.cells #[.string s, .bool d, .slice Av xs.length cv] 86)) hown3.sh (belowOne w3 _))
      have HO3 := Lib.hid (Sh.Own.cap ((sh_drew HO.out hd3 (fun b hb => by omega)).keep (w' := w3) (fun _ _ _ => rfl)))
      have HO3b := Lib.hid ((show wrSh.Own 86 wr (fun b => w.heap.size ≤ b ∧ b < wr.heap.size) (.slice A0 ws.length c0) ws from HO.out.cap))
      have HO3c := Lib.hid ((sh_drew HO3b.out hd3 (fun b hb => by omega)).below (belowOne w3 (.cells #[.string s, .bool d, .slice Av xs.length cv] 86)))
      have HS3 := Lib.hid (Held.new w3 #[.string s, .bool d, .slice Av xs.length cv] 86)
      have hz3 : w.heap.size ≤ w3.heap.size := Nat.le_trans hz hd3.2.size
      have hzr := hd3.2.size
      clear hd3 hown3 HD HO HO3 HO3b
      go_wp2_with (at_builtin; refine wpl_one wrSh 34 86 _ 48 Try.underlying34 infoWrD rfl (by decide) (by omega) rfl _ _ rfl (fun b => w.heap.size ≤ b ∧ b < wr.heap.size) _ _ ws rfl HO3c.out w3.heap.size rfl [.string s, .bool d, .slice Av xs.length cv] ⟨s, d, xs⟩ (wr_own.2 ⟨_, rfl, by unfold maxLen; show s.size ≤ _; omega, HQ.out⟩) HS3.out (fun b hb hb2 => by have := hb.2; have := hb2.1; omega) (by omega) ?_; intro u w4 hown4 hg4 _; obtain ⟨A4, c4, hf4, -, -⟩ := hown4.row.form; rw [List.length_append, List.length_singleton] at hf4; subst hf4; have HO4 := Lib.hid hown4.cap; have HG4 := Lib.hid hg4; clear hown4 hg4)
      have HD4 := Lib.hid ((HD3.out.alloc _).grown HG4.out (fun k hk => (HO3c.out.blk k hk).1) hgw)
      have HO5 := Lib.hid (HO4.out.mono (S' := fun b => w.heap.size ≤ b) (fun b hb => by
        rcases hb.1 with h | h | h
        · exact h.1
        · have := h.1; omega
        · rw [allocSize] at h; omega))
      clear HD3 HO3c HG4 HO4 HQ HS3
      go_wp2
      go_roundw
      case rel => exact ⟨ws ++ [⟨s, d, xs⟩], j - 1, A4, c4, by rw [List.length_append, List.length_singleton], HO5.out, fun y hy => (by rcases List.mem_append.1 hy with h | h; exact HFi.out y h; rw [List.mem_singleton.1 h]; exact ⟨hs, hxs⟩), by go_num, by omega, by simp; omega, HD4.out.1.more (by omega), HD4.out.2⟩
      case measure => simp [intOf]; omega
    · go_wp2_with fail
      refine (odd_any _ g _ _ HD.out.1 (by omega) hn).mono ?_
      rintro e w5 ⟨bb, rfl, hbb, hd5⟩
      have HD5 := Lib.hid (HD.out.trans hd5)
      have HO5 := Lib.hid ((sh_drew HO.out hd5 (fun b hb => by omega)).cap)
      have hz5 : w.heap.size ≤ w5.heap.size := Nat.le_trans hz hd5.2.size
      clear hbb hd5 HD HO hz
      cases bb
      · go_wp2
        go_ret
        exact ⟨_, ws, rfl, by omega, HFi.out, HO5.out, HD5.out.1.more (by omega), HD5.out.2⟩
      · go_wp2_with fail
        refine (l20Write_any _ g _ _ HD5.out.1 (by omega) (by omega) (by omega)).mono ?_
        rintro e w3 ⟨s, d, v, xs, rfl, hs, hxs, hown3, hd3⟩
        obtain ⟨Av, cv, hvf, -, -⟩ := hown3.ints.form
        subst hvf
        have HD3 := Lib.hid (HD5.out.trans hd3)
        have HQ := Lib.hid (Sh.Own.below (w' := w3.alloc (.cells #[.string s, .bool d, .slice Av xs.length cv] 86)) hown3.sh (belowOne w3 _))
        have HO3c := Lib.hid ((sh_drew HO5.out hd3 (fun b hb => by omega)).below (belowOne w3 (.cells #[.string s, .bool d, .slice Av xs.length cv] 86)))
        have HS3 := Lib.hid (Held.new w3 #[.string s, .bool d, .slice Av xs.length cv] 86)
        have hz3 : w.heap.size ≤ w3.heap.size := Nat.le_trans hz5 hd3.2.size
        have hzr := hd3.2.size
        clear hd3 hown3 HD5 HO5
        go_wp2_with (at_builtin; refine wpl_one wrSh 34 86 _ 48 Try.underlying34 infoWrD rfl (by decide) (by omega) rfl _ _ rfl (fun b => w.heap.size ≤ b ∧ b < w5.heap.size) _ _ ws rfl HO3c.out w3.heap.size rfl [.string s, .bool d, .slice Av xs.length cv] ⟨s, d, xs⟩ (wr_own.2 ⟨_, rfl, by unfold maxLen; show s.size ≤ _; omega, HQ.out⟩) HS3.out (fun b hb hb2 => by have := hb.2; have := hb2.1; omega) (by omega) ?_; intro u w4 hown4 hg4 _; have HO4 := Lib.hid hown4.cap; have HG4 := Lib.hid hg4; clear hown4 hg4)
        have HD4 := Lib.hid ((HD3.out.alloc _).grown HG4.out (fun k hk => (HO3c.out.blk k hk).1) hgw)
        have HO5 := Lib.hid (HO4.out.mono (S' := fun b => w.heap.size ≤ b ∧ b < w4.heap.size) (fun b hb => by
          refine ⟨?_, hb.2⟩
          rcases hb.1 with h | h | h
          · exact h.1
          · have := h.1; omega
          · rw [allocSize] at h; omega))
        clear HD3 HO3c HG4 HO4 HQ HS3
        go_wp2
        go_ret
        exact ⟨u, ws ++ [⟨s, d, xs⟩], rfl, by simp; omega, fun y hy => (by rcases List.mem_append.1 hy with h | h; exact HFi.out y h; rw [List.mem_singleton.1 h]; exact ⟨hs, hxs⟩), HO5.out, HD4.out.1.more (by omega), HD4.out.2⟩

end Go.Proofs.Ytkamlibfcakblaa

/- Words for regions that draw: what a slot may hold while numbers are drawn. -/
namespace Go.Proofs.Ytkamlibfcakblaa
open Go.RowKit

/-- A row of so many numbers in bounds, not the reader's block. -/
def rowIn (w : World) (g n : Nat) (lo hi : Int) (u : Value) : Prop := ∃ B, u = .slice (some ⟨B, 0, none⟩) n n ∧ B ≠ g ∧ B < w.heap.size ∧ ∀ j, j < n → ∃ x, w.cell? ⟨B, j, none⟩ = some x ∧ intIn lo hi x
/-- The place of a number in bounds. -/
def atIn (w : World) (g : Nat) (lo hi : Int) (u : Value) : Prop := ∃ B j x, u = .pointer (some ⟨B, j, none⟩) ∧ B ≠ g ∧ B < w.heap.size ∧ w.cell? ⟨B, j, none⟩ = some x ∧ intIn lo hi x
theorem rowIn_stable {w w' : World} {g n : Nat} {lo hi : Int} {u : Value} (h : w.grownBy w' (some g)) : rowIn w g n lo hi u → rowIn w' g n lo hi u := by
  rintro ⟨B, h1, h2, h3, h4⟩
  have hz := h.size
  exact ⟨B, h1, h2, by omega, fun j hj => by rw [World.cell?_of_block (h.block B h3 (fun e => h2 (Option.some.inj e)))]; exact h4 j hj⟩
theorem atIn_stable {w w' : World} {g : Nat} {lo hi : Int} {u : Value} (h : w.grownBy w' (some g)) : atIn w g lo hi u → atIn w' g lo hi u := by
  rintro ⟨B, j, x, h1, h2, h3, h4, h5⟩
  have hz := h.size
  exact ⟨B, j, x, h1, h2, by omega, by rw [World.cell?_of_block (h.block B h3 (fun e => h2 (Option.some.inj e)))]; exact h4, h5⟩
theorem intIn.more {lo hi lo' hi' : Int} {u : Value} (h : intIn lo hi u) (h1 : lo' ≤ lo) (h2 : hi ≤ hi') : intIn lo' hi' u := by
  obtain ⟨m, e, a, b⟩ := h
  exact ⟨m, e, by omega, by omega⟩
/-- A literal of numbers in bounds is a row. -/
theorem rowIn_lit {w : World} {g : Nat} {lo hi : Int} (l : List Int) (hg : g < w.heap.size) (hl : ∀ x ∈ l, lo ≤ x ∧ x < hi) : rowIn (w.alloc (.cells (l.map (Value.int .i64)).toArray 3)) g l.length lo hi (.slice (some ⟨w.heap.size, 0, none⟩) l.length l.length) := by
  refine ⟨w.heap.size, rfl, by omega, by simp, fun j hj => ⟨.int .i64 l[j], ?_, l[j], rfl, hl _ (List.getElem_mem hj)⟩⟩
  exact (Held.new w (l.map (Value.int .i64)).toArray 3).of j _ (by simp [hj])
theorem put7_far (w : World) (b : Nat) (b0 b1 b2 b3 b4 b5 b6 : Value) {c : Nat} (h : c ≠ b) : (put7 w b b0 b1 b2 b3 b4 b5 b6).heap[c]? = w.heap[c]? := by
  unfold put7
  rw [Below.heap_setCell _ ⟨b, 6, none⟩ _ c h, Below.heap_setCell _ ⟨b, 5, none⟩ _ c h, Below.heap_setCell _ ⟨b, 4, none⟩ _ c h, Below.heap_setCell _ ⟨b, 3, none⟩ _ c h, Below.heap_setCell _ ⟨b, 2, none⟩ _ c h, Below.heap_setCell _ ⟨b, 1, none⟩ _ c h, Below.heap_setCell _ ⟨b, 0, none⟩ _ c h]

end Go.Proofs.Ytkamlibfcakblaa

/- A region that draws its order, with edges that bind in some orders alone. Nothing of the program. -/
namespace Go.Proofs.Ytkamlibfcakblaa

section
variable {P : Program} {ops : Array Oper} {Q : Exit → Act → World → Prop}
/-- Each operation keeps I, whatever has come up before it; behind all I gives the post. -/
theorem wpAny_inv3 (I : (Nat → Bool) → Act → World → Prop)
    (hback : ∀ (i : Nat) (o : Oper), ops[i]? = some o → ∀ e ∈ o.after, Region.binds .any e = true → e.on < i)
    (hstep : ∀ (L : Nat → Bool) (a : Act) (w : World) (i : Nat) (o : Oper), ops[i]? = some o → L i = false → (∀ e ∈ o.after, Region.binds .any e = true → L e.on = true) → I L a w →
      ∀ K : Act → World → Prop, (∀ a' w', I (upd L i true) a' w' → K a' w') → if Region.wanted o (yielded ops a.tmps) = true then Oper.wp P o a w K Q else K (a.put o.dst undef) w)
    (hend : ∀ L a w, (∀ i, i < ops.size → L i = true) → I L a w → Q .normal a w) :
    ∀ (fuel : Nat) (l : Array Bool) (a : Act) (w : World), l.size = ops.size → left l ≤ fuel → I (fun j => l.getD j false) a w → wpAny P .any ops Q fuel l a w := by
  have hdone : ∀ (l : Array Bool), l.size = ops.size → Region.ready .any ops l = [] → ∀ i, i < ops.size → l.getD i false = true := by
    intro l hl hr i
    induction i using Nat.strongRecOn with
    | _ i ih =>
      intro hi
      cases hc : l.getD i false with
      | true => rfl
      | false =>
        have ho : ops[i]? = some ops[i] := Array.getElem?_eq_getElem hi
        have hm : i ∈ Region.ready .any ops l := by
          rw [mem_ready]
          refine ⟨?_, ops[i], ho, ?_⟩
          · simp only [Array.getD_eq_getD_getElem?] at hc ⊢
            rw [Array.getElem?_eq_getElem (by omega)] at hc ⊢
            simpa using hc
          · intro e he hbi
            exact ih e.on (hback i _ ho e he hbi) (Nat.lt_trans (hback i _ ho e he hbi) hi)
        rw [hr] at hm
        cases hm
  intro fuel
  induction fuel with
  | zero =>
    intro l a w hl hn hI
    have hr : Region.ready .any ops l = [] := by
      cases hr : Region.ready .any ops l with
      | nil => rfl
      | cons i rs =>
        have hm : i ∈ Region.ready .any ops l := by rw [hr]; simp
        obtain ⟨h1, o, ho, _⟩ := mem_ready.1 hm
        have hi : i < l.size := by rw [hl]; exact (Array.getElem?_eq_some_iff.1 ho).1
        have hf : l[i]? = some false := by
          rw [Array.getElem?_eq_getElem hi]
          simp only [Array.getD_eq_getD_getElem?, Array.getElem?_eq_getElem hi] at h1
          simpa using h1
        have := left_set hf
        omega
    exact ⟨hr, hend _ a w (hdone l hl hr) hI⟩
  | succ fuel ih =>
    intro l a w hl hn hI
    refine ⟨fun hr => hend _ a w (hdone l hl hr) hI, fun i hi => ?_⟩
    obtain ⟨h1, o, ho, h2⟩ := mem_ready.1 hi
    have hil : i < l.size := by rw [hl]; exact (Array.getElem?_eq_some_iff.1 ho).1
    have hf : l[i]? = some false := by
      rw [Array.getElem?_eq_getElem hil]
      simp only [Array.getD_eq_getD_getElem?, Array.getElem?_eq_getElem hil] at h1
      simpa using h1
    refine wpOp_step ho fun K hK => ?_
    refine hstep (fun j => l.getD j false) a w i o ho (by simp [Array.getD_eq_getD_getElem?, hf]) (fun e he hbi => h2 e he hbi) hI K fun a' w' h => hK a' w' ?_
    refine ih _ a' w' (by simpa using hl) (by have := left_set hf; omega) ?_
    have he : (fun j => (l.setIfInBounds i true).getD j false) = upd (fun j => l.getD j false) i true := by
      funext j
      simp only [Array.getD_eq_getD_getElem?, Array.getElem?_setIfInBounds, upd]
      by_cases hj : i = j
      · subst hj; simp [hil]
      · simp [hj, Ne.symm hj]
    rw [he]
    exact h

theorem wp_region_inv3 {id : Nat} {a : Act} {w : World} (hm : P.follows .mixedOrders = true) (I : (Nat → Bool) → Act → World → Prop)
    (hback : ∀ (i : Nat) (o : Oper), ops[i]? = some o → ∀ e ∈ o.after, Region.binds .any e = true → e.on < i)
    (h0 : I (fun _ => false) a w.drew)
    (hstep : ∀ (L : Nat → Bool) (a : Act) (w : World) (i : Nat) (o : Oper), ops[i]? = some o → L i = false → (∀ e ∈ o.after, Region.binds .any e = true → L e.on = true) → I L a w →
      ∀ K : Act → World → Prop, (∀ a' w', I (upd L i true) a' w' → K a' w') → if Region.wanted o (yielded ops a.tmps) = true then Oper.wp P o a w K Q else K (a.put o.dst undef) w)
    (hend : ∀ L a w, (∀ i, i < ops.size → L i = true) → I L a w → Q .normal a w) : (Code.region id ops true).wp P Q a w := by
  refine wp_region_any hm (wpAny_inv3 I hback hstep hend _ _ _ _ (by simp) ?_ ?_)
  · unfold left; exact Nat.le_trans (List.length_filter_le _ _) (by simp)
  · have he : (fun j => (Array.replicate ops.size false).getD j false) = fun _ => false := by
      funext j
      simp only [Array.getD_eq_getD_getElem?, Array.getElem?_replicate]
      split <;> rfl
    rw [he]; exact h0
end


/-- All edges of a region that bind go back. -/
def backB3 (ops : Array Oper) : Bool := (List.range ops.size).all fun i => match ops[i]? with
  | some o => o.after.all fun e => decide (e.on < i) || !Region.binds .any e
  | none => true
theorem backB3_at {ops : Array Oper} (h : backB3 ops = true) (i : Nat) (o : Oper) (ho : ops[i]? = some o) : ∀ e ∈ o.after, Region.binds .any e = true → e.on < i := by
  intro e he hbi
  have hi : i < ops.size := (Array.getElem?_eq_some_iff.1 ho).1
  have := List.all_eq_true.1 h i (List.mem_range.2 hi)
  simp only [ho] at this
  have := Array.all_eq_true_iff_forall_mem.1 this e he
  simpa [hbi] using this

/-- What has come up has come up behind all that it waits for in each order. -/
def Down3 (ops : Array Oper) (L : Nat → Bool) : Prop := ∀ (i : Nat) (o : Oper), ops[i]? = some o → L i = true → ∀ e ∈ o.after, Region.binds .any e = true → L e.on = true
theorem Down3.upd {ops : Array Oper} {L : Nat → Bool} {i : Nat} {o : Oper} (h : Down3 ops L) (ho : ops[i]? = some o) (hp : ∀ e ∈ o.after, Region.binds .any e = true → L e.on = true) : Down3 ops (upd L i true) := by
  intro j oj hj hL e he hbi
  by_cases e1 : e.on = i
  · rw [e1, upd_same]
  · rw [upd_other _ _ e1]
    by_cases e2 : j = i
    · subst e2
      rw [ho] at hj
      injection hj with hj
      subst hj
      exact hp e he hbi
    · rw [upd_other _ _ e2] at hL
      exact h j oj hj hL e he hbi
theorem wp_region_inv4 {P : Program} {ops : Array Oper} {Q : Exit → Act → World → Prop} {id : Nat} {a : Act} {w : World} (hm : P.follows .mixedOrders = true) (I : (Nat → Bool) → Act → World → Prop) (hback : backB3 ops = true)
    (h0 : I (fun _ => false) a w.drew)
    (hstep : ∀ (L : Nat → Bool) (a : Act) (w : World) (i : Nat) (o : Oper), ops[i]? = some o → L i = false → (∀ e ∈ o.after, Region.binds .any e = true → L e.on = true) → Down3 ops L → I L a w →
      ∀ K : Act → World → Prop, (∀ a' w', I (upd L i true) a' w' → K a' w') → if Region.wanted o (yielded ops a.tmps) = true then Oper.wp P o a w K Q else K (a.put o.dst undef) w)
    (hend : ∀ L a w, (∀ i, i < ops.size → L i = true) → I L a w → Q .normal a w) : (Code.region id ops true).wp P Q a w :=
  wp_region_inv3 hm (fun L a w => Down3 ops L ∧ I L a w) (backB3_at hback) ⟨fun _ _ _ h => by simp at h, h0⟩
    (fun L a w i o ho hL hp hI K hK => hstep L a w i o ho hL hp hI.1 hI.2 K fun a' w' h => hK a' w' ⟨hI.1.upd ho hp, h⟩)
    (fun L a w hL hI => hend L a w hL hI.2)
def reach3 (ops : Array Oper) : Nat → Nat → Nat → Bool
  | 0, i, j => i == j
  | f + 1, i, j => i == j || (match ops[i]? with
    | some o => o.after.any fun e => Region.binds .any e && reach3 ops f e.on j
    | none => false)
theorem Down3.reach {ops : Array Oper} {L : Nat → Bool} (h : Down3 ops L) : ∀ (f i j : Nat), reach3 ops f i j = true → L i = true → L j = true := by
  intro f
  induction f with
  | zero => intro i j hr hL; simp [reach3] at hr; subst hr; exact hL
  | succ f ih =>
    intro i j hr hL
    unfold reach3 at hr
    rcases Bool.or_eq_true_iff.1 hr with h1 | h1
    · simp at h1; subst h1; exact hL
    · split at h1
      · next o ho =>
        obtain ⟨n, hn, he⟩ := Array.any_eq_true.1 h1
        rw [Bool.and_eq_true] at he
        exact ih _ _ he.2 (h i o ho hL _ (Array.getElem_mem hn) he.1)
      · cases h1
theorem Down3.not {ops : Array Oper} {L : Nat → Bool} (h : Down3 ops L) (f m i : Nat) (hr : reach3 ops f m i = true) (hL : L i = false) : L m = false := by
  cases hm : L m with
  | false => rfl
  | true => have := h.reach f m i hr hm; rw [hL] at this; cases this
theorem Down3.notYet {ops : Array Oper} {L : Nat → Bool} (h : Down3 ops L) (f n m : Nat) (hr : ((List.range n).all fun j => reach3 ops f m j) = true) {i : Nat} (hi : i < n) (hL : L i = false) : L m = false :=
  h.not f m i (List.all_eq_true.1 hr i (List.mem_range.2 hi)) hL

end Go.Proofs.Ytkamlibfcakblaa
