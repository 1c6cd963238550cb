/- Texts that follow each other, merged: RegLast, GloWrite. -/
import Derived.Deep.RegionHeld3
import Derived.Test.YtmbkhohgciakfaaXCopyI
import Derived.Test.YtmbkhohgciakfaaXStoMap

/- A region that draws its order and whose last operation may break what is held of the world: that operation waits for all that is taken first. Nothing of the program. -/
namespace Go.Proofs.Ytmbkhohgciakfaa

section
variable {P : Program} {md : Region.Mode} {ops : Array Oper} {Q : Exit → Act → World → Prop} {S : World → Prop}

/-- Whatever order is picked: S holds behind each operation but number z. -/
def wpAnyL (P : Program) (md : Region.Mode) (ops : Array Oper) (Q : Exit → Act → World → Prop) (S : World → Prop) (z : Nat) : Nat → Array Bool → Act → World → Prop
  | 0, l, a, w => Region.ready md ops l = [] ∧ Q .normal a w
  | n + 1, l, a, w => (Region.ready md ops l = [] → Q .normal a w) ∧
    ∀ i ∈ Region.ready md ops l, wpOp P ops Q i (fun a' w' => (i ≠ z → S w') ∧ wpAnyL P md ops Q S z n (l.setIfInBounds i true) a' w') a w
theorem wpAny_of_last {z : Nat} : ∀ (n : Nat) (l : Array Bool) (a : Act) (w : World), wpAnyL P md ops Q S z n l a w → wpAny P md ops Q n l a w
  | 0, _, _, _, h => h
  | n + 1, _, _, _, h => ⟨h.1, fun i hi => wpOp_mono (fun a' w' k => wpAny_of_last n _ a' w' k.2) (h.2 i hi)⟩
/-- Operation z waits for operation i. -/
def waits (md : Region.Mode) (ops : Array Oper) (z i : Nat) : Bool := match ops[z]? with
  | some o => o.after.any fun e => e.on == i && Region.binds md e
  | none => false

theorem wpAnyL_first {z i : Nat} {oi : Oper} {v : Value} (hi : ops[i]? = some oi) (hsel : ∀ (j : Nat) (o : Oper) cs b, ops[j]? = some o → o.op ≠ .select cs b)
    (hQ : ∀ c a w, Q (.panic c) (a.put oi.dst v) w → Q (.panic c) a w) (hz : waits md ops z i = true) :
    ∀ (n : Nat) (l : Array Bool) (a : Act) (w : World),
      (∀ j oj, ops[j]? = some oj → j ≠ i → l.getD j true = false → (∀ e ∈ oj.after, Region.binds md e = true → e.on ≠ i) → oi.apart ops oj = true) →
      i ∈ Region.ready md ops l → YieldsIf P ops S oi v a → S w →
      wpAnyL P md ops Q S z n (l.setIfInBounds i true) (a.put oi.dst v) w → wpAnyL P md ops Q S z (n + 1) l a w := by
  intro n
  induction n with
  | zero =>
    intro l a w _ hr hy hS H
    refine ⟨fun h => absurd (h ▸ hr) (by simp), fun j hj => ?_⟩
    by_cases e : j = i
    · subst e; exact hy.wpOp hi hS ⟨fun _ => hS, H⟩
    · exact absurd (H.1 ▸ ready_mono hj e) (by simp)
  | succ n ih =>
    intro l a w hfree hr hy hS H
    refine ⟨fun h => absurd (h ▸ hr) (by simp), fun j hj => ?_⟩
    by_cases e : j = i
    · subst e; exact hy.wpOp hi hS ⟨fun _ => hS, H⟩
    · obtain ⟨hun, oj, hoj, hall⟩ := mem_ready.1 hj
      have hno : ∀ ed ∈ oj.after, Region.binds md ed = true → ed.on ≠ i := by
        intro ed he hb heq
        have h1 := hall ed he hb
        have h0 := (mem_ready.1 hr).1
        rw [heq] at h1
        rcases Nat.lt_or_ge i l.size with h' | h'
        · simp [h'] at h0 h1; rw [h0] at h1; cases h1
        · simp [Array.getElem?_eq_none h'] at h1
      have hjz : j ≠ z := by
        rintro rfl
        unfold waits at hz
        rw [hoj] at hz
        obtain ⟨m, hm, he⟩ := Array.any_eq_true.1 hz
        simp only [Bool.and_eq_true, beq_iff_eq] at he
        exact hno _ (Array.getElem_mem hm) he.2 he.1
      have h2 := wpOp_putIf hoj (hfree j oj hoj e hun hno) (fun cs b => hsel i oi cs b hi) (fun cs b => hsel j oj cs b hoj) hQ hy
        (wpOp_mono (K' := fun a' w' => S w' ∧ wpAnyL P md ops Q S z n ((l.setIfInBounds i true).setIfInBounds j true) a' w') (fun a' w' k => ⟨k.1 hjz, k.2⟩) (H.2 j (ready_mono hj e)))
      refine wpOp_mono (fun a' w' k => ⟨fun _ => k.2.1, ih (l.setIfInBounds j true) a' w' (fun q oq hq hqi hqu hqn => hfree q oq hq hqi ?_ hqn) (ready_mono hr (Ne.symm e)) k.1 k.2.1 ?_⟩) h2
      · by_cases ejq : j = q
        · subst ejq; exact hun
        · rw [getD_set_ne true ejq] at hqu; exact hqu
      · rw [Array.setIfInBounds_comm _ _ e]; exact k.2.2

/-- Taken first. -/
theorem take_l (i d : Nat) {z : Nat} {oi : Oper} {v : Value} {n : Nat} {l : Array Bool} {a : Act} {w : World} (hi : ops[i]? = some oi) (hd : oi.dst = some d)
    (hs : Region.noSelect ops = true) (hf : Region.free md ops l i = true) (hr : (Region.ready md ops l).contains i = true) (hz : waits md ops z i = true)
    (hQ : ∀ c a w, Q (.panic c) (a.put oi.dst v) w → Q (.panic c) a w) (hw : Region.wanted oi (yielded ops a.tmps) = true) (hy : ∀ w, S w → (execOp a.eval oi).run P w = .ok (.value v) w) (hS : S w)
    (h : wpAnyL P md ops Q S z n (l.setIfInBounds i true) (a.put (some d) v) w) : wpAnyL P md ops Q S z (n + 1) l a w :=
  wpAnyL_first hi (Region.noSelect_spec hs) hQ hz n l a w (Region.free_spec hi hf) (by simpa using hr) (.inl ⟨hw, hy⟩) hS (by rw [hd]; exact h)
/-- The one that may come up comes up. -/
theorem one_l (i : Nat) {z : Nat} {o : Oper} {n : Nat} {l : Array Bool} {a : Act} {w : World} (ho : ops[i]? = some o) (hr : Region.ready md ops l = [i])
    (h : ∀ K : Act → World → Prop, Shut (∀ a w, (i ≠ z → S w) → ((i ≠ z → S w) → wpAnyL P md ops Q S z n (l.setIfInBounds i true) a w) → K a w) → if Region.wanted o (yielded ops a.tmps) = true then Oper.wp P o a w K Q else K (a.put o.dst undef) w) :
    wpAnyL P md ops Q S z (n + 1) l a w := by
  refine ⟨fun h0 => absurd (h0 ▸ hr) (by simp), fun j hj => ?_⟩
  rw [hr] at hj
  obtain rfl : j = i := by simpa using hj
  exact wpOp_step ho fun K hK => h K fun a w hS hW => hK a w ⟨hS, hW hS⟩
theorem done_l {z : Nat} {l : Array Bool} {a : Act} {w : World} (hr : Region.ready md ops l = []) (h : Q .normal a w) : ∀ n, wpAnyL P md ops Q S z n l a w
  | 0 => ⟨hr, h⟩
  | _ + 1 => ⟨fun _ => h, by rw [hr]; simp⟩
theorem region_l {id : Nat} {a : Act} {w : World} (z : Nat) (hm : P.follows .mixedOrders = true) (hS : S w.drew)
    (h : S w.drew → wpAnyL P .any ops Q S z ops.size (Array.replicate ops.size false) a w.drew) : (Code.region id ops true).wp P Q a w :=
  wp_region_any hm (wpAny_of_last _ _ _ _ (h hS))
end

end Go.Proofs.Ytmbkhohgciakfaa

/- What waits, and how the program writes it. -/
namespace Go.Proofs.Ytmbkhohgciakfaa
open Go.RowKit

/-- What a place will write. -/
structure Pend where
  place : Int
  writes : List Wr
def pendSh : Sh Pend := (Sh.int.pair wrsSh).conv (fun x => (x.place, x.writes)) (fun p => ⟨p.1, p.2⟩) rfl
section
variable {w : World} {B : Nat} {S : Nat → Prop} {v : Value}
theorem pend_rel {cs : List Value} {x : Pend} : pendSh.rel w B cs x ↔ ∃ u, cs = [.int .i64 x.place, u] ∧ wrSh.Row w B u x.writes := by
  constructor
  · rintro ⟨c1, c2, rfl, h1, u, rfl, h3⟩
    have h1' : c1 = [.int .i64 x.place] := h1
    subst h1'
    exact ⟨u, rfl, h3⟩
  · rintro ⟨u, rfl, h3⟩
    exact ⟨_, _, rfl, rfl, u, rfl, h3⟩
theorem pend_own {cs : List Value} {x : Pend} : pendSh.own w S cs x ↔ ∃ u, cs = [.int .i64 x.place, u] ∧ wrSh.Own 54 w S u x.writes := by
  constructor
  · rintro ⟨c1, c2, S1, S2, rfl, h1, ⟨u, rfl, h3⟩, -, s2, -⟩
    have h1' : c1 = [.int .i64 x.place] := h1
    subst h1'
    exact ⟨u, rfl, h3.mono s2⟩
  · rintro ⟨u, rfl, h3⟩
    exact ⟨_, _, fun _ => False, S, rfl, rfl, ⟨u, rfl, h3⟩, fun _ h => h.elim, fun _ h => h, fun _ h _ => h⟩
end
/-- What writing all that waits does to what some places keep. -/
def putP (xs : List Sto) (p : Pend) : List Sto := xs.set (p.place - 1).toNat ⟨stoDo ((xs[(p.place - 1).toNat]?).elim [] (·.items)) p.writes⟩
theorem putP_len (xs : List Sto) (p : Pend) : (putP xs p).length = xs.length := by unfold putP; rw [List.length_set]

/-- What holds while all that waits is written. -/
structure PutI (w : World) (p : Nat) (us uw : Value) (ps : List Pend) (S1 S2 : Nat → Prop) (W : World) (ys : List Sto) : Prop where
  held : Held W p [us, uw]
  own : stoSh.Own 36 W (fun b => S1 b ∨ w.heap.size ≤ b) us ys
  pend : pendSh.Own 99 W (fun b => S2 b ∧ b < w.heap.size) uw ps
  out : Outs S1 w W
section
variable {w W W' : World} {p : Nat} {us uw : Value} {ps : List Pend} {S1 S2 : Nat → Prop} {ys : List Sto}
theorem PutI.next (h : PutI w p us uw ps S1 S2 W ys) (hb : Below W.heap.size W W') : PutI w p us uw ps S1 S2 W' ys :=
  ⟨h.held.below hb h.held.1, h.own.below hb, h.pend.below hb, h.out.trans (Outs.of_below hb)⟩
theorem PutI.step (h : PutI w p us uw ps S1 S2 W ys) (hd : ∀ b, S1 b → ¬ S2 b) (hp1 : ¬ S1 p) (hpw : p < w.heap.size) (hb : Below W.heap.size W W') {i g cap : Nat} (hi : i < ys.length) (hv : us = .slice (some ⟨g, 0, none⟩) ys.length cap) (hSg : S1 g ∨ w.heap.size ≤ g) {u : Value} {its : List Item} (ho : itSh.Own 59 W' (fun b => W.heap.size ≤ b ∧ b < W'.heap.size) u its) :
    PutI w p us uw ps S1 S2 (W'.setCell ⟨g, i, none⟩ u) (ys.set i ⟨its⟩) := by
  have hgp : p ≠ g := fun e => by subst e; rcases hSg with h' | h'; exact hp1 h'; omega
  have hz := h.out.size
  have hn := h.next hb
  refine ⟨hn.held.farS (p := ⟨g, i, none⟩) hgp u, ?_, hn.pend.keep fun b h1 _ => Below.heap_setCell _ _ _ _ ?_, ?_⟩
  · have h1 := h.own.cap.put hi hv (fun b _ hlt => hb.block b hlt) (sto_own.2 ⟨u, rfl, ho⟩) (fun b h1 h2 => by omega)
    have e1 : i * stoSh.wd = i := Nat.mul_one _
    rw [e1] at h1
    exact h1.mono fun b hb => by rcases hb with hb | hb; exact hb.1; right; omega
  · intro e
    have e' : b = g := e
    subst e'
    rcases hSg with h' | h'
    · exact hd _ h' h1.1
    · omega
  · have h2 : Outs (fun b => S1 b ∨ w.heap.size ≤ b) w W' := hn.out.mono fun _ _ h => .inl h
    exact (h2.trans (Outs.of_set W' ⟨g, i, none⟩ u hSg)).mono fun b hb h => h.resolve_right (by omega)
theorem putP_eq {x : Pend} {i : Nat} {y : Sto} (hi : x.place = (i : Int) + 1) (hy : ys[i]? = some y) : putP ys x = ys.set i ⟨stoDo y.items x.writes⟩ := by
  unfold putP
  have : (x.place - 1).toNat = i := by omega
  rw [this, hy]; rfl
end

set_option maxRecDepth 100000 in
set_option maxHeartbeats 4000000 in
theorem write_any (w : World) (p : Nat) (us uw : Value) (xs : List Sto) (ps : List Pend) (S1 S2 : Nat → Prop) (hp : Held w p [us, uw]) (hus : stoSh.Own 36 w S1 us xs) (huw : pendSh.Own 99 w S2 uw ps) (hd : ∀ b, S1 b → ¬ S2 b) (hp1 : ¬ S1 p) (hok : ∀ x ∈ ps, 1 ≤ x.place ∧ x.place ≤ xs.length) (hl : xs.length ≤ 1048576) :
    Calls Try.prog 36 #[.pointer (some ⟨p, 0, none⟩)] w fun e w' => e = .returned (.tuple #[]) ∧ Held w' p [us, uw] ∧ stoSh.Own 36 w' (fun b => S1 b ∨ w.heap.size ≤ b) us (ps.foldl putP xs) ∧ Outs S1 w w' := by
  obtain ⟨A, c, rfl, hc2, hc1⟩ := huw.row.form
  unfold maxLen at hc2
  have HP := Lib.hid (show PutI w p us (.slice A ps.length c) ps S1 S2 w xs from ⟨hp, hus.mono fun b h => .inl h, huw.cap, Outs.refl _ _⟩)
  have p0 := hp.of 0 _ rfl
  have p1 := hp.of 1 _ rfl
  have HOk := Lib.hid hok
  have hpw : p < w.heap.size := hp.1
  clear hp hus huw hok
  go_enter Try.func36, Try.ntmps36
  go_wp2
  clear p0 p1
  go_loopw [10] (fun i wr => ∃ (k : Nat) (ys : List Sto), k ≤ ps.length ∧ i = .int .i64 k ∧ ys = (ps.take k).foldl putP xs ∧ ys.length = xs.length ∧ PutI w p us (.slice A ps.length c) ps S1 S2 wr ys) (fun i _ => ps.length - (intOf i).toNat)
  case atStart => exact ⟨0, xs, Nat.zero_le _, rfl, rfl, rfl, HP.out⟩
  case round =>
    clear HP
    obtain ⟨k, ys, hk, rfl, hys, hyl, hP⟩ := hrel
    by_cases hlt : k < ps.length
    · obtain ⟨b, off, c', x, cs, e1, hx, hB, hr, hcell⟩ := hP.pend.row.at_ (k := k) hlt
      obtain ⟨ux, rfl, hux⟩ := pend_rel.1 hr
      obtain ⟨Ax, cx, rfl, -, -⟩ := hux.form
      injection e1 with e1a e1b e1c
      subst e1a
      obtain ⟨hp1', hp2'⟩ := HOk.out x (List.mem_of_getElem? hx)
      have d0 : wr.cell? ⟨b, off + k * 2, none⟩ = some (.int .i64 x.place) := hcell 0 _ rfl
      have d1 : wr.cell? ⟨b, off + k * 2 + 1, none⟩ = some _ := hcell 1 _ rfl
      obtain ⟨i, hi⟩ : ∃ i : Nat, x.place = (i : Int) + 1 := ⟨(x.place - 1).toNat, by omega⟩
      have hiy : i < ys.length := by omega
      obtain ⟨g, cap, y, cy, Sj, e2, hy, hSg, hgw, hoy, hSj, hcy, hfr, -, -⟩ := hP.own.at_ (j := i) hiy
      obtain ⟨uy, rfl, huy⟩ := sto_own.1 hoy
      obtain ⟨Ay, cyc, rfl, -, -⟩ := huy.row.form
      subst e2
      have g0 : wr.cell? ⟨g, i, none⟩ = some (.slice Ay y.items.length cyc) := by
        have h := hcy 0 _ rfl
        rwa [show i * stoSh.wd + 0 = i from Nat.mul_one _] at h
      have HPI := Lib.hid hP
      have KI := Lib.hid fun V (h : Below wr.heap.size wr V) => ((items_row.1 huy.row).below h).more h.size
      have KX := Lib.hid fun V (h : Below wr.heap.size wr V) => wrts_row.1 ((hux.below h).more h.size)
      have KC := Lib.hid fun V (h : Below wr.heap.size wr V) => And.intro ((hP.held.below h hP.held.1).of 0 _ rfl) ((h.cell (p := ⟨g, i, none⟩) hgw).trans g0)
      have HNa := Lib.hid (show Below wr.heap.size wr (wr.alloc (.cells #[.int .i64 x.place, .slice Ax x.writes.length cx] 99)).drew from (belowOne wr (.cells #[.int .i64 x.place, .slice Ax x.writes.length cx] 99)).drew)
      have HHx := Lib.hid (show Held (wr.alloc (.cells #[.int .i64 x.place, .slice Ax x.writes.length cx] 99)).drew wr.heap.size [.int .i64 x.place, .slice Ax x.writes.length cx] from Held.new wr #[.int .i64 x.place, .slice Ax x.writes.length cx] 99)
      have HX := Lib.hid hx
      have HYs := Lib.hid hys
      have HY := Lib.hid hy
      have HSg := Lib.hid hSg
      have hi' : x.place - 1 = (i : Int) := by omega
      have HI := Lib.hid hi
      have f1 : (0 : Int) ≤ (i : Int) := by omega
      have f2 : (i : Int) < (ys.length : Int) := by omega
      have HYl := Lib.hid hyl
      have HIy := Lib.hid hiy
      clear hyl hiy e1b e1c hr hux hcell hP hx hys hy hoy huy hcy hi hSg hSj hfr
      have k0 := And.intro (KC.out _ HNa.out).1 (And.intro (KC.out _ HNa.out).2 (HHx.out.of 1 _ rfl))
      have t0 := HHx.out.of 0 _ rfl
      go_wp2
      clear t0 g0 d0 d1
      refine region_l (S := (fun w' => w'.cell? ⟨p, 0, none⟩ = some (.slice (some ⟨g, 0, none⟩) ys.length cap) ∧ w'.cell? ⟨g, i, none⟩ = some (.slice Ay y.items.length cyc) ∧ w'.cell? ⟨wr.heap.size, 1, none⟩ = some (.slice Ax x.writes.length cx))) 16 (by kernel_rfl) ?hSr (fun hHeldr => ?str)
      case hSr => (first | (dsimp only; (first | with_reducible exact k1 | exact k0)) | (first | with_reducible exact k1 | exact k0))
      refine take_l 0 17 (v := ?vr_1) rfl rfl (by kernel_rfl) (by kernel_rfl) (by kernel_rfl) (by kernel_rfl) (fun _ _ _ h => h) (by rfl) ?yr_1 (by assumption) ?rr_1
      case yr_1 => (intro w hSw; (try dsimp only at hSw); go_simp; (try with_reducible rfl))
      simp only [Act.put, List.setIfInBounds_toArray, List.set_cons_zero, List.set_cons_succ]
      refine take_l 1 18 (v := ?vr_2) rfl rfl (by kernel_rfl) (by kernel_rfl) (by kernel_rfl) (by kernel_rfl) (fun _ _ _ h => h) (by rfl) ?yr_2 (by assumption) ?rr_2
      case yr_2 => (intro w hSw; (try dsimp only at hSw); go_simp; (try with_reducible rfl))
      simp only [Act.put, List.setIfInBounds_toArray, List.set_cons_zero, List.set_cons_succ]
      refine take_l 2 19 (v := ?vr_3) rfl rfl (by kernel_rfl) (by kernel_rfl) (by kernel_rfl) (by kernel_rfl) (fun _ _ _ h => h) (by rfl) ?yr_3 (by assumption) ?rr_3
      case yr_3 => (intro w hSw; (try dsimp only at hSw); go_simp; (try with_reducible rfl))
      simp only [Act.put, List.setIfInBounds_toArray, List.set_cons_zero, List.set_cons_succ]
      refine take_l 3 20 (v := ?vr_4) rfl rfl (by kernel_rfl) (by kernel_rfl) (by kernel_rfl) (by kernel_rfl) (fun _ _ _ h => h) (by rfl) ?yr_4 (by assumption) ?rr_4
      case yr_4 => (intro w hSw; (try dsimp only at hSw); go_simp; (try with_reducible rfl))
      simp only [Act.put, List.setIfInBounds_toArray, List.set_cons_zero, List.set_cons_succ]
      refine take_l 4 21 (v := ?vr_5) rfl rfl (by kernel_rfl) (by kernel_rfl) (by kernel_rfl) (by kernel_rfl) (fun _ _ _ h => h) (by rfl) ?yr_5 (by assumption) ?rr_5
      case yr_5 => (intro w hSw; (try dsimp only at hSw); go_simp; (try with_reducible rfl))
      simp only [Act.put, List.setIfInBounds_toArray, List.set_cons_zero, List.set_cons_succ]
      refine take_l 5 22 (v := ?vr_6) rfl rfl (by kernel_rfl) (by kernel_rfl) (by kernel_rfl) (by kernel_rfl) (fun _ _ _ h => h) (by rfl) ?yr_6 (by assumption) ?rr_6
      case yr_6 => (intro w hSw; (try dsimp only at hSw); go_simp; (try with_reducible rfl))
      simp only [Act.put, List.setIfInBounds_toArray, List.set_cons_zero, List.set_cons_succ]
      refine take_l 6 23 (v := ?vr_7) rfl rfl (by kernel_rfl) (by kernel_rfl) (by kernel_rfl) (by kernel_rfl) (fun _ _ _ h => h) (by rfl) ?yr_7 (by assumption) ?rr_7
      case yr_7 => (intro w hSw; (try dsimp only at hSw); go_simp; (try with_reducible rfl))
      simp only [Act.put, List.setIfInBounds_toArray, List.set_cons_zero, List.set_cons_succ]
      refine take_l 7 24 (v := ?vr_8) rfl rfl (by kernel_rfl) (by kernel_rfl) (by kernel_rfl) (by kernel_rfl) (fun _ _ _ h => h) (by rfl) ?yr_8 (by assumption) ?rr_8
      case yr_8 => (intro w hSw; (try dsimp only at hSw); go_simp; (try with_reducible rfl))
      simp only [Act.put, List.setIfInBounds_toArray, List.set_cons_zero, List.set_cons_succ]
      refine take_l 8 25 (v := ?vr_9) rfl rfl (by kernel_rfl) (by kernel_rfl) (by kernel_rfl) (by kernel_rfl) (fun _ _ _ h => h) (by rfl) ?yr_9 (by assumption) ?rr_9
      case yr_9 => (intro w hSw; (try dsimp only at hSw); go_simp; (try with_reducible rfl))
      simp only [Act.put, List.setIfInBounds_toArray, List.set_cons_zero, List.set_cons_succ]
      refine take_l 9 26 (v := ?vr_10) rfl rfl (by kernel_rfl) (by kernel_rfl) (by kernel_rfl) (by kernel_rfl) (fun _ _ _ h => h) (by rfl) ?yr_10 (by assumption) ?rr_10
      case yr_10 => (intro w hSw; (try dsimp only at hSw); go_simp; (try with_reducible rfl))
      simp only [Act.put, List.setIfInBounds_toArray, List.set_cons_zero, List.set_cons_succ]
      refine take_l 10 27 (v := ?vr_11) rfl rfl (by kernel_rfl) (by kernel_rfl) (by kernel_rfl) (by kernel_rfl) (fun _ _ _ h => h) (by rfl) ?yr_11 (by assumption) ?rr_11
      case yr_11 => (intro w hSw; (try dsimp only at hSw); go_simp; (try with_reducible rfl))
      simp only [Act.put, List.setIfInBounds_toArray, List.set_cons_zero, List.set_cons_succ]
      refine take_l 11 28 (v := ?vr_12) rfl rfl (by kernel_rfl) (by kernel_rfl) (by kernel_rfl) (by kernel_rfl) (fun _ _ _ h => h) (by rfl) ?yr_12 (by assumption) ?rr_12
      case yr_12 => (intro w hSw; (try dsimp only at hSw); go_simp; (try with_reducible rfl))
      simp only [Act.put, List.setIfInBounds_toArray, List.set_cons_zero, List.set_cons_succ]
      refine take_l 12 29 (v := ?vr_13) rfl rfl (by kernel_rfl) (by kernel_rfl) (by kernel_rfl) (by kernel_rfl) (fun _ _ _ h => h) (by rfl) ?yr_13 (by assumption) ?rr_13
      case yr_13 => (intro w hSw; (try dsimp only at hSw); go_simp; (try with_reducible rfl))
      simp only [Act.put, List.setIfInBounds_toArray, List.set_cons_zero, List.set_cons_succ]
      refine take_l 13 30 (v := ?vr_14) rfl rfl (by kernel_rfl) (by kernel_rfl) (by kernel_rfl) (by kernel_rfl) (fun _ _ _ h => h) (by rfl) ?yr_14 (by assumption) ?rr_14
      case yr_14 => (intro w hSw; (try dsimp only at hSw); go_simp; (try with_reducible rfl))
      simp only [Act.put, List.setIfInBounds_toArray, List.set_cons_zero, List.set_cons_succ]
      refine one_l 14 rfl (by kernel_rfl) (fun Kr_15 hKr_15 => ?cr_15)
      go_simp
      refine (implStoDo_any _ _ _ y.items x.writes (KI.out _ HNa.out) (KX.out _ HNa.out)).mono ?_; rintro e w9 ⟨u9, rfl, ho9, hb9⟩; obtain ⟨A9, c9, hf9, -, -⟩ := ho9.row.form; subst hf9; have HN9 := Lib.hid (show Below wr.heap.size wr w9 from HNa.out.trans (hb9.mono HNa.out.size)); have k1 := And.intro (KC.out _ HN9.out).1 (And.intro (KC.out _ HN9.out).2 ((HHx.out.below hb9 HHx.out.1).of 1 _ rfl)); obtain ⟨g7, c7, y7, cs7, Sj7, e7, -, -, -, -, -, -, qf, -, -⟩ := (HPI.out.next HN9.out).own.at_ (j := i) HIy.out; injection e7 with e7 _ _; injection e7 with e7; injection e7 with e7 _ _; subst e7; have HO9 := Lib.hid (ho9.mono (S' := fun b => wr.heap.size ≤ b ∧ b < w9.heap.size) fun b h => ⟨Nat.le_trans HNa.out.size h.1, h.2⟩); clear hb9 ho9
      go_wp2_with fail
      refine hKr_15.out _ _ ?kr_15 (fun hHoldr_15 => ?dr_15)
      case kr_15 => (intro _; (first | (dsimp only; (first | with_reducible exact k1 | exact k0)) | (first | with_reducible exact k1 | exact k0)))
      clear hKr_15 Kr_15
      have hHeldr_15 := hHoldr_15 (by decide)
      clear hHoldr_15
      refine take_l 15 32 (v := ?vr_16) rfl rfl (by kernel_rfl) (by kernel_rfl) (by kernel_rfl) (by kernel_rfl) (fun _ _ _ h => h) (by rfl) ?yr_16 (by assumption) ?rr_16
      case yr_16 => (intro w hSw; (try dsimp only at hSw); go_simp; (try with_reducible rfl))
      simp only [Act.put, List.setIfInBounds_toArray, List.set_cons_zero, List.set_cons_succ]
      refine one_l 16 rfl (by kernel_rfl) (fun Kr_17 hKr_17 => ?cr_17)
      go_simp
      skip
      go_wp2_with fail
      refine hKr_17.out _ _ ?kr_17 (fun hHoldr_17 => ?dr_17)
      case kr_17 => exact fun h => absurd rfl h
      clear hKr_17 Kr_17
      clear hHoldr_17
      refine done_l (by kernel_rfl) ?er _
      have HT := Lib.hid (HPI.out.step hd hp1 hpw HN9.out HIy.out rfl HSg.out HO9.out)
      clear k0 k1 qf
      go_wp2
      go_roundw
      case rel => exact ⟨k + 1, _, by omega, by go_num, by rw [take_snoc HX.out, List.foldl_append, ← HYs.out]; exact (putP_eq HI.out HY.out).symm, by rw [List.length_set]; exact HYl.out, HT.out⟩
      case measure => simp [intOf]; omega
    · obtain rfl : k = ps.length := by omega
      rw [List.take_length] at hys
      subst hys
      have HPI := Lib.hid hP
      clear hP
      go_wp2
      exact bodyPost_end (v := .tuple #[]) (by simp [results, Try.results36, go_sem]) rfl ⟨rfl, HPI.out.held, HPI.out.own, HPI.out.out⟩

end Go.Proofs.Ytmbkhohgciakfaa
