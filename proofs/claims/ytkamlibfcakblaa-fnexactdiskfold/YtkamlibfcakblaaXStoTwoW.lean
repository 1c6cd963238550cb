/- Texts that follow each other, merged: StoTwoW, FoldF. -/
import Derived.Test.YtkamlibfcakblaaXLastKind
import Derived.Test.YtkamlibfcakblaaXFoldP
import Derived.Test.YtkamlibfcakblaaXStoMap

/- Two rows of writes behind each other; what holds while a store is made beside them. -/
namespace Go.Proofs.Ytkamlibfcakblaa
open Go.RowKit

theorem infoW3 : (Try.prog.info? 86).map (fun i => (i.zero, i.size, i.bytes)) = some (some (.agg #[.string ByteArray.empty, .bool false, .slice none 0 0]), 3, 48) := by kernel_rfl
theorem infoW3_parts : ∃ i, Try.prog.info? 86 = some i ∧ i.zero = some (.agg #[.string ByteArray.empty, .bool false, .slice none 0 0]) ∧ i.size = 3 ∧ i.bytes = 48 := by
  have h := infoW3
  cases hi : Try.prog.info? 86 with
  | none => rw [hi] at h; cases h
  | some i =>
    rw [hi] at h
    simp only [Option.map_some, Option.some.injEq, Prod.mk.injEq] at h
    exact ⟨i, rfl, h.1, h.2.1, h.2.2⟩
/-- append of some writes to a row of one's own. -/
theorem shalW_wp {o : Oper} {a : Act} {w : World} {K : Act → World → Prop} {Q : Exit → Act → World → Prop} (s x : Operand)
    (ho : o.op = .call { callee := .builtin .append, args := #[s, x], argTypes := #[34, 34] }) (B : Nat) (v : Value) (xs ys : List Wr) (hs : a.eval s = v) (hv : wrSh.Shal 86 w B v xs) (hB : B ≤ w.heap.size)
    (Ad : Option Addr) (n c : Nat) (hx : a.eval x = .slice Ad n c) (hn : n = ys.length) (hy : wrSh.Row w B (.slice Ad n c) ys) (hl : xs.length + ys.length ≤ 2097152)
    (h : ∀ v' w', wrSh.Shal 86 w' B v' (xs ++ ys) → Below B w w' → (v'.ownBlock = v.ownBlock ∨ v'.ownBlock = some w.heap.size) → w.grownBy w' v.ownBlock → K (a.put o.dst v') w') :
    Oper.wp Try.prog o a w K Q := by
  obtain ⟨i, hi, hz, hsz, hb⟩ := infoW3_parts
  obtain ⟨v', w', hr, h2, h3, h4, h5⟩ := Sh.shal_run (P := Try.prog) (A := wrSh) i _ 48 Try.underlying34 hi hz hsz hb rfl (by decide) hv hB Ad n c hn hy o.type hl (by omega)
  unfold Oper.wp execOp
  simp only [ho, resolve, invoke, builtin, Sem.run_bind, Sem.run_pure, Result.andThen_ok, List.map_toArray, List.map_cons, List.map_nil, hs, hx, hr]
  exact h v' w' h2 h3 h4 h5
theorem shalW_wpl {w : World} {ops : Array Oper} {rest : List Oper} {o : Oper} {a : Act} {Q : Exit → Act → World → Prop} (hgd : o.guard = none) (s x : Operand)
    (ho : o.op = .call { callee := .builtin .append, args := #[s, x], argTypes := #[34, 34] }) (B : Nat) (v : Value) (xs ys : List Wr) (hs : a.eval s = v) (hv : wrSh.Shal 86 w B v xs) (hB : B ≤ w.heap.size)
    (Ad : Option Addr) (n c : Nat) (hx : a.eval x = .slice Ad n c) (hn : n = ys.length) (hy : wrSh.Row w B (.slice Ad n c) ys) (hl : xs.length + ys.length ≤ 2097152)
    (h : ∀ v' w', wrSh.Shal 86 w' B v' (xs ++ ys) → Below B w w' → wpList Try.prog ops Q rest (a.put o.dst v') w') : wpList Try.prog ops Q (o :: rest) a w :=
  wpList_plain hgd fun _ hK => shalW_wp s x ho B v xs ys hs hv hB Ad n c hx hn hy hl fun v' w' h2 h3 _ _ => hK _ _ (h v' w' h2 h3)

/-- The store beside, done or not yet. -/
structure R0 (W0 : World) (M : List Item) (d : Option Value) (W : World) : Prop where
  low : Below W0.heap.size W0 W
  don : ∀ u, d = some u → ∃ S : Nat → Prop, itSh.Own 104 W S u M ∧ ∀ b, S b → b < W.heap.size
/-- The same, beside a row of one's own. -/
structure R1 (W0 : World) (M : List Item) (zs : List Wr) (v : Value) (d : Option Value) (W : World) : Prop where
  low : Below W0.heap.size W0 W
  sh : wrSh.Shal 86 W W0.heap.size v zs
  don : ∀ u, d = some u → ∃ S : Nat → Prop, itSh.Own 104 W S u M ∧ ∀ b, S b → b < W.heap.size ∧ v.ownBlock ≠ some b
section
variable {W0 W W' : World} {M : List Item} {zs : List Wr} {v u : Value} {d : Option Value}
theorem R0.start (W0 : World) (M : List Item) : R0 W0 M none W0 := ⟨Below.refl _ _, fun _ h => by cases h⟩
theorem R0.drew (h : R0 W0 M d W) : R0 W0 M d W.drew := ⟨h.low.drew, fun u hu => by obtain ⟨S, h1, h2⟩ := h.don u hu; exact ⟨S, h1.keep fun _ _ _ => rfl, h2⟩⟩
theorem R1.drew (h : R1 W0 M zs v d W) : R1 W0 M zs v d W.drew :=
  ⟨h.low.drew, h.sh.below (Below.refl _ _).drew h.low.size, fun u hu => by obtain ⟨S, h1, h2⟩ := h.don u hu; exact ⟨S, h1.keep fun _ _ _ => rfl, h2⟩⟩
theorem R0.next (h : R0 W0 M d W) (hb : Below W.heap.size W W') : R0 W0 M d W' :=
  ⟨belowNext h.low hb, fun u hu => by obtain ⟨S, h1, h2⟩ := h.don u hu; exact ⟨S, h1.below hb, fun b hs => Nat.lt_of_lt_of_le (h2 b hs) hb.size⟩⟩
theorem R0.call (h : R0 W0 M none W) (ho : itSh.Own 104 W' (fun b => W.heap.size ≤ b ∧ b < W'.heap.size) u M) (hb : Below W.heap.size W W') : R0 W0 M (some u) W' :=
  ⟨belowNext h.low hb, fun u' hu => by injection hu with hu; subst hu; exact ⟨_, ho, fun b hs => hs.2⟩⟩
theorem R0.lit (h : R0 W0 M d W) : R1 W0 M [] (.slice (some ⟨W.heap.size, 0, none⟩) 0 0) d (W.alloc (.cells #[] 86 (0, 0))) := by
  refine ⟨h.low.alloc h.low.size _, Sh.Shal.empty (Go.Deep.blk_alloc_new W _) h.low.size, fun u hu => ?_⟩
  obtain ⟨S, h1, h2⟩ := h.don u hu
  refine ⟨S, h1.below (belowOne W _), fun b hs => ⟨by rw [allocSize]; have := h2 b hs; omega, fun e => ?_⟩⟩
  have e' : W.heap.size = b := Option.some.inj e
  have := h2 b hs; omega
theorem R1.call (h : R1 W0 M zs v none W) (ho : itSh.Own 104 W' (fun b => W.heap.size ≤ b ∧ b < W'.heap.size) u M) (hb : Below W.heap.size W W') : R1 W0 M zs v (some u) W' := by
  refine ⟨belowNext h.low hb, h.sh.below hb h.low.size, fun u' hu => ?_⟩
  injection hu with hu; subst hu
  refine ⟨_, ho, fun b hs => ⟨hs.2, fun e => ?_⟩⟩
  rcases h.sh.form with ⟨rfl, _⟩ | ⟨g, cap, rfl, _, hg, _⟩
  · cases e
  · have e' : g = b := Option.some.inj e
    omega
theorem R1.grow (h : R1 W0 M zs v d W) {v' : Value} {zs' : List Wr} (hs : wrSh.Shal 86 W' W0.heap.size v' zs') (hb : Below W0.heap.size W W') (ho : v'.ownBlock = v.ownBlock ∨ v'.ownBlock = some W.heap.size) (hg : W.grownBy W' v.ownBlock) : R1 W0 M zs' v' d W' := by
  refine ⟨h.low.trans hb, hs, fun u hu => ?_⟩
  obtain ⟨S, h1, h2⟩ := h.don u hu
  refine ⟨S, h1.keep fun b hs hlt => hg.block b hlt (fun e => (h2 b hs).2 e.symm), fun b hs => ⟨Nat.lt_of_lt_of_le (h2 b hs).1 hb.size, fun e => ?_⟩⟩
  rcases ho with ho | ho
  · exact (h2 b hs).2 (ho ▸ e)
  · rw [ho] at e
    have e' : W.heap.size = b := Option.some.inj e
    have := (h2 b hs).1; omega
theorem R1.next (h : R1 W0 M zs v d W) (hb : Below W.heap.size W W') : R0 W0 M d W' :=
  R0.next ⟨h.low, fun u hu => by obtain ⟨S, h1, h2⟩ := h.don u hu; exact ⟨S, h1, fun b hs => (h2 b hs).1⟩⟩ hb
theorem R0.items (h : R0 W0 M (some u) W) : Items W W.heap.size u M := by
  obtain ⟨S, h1, _⟩ := h.don u rfl
  exact items_row.1 h1.row
theorem R1.form (h : R1 W0 M zs v d W) : ∃ A c, v = .slice A zs.length c := by
  rcases h.sh.form with ⟨rfl, rfl⟩ | ⟨g, cap, rfl, _⟩
  · exact ⟨_, _, rfl⟩
  · exact ⟨_, _, rfl⟩
end
theorem sto_swap {its : List Item} {a b : List Wr} (h : stoB its = true) (ha : ∀ x ∈ a, x.ok = true) (hb : ∀ x ∈ b, x.ok = true) (hl : its.length + a.length + b.length ≤ 40) (hd : ∀ x ∈ a, ∀ y ∈ b, x.key ≠ y.key) : stoDo (stoDo its a) b = stoDo (stoDo its b) a := by
  obtain ⟨a1, a2, a3⟩ := stoDo_some h ha (by omega)
  obtain ⟨b1, b2, b3⟩ := stoDo_some h hb (by omega)
  obtain ⟨c1, -, c3⟩ := stoDo_some a1 hb (by omega)
  obtain ⟨d1, -, d3⟩ := stoDo_some b1 ha (by omega)
  refine sto_ext (stoB_three c1).2.2 (stoB_three d1).2.2 fun key => ?_
  rw [c3, a3, d3, b3]
  by_cases hk : ∃ x ∈ a, x.key = key
  · obtain ⟨x, hx, rfl⟩ := hk
    have hf : ∀ y ∈ b, y.key ≠ x.key := fun y hy e => hd x hx y hy e.symm
    rw [lookW_free hf, lookW_free hf]
  · have hf : ∀ x ∈ a, x.key ≠ key := fun x hx e => hk ⟨x, hx, e⟩
    rw [lookW_free hf, lookW_free hf]

end Go.Proofs.Ytkamlibfcakblaa

/- What the committed writes come to: the store is always one, and only those who are ready and those who are so count. -/
namespace Go.Proofs.Ytkamlibfcakblaa

theorem stepSto {o : Option (List Item)} {x : Wr} (h : ∀ cur, o = some cur → stoB cur = true) : ∀ cur, doStep o x = some cur → stoB cur = true := by
  intro cur hc
  cases o with
  | none => cases hc
  | some its =>
    obtain ⟨h1, h2, h3⟩ := stoB_three (h its rfl)
    simp only [doStep, Option.bind_some] at hc
    by_cases hx : x.ok = true
    · rw [if_pos hx] at hc
      by_cases hl : 40 < (wAll x.key x.del x.val its).length
      · rw [if_pos hl] at hc; cases hc
      · rw [if_neg hl] at hc
        injection hc with hc
        subst hc
        obtain ⟨f1, -, -, f4⟩ := wAll_facts (wk := x.key) (wv := x.val) h3 x.del
        refine stoB_of (by omega) (fun it hit => ?_) f1
        rcases f4 it hit with h' | ⟨hd, rfl⟩
        · exact h2 it h'
        · exact Wr.item hx hd
    · rw [if_neg hx] at hc; cases hc
theorem foldSto : ∀ (ws : List Wr) {o : Option (List Item)}, (∀ cur, o = some cur → stoB cur = true) → ∀ cur, ws.foldl doStep o = some cur → stoB cur = true
  | [], _, h => h
  | x :: ws, _, h => foldSto ws (stepSto (x := x) h)
theorem stoDo_stoB (its : List Item) (ws : List Wr) : stoB (stoDo its ws) = true := by
  unfold stoDo doAll
  split
  · rename_i h
    cases hc : ws.foldl doStep (some its) with
    | none => exact stoB_empty
    | some cur => exact foldSto ws (fun c hc' => by injection hc' with e; rw [← e]; exact h) cur hc
  · exact stoB_empty
theorem foldN_sto (ns : List Note) : stoB (foldN ns) = true := by
  have h : ∀ (ys : List Note) (st : List Note × List Item), stoB st.2 = true → stoB (ys.foldl stepF st).2 = true := by
    intro ys
    induction ys with
    | nil => intro st h; exact h
    | cons y ys ih =>
      intro st h
      refine ih (stepF st y) ?_
      show stoB (if y.kind = 2 then stoDo st.2 (comW st.1 y.tx) else st.2) = true
      split
      · exact stoDo_stoB _ _
      · exact h
  exact h ns ([], []) stoB_empty
theorem foldD_sto (x : Disk) : stoB (foldD x) = true := by
  unfold foldD; split
  · exact foldN_sto _
  · exact stoB_empty
/-- The notes that count. -/
def countsB (n : Note) : Bool := decide (n.kind = 1) || decide (n.kind = 2)
theorem readyN_counts (ns : List Note) (tx : Int) : readyN (ns.filter countsB) tx = readyN ns tx := by
  unfold readyN
  rw [← List.filter_reverse, List.find?_filter]
  congr 1
  funext a
  unfold countsB rdyB
  cases h : decide (a.kind = 1) <;> simp
theorem foldN_counts (ns : List Note) : foldN (ns.filter countsB) = foldN ns := by
  have h : ∀ (ys : List Note) (p q : List Note) (s : List Item), (∀ tx, readyN p tx = readyN q tx) → ((ys.filter countsB).foldl stepF (p, s)).2 = (ys.foldl stepF (q, s)).2 := by
    intro ys
    induction ys with
    | nil => intro p q s _; rfl
    | cons y ys ih =>
      intro p q s hpq
      have hc : ∀ tx, comW p tx = comW q tx := fun tx => by unfold comW; rw [hpq]
      by_cases hy : countsB y = true
      · rw [List.filter_cons_of_pos hy, List.foldl_cons, List.foldl_cons]
        show ((ys.filter countsB).foldl stepF (p ++ [y], if y.kind = 2 then stoDo s (comW p y.tx) else s)).2 = (ys.foldl stepF (q ++ [y], if y.kind = 2 then stoDo s (comW q y.tx) else s)).2
        rw [hc]
        exact ih _ _ _ (fun tx => by rw [readyN_snoc, readyN_snoc, hpq])
      · rw [List.filter_cons_of_neg hy, List.foldl_cons]
        have h1 : y.kind ≠ 1 ∧ y.kind ≠ 2 := by unfold countsB at hy; simpa using hy
        show ((ys.filter countsB).foldl stepF (p, s)).2 = (ys.foldl stepF (q ++ [y], if y.kind = 2 then stoDo s (comW q y.tx) else s)).2
        rw [if_neg h1.2]
        exact ih _ _ _ (fun tx => by rw [readyN_snoc, rdyB_no (.inl h1.1), if_neg (by simp), hpq])
  exact h ns [] [] [] (fun _ => rfl)

end Go.Proofs.Ytkamlibfcakblaa
