/- Texts that follow each other, merged: Shal, CloneStr, RegLast, OutMay. -/
import Derived.Test.YtecdibpiojgppaaGreatXShOwn
import Derived.OwnWalk
import Derived.Test.YtecdibpiojgppaaGreatXHStr
import Derived.Deep.RegionHeld3
import Derived.Test.YtecdibpiojgppaaGreatXPlanAt

/- Slices whose row is the call's own, and whose elements reach what lay there before: made by append out of parts of others. -/
namespace Go.Proofs.YtecdibpiojgppaaGreat
open Go.RowKit

/-- A row of the call's own, from block B on; what its elements reach lies below B. -/
def Sh.Shal {α : Type} (A : Sh α) (e : TypeId) (w : World) (B : Nat) (v : Value) (xs : List α) : Prop :=
  ∃ C : Nat → List Value, w.ownsRow 0 e A.wd v xs.length (flat C xs.length) ∧ (∀ g, v.ownBlock = some g → B ≤ g) ∧ ∀ j x, xs[j]? = some x → A.rel w B (C j) x
section
variable {α : Type} {A : Sh α} {e : TypeId} {w w' : World} {B : Nat} {v : Value} {xs ys : List α}
end

section
variable {P : Program} {α : Type} {A : Sh α} {e t : TypeId} {w : World} {B : Nat} {v : Value} {xs ys : List α}
end

end Go.Proofs.YtecdibpiojgppaaGreat

/- Texts appended, and slices.Clone of texts. -/
namespace Go.Proofs.YtecdibpiojgppaaGreat
open Go.RowKit

theorem strShal {w : World} {S : Nat → Prop} {v : Value} {xs : List ByteArray} (h : strSh.Own 9 w S v xs) : strSh.Shal 9 w 0 v xs := by
  obtain ⟨C, F, h1, _, h3, _⟩ := h
  exact ⟨C, h1, fun _ _ => Nat.zero_le _, fun j x hx => (h3 j x hx).1⟩
theorem append_strs (w : World) (S : Nat → Prop) (v : Value) (xs ys : List ByteArray) (hv : strSh.Own 9 w S v xs) (B : Nat) (Ad : Option Addr) (n c : Nat) (hn : n = ys.length) (hy : strSh.Row w B (.slice Ad n c) ys) (ty : TypeId) (hl : xs.length + ys.length ≤ 2097152) :
    ∃ v' w', (Builtin.append_ #[38, 38] ty #[v, .slice Ad n c]).run Tryz.prog w = .ok v' w' ∧ strSh.Own 9 w' (fun b => S b ∨ b = w.heap.size) v' (xs ++ ys) ∧ w.grownBy w' v.ownBlock ∧ (v'.ownBlock = v.ownBlock ∨ v'.ownBlock = some w.heap.size) := by
  obtain ⟨i, hi, hz, hs, hb⟩ := info_parts infoStr
  subst hn
  have hS : ∀ g, v.ownBlock = some g → S g := by obtain ⟨_, _, _, h2, _⟩ := hv; exact h2
  obtain ⟨C, h1, _, h3⟩ := strShal hv
  obtain ⟨Ad', c', e1, hc1, hc2, hrow⟩ := hy
  injection e1 with e1 _ e3
  subst e1 e3
  cases Ad with
  | none =>
    have h0 : ys = [] := by
      cases ys with
      | nil => rfl
      | cons y l => obtain ⟨_, _, h, _⟩ := hrow (by simp); cases h
    subst h0
    refine ⟨v, w, ?_, by simpa using hv.mono fun b hb => .inl hb, World.grownBy.refl _ _, .inl rfl⟩
    rcases h1.2 with ⟨rfl, h0⟩ | ⟨g, cap, cur, rfl, _, _, hnc, _⟩
    · simp [Builtin.append_, run_underlying Tryz.underlying38, sizeOf, typeInfo, hi, Builtin.lenOf, Builtin.firstCells]
    · simp [Builtin.append_, run_underlying Tryz.underlying38, sizeOf, typeInfo, hi, Builtin.lenOf, Builtin.firstCells, hnc, storeCells]
  | some ad =>
    have hc : ∀ j (hj : j < ys.length), ys[j].size ≤ maxLen ∧ w.cell? (ad.add j) = some (.string ys[j]) := by
      intro j hj
      obtain ⟨b, off, hA, hb, hc⟩ := hrow (by omega)
      injection hA with hA
      subst hA
      obtain ⟨cs, ⟨rfl, hsz⟩, h5⟩ := hc j _ (List.getElem?_eq_getElem hj)
      have := h5 0 _ rfl
      rw [add_none]
      exact ⟨hsz, by simpa [Sh.str] using this⟩
    let D : Nat → List Value := fun j => [.string (ys[j]?.getD ByteArray.empty)]
    obtain ⟨v', w', hr, ho, hg, hwhere⟩ := Sh.append_run (P := Tryz.prog) (A := strSh) (S' := fun _ => False) (ys := ys) i _ 16 Tryz.underlying38 hi hz hs hb rfl (by decide) hv ad c D (fun _ _ => False) (fun j u hu => by
        have hj : j < ys.length := by
          have := (List.getElem?_eq_some_iff.1 hu).1
          rw [flat_len (d := 1) (fun _ _ => rfl)] at this; omega
        have hu' : (flat D ys.length)[j * 1 + 0]? = some u := by simpa using hu
        rw [flat_at (d := 1) (fun _ _ => rfl) hj (by omega)] at hu'
        have : Value.string ys[j] = u := by simpa [D, hj] using hu'
        rw [← this]; exact (hc j hj).2)
      (fun j x hx => by
        obtain ⟨hj, rfl⟩ := List.getElem?_eq_some_iff.1 hx
        exact ⟨⟨by simp [D, hj], (hc j hj).1⟩, fun _ h => h.elim⟩) (fun _ _ _ _ _ h => h.elim) (fun _ _ h => h) ty hl (by decide)
    exact ⟨v', w', hr, ho.mono fun b hb => by rcases hb with h | h | h; exact .inl h; exact h.elim; exact .inr h, hg, hwhere⟩
theorem wpl_append_strs {w : World} {ops : Array Oper} {rest : List Oper} {o : Oper} {a : Act} {Q : Exit → Act → World → Prop} (hgd : o.guard = none) (s x : Operand)
    (ho : o.op = .call { callee := .builtin .append, args := #[s, x], argTypes := #[38, 38] }) (S : Nat → Prop) (v : Value) (xs ys : List ByteArray) (hs : a.eval s = v) (hv : strSh.Own 9 w S v xs)
    (B : Nat) (Ad : Option Addr) (n c : Nat) (hx : a.eval x = .slice Ad n c) (hn : n = ys.length) (hy : strSh.Row w B (.slice Ad n c) ys) (hl : xs.length + ys.length ≤ 2097152)
    (h : ∀ v' w', strSh.Own 9 w' (fun b => S b ∨ b = w.heap.size) v' (xs ++ ys) → w.grownBy w' v.ownBlock → (v'.ownBlock = v.ownBlock ∨ v'.ownBlock = some w.heap.size) → wpList Tryz.prog ops Q rest (a.put o.dst v') w') : wpList Tryz.prog ops Q (o :: rest) a w := by
  refine wpList_plain hgd fun K hK => ?_
  obtain ⟨v', w', hr, h2, h3, h4⟩ := append_strs w S v xs ys hv B Ad n c hn hy o.type hl
  unfold Oper.wp execOp
  simp only [ho, resolve, invoke, builtin, Sem.run_bind, Sem.run_pure, Result.andThen_ok, List.map_toArray, List.map_cons, List.map_nil, hs, hx, hr]
  exact hK _ _ (h v' w' h2 h3 h4)

end Go.Proofs.YtecdibpiojgppaaGreat

/- A region that draws its order and whose last operation may break what is held of the world: that operation waits for all that is taken first. Nothing of the program. -/
namespace Go.Proofs.YtecdibpiojgppaaGreat

section
variable {P : Program} {md : Region.Mode} {ops : Array Oper} {Q : Exit → Act → World → Prop} {S : World → Prop}

/-- Whatever order is picked: S holds behind each operation but number z. -/
def wpAnyL (P : Program) (md : Region.Mode) (ops : Array Oper) (Q : Exit → Act → World → Prop) (S : World → Prop) (z : Nat) : Nat → Array Bool → Act → World → Prop
  | 0, l, a, w => Region.ready md ops l = [] ∧ Q .normal a w
  | n + 1, l, a, w => (Region.ready md ops l = [] → Q .normal a w) ∧
    ∀ i ∈ Region.ready md ops l, wpOp P ops Q i (fun a' w' => (i ≠ z → S w') ∧ wpAnyL P md ops Q S z n (l.setIfInBounds i true) a' w') a w
theorem wpAny_of_last {z : Nat} : ∀ (n : Nat) (l : Array Bool) (a : Act) (w : World), wpAnyL P md ops Q S z n l a w → wpAny P md ops Q n l a w
  | 0, _, _, _, h => h
  | n + 1, _, _, _, h => ⟨h.1, fun i hi => wpOp_mono (fun a' w' k => wpAny_of_last n _ a' w' k.2) (h.2 i hi)⟩
/-- Operation z waits for operation i. -/
def waits (md : Region.Mode) (ops : Array Oper) (z i : Nat) : Bool := match ops[z]? with
  | some o => o.after.any fun e => e.on == i && Region.binds md e
  | none => false

theorem wpAnyL_first {z i : Nat} {oi : Oper} {v : Value} (hi : ops[i]? = some oi) (hsel : ∀ (j : Nat) (o : Oper) cs b, ops[j]? = some o → o.op ≠ .select cs b)
    (hQ : ∀ c a w, Q (.panic c) (a.put oi.dst v) w → Q (.panic c) a w) (hz : waits md ops z i = true) :
    ∀ (n : Nat) (l : Array Bool) (a : Act) (w : World),
      (∀ j oj, ops[j]? = some oj → j ≠ i → l.getD j true = false → (∀ e ∈ oj.after, Region.binds md e = true → e.on ≠ i) → oi.apart ops oj = true) →
      i ∈ Region.ready md ops l → YieldsIf P ops S oi v a → S w →
      wpAnyL P md ops Q S z n (l.setIfInBounds i true) (a.put oi.dst v) w → wpAnyL P md ops Q S z (n + 1) l a w := by
  intro n
  induction n with
  | zero =>
    intro l a w _ hr hy hS H
    refine ⟨fun h => absurd (h ▸ hr) (by simp), fun j hj => ?_⟩
    by_cases e : j = i
    · subst e; exact hy.wpOp hi hS ⟨fun _ => hS, H⟩
    · exact absurd (H.1 ▸ ready_mono hj e) (by simp)
  | succ n ih =>
    intro l a w hfree hr hy hS H
    refine ⟨fun h => absurd (h ▸ hr) (by simp), fun j hj => ?_⟩
    by_cases e : j = i
    · subst e; exact hy.wpOp hi hS ⟨fun _ => hS, H⟩
    · obtain ⟨hun, oj, hoj, hall⟩ := mem_ready.1 hj
      have hno : ∀ ed ∈ oj.after, Region.binds md ed = true → ed.on ≠ i := by
        intro ed he hb heq
        have h1 := hall ed he hb
        have h0 := (mem_ready.1 hr).1
        rw [heq] at h1
        rcases Nat.lt_or_ge i l.size with h' | h'
        · simp [h'] at h0 h1; rw [h0] at h1; cases h1
        · simp [Array.getElem?_eq_none h'] at h1
      have hjz : j ≠ z := by
        rintro rfl
        unfold waits at hz
        rw [hoj] at hz
        obtain ⟨m, hm, he⟩ := Array.any_eq_true.1 hz
        simp only [Bool.and_eq_true, beq_iff_eq] at he
        exact hno _ (Array.getElem_mem hm) he.2 he.1
      have h2 := wpOp_putIf hoj (hfree j oj hoj e hun hno) (fun cs b => hsel i oi cs b hi) (fun cs b => hsel j oj cs b hoj) hQ hy
        (wpOp_mono (K' := fun a' w' => S w' ∧ wpAnyL P md ops Q S z n ((l.setIfInBounds i true).setIfInBounds j true) a' w') (fun a' w' k => ⟨k.1 hjz, k.2⟩) (H.2 j (ready_mono hj e)))
      refine wpOp_mono (fun a' w' k => ⟨fun _ => k.2.1, ih (l.setIfInBounds j true) a' w' (fun q oq hq hqi hqu hqn => hfree q oq hq hqi ?_ hqn) (ready_mono hr (Ne.symm e)) k.1 k.2.1 ?_⟩) h2
      · by_cases ejq : j = q
        · subst ejq; exact hun
        · rw [getD_set_ne true ejq] at hqu; exact hqu
      · rw [Array.setIfInBounds_comm _ _ e]; exact k.2.2

/-- Taken first. -/
theorem take_l (i d : Nat) {z : Nat} {oi : Oper} {v : Value} {n : Nat} {l : Array Bool} {a : Act} {w : World} (hi : ops[i]? = some oi) (hd : oi.dst = some d)
    (hs : Region.noSelect ops = true) (hf : Region.free md ops l i = true) (hr : (Region.ready md ops l).contains i = true) (hz : waits md ops z i = true)
    (hQ : ∀ c a w, Q (.panic c) (a.put oi.dst v) w → Q (.panic c) a w) (hw : Region.wanted oi (yielded ops a.tmps) = true) (hy : ∀ w, S w → (execOp a.eval oi).run P w = .ok (.value v) w) (hS : S w)
    (h : wpAnyL P md ops Q S z n (l.setIfInBounds i true) (a.put (some d) v) w) : wpAnyL P md ops Q S z (n + 1) l a w :=
  wpAnyL_first hi (Region.noSelect_spec hs) hQ hz n l a w (Region.free_spec hi hf) (by simpa using hr) (.inl ⟨hw, hy⟩) hS (by rw [hd]; exact h)
/-- The one that may come up comes up. -/
theorem one_l (i : Nat) {z : Nat} {o : Oper} {n : Nat} {l : Array Bool} {a : Act} {w : World} (ho : ops[i]? = some o) (hr : Region.ready md ops l = [i])
    (h : ∀ K : Act → World → Prop, Shut (∀ a w, (i ≠ z → S w) → ((i ≠ z → S w) → wpAnyL P md ops Q S z n (l.setIfInBounds i true) a w) → K a w) → if Region.wanted o (yielded ops a.tmps) = true then Oper.wp P o a w K Q else K (a.put o.dst undef) w) :
    wpAnyL P md ops Q S z (n + 1) l a w := by
  refine ⟨fun h0 => absurd (h0 ▸ hr) (by simp), fun j hj => ?_⟩
  rw [hr] at hj
  obtain rfl : j = i := by simpa using hj
  exact wpOp_step ho fun K hK => h K fun a w hS hW => hK a w ⟨hS, hW hS⟩
theorem done_l {z : Nat} {l : Array Bool} {a : Act} {w : World} (hr : Region.ready md ops l = []) (h : Q .normal a w) : ∀ n, wpAnyL P md ops Q S z n l a w
  | 0 => ⟨hr, h⟩
  | _ + 1 => ⟨fun _ => h, by rw [hr]; simp⟩
theorem region_l {id : Nat} {a : Act} {w : World} (z : Nat) (hm : P.follows .mixedOrders = true) (hS : S w.drew)
    (h : S w.drew → wpAnyL P .any ops Q S z ops.size (Array.replicate ops.size false) a w.drew) : (Code.region id ops true).wp P Q a w :=
  wp_region_any hm (wpAny_of_last _ _ _ _ (h hS))
end

end Go.Proofs.YtecdibpiojgppaaGreat

/- Going out at the place that keeps who may what: all families of that one. -/
namespace Go.Proofs.YtecdibpiojgppaaGreat
open Go.RowKit

theorem infoWr3 : (Tryz.prog.info? 77).map (fun i => (i.zero, i.size, i.bytes)) = some (some (.agg #[.string ByteArray.empty, .bool false, .slice none 0 0]), 3, 48) := by kernel_rfl
/-- append of one write that lies in a block of its own. -/
theorem app_wrs {o : Oper} {a : Act} {w : World} {K : Act → World → Prop} {Q : Exit → Act → World → Prop} (s x : Operand)
    (ho : o.op = .call { callee := .builtin .append, args := #[s, x], argTypes := #[39, 39] }) (S S' : Nat → Prop) (v : Value) (xs : List Wr) (hs : a.eval s = v) (hv : wrSh.Own 77 w S v xs)
    (B : Nat) (hx : a.eval x = .slice (some ⟨B, 0, none⟩) 1 1) (cs : List Value) (y : Wr) (hy : wrSh.own w S' cs y) (hsrc : Held w B cs) (hdis : ∀ b, S b → ¬ S' b) (hl : xs.length ≤ 1048576)
    (h : ∀ v' w', wrSh.Own 77 w' (fun b => S b ∨ S' b ∨ b = w.heap.size) v' (xs ++ [y]) → w.grownBy w' v.ownBlock → (v'.ownBlock = v.ownBlock ∨ v'.ownBlock = some w.heap.size) → K (a.put o.dst v') w') :
    Oper.wp Tryz.prog o a w K Q := by
  obtain ⟨i, hi, hz, hsz, hb⟩ := info_parts infoWr3
  obtain ⟨v', w', hr, h2, h3, h4⟩ := Sh.append_one (P := Tryz.prog) (A := wrSh) i _ 48 Tryz.underlying39 hi hz hsz hb rfl (by decide) hv B cs y hy hsrc hdis o.type hl (by omega)
  unfold Oper.wp execOp
  simp only [ho, resolve, invoke, builtin, Sem.run_bind, Sem.run_pure, Result.andThen_ok, List.map_toArray, List.map_cons, List.map_nil, hs, hx, hr]
  exact h v' w' h2 h3 h4

/-- What lies in memory while one goes out: the operation, the store, the answer's block, the plan so far. -/
structure OutI (w0 : World) (o : Op) (v : Value) (L : List ByteArray) (M : List Wr) (ul uw : Value) (S1 S2 : Nat → Prop) (W : World) : Prop where
  op : Held W w0.heap.size [.int .i64 o.kind, .int .i64 o.who, .int .i64 o.inn, .int .i64 o.code, .int .i64 o.sec, .int .i64 o.fam, .int .i64 o.gen]
  sto : Held W (w0.heap.size + 1) [v]
  res : Held W (w0.heap.size + 1 + 1) [.bool false, .slice none 0 0, .slice none 0 0]
  bel : Below w0.heap.size w0 W
  pb : Held W (w0.heap.size + 1 + 1 + 1 + 1) [.bool true, ul, uw]
  lk : strSh.Own 9 W S1 ul L
  wr : wrSh.Own 77 W S2 uw M
  s1 : ∀ b, S1 b → w0.heap.size + 2 < b ∧ b ≠ w0.heap.size + 4 ∧ b < W.heap.size
  s2 : ∀ b, S2 b → w0.heap.size + 2 < b ∧ b ≠ w0.heap.size + 4 ∧ b < W.heap.size
  ap : ∀ b, S1 b → ¬ S2 b
theorem Held.grown {w w' : World} {g : Nat} {cs : List Value} {row : Option Nat} (h : Held w g cs) (hg : w.grownBy w' row) (hne : row ≠ some g) : Held w' g cs := by
  have hk := hg.block g h.1 (fun e => hne e.symm)
  exact ⟨Nat.lt_of_lt_of_le h.1 hg.size, fun j => (World.frozen?_of_block (a := ⟨g, j, none⟩) hk).trans (h.2.1 j), fun j u hu => (World.cell?_of_block (a := ⟨g, j, none⟩) hk).trans (h.2.2 j u hu)⟩
section
variable {w0 W W' : World} {o : Op} {v : Value} {L : List ByteArray} {M : List Wr} {ul uw : Value} {S1 S2 : Nat → Prop}
theorem OutI.call (h : OutI w0 o v L M ul uw S1 S2 W) (hb : Below W.heap.size W W') : OutI w0 o v L M ul uw S1 S2 W' :=
  ⟨h.op.below hb h.op.1, h.sto.below hb h.sto.1, h.res.below hb h.res.1, belowNext h.bel hb, h.pb.below hb h.pb.1, h.lk.below hb, h.wr.below hb, fun b hb' => ⟨(h.s1 b hb').1, (h.s1 b hb').2.1, Nat.lt_of_lt_of_le (h.s1 b hb').2.2 hb.size⟩, fun b hb' => ⟨(h.s2 b hb').1, (h.s2 b hb').2.1, Nat.lt_of_lt_of_le (h.s2 b hb').2.2 hb.size⟩, h.ap⟩
theorem OutI.drewN (h : OutI w0 o v L M ul uw S1 S2 W) (n : Nat) : OutI w0 o v L M ul uw S1 S2 (W.drewN n) :=
  ⟨h.op, h.sto, h.res, belowDraws h.bel n, h.pb, h.lk, h.wr, h.s1, h.s2, h.ap⟩
theorem OutI.drewOne (h : OutI w0 o v L M ul uw S1 S2 W) : OutI w0 o v L M ul uw S1 S2 W.drew :=
  ⟨h.op, h.sto, h.res, h.bel.drew, h.pb, h.lk, h.wr, h.s1, h.s2, h.ap⟩
theorem OutI.own1 (h : OutI w0 o v L M ul uw S1 S2 W) : ∀ g, ul.ownBlock = some g → S1 g := by obtain ⟨_, _, _, h2, _⟩ := h.lk; exact h2
theorem OutI.own2 (h : OutI w0 o v L M ul uw S1 S2 W) : ∀ g, uw.ownBlock = some g → S2 g := by obtain ⟨_, _, _, h2, _⟩ := h.wr; exact h2
/-- One name more. -/
theorem OutI.lock (h : OutI w0 o v L M ul uw S1 S2 W) {u' : Value} {L' : List ByteArray} (hg : W.grownBy W' ul.ownBlock) (hu : strSh.Own 9 W' (fun b => S1 b ∨ b = W.heap.size) u' L') :
    OutI w0 o v L' M u' uw (fun b => (S1 b ∨ b = W.heap.size) ∧ b < W'.heap.size) S2 (W'.setCell ⟨w0.heap.size + 1 + 1 + 1 + 1, 1, none⟩ u') := by
  have hne : ∀ g, g ≤ w0.heap.size + 2 ∨ g = w0.heap.size + 4 → ul.ownBlock ≠ some g := fun g hg' e => by have := h.s1 g (h.own1 g e); omega
  have hpz := h.pb.1
  have e1 : ∀ b, S2 b → b < W.heap.size → W'.heap[b]? = W.heap[b]? := fun b hb hlt => hg.block b hlt fun e => h.ap b (h.own1 b e.symm) hb
  have hsz : ∀ u : Value, (W'.setCell ⟨w0.heap.size + 1 + 1 + 1 + 1, 1, none⟩ u).heap.size = W'.heap.size := fun u => by simp [World.setCell]
  refine ⟨(h.op.grown hg (hne _ (by omega))).far (by simp <;> omega) _, (h.sto.grown hg (hne _ (by omega))).far (by simp <;> omega) _, (h.res.grown hg (hne _ (by omega))).far (by simp) _, ?_, (h.pb.grown hg (hne _ (by omega))).set_ (i := 1) u', ?_, ?_, ?_, ?_, ?_⟩
  · exact (h.bel.grown hg h.bel.size (fun b hb => by have := h.s1 b (h.own1 b hb); omega)).setCell (p := ⟨w0.heap.size + 1 + 1 + 1 + 1, 1, none⟩) (by simp <;> omega) _
  · refine (hu.cap).keep fun b hb _ => Below.heap_setCell _ _ _ _ ?_
    rintro rfl
    rcases hb.1 with hb' | hb'
    · have := h.s1 _ hb'; simp at this <;> omega
    · simp at hb' <;> omega
  · refine (h.wr.keep e1).keep fun b hb _ => Below.heap_setCell _ _ _ _ ?_
    rintro rfl
    have := h.s2 _ hb; simp at this <;> omega
  · rintro b ⟨hb | hb, hlt⟩
    · have := h.s1 b hb; rw [hsz]; omega
    · rw [hsz]; omega
  · intro b hb
    have := h.s2 b hb; have := hg.size; rw [hsz]; omega
  · rintro b ⟨hb | hb, -⟩ hb2
    · exact h.ap b hb hb2
    · have := h.s2 b hb2; omega
/-- One write more. -/
theorem OutI.write (h : OutI w0 o v L M ul uw S1 S2 W) {u' : Value} {M' : List Wr} {S' : Nat → Prop} (hS' : ∀ b, S' b → w0.heap.size + 4 < b ∧ b < W.heap.size) (hd1 : ∀ b, S1 b → ¬ S' b) (hg : W.grownBy W' uw.ownBlock) (hu : wrSh.Own 77 W' (fun b => S2 b ∨ S' b ∨ b = W.heap.size) u' M') :
    OutI w0 o v L M' ul u' S1 (fun b => (S2 b ∨ S' b ∨ b = W.heap.size) ∧ b < W'.heap.size) (W'.setCell ⟨w0.heap.size + 1 + 1 + 1 + 1, 2, none⟩ u') := by
  have hne : ∀ g, g ≤ w0.heap.size + 2 ∨ g = w0.heap.size + 4 → uw.ownBlock ≠ some g := fun g hg' e => by have := h.s2 g (h.own2 g e); omega
  have hpz := h.pb.1
  have e1 : ∀ b, S1 b → b < W.heap.size → W'.heap[b]? = W.heap[b]? := fun b hb hlt => hg.block b hlt fun e => h.ap b hb (h.own2 b e.symm)
  have hsz : ∀ u : Value, (W'.setCell ⟨w0.heap.size + 1 + 1 + 1 + 1, 2, none⟩ u).heap.size = W'.heap.size := fun u => by simp [World.setCell]
  refine ⟨(h.op.grown hg (hne _ (by omega))).far (by simp <;> omega) _, (h.sto.grown hg (hne _ (by omega))).far (by simp <;> omega) _, (h.res.grown hg (hne _ (by omega))).far (by simp) _, ?_, (h.pb.grown hg (hne _ (by omega))).set_ (i := 2) u', ?_, ?_, ?_, ?_, ?_⟩
  · exact (h.bel.grown hg h.bel.size (fun b hb => by have := h.s2 b (h.own2 b hb); omega)).setCell (p := ⟨w0.heap.size + 1 + 1 + 1 + 1, 2, none⟩) (by simp <;> omega) _
  · refine (h.lk.keep e1).keep fun b hb _ => Below.heap_setCell _ _ _ _ ?_
    rintro rfl
    have := h.s1 _ hb; simp at this <;> omega
  · refine (hu.cap).keep fun b hb _ => Below.heap_setCell _ _ _ _ ?_
    rintro rfl
    rcases hb.1 with hb' | hb' | hb'
    · have := h.s2 _ hb'; simp at this <;> omega
    · have := hS' _ hb'; simp at this <;> omega
    · simp at hb' <;> omega
  · intro b hb
    have := h.s1 b hb; have := hg.size; rw [hsz]; omega
  · rintro b ⟨hb | hb | hb, hlt⟩
    · have := h.s2 b hb; rw [hsz]; omega
    · have := hS' b hb; rw [hsz]; omega
    · rw [hsz]; omega
  · rintro b hb ⟨hb2 | hb2 | hb2, -⟩
    · exact h.ap b hb hb2
    · exact hd1 b hb hb2
    · have := h.s1 b hb; omega
end

end Go.Proofs.YtecdibpiojgppaaGreat
