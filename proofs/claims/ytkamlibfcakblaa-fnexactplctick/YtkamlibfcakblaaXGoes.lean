/- A range over an iterator that no round stops, where the iterator may itself range over a function. -/
import Derived.Test.YtkamlibfcakblaaXDiskList
namespace Go.Proofs.Ytkamlibfcakblaa
open Go.RowKit Go.Shelf

/-- What a round leaves as it was: all blocks but some, and whatever is no cells. -/
structure Calm (S : Nat → Prop) (W W' : World) : Prop where
  outs : Outs S W W'
  others : KeepsOthers W W'
theorem Calm.refl (S : Nat → Prop) (W : World) : Calm S W W := ⟨Outs.refl S W, KeepsOthers.refl W⟩
theorem Calm.trans {S : Nat → Prop} {A B C : World} (h : Calm S A B) (k : Calm S B C) : Calm S A C := ⟨h.outs.trans k.outs, h.others.trans k.others⟩
theorem Calm.drew {S : Nat → Prop} (W : World) : Calm S W W.drew := ⟨(Outs.refl S W).drew, KeepsOthers.drew W⟩
theorem Calm.below {S : Nat → Prop} {W W' : World} (h : Below W.heap.size W W') : Calm S W W' := ⟨Outs.of_below h, keepsOthers_below h⟩
theorem Calm.set {S : Nat → Prop} (W : World) (p : Addr) (u : Value) (h : S p.block) : Calm S W (W.setCell p u) := ⟨Outs.of_set W p u h, KeepsOthers.setCell W p u⟩

section
variable {α : Type} {F : Fence} {n : Nat} {P : Program}

/-- An iterator that hands over just ys, one behind the other, where no round says that it is enough. What the caller says (J) may depend on where the heap ended when the first round began: what the iterator laid for itself lies ahead of that, and no round writes it. -/
def Goes (F : Fence) (n : Nat) (P : Program) (f : Nat) (lb : Array Value) (encs : α → Array Value) (S : Nat → Prop) (ys : List α) (N : Nat) (w : World) : Prop :=
  ∀ (l : Nat) (J : Nat → List α → World → Prop) (W : World), Below w.heap.size w W → (∀ t, OwnFrom W.heap.size (J t)) → (∀ X, Below W.heap.size W X → J X.heap.size [] X) →
    (∀ t pre x X, W.heap.size ≤ t → J t pre X → pre.length < N → YieldAt F (n - 1) P l (encs x) X fun e Y => e = .returned (.bool true) ∧ J t (pre ++ [x]) Y ∧ Calm (fun b => S b ∨ t ≤ b) X Y) →
    CallsIn F n P f (#[.func (.yield l) #[] #[]] ++ lb) W fun e Y => (∃ v, e = .returned v) ∧ ∃ t, W.heap.size ≤ t ∧ J t ys Y

/-- One that stops when it is told so is one. -/
theorem goes_of_stops {f : Nat} {lb : Array Value} {encs : α → Array Value} {S : Nat → Prop} {ys : List α} {Sp : List α → Prop} {N : Nat} {w : World}
    (h : SeqStopsK F n P f lb encs (Outs fun b => S b ∨ w.heap.size ≤ b) (fun xs => xs = ys) Sp N w) : Goes F n P f lb encs S ys N w := by
  intro l J W hb hJ hs hY
  refine (h l (J W.heap.size) (fun _ _ => False) W hb (fun s A B row hs hg hr => hJ _ s A B row hs hg fun r e => ?_) (fun _ _ _ _ hs _ _ => hs)
    (fun pre x X hj hl => (hY _ pre x X (Nat.le_refl _) hj hl).mono fun e Y hy => .inl ⟨hy.1, hy.2.1, hy.2.2.outs.mono fun i _ hi => hi.imp id fun h => Nat.le_trans hb.size h⟩) (hs W (Below.refl _ _))).mono ?_
  · obtain ⟨h1, o, h2, h3⟩ := hr r e
    exact ⟨h1, o, h2, Obj.not_cells_of_walk h3⟩
  · rintro e Y ⟨he, (⟨xs, rfl, hj⟩ | ⟨_, _, hf⟩)⟩
    · exact ⟨he, _, Nat.le_refl _, hj⟩
    · exact hf.elim

/-- How a round of such a loop ends. -/
def roundEnd (I : List α → World → Prop) (S : Nat → Prop) (xs : List α) (W : World) : Exit → Act → World → Prop
  | .normal, _, Y => Calm S W Y ∧ I xs Y
  | _, _, _ => False

theorem wpIn_goes {g : Operand} {ps : Array Tmp} {assign body : Code} {Q : Exit → Act → World → Prop} {a : Act} {w w0 : World} {S : Nat → Prop} {ys : List α} {N : Nat} {encs : α → Array Value} {f : Nat} {lb : Array Value}
    (hro : F.round = none) (h1 : 1 ≤ n) (hg : a.eval g = .func (.func f) #[] lb) (hf : F.fn f) (ef : ∀ args w, (callFunc f args).run P w = .ok (.enter f args) w)
    (hseq : Goes F (n - 1) P f lb encs S ys N w0) (hb0 : Below w0.heap.size w0 w) (hps : ∀ x, (encs x).size = ps.size)
    (I : Nat → List α → World → Prop) (hI : ∀ t, OwnFrom w.heap.size (I t)) (h0 : ∀ X, Below w.heap.size w X → I X.heap.size [] X) (Ax : Nat → α → Act → World → Prop) (hAx : ∀ t x b, OwnFrom w.heap.size (fun (_ : Unit) W => Ax t x b W))
    (hassign : ∀ (l t : Nat) (pre : List α) (x : α) (W : World), w.heap.size + 1 + 1 ≤ t → I t pre W → assign.wpIn (F.inRound l) (n - 1 - 1) P (Exit.then (fun b Y => Calm (fun b => S b ∨ t ≤ b) W Y ∧ I t pre Y ∧ Ax t x b Y) (fun _ _ _ => False)) { tmps := (ps.zip (encs x)).foldl (fun t (p, v) => t.setIfInBounds p v) a.tmps, defers := [] } W)
    (hbody : ∀ (l t : Nat) (pre : List α) (x : α) (b : Act) (W : World), w.heap.size + 1 + 1 ≤ t → I t pre W → pre.length < N → Ax t x b W → body.wpIn (F.inRound l) (n - 1 - 1) P (roundEnd (I t) (fun b => S b ∨ t ≤ b) (pre ++ [x]) W) b W)
    (hdone : ∀ (D t : Nat) (W : World), w.heap.size ≤ D → w.heap.size + 1 + 1 ≤ t → I t ys W → W.heap[D]? = some (.deferred (some [])) → Q .normal { a with defers := { target := .collected D, args := #[] } :: a.defers } W) :
    (Code.rangeFunc g ps assign body).wpIn F n P Q a w := by
  refine wpIn_rangeFunc fun fn hfn => ?_
  rw [hro]
  obtain ⟨R, hR⟩ : ∃ R : LoopState → Loop, R = fun st => { state := st, pending := none, fn, tmps := a.tmps, params := ps, assign, body, defers := w.heap.size } := ⟨_, rfl⟩
  have hz : (w.alloc (.deferred (some []))).heap.size = w.heap.size + 1 := allocSize _ _
  obtain ⟨X, hX⟩ : ∃ X, (w.alloc (.deferred (some []))).alloc (.loop (R .ready)) = X := ⟨_, rfl⟩
  have hl : X.heap[w.heap.size + 1]? = some (.loop (R .ready)) := by
    rw [← hX, ← hz]; exact World.alloc_heap_new _ _
  have hd : X.heap[w.heap.size]? = some (.deferred (some [])) := by
    rw [← hX, Below.heap_alloc _ _ _ (by rw [hz]; omega)]; exact World.alloc_heap_new _ _
  have hwX : Below w.heap.size w X := by rw [← hX]; exact belowTwo _ _ _
  have hXz : X.heap.size = w.heap.size + 1 + 1 := by rw [← hX, allocSize, hz]
  refine ⟨w.heap.size + 1, [{ target := .collected w.heap.size, args := #[] }], X, { target := .fn (.func f) lb, args := #[.func (.yield (w.heap.size + 1)) #[] #[]] }, X, f, #[.func (.yield (w.heap.size + 1)) #[] #[]] ++ lb, X, ?_, ?_, ?_, ?_, fun _ => h1, ?_⟩
  · rw [← hX, hR]; exact run_enterLoop_outer _ _ _ _ _
  · simp only [resolve, hg]; simp [go_sem]
  · intro f' hf'; simp [Target.leads] at hf'; rw [← hf']; exact hf
  · simp [invoke, go_sem, ef]
  refine (hseq (w.heap.size + 1) (fun t pre W => I t pre W ∧ W.heap[w.heap.size + 1]? = some (.loop (R .ready)) ∧ W.heap[w.heap.size]? = some (.deferred (some []))) X (hb0.trans (hwX.mono hb0.size)) ?own ?start ?round).mono ?_
  case own =>
    rintro t s A B row ⟨i1, i2, i3⟩ hgr hr
    have hfar : ∀ (k : Nat) (o : Obj), k < X.heap.size → A.heap[k]? = some o → B.heap[k]? = some o := fun k o hk ho =>
      (hgr.block k (Array.getElem?_eq_some_iff.1 ho).1 (fun e => by have := (hr k e.symm).1; omega)).trans ho
    exact ⟨hI t s A B row i1 hgr (fun r e => by obtain ⟨h2, o, h3⟩ := hr r e; exact ⟨by omega, o, h3⟩), hfar _ _ (by omega) i2, hfar _ _ (by omega) i3⟩
  case start =>
    intro Y hY
    exact ⟨h0 Y (hwX.trans (hY.mono hwX.size)), (hY.block _ (by omega)).trans hl, (hY.block _ (by omega)).trans hd⟩
  case round =>
    rintro t pre x W ht ⟨i1, i2, i3⟩ hlen
    have hlt : w.heap.size + 1 < W.heap.size := (Array.getElem?_eq_some_iff.1 i2).1
    have hy := run_yield (P := P) (args := encs x) i2 (by rw [hR]; exact hps x)
    rw [hR] at hy
    refine ⟨fn, _, assign, body, hy, roundIn_of_wpIn hfn (wpIn_mono (hassign (w.heap.size + 1) t pre x W (by omega) i1) ?_)⟩
    clear hy
    rintro e b Y hq
    cases e with
    | normal =>
      obtain ⟨q1, q2, q3⟩ := hq
      have l2 := q1.others.same _ _ i2 rfl
      have d2 := q1.others.same _ _ i3 rfl
      have hlt2 : w.heap.size + 1 < Y.heap.size := (Array.getElem?_eq_some_iff.1 l2).1
      refine ⟨_, run_beginRound l2 (by rw [hR]), ?_⟩
      obtain ⟨Z, hZ⟩ : ∃ Z, Y.putObj (w.heap.size + 1) (.loop { R .ready with state := .busy }) = Z := ⟨_, rfl⟩
      have l3 : Z.heap[w.heap.size + 1]? = some (.loop { R .ready with state := .busy }) := by rw [← hZ]; exact World.putObj_heap_same hlt2
      have hYZ : ∀ k, k ≠ w.heap.size + 1 → Z.heap[k]? = Y.heap[k]? := fun k hk => by rw [← hZ]; exact World.putObj_heap_other hk
      have iZ : I t pre Z := by rw [← hZ]; exact (hI t).putObj _ q2 (by omega) l2 rfl
      have aZ : Ax t x b Z := by rw [← hZ]; exact (hAx t x b).putObj (s := ()) _ q3 (by omega) l2 rfl
      have gZ := grownBy_putObj' Y (w.heap.size + 1) (.loop { R .ready with state := .busy })
      rw [hZ] at gZ ⊢
      refine wpIn_mono (hbody (w.heap.size + 1) t pre x b Z (by omega) iZ hlen aZ) ?_
      rintro e b3 V hq3
      cases e with
      | normal =>
        obtain ⟨r1, r2⟩ := hq3
        have l4 := r1.others.same _ _ l3 rfl
        have hlt4 : w.heap.size + 1 < V.heap.size := (Array.getElem?_eq_some_iff.1 l4).1
        have hend := run_endRound (P := P) none l4
        have d4 : V.heap[w.heap.size]? = some (.deferred (some [])) := r1.others.same _ _ ((hYZ _ (by omega)).trans d2) rfl
        obtain ⟨U, hU⟩ : ∃ U, V.putObj (w.heap.size + 1) (.loop { { R .ready with state := .busy } with state := if (none : Option Code).isNone then .ready else .done, pending := none }) = U := ⟨_, rfl⟩
        have gU := grownBy_putObj' V (w.heap.size + 1) (.loop { { R .ready with state := .busy } with state := if (none : Option Code).isNone then .ready else .done, pending := none })
        have iU : I t (pre ++ [x]) U := by rw [← hU]; exact (hI t).putObj _ r2 (by omega) l4 rfl
        have lU : U.heap[w.heap.size + 1]? = some (.loop (R .ready)) := by rw [← hU, World.putObj_heap_same hlt4, hR]; rfl
        have oU : ∀ k, k ≠ w.heap.size + 1 → U.heap[k]? = V.heap[k]? := fun k hk => by rw [← hU]; exact World.putObj_heap_other hk
        rw [hU] at hend gU
        have hsz : W.heap.size ≤ U.heap.size := Nat.le_trans q1.others.size (Nat.le_trans gZ.size (Nat.le_trans r1.others.size gU.size))
        refine ⟨_, _, hend, rfl, ⟨iU, lU, (oU _ (by omega)).trans d4⟩, ⟨gU.os.trans (r1.outs.os.trans (gZ.os.trans q1.outs.os)), gU.tape.trans (r1.outs.tape.trans (gZ.tape.trans q1.outs.tape)), gU.output.trans (r1.outs.output.trans (gZ.output.trans q1.outs.output)), hsz, fun k hk hSk => ?_⟩, hsz, fun k o hk hc => ?_⟩
        · by_cases e : k = w.heap.size + 1
          · subst e; rw [lU, i2]
          · rw [oU k e, r1.outs.block k (Nat.lt_of_lt_of_le hk (Nat.le_trans q1.others.size gZ.size)) hSk, hYZ k e, q1.outs.block k hk hSk]
        · by_cases e : k = w.heap.size + 1
          · subst e; rw [lU, ← i2]; exact hk
          · exact (oU k e).trans (r1.others.same k o ((hYZ k e).trans (q1.others.same k o hk hc)) hc)
      | _ => exact hq3.elim
    | _ => exact hq.elim
  rintro e V ⟨⟨v, rfl⟩, t, ht, i1, i2, i3⟩
  have hend := run_endLoop (P := P) i2 (by rw [hR]; simp)
  rw [hR] at hend
  exact ⟨none, _, hend, hdone _ t _ (Nat.le_refl _) (by omega) ((hI t).putObj _ i1 (by omega) i2 rfl) ((World.putObj_heap_other (by omega)).trans i3)⟩
end

/-- All notes of a ring, in order. -/
theorem after_goes (F : Fence) (d : Nat) (hg : F.fn 119) (hro : F.round = none) (hd : 1 ≤ d) (Ba Bl B : Nat) (S : Nat → Prop) (L : List Nat) (ns : List Note)
    (w : World) (hBa' : Ba < w.heap.size) (hBl0 : Bl < w.heap.size) (hBl' : ¬ S Bl) (hBa : w.cell? ⟨Ba, 0, none⟩ = some (ptr (at_ L 0))) (hBl : w.cell? ⟨Bl, 0, none⟩ = some (ptr (at_ L 0))) (hR : Ring w B L ns) (hLn : ∀ i, i < L.length → ¬ S (at_ L i)) (hBn : ∀ b, b < B → ¬ S b) :
    Goes F d Try.prog 119 #[ptr Ba, ptr Bl] (fun x : Spot ns.length => #[ptr (at_ L x.1)]) S (upto ns.length ns.length (Nat.le_refl _)) ns.length w := by
  have h := after_out F d hg hro hd Ba Bl B (fun b => S b ∨ w.heap.size ≤ b) L ns w hBa' hBl0 (fun h => h.elim hBl' fun h => by omega) hBa hBl hR (fun i hi h => h.elim (hLn i hi) fun h => by have := hR.lt i hi; omega) (fun b hb h => h.elim (hBn b hb) fun h => by have := hR.size; omega)
  rw [upto_len] at h
  exact goes_of_stops h

end Go.Proofs.Ytkamlibfcakblaa
