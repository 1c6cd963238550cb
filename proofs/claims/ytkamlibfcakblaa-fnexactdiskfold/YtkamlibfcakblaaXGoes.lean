/- Texts that follow each other, merged: Goes, DiskOf, JaInts, OpenP. -/
import Derived.Test.YtkamlibfcakblaaXTight
import Derived.Test.YtkamlibfcakblaaXLastKind
import Derived.Test.YtkamlibfcakblaaXKey
import Derived.Test.YtkamlibfcakblaaXPlain
import Derived.Deep.QuietTactic
import Derived.BigQuiet

/- A range over an iterator that no round stops, where the iterator may itself range over a function. -/
namespace Go.Proofs.Ytkamlibfcakblaa
open Go.RowKit Go.Shelf

/-- What a round leaves as it was: all blocks but some, and whatever is no cells. -/
structure Calm (S : Nat → Prop) (W W' : World) : Prop where
  outs : Outs S W W'
  others : KeepsOthers W W'
theorem Calm.refl (S : Nat → Prop) (W : World) : Calm S W W := ⟨Outs.refl S W, KeepsOthers.refl W⟩
theorem Calm.trans {S : Nat → Prop} {A B C : World} (h : Calm S A B) (k : Calm S B C) : Calm S A C := ⟨h.outs.trans k.outs, h.others.trans k.others⟩
theorem Calm.drew {S : Nat → Prop} (W : World) : Calm S W W.drew := ⟨(Outs.refl S W).drew, KeepsOthers.drew W⟩
theorem Calm.below {S : Nat → Prop} {W W' : World} (h : Below W.heap.size W W') : Calm S W W' := ⟨Outs.of_below h, keepsOthers_below h⟩
theorem Calm.set {S : Nat → Prop} (W : World) (p : Addr) (u : Value) (h : S p.block) : Calm S W (W.setCell p u) := ⟨Outs.of_set W p u h, KeepsOthers.setCell W p u⟩

section
variable {α : Type} {F : Fence} {n : Nat} {P : Program}

/-- An iterator that hands over just ys, one behind the other, where no round says that it is enough. What the caller says (J) may depend on where the heap ended when the first round began: what the iterator laid for itself lies ahead of that, and no round writes it. -/
def Goes (F : Fence) (n : Nat) (P : Program) (f : Nat) (lb : Array Value) (encs : α → Array Value) (S : Nat → Prop) (ys : List α) (N : Nat) (w : World) : Prop :=
  ∀ (l : Nat) (J : Nat → List α → World → Prop) (W : World), Below w.heap.size w W → (∀ t, OwnFrom W.heap.size (J t)) → (∀ X, Below W.heap.size W X → J X.heap.size [] X) →
    (∀ t pre x X, W.heap.size ≤ t → J t pre X → pre.length < N → YieldAt F (n - 1) P l (encs x) X fun e Y => e = .returned (.bool true) ∧ J t (pre ++ [x]) Y ∧ Calm (fun b => S b ∨ t ≤ b) X Y) →
    CallsIn F n P f (#[.func (.yield l) #[] #[]] ++ lb) W fun e Y => (∃ v, e = .returned v) ∧ ∃ t, W.heap.size ≤ t ∧ J t ys Y

/-- One that stops when it is told so is one. -/
theorem goes_of_stops {f : Nat} {lb : Array Value} {encs : α → Array Value} {S : Nat → Prop} {ys : List α} {Sp : List α → Prop} {N : Nat} {w : World}
    (h : SeqStopsK F n P f lb encs (Outs fun b => S b ∨ w.heap.size ≤ b) (fun xs => xs = ys) Sp N w) : Goes F n P f lb encs S ys N w := by
  intro l J W hb hJ hs hY
  refine (h l (J W.heap.size) (fun _ _ => False) W hb (fun s A B row hs hg hr => hJ _ s A B row hs hg fun r e => ?_) (fun _ _ _ _ hs _ _ => hs)
    (fun pre x X hj hl => (hY _ pre x X (Nat.le_refl _) hj hl).mono fun e Y hy => .inl ⟨hy.1, hy.2.1, hy.2.2.outs.mono fun i _ hi => hi.imp id fun h => Nat.le_trans hb.size h⟩) (hs W (Below.refl _ _))).mono ?_
  · obtain ⟨h1, o, h2, h3⟩ := hr r e
    exact ⟨h1, o, h2, Obj.not_cells_of_walk h3⟩
  · rintro e Y ⟨he, (⟨xs, rfl, hj⟩ | ⟨_, _, hf⟩)⟩
    · exact ⟨he, _, Nat.le_refl _, hj⟩
    · exact hf.elim

/-- How a round of such a loop ends. -/
def roundEnd (I : List α → World → Prop) (S : Nat → Prop) (xs : List α) (W : World) : Exit → Act → World → Prop
  | .normal, _, Y => Calm S W Y ∧ I xs Y
  | _, _, _ => False

theorem wpIn_goes {g : Operand} {ps : Array Tmp} {assign body : Code} {Q : Exit → Act → World → Prop} {a : Act} {w w0 : World} {S : Nat → Prop} {ys : List α} {N : Nat} {encs : α → Array Value} {f : Nat} {lb : Array Value}
    (hro : F.round = none) (h1 : 1 ≤ n) (hg : a.eval g = .func (.func f) #[] lb) (hf : F.fn f) (ef : ∀ args w, (callFunc f args).run P w = .ok (.enter f args) w)
    (hseq : Goes F (n - 1) P f lb encs S ys N w0) (hb0 : Below w0.heap.size w0 w) (hps : ∀ x, (encs x).size = ps.size)
    (I : Nat → List α → World → Prop) (hI : ∀ t, OwnFrom w.heap.size (I t)) (h0 : ∀ X, Below w.heap.size w X → I X.heap.size [] X) (Ax : Nat → α → Act → World → Prop) (hAx : ∀ t x b, OwnFrom w.heap.size (fun (_ : Unit) W => Ax t x b W))
    (hassign : ∀ (l t : Nat) (pre : List α) (x : α) (W : World), w.heap.size + 1 + 1 ≤ t → I t pre W → assign.wpIn (F.inRound l) (n - 1 - 1) P (Exit.then (fun b Y => Calm (fun b => S b ∨ t ≤ b) W Y ∧ I t pre Y ∧ Ax t x b Y) (fun _ _ _ => False)) { tmps := (ps.zip (encs x)).foldl (fun t (p, v) => t.setIfInBounds p v) a.tmps, defers := [] } W)
    (hbody : ∀ (l t : Nat) (pre : List α) (x : α) (b : Act) (W : World), w.heap.size + 1 + 1 ≤ t → I t pre W → pre.length < N → Ax t x b W → body.wpIn (F.inRound l) (n - 1 - 1) P (roundEnd (I t) (fun b => S b ∨ t ≤ b) (pre ++ [x]) W) b W)
    (hdone : ∀ (D t : Nat) (W : World), w.heap.size ≤ D → w.heap.size + 1 + 1 ≤ t → I t ys W → W.heap[D]? = some (.deferred (some [])) → Q .normal { a with defers := { target := .collected D, args := #[] } :: a.defers } W) :
    (Code.rangeFunc g ps assign body).wpIn F n P Q a w := by
  refine wpIn_rangeFunc fun fn hfn => ?_
  rw [hro]
  obtain ⟨R, hR⟩ : ∃ R : LoopState → Loop, R = fun st => { state := st, pending := none, fn, tmps := a.tmps, params := ps, assign, body, defers := w.heap.size } := ⟨_, rfl⟩
  have hz : (w.alloc (.deferred (some []))).heap.size = w.heap.size + 1 := allocSize _ _
  obtain ⟨X, hX⟩ : ∃ X, (w.alloc (.deferred (some []))).alloc (.loop (R .ready)) = X := ⟨_, rfl⟩
  have hl : X.heap[w.heap.size + 1]? = some (.loop (R .ready)) := by
    rw [← hX, ← hz]; exact World.alloc_heap_new _ _
  have hd : X.heap[w.heap.size]? = some (.deferred (some [])) := by
    rw [← hX, Below.heap_alloc _ _ _ (by rw [hz]; omega)]; exact World.alloc_heap_new _ _
  have hwX : Below w.heap.size w X := by rw [← hX]; exact belowTwo _ _ _
  have hXz : X.heap.size = w.heap.size + 1 + 1 := by rw [← hX, allocSize, hz]
  refine ⟨w.heap.size + 1, [{ target := .collected w.heap.size, args := #[] }], X, { target := .fn (.func f) lb, args := #[.func (.yield (w.heap.size + 1)) #[] #[]] }, X, f, #[.func (.yield (w.heap.size + 1)) #[] #[]] ++ lb, X, ?_, ?_, ?_, ?_, fun _ => h1, ?_⟩
  · rw [← hX, hR]; exact run_enterLoop_outer _ _ _ _ _
  · simp only [resolve, hg]; simp [go_sem]
  · intro f' hf'; simp [Target.leads] at hf'; rw [← hf']; exact hf
  · simp [invoke, go_sem, ef]
  refine (hseq (w.heap.size + 1) (fun t pre W => I t pre W ∧ W.heap[w.heap.size + 1]? = some (.loop (R .ready)) ∧ W.heap[w.heap.size]? = some (.deferred (some []))) X (hb0.trans (hwX.mono hb0.size)) ?own ?start ?round).mono ?_
  case own =>
    rintro t s A B row ⟨i1, i2, i3⟩ hgr hr
    have hfar : ∀ (k : Nat) (o : Obj), k < X.heap.size → A.heap[k]? = some o → B.heap[k]? = some o := fun k o hk ho =>
      (hgr.block k (Array.getElem?_eq_some_iff.1 ho).1 (fun e => by have := (hr k e.symm).1; omega)).trans ho
    exact ⟨hI t s A B row i1 hgr (fun r e => by obtain ⟨h2, o, h3⟩ := hr r e; exact ⟨by omega, o, h3⟩), hfar _ _ (by omega) i2, hfar _ _ (by omega) i3⟩
  case start =>
    intro Y hY
    exact ⟨h0 Y (hwX.trans (hY.mono hwX.size)), (hY.block _ (by omega)).trans hl, (hY.block _ (by omega)).trans hd⟩
  case round =>
    rintro t pre x W ht ⟨i1, i2, i3⟩ hlen
    have hlt : w.heap.size + 1 < W.heap.size := (Array.getElem?_eq_some_iff.1 i2).1
    have hy := run_yield (P := P) (args := encs x) i2 (by rw [hR]; exact hps x)
    rw [hR] at hy
    refine ⟨fn, _, assign, body, hy, roundIn_of_wpIn hfn (wpIn_mono (hassign (w.heap.size + 1) t pre x W (by omega) i1) ?_)⟩
    clear hy
    rintro e b Y hq
    cases e with
    | normal =>
      obtain ⟨q1, q2, q3⟩ := hq
      have l2 := q1.others.same _ _ i2 rfl
      have d2 := q1.others.same _ _ i3 rfl
      have hlt2 : w.heap.size + 1 < Y.heap.size := (Array.getElem?_eq_some_iff.1 l2).1
      refine ⟨_, run_beginRound l2 (by rw [hR]), ?_⟩
      obtain ⟨Z, hZ⟩ : ∃ Z, Y.putObj (w.heap.size + 1) (.loop { R .ready with state := .busy }) = Z := ⟨_, rfl⟩
      have l3 : Z.heap[w.heap.size + 1]? = some (.loop { R .ready with state := .busy }) := by rw [← hZ]; exact World.putObj_heap_same hlt2
      have hYZ : ∀ k, k ≠ w.heap.size + 1 → Z.heap[k]? = Y.heap[k]? := fun k hk => by rw [← hZ]; exact World.putObj_heap_other hk
      have iZ : I t pre Z := by rw [← hZ]; exact (hI t).putObj _ q2 (by omega) l2 rfl
      have aZ : Ax t x b Z := by rw [← hZ]; exact (hAx t x b).putObj (s := ()) _ q3 (by omega) l2 rfl
      have gZ := grownBy_putObj' Y (w.heap.size + 1) (.loop { R .ready with state := .busy })
      rw [hZ] at gZ ⊢
      refine wpIn_mono (hbody (w.heap.size + 1) t pre x b Z (by omega) iZ hlen aZ) ?_
      rintro e b3 V hq3
      cases e with
      | normal =>
        obtain ⟨r1, r2⟩ := hq3
        have l4 := r1.others.same _ _ l3 rfl
        have hlt4 : w.heap.size + 1 < V.heap.size := (Array.getElem?_eq_some_iff.1 l4).1
        have hend := run_endRound (P := P) none l4
        have d4 : V.heap[w.heap.size]? = some (.deferred (some [])) := r1.others.same _ _ ((hYZ _ (by omega)).trans d2) rfl
        obtain ⟨U, hU⟩ : ∃ U, V.putObj (w.heap.size + 1) (.loop { { R .ready with state := .busy } with state := if (none : Option Code).isNone then .ready else .done, pending := none }) = U := ⟨_, rfl⟩
        have gU := grownBy_putObj' V (w.heap.size + 1) (.loop { { R .ready with state := .busy } with state := if (none : Option Code).isNone then .ready else .done, pending := none })
        have iU : I t (pre ++ [x]) U := by rw [← hU]; exact (hI t).putObj _ r2 (by omega) l4 rfl
        have lU : U.heap[w.heap.size + 1]? = some (.loop (R .ready)) := by rw [← hU, World.putObj_heap_same hlt4, hR]; rfl
        have oU : ∀ k, k ≠ w.heap.size + 1 → U.heap[k]? = V.heap[k]? := fun k hk => by rw [← hU]; exact World.putObj_heap_other hk
        rw [hU] at hend gU
        have hsz : W.heap.size ≤ U.heap.size := Nat.le_trans q1.others.size (Nat.le_trans gZ.size (Nat.le_trans r1.others.size gU.size))
        refine ⟨_, _, hend, rfl, ⟨iU, lU, (oU _ (by omega)).trans d4⟩, ⟨gU.os.trans (r1.outs.os.trans (gZ.os.trans q1.outs.os)), gU.tape.trans (r1.outs.tape.trans (gZ.tape.trans q1.outs.tape)), gU.output.trans (r1.outs.output.trans (gZ.output.trans q1.outs.output)), hsz, fun k hk hSk => ?_⟩, hsz, fun k o hk hc => ?_⟩
        · by_cases e : k = w.heap.size + 1
          · subst e; rw [lU, i2]
          · rw [oU k e, r1.outs.block k (Nat.lt_of_lt_of_le hk (Nat.le_trans q1.others.size gZ.size)) hSk, hYZ k e, q1.outs.block k hk hSk]
        · by_cases e : k = w.heap.size + 1
          · subst e; rw [lU, ← i2]; exact hk
          · exact (oU k e).trans (r1.others.same k o ((hYZ k e).trans (q1.others.same k o hk hc)) hc)
      | _ => exact hq3.elim
    | _ => exact hq.elim
  rintro e V ⟨⟨v, rfl⟩, t, ht, i1, i2, i3⟩
  have hend := run_endLoop (P := P) i2 (by rw [hR]; simp)
  rw [hR] at hend
  exact ⟨none, _, hend, hdone _ t _ (Nat.le_refl _) (by omega) ((hI t).putObj _ i1 (by omega) i2 rfl) ((World.putObj_heap_other (by omega)).trans i3)⟩
end

/-- All notes of a ring, in order. -/
theorem after_goes (F : Fence) (d : Nat) (hg : F.fn 119) (hro : F.round = none) (hd : 1 ≤ d) (Ba Bl B : Nat) (S : Nat → Prop) (L : List Nat) (ns : List Note)
    (w : World) (hBa' : Ba < w.heap.size) (hBl0 : Bl < w.heap.size) (hBl' : ¬ S Bl) (hBa : w.cell? ⟨Ba, 0, none⟩ = some (ptr (at_ L 0))) (hBl : w.cell? ⟨Bl, 0, none⟩ = some (ptr (at_ L 0))) (hR : Ring w B L ns) (hLn : ∀ i, i < L.length → ¬ S (at_ L i)) (hBn : ∀ b, b < B → ¬ S b) :
    Goes F d Try.prog 119 #[ptr Ba, ptr Bl] (fun x : Spot ns.length => #[ptr (at_ L x.1)]) S (upto ns.length ns.length (Nat.le_refl _)) ns.length w := by
  have h := after_out F d hg hro hd Ba Bl B (fun b => S b ∨ w.heap.size ≤ b) L ns w hBa' hBl0 (fun h => h.elim hBl' fun h => by omega) hBa hBl hR (fun i hi h => h.elim (hLn i hi) fun h => by have := hR.lt i hi; omega) (fun b hb h => h.elim (hBn b hb) fun h => by have := hR.size; omega)
  rw [upto_len] at h
  exact goes_of_stops h

end Go.Proofs.Ytkamlibfcakblaa

/- What DiskOf answers, of the program and of the model: the same. -/
namespace Go.Proofs.Ytkamlibfcakblaa
open Go.RowKit

/-- What DiskOf answers. -/
def ofD (x : Disk) (tx : Int) : Int := if diskB x = true then lastK x.notes tx else 0
theorem ofD_no {x : Disk} {tx : Int} (h : diskB x = false) : ofD x tx = 0 := by unfold ofD; rw [h]; rfl
theorem ofD_yes {x : Disk} {tx : Int} (h : diskB x = true) : ofD x tx = lastK x.notes tx := by unfold ofD; rw [h]; rfl
theorem lastK_take {ns : List Note} {tx : Int} {k : Nat} {y : Note} (h : ns[k]? = some y) : lastK (ns.take (k + 1)) tx = stepK tx (lastK (ns.take k) tx) y := by
  unfold lastK; rw [take_snoc h, List.foldl_append]; rfl

theorem l2Of_any (w : World) (B : Nat) (v : Value) (ns : List Note) (tx : Int) (hv : noteSh.Row w B v ns) :
    Calls Try.prog 63 #[v, .int .i64 tx] w fun e w' => e = .returned (.int .i64 (lastK ns tx)) ∧ w = w' := by
  obtain ⟨A, c, rfl, hc2, hc1⟩ := hv.form
  unfold maxLen at hc2
  go_enter Try.func63, Try.ntmps63
  go_wp2
  go_loop [5, 6] (fun h i => ∃ k : Nat, k ≤ ns.length ∧ i = .int .i64 k ∧ h = .int .i64 (lastK (ns.take k) tx)) (fun _ i => ns.length - (intOf i).toNat)
  case atStart => exact ⟨0, Nat.zero_le _, rfl, rfl⟩
  case round =>
    obtain ⟨k, hk, rfl, rfl⟩ := hrel
    by_cases hlt : k < ns.length
    · obtain ⟨b, off, c', y, A1, c1, A2, c2, e1, hx, hB, d0, d1, d2, d3, -⟩ := notes_at2 hv hlt
      injection e1 with e1a e1b e1c
      subst e1a
      have HT := Lib.hid (lastK_take (tx := tx) hx)
      clear e1b e1c hv hx
      by_cases h1 : y.tx = tx
      · have e1 : (y.tx == tx) = true := by simp [h1]
        by_cases h2 : y.kind = 4
        · have e2 : (y.kind != 4) = false := by simp [h2]
          have HH : Hid (stepK tx (lastK (ns.take k) tx) y = lastK (ns.take k) tx) := Lib.hid (by unfold stepK hitK; simp [h2])
          clear h1 h2
          go_wp2
          go_round
          case rel => exact ⟨k + 1, by omega, by go_num, by rw [HT.out, HH.out]⟩
          case measure => simp [intOf]; omega
        · have e2 : (y.kind != 4) = true := by simp [h2]
          have HH : Hid (stepK tx (lastK (ns.take k) tx) y = y.kind) := Lib.hid (by unfold stepK hitK; simp [h1, h2])
          clear h1 h2
          go_wp2
          go_round
          case rel => exact ⟨k + 1, by omega, by go_num, by rw [HT.out, HH.out]⟩
          case measure => simp [intOf]; omega
      · have e1 : (y.tx == tx) = false := by simp [h1]
        have HH : Hid (stepK tx (lastK (ns.take k) tx) y = lastK (ns.take k) tx) := Lib.hid (by unfold stepK hitK; simp [h1])
        clear h1
        go_wp2
        go_round
        case rel => exact ⟨k + 1, by omega, by go_num, by rw [HT.out, HH.out]⟩
        case measure => simp [intOf]; omega
    · have hks : k = ns.length := by omega
      have HE : Hid (lastK (ns.take k) tx = lastK ns tx) := Lib.hid (by rw [hks, List.take_length])
      clear hks hv
      go_wp2
      go_ret
      exact ⟨ret_int HE.out, rfl⟩

theorem specDiskOf_any (w : World) (cs : List Value) (x : Disk) (tx : Int) (h : diskSh.rel w w.heap.size cs x) :
    Calls Try.prog 14 #[.agg cs.toArray, .int .i64 tx] w fun e w' => e = .returned (.int .i64 (ofD x tx)) ∧ Below w.heap.size w w' := by
  have HH := Lib.hid fun W (hb : Below w.heap.size w W) => diskSh.rmore (diskSh.rbelow h hb) hb.size
  obtain ⟨u, rfl, hu⟩ := disk_rel.1 h
  obtain ⟨Au, cu, rfl, hcu, hnu⟩ := hu.form
  have HU := Lib.hid fun W (hb : Below w.heap.size w W) => hu.below hb
  have HX := Lib.hid (Held.new w #[.slice Au x.notes.length cu, .int .i64 x.safe] 25)
  have HW := Lib.hid (belowOne w (.cells #[.slice Au x.notes.length cu, .int .i64 x.safe] 25))
  clear h hu
  go_enter Try.func14, Try.ntmps14
  go_wp2_with fail
  refine (specDiskOk_any _ _ x (HH.out _ HW.out)).mono ?_
  rintro e w1 ⟨rfl, hb⟩
  replace HX := Lib.hid (HX.out.below hb HX.out.1)
  replace HW := Lib.hid (belowNext HW.out hb)
  clear hb
  have c0 := HX.out.of 0 _ rfl
  rcases hd : diskB x
  · go_wp2
    go_ret
    exact ⟨ret_int (ofD_no hd).symm, HW.out⟩
  · go_wp2_with fail
    refine (l2Of_any _ _ _ _ _ (HU.out _ HW.out)).mono ?_
    rintro e w2 ⟨rfl, rfl⟩
    go_wp2
    go_ret
    exact ⟨ret_int (ofD_yes hd).symm, HW.out⟩

theorem implDiskOf_any (w : World) (cs : List Value) (x : Disk) (tx : Int) (h : diskSh.rel w w.heap.size cs x) :
    Calls Try.prog 13 #[.agg cs.toArray, .int .i64 tx] w fun e w' => e = .returned (.int .i64 (ofD x tx)) ∧ Below w.heap.size w w' := by
  have HH := Lib.hid fun W (hb : Below w.heap.size w W) => diskSh.rmore (diskSh.rbelow h hb) hb.size
  obtain ⟨u, rfl, hu⟩ := disk_rel.1 h
  obtain ⟨Au, cu, rfl, hcu, hnu⟩ := hu.form
  have HU := Lib.hid fun W (hb : Below w.heap.size w W) => (hu.below hb).more hb.size
  have HX := Lib.hid (Held.new w #[.slice Au x.notes.length cu, .int .i64 x.safe] 25)
  have HW := Lib.hid (belowOne w (.cells #[.slice Au x.notes.length cu, .int .i64 x.safe] 25))
  clear h hu
  go_enter Try.func13, Try.ntmps13
  go_wp2_with fail
  refine (implDiskOk_any _ _ x (HH.out _ HW.out)).mono ?_
  rintro e w1 ⟨rfl, hb⟩
  replace HX := Lib.hid (HX.out.below hb HX.out.1)
  replace HW := Lib.hid (belowNext HW.out hb)
  clear hb
  have c0 := HX.out.of 0 _ rfl
  rcases hd : diskB x
  · go_wp2
    go_ret
    exact ⟨ret_int (ofD_no hd).symm, HW.out⟩
  · go_wp2_with fail
    refine (listOf_any _ _ x.notes (HU.out _ HW.out)).mono ?_
    rintro e w2 ⟨L, rfl, hR, hb⟩
    have HA := Lib.hid (lastKind_any w2 _ L x.notes tx hR)
    replace HW := Lib.hid (belowNext HW.out hb)
    clear hb hR c0
    unfold ptr at HA ⊢
    go_wp2_with fail
    refine HA.out.mono ?_
    rintro e w3 ⟨rfl, hb⟩
    replace HW := Lib.hid (belowNext HW.out hb)
    clear hb
    go_wp2
    go_ret
    exact ⟨ret_int (ofD_yes hd).symm, HW.out⟩

end Go.Proofs.Ytkamlibfcakblaa

/- jaInts and jaIn of the laws. -/
namespace Go.Proofs.Ytkamlibfcakblaa
open Go.RowKit

set_option maxRecDepth 100000 in
theorem jaInts_any (w : World) (B : Nat) (v u : Value) (xs ys : List Int) (hv : Ints w B v xs) (hu : Ints w B u ys) :
    Calls Try.prog 22 #[v, u] w fun e w' => e = .returned (.bool (decide (xs = ys))) ∧ ∃ n, w' = w.drewN n := by
  obtain ⟨A, c, rfl, hc1, hc2, hrow⟩ := hv
  obtain ⟨A', c', rfl, hc1', hc2', hrow'⟩ := hu
  unfold maxLen at hc2 hc2'
  by_cases hl : xs.length = ys.length
  · have HL := Lib.hid hl
    have hl1 : xs.length ≤ ys.length := by omega
    have hl2 : ys.length ≤ xs.length := by omega
    have hbe : (((xs.length : Nat) : Int) != ((ys.length : Nat) : Int)) = false := by simp [hl]
    clear hl
    go_enter Try.func22, Try.ntmps22
    go_wp2
    go_loopw [5] (fun i wr => ∃ k n : Nat, k ≤ xs.length ∧ i = .int .i64 k ∧ Same xs ys k ∧ wr = w.drewN n) (fun i _ => xs.length - (intOf i).toNat)
    case atStart => exact ⟨0, 0, Nat.zero_le _, rfl, Same.start xs ys, rfl⟩
    case round =>
      obtain ⟨k, n, hk, rfl, hs, rfl⟩ := hrel
      by_cases hlt : k < xs.length
      · obtain ⟨b, off, rfl, hB, hcell⟩ := hrow (by omega)
        obtain ⟨b', off', rfl, hB', hcell'⟩ := hrow' (by omega)
        have hck := hcell k hlt
        have hck' := hcell' k (by omega)
        have hlt' : k < ys.length := by omega
        clear hcell hrow hcell' hrow'
        by_cases hn : nth xs k = nth ys k
        · have hs1 := hs.step hn
          have hb1 : (nth xs k != nth ys k) = false := by simp [hn]
          clear hn
          go_wp2
          go_quiet (fail)
          go_wp2
          go_roundw
          case rel => exact ⟨k + 1, _, by omega, by go_num, hs1, rfl⟩
          case measure => simp [intOf]; omega
        · have hne := Lib.hid (nth_ne hn)
          have hb1 : (nth xs k != nth ys k) = true := by simp [hn]
          clear hn
          go_wp2
          go_quiet (fail)
          go_wp2
          go_ret
          exact ⟨ret_bool (by simp [hne.out]), _, World.drewN_drewN _ _ _⟩
      · have hks : k = xs.length := by omega
        have HE := Lib.hid ((hks ▸ hs : Same xs ys xs.length).eq HL.out)
        clear hks hrow hrow'
        go_wp2
        go_ret
        exact ⟨ret_bool (by simp [HE.out]), _, rfl⟩
  · have hne := Lib.hid (len_ne hl)
    have hbe : (((xs.length : Nat) : Int) != ((ys.length : Nat) : Int)) = true := by simp; omega
    clear hl hrow hrow'
    go_enter Try.func22, Try.ntmps22
    go_wp2
    go_ret
    exact ⟨ret_bool (by simp [hne.out]), 0, rfl⟩

/-- A number is one of some. -/
def memB (xs : List Int) (n : Int) : Bool := xs.contains n
/-- None of the first k is it. -/
def NoneTo (xs : List Int) (n : Int) (k : Nat) : Prop := ∀ j, j < k → j < xs.length → nth xs j ≠ n
theorem NoneTo.start (xs : List Int) (n : Int) : NoneTo xs n 0 := fun j h => absurd h (by omega)
theorem NoneTo.step {xs : List Int} {n : Int} {k : Nat} (h : NoneTo xs n k) (hn : nth xs k ≠ n) : NoneTo xs n (k + 1) := by
  intro j hj hl
  rcases Nat.lt_or_ge j k with hlt | hge
  · exact h j hlt hl
  · have : j = k := by omega
    subst this; exact hn
theorem NoneTo.all {xs : List Int} {n : Int} (h : NoneTo xs n xs.length) : memB xs n = false := by
  unfold memB
  rw [List.contains_eq_mem, decide_eq_false_iff_not]
  intro hm
  obtain ⟨j, hj, e⟩ := List.getElem_of_mem hm
  have := h j hj hj
  rw [nth_get hj] at this
  exact this e
theorem memB_at {xs : List Int} {n : Int} {k : Nat} (hk : k < xs.length) (h : nth xs k = n) : memB xs n = true := by
  unfold memB
  rw [List.contains_eq_mem, decide_eq_true_iff]
  rw [nth_get hk] at h
  exact h ▸ List.getElem_mem hk
set_option maxRecDepth 100000 in
theorem jaIn_any (w : World) (B : Nat) (v : Value) (xs : List Int) (n : Int) (hv : Ints w B v xs) :
    Calls Try.prog 26 #[v, .int .i64 n] w fun e w' => e = .returned (.bool (memB xs n)) ∧ w = w' := by
  obtain ⟨A, c, rfl, hc1, hc2, hrow⟩ := hv
  unfold maxLen at hc2
  go_enter Try.func26, Try.ntmps26
  go_wp2
  go_loop [5] (fun i => ∃ k : Nat, k ≤ xs.length ∧ i = .int .i64 k ∧ NoneTo xs n k) (fun i => xs.length - (intOf i).toNat)
  case atStart => exact ⟨0, Nat.zero_le _, rfl, NoneTo.start xs n⟩
  case round =>
    obtain ⟨k, hk, rfl, hs⟩ := hrel
    by_cases hlt : k < xs.length
    · obtain ⟨b, off, rfl, hB, hcell⟩ := hrow (by omega)
      have hck := hcell k hlt
      clear hcell hrow
      by_cases hn : nth xs k = n
      · have HM := Lib.hid (memB_at hlt hn)
        have hb1 : (nth xs k == n) = true := by simp [hn]
        clear hn
        go_wp2
        go_ret
        exact ⟨ret_bool HM.out.symm, rfl⟩
      · have HS := Lib.hid (hs.step hn)
        have hb1 : (nth xs k == n) = false := by simp [hn]
        clear hn
        go_wp2
        go_round
        case rel => exact ⟨k + 1, by omega, by go_num, HS.out⟩
        case measure => simp [intOf]; omega
    · have hks : k = xs.length := by omega
      have HM := Lib.hid (NoneTo.all (hks ▸ hs : NoneTo xs n xs.length))
      clear hks hrow
      go_wp2
      go_ret
      exact ⟨ret_bool HM.out.symm, rfl⟩

end Go.Proofs.Ytkamlibfcakblaa

/- Which notes are in doubt, and what is open and locked by them. -/
namespace Go.Proofs.Ytkamlibfcakblaa

/-- A note of one who is ready, of whom nothing else is noted later. -/
def openB (ns : List Note) (n : Note) : Bool := decide (n.kind = 1) && decide (lastK ns n.tx = 1)
theorem openB_kind {ns : List Note} {n : Note} (h : n.kind ≠ 1) : openB ns n = false := by simp [openB, h]
theorem openB_last {ns : List Note} {n : Note} (h : lastK ns n.tx ≠ 1) : openB ns n = false := by simp [openB, h]
theorem openB_yes {ns : List Note} {n : Note} (h : n.kind = 1) (h2 : lastK ns n.tx = 1) : openB ns n = true := by simp [openB, h, h2]
/-- What follows a note of tx says what all say. -/
theorem last_drop {ns : List Note} {k : Nat} {y : Note} (h : ns[k]? = some y) (hk : y.kind = 1) : lastK (ns.drop k) y.tx = lastK ns y.tx := by
  obtain ⟨hlt, rfl⟩ := List.getElem?_eq_some_iff.1 h
  have e : ns.drop k = ns[k] :: ns.drop (k + 1) := List.drop_eq_getElem_cons hlt
  have h1 : ∀ r, stepK ns[k].tx r ns[k] = ns[k].kind := fun r => by
    have : hitK ns[k].tx ns[k] = true := by unfold hitK; simp [hk]
    simp [stepK, this]
  have h2 : lastK ns ns[k].tx = (ns.drop (k + 1)).foldl (stepK ns[k].tx) ns[k].kind := by
    unfold lastK
    rw [← h1 ((ns.take k).foldl (stepK ns[k].tx) 0), ← List.foldl_cons, ← e, ← List.foldl_append, List.take_append_drop]
  rw [h2, e]
  unfold lastK
  rw [List.foldl_cons, h1]

/-- One more number, if it isn't there. -/
def addI (xs : List Int) (n : Int) : List Int := if memB xs n = true then xs else xs ++ [n]
theorem addI_in {xs : List Int} {n : Int} (h : memB xs n = true) : addI xs n = xs := if_pos h
theorem addI_new {xs : List Int} {n : Int} (h : memB xs n = false) : addI xs n = xs ++ [n] := if_neg (by simp [h])
theorem addI_len (xs : List Int) (n : Int) : (addI xs n).length ≤ xs.length + 1 := by unfold addI; split <;> simp
/-- One more text, if it isn't there. -/
def addS (xs : List ByteArray) (k : ByteArray) : List ByteArray := if hasB xs k = true then xs else xs ++ [k]
theorem addS_in {xs : List ByteArray} {k : ByteArray} (h : hasB xs k = true) : addS xs k = xs := if_pos h
theorem addS_new {xs : List ByteArray} {k : ByteArray} (h : hasB xs k = false) : addS xs k = xs ++ [k] := if_neg (by simp [h])
theorem addS_len (xs : List ByteArray) (k : ByteArray) : (addS xs k).length ≤ xs.length + 1 := by unfold addS; split <;> simp
def addAll (xs ls : List ByteArray) : List ByteArray := ls.foldl addS xs
theorem addAll_len : ∀ (ls xs : List ByteArray), (addAll xs ls).length ≤ xs.length + ls.length
  | [], _ => by simp [addAll]
  | l :: ls, xs => by
    have h1 := addAll_len ls (addS xs l)
    have h2 := addS_len xs l
    have : addAll xs (l :: ls) = addAll (addS xs l) ls := rfl
    rw [this, List.length_cons]; omega
theorem addAll_step {xs ls : List ByteArray} {j : Nat} {y : ByteArray} (h : ls[j]? = some y) : addAll xs (ls.take (j + 1)) = addS (addAll xs (ls.take j)) y := by
  unfold addAll; rw [take_snoc h, List.foldl_append]; rfl

/-- What some notes in doubt leave open. -/
def opensTx (ys : List Note) : List Int := ys.foldl (fun o n => addI o n.tx) []
def opensKeys (ys : List Note) : List ByteArray := ys.foldl (fun o n => addAll o n.locks) []
theorem opensTx_snoc (ys : List Note) (y : Note) : opensTx (ys ++ [y]) = addI (opensTx ys) y.tx := by unfold opensTx; rw [List.foldl_append]; rfl
theorem opensKeys_snoc (ys : List Note) (y : Note) : opensKeys (ys ++ [y]) = addAll (opensKeys ys) y.locks := by unfold opensKeys; rw [List.foldl_append]; rfl
theorem foldI_len : ∀ (ys : List Note) (o : List Int), (ys.foldl (fun o n => addI o n.tx) o).length ≤ o.length + ys.length
  | [], _ => by simp
  | y :: ys, o => by
    have h1 := foldI_len ys (addI o y.tx)
    have h2 := addI_len o y.tx
    rw [List.foldl_cons, List.length_cons]; omega
theorem opensTx_len (ys : List Note) : (opensTx ys).length ≤ ys.length := by have := foldI_len ys []; simpa [opensTx] using this
theorem foldS_len {m : Nat} : ∀ (ys : List Note) (o : List ByteArray), (∀ y ∈ ys, y.locks.length ≤ m) → (ys.foldl (fun o n => addAll o n.locks) o).length ≤ o.length + m * ys.length
  | [], _, _ => by simp
  | y :: ys, o, h => by
    have h1 := foldS_len ys (addAll o y.locks) (fun z hz => h z (by simp [hz]))
    have h2 := addAll_len y.locks o
    have h3 := h y (by simp)
    rw [List.foldl_cons, List.length_cons, Nat.mul_add]; omega
theorem opensKeys_len {m : Nat} {ys : List Note} (h : ∀ y ∈ ys, y.locks.length ≤ m) : (opensKeys ys).length ≤ m * ys.length := by have := foldS_len ys [] h; simpa [opensKeys] using this

/-- The notes in doubt among the first k. -/
def inD (ns : List Note) (k : Nat) : List Note := (ns.take k).filter (openB ns)
theorem inD_yes {ns : List Note} {k : Nat} {y : Note} (h : ns[k]? = some y) (hy : openB ns y = true) : inD ns (k + 1) = inD ns k ++ [y] := by
  unfold inD; rw [take_snoc h, List.filter_append]; simp [hy]
theorem inD_no {ns : List Note} {k : Nat} {y : Note} (h : ns[k]? = some y) (hy : openB ns y = false) : inD ns (k + 1) = inD ns k := by
  unfold inD; rw [take_snoc h, List.filter_append]; simp [hy]
theorem inD_all (ns : List Note) : inD ns ns.length = ns.filter (openB ns) := by unfold inD; rw [List.take_length]
theorem inD_len (ns : List Note) (k : Nat) : (inD ns k).length ≤ k := Nat.le_trans (List.length_filter_le _ _) (by simp; omega)
theorem inD_mem {ns : List Note} {k : Nat} {y : Note} (h : y ∈ inD ns k) : y ∈ ns := List.mem_of_mem_take (List.mem_filter.1 h).1

def openD (x : Disk) : List Int := if diskB x = true then opensTx (inD x.notes x.notes.length) else []
def locksD (x : Disk) : List ByteArray := if diskB x = true then opensKeys (inD x.notes x.notes.length) else []
theorem openD_no {x : Disk} (h : diskB x = false) : openD x = [] := by unfold openD; rw [h]; rfl
theorem openD_yes {x : Disk} (h : diskB x = true) : openD x = opensTx (inD x.notes x.notes.length) := by unfold openD; rw [h]; rfl
theorem locksD_no {x : Disk} (h : diskB x = false) : locksD x = [] := by unfold locksD; rw [h]; rfl
theorem locksD_yes {x : Disk} (h : diskB x = true) : locksD x = opensKeys (inD x.notes x.notes.length) := by unfold locksD; rw [h]; rfl
theorem noteB_locks {n : Note} (h : noteB n = true) : n.locks.length ≤ 12 := by
  by_cases hk : n.kind = 1
  · unfold noteB at h
    rw [if_pos hk] at h
    simp only [Bool.and_eq_true, locksB, decide_eq_true_eq] at h
    exact h.2.1.1
  · unfold noteB at h
    rw [if_neg hk] at h
    simp only [Bool.and_eq_true, decide_eq_true_eq] at h
    omega
theorem diskB_note {x : Disk} (h : diskB x = true) {n : Note} (hn : n ∈ x.notes) : noteB n = true := List.all_eq_true.1 (diskB_parts h).2.2.2 n hn

end Go.Proofs.Ytkamlibfcakblaa
