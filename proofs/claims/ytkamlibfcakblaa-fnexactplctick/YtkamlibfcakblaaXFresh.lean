/- Texts that follow each other, merged: Fresh, Draw, DrawKey. -/
import Derived.Test.YtkamlibfcakblaaXGet
import Derived.Test.YtkamlibfcakblaaXKey
import Derived.Test.YtkamlibfcakblaaXPlain
import Derived.Deep.QuietTactic
import Derived.BigQuiet
import Derived.Maps.AppendAt
import Derived.OwnWalk
import Derived.Deep.RegionHeld3
import Derived.Deep.RegionWith
import Derived.WalkLawsBesides

/- append onto an empty literal: a new row, and nothing that was there has turned. -/
namespace Go.Proofs.Ytkamlibfcakblaa
open Go.RowKit

set_option maxRecDepth 100000 in
theorem append_fresh (w : World) (B : Nat) (hv : OwnInts w B (.slice (some ⟨B, 0, none⟩) 0 0) []) (D : Nat) (A : Option Addr) (c : Nat) (ys : List Int) (hy : Ints w D (.slice A ys.length c) ys) (ty : TypeId)
    (hl : ys.length ≤ 4194304) (hB : B ≤ w.heap.size) :
    ∃ v' w', (Builtin.append_ #[39, 39] ty #[.slice (some ⟨B, 0, none⟩) 0 0, .slice A ys.length c]).run Try.prog w = .ok v' w' ∧ OwnInts w' B v' ys ∧ Below w.heap.size w w' := by
  obtain ⟨i, hi, hz, hs, hb⟩ := info_parts infoInt
  rcases Nat.eq_zero_or_pos ys.length with h0 | hp
  · have hn : ys = [] := List.length_eq_zero_iff.1 h0
    subst hn
    refine ⟨_, w, ?_, hv, Below.refl _ _⟩
    cases A with
    | none => simp [Builtin.append_, run_underlying Try.underlying39, sizeOf, typeInfo, hi, Builtin.lenOf, Builtin.firstCells, storeCells]
    | some ad => simp [Builtin.append_, run_underlying Try.underlying39, sizeOf, typeInfo, hi, Builtin.lenOf, Builtin.firstCells, storeCells, loadCells, loadCellsFrom]
  · obtain ⟨v', w', hr, hown, hg⟩ := append_ints w B _ [] hv D A c ys hy ty (by simpa using hl) hB
    refine ⟨v', w', hr, by simpa using hown, ?_⟩
    obtain ⟨A', c', e, hc1, hc2, hrow⟩ := hy
    injection e with eA _ ec
    subst eA ec
    obtain ⟨b, off, rfl, _, hc⟩ := hrow hp
    have hgr := run_append_grow (P := Try.prog) w 39 ty 3 i (.int .i64 0) Try.underlying39 hi hz ⟨B, 0, none⟩ 0 0 [] (by simp) (fun j v h => by simp at h) ⟨b, off, none⟩ ys.length c (ys.map (Value.int .i64)) (by simp [hs])
      (fun j u hu => by
        have hj : j < ys.length := by
          have := (List.getElem?_eq_some_iff.1 hu).1
          simpa using this
        rw [nth_map hj] at hu
        rw [← hu, ← hc j hj]
        congr 1
        unfold Addr.add
        by_cases h : j = 0 <;> simp [h]) (by omega) (by omega) (by rw [hb]; exact growslice_fits (by omega) (by omega))
    rw [hgr] at hr
    injection hr with _ hw
    rw [← hw]
    exact (Below.refl w.heap.size w).drew.alloc (Nat.le_refl _) _

theorem step_append_fresh {w : World} {ops : Array Oper} {o : Oper} {a : Act} {K : Act → World → Prop} {Q : Exit → Act → World → Prop} {E : Prop} (hgd : o.guard = none) (s x : Operand)
    (ho : o.op = .call { callee := .builtin .append, args := #[s, x], argTypes := #[39, 39] }) (B : Nat) (hs : a.eval s = .slice (some ⟨B, 0, none⟩) 0 0) (hv : OwnInts w B (.slice (some ⟨B, 0, none⟩) 0 0) [])
    (D : Nat) (A : Option Addr) (c : Nat) (ys : List Int) (hx : a.eval x = .slice A ys.length c) (hy : Ints w D (.slice A ys.length c) ys) (hl : ys.length ≤ 4194304) (hB : B ≤ w.heap.size)
    (h : ∀ v' w', OwnInts w' B v' ys → Below w.heap.size w w' → K (a.put o.dst v') w') : if Region.wanted o (yielded ops a.tmps) = true then Oper.wp Try.prog o a w K Q else E := by
  have hw : Region.wanted o (yielded ops a.tmps) = true := by simp [Region.wanted, hgd]
  rw [if_pos hw]
  obtain ⟨v', w', hr, h2, h3⟩ := append_fresh w B hv D A c ys hy o.type hl hB
  unfold Oper.wp execOp
  simp only [ho, resolve, invoke, builtin, Sem.run_bind, Sem.run_pure, Result.andThen_ok, List.map_toArray, List.map_cons, List.map_nil, hs, hx, hr]
  exact h v' w' h2 h3

end Go.Proofs.Ytkamlibfcakblaa

/- The reader of codes: pick and odd. What is drawn is some number in its bounds; nothing but the reader's own count turns. -/
namespace Go.Proofs.Ytkamlibfcakblaa
open Go.RowKit

theorem xor_i64 {a b : Int} (ha : 0 ≤ a) (ha' : a < 9223372036854775808) (hb : 0 ≤ b) (hb' : b < 9223372036854775808) : 0 ≤ bits .xor .i64 a b ∧ bits .xor .i64 a b < 9223372036854775808 := by
  obtain ⟨x, rfl⟩ := Int.eq_ofNat_of_zero_le ha
  obtain ⟨y, rfl⟩ := Int.eq_ofNat_of_zero_le hb
  have h : bits .xor .i64 (x : Int) (y : Int) = ((x ^^^ y : Nat) : Int) := by
    have hx : x ^^^ y < 2 ^ 63 := Nat.xor_lt_two_pow (by omega) (by omega)
    show IntKind.i64.wrap ((BitVec.ofInt 64 (x : Int) ^^^ BitVec.ofInt 64 (y : Int)).toNat : Int) = _
    have e1 : (BitVec.ofInt 64 (x : Int)).toNat = x := by rw [BitVec.ofInt_natCast, BitVec.toNat_ofNat]; exact Nat.mod_eq_of_lt (by omega)
    have e2 : (BitVec.ofInt 64 (y : Int)).toNat = y := by rw [BitVec.ofInt_natCast, BitVec.toNat_ofNat]; exact Nat.mod_eq_of_lt (by omega)
    rw [BitVec.toNat_xor, e1, e2, IntKind.wrap_i64]
    omega
  have hx : x ^^^ y < 2 ^ 63 := Nat.xor_lt_two_pow (by omega) (by omega)
  rw [h]; omega

/-- A reader at block g that has come to p: its bytes lie before it. -/
def Rd (w : World) (g : Nat) (p : Int) : Prop :=
  ∃ A n c, ∃ f : Nat → Int, w.heap[g]? = some (.cells #[.slice A n c, .int .i64 p] 130 (0, 0)) ∧ n ≤ 2000 ∧ n ≤ c ∧ c ≤ maxLen ∧ (∀ j, 0 ≤ f j ∧ f j ≤ 255) ∧
    (0 < n → ∃ b off, A = some ⟨b, off, none⟩ ∧ b < g ∧ ∀ j, j < n → w.cell? ⟨b, off + j, none⟩ = some (.int .u8 (f j)))
section
variable {w w' : World} {g : Nat} {p : Int}
theorem Rd.lt (h : Rd w g p) : g < w.heap.size := by
  obtain ⟨_, _, _, _, hh, _⟩ := h
  exact (Array.getElem?_eq_some_iff.1 hh).1
theorem Rd.keep (h : Rd w g p) (hk : ∀ b, b ≤ g → w'.heap[b]? = w.heap[b]?) : Rd w' g p := by
  obtain ⟨A, n, c, f, hh, h1, h2, h3, h4, h5⟩ := h
  refine ⟨A, n, c, f, (hk g (Nat.le_refl _)).trans hh, h1, h2, h3, h4, fun hn => ?_⟩
  obtain ⟨b, off, hA, hb, hc⟩ := h5 hn
  exact ⟨b, off, hA, hb, fun j hj => (World.cell?_of_block (hk b (Nat.le_of_lt hb))).trans (hc j hj)⟩
theorem Rd.below {B : Nat} (h : Rd w g p) (hb : Below B w w') (hB : g < B) : Rd w' g p := h.keep fun b hle => hb.block b (by omega)
theorem Rd.grown {row : Option Nat} (h : Rd w g p) (hg : w.grownBy w' row) (hr : ∀ k, row = some k → g < k) : Rd w' g p :=
  h.keep fun b hle => hg.block b (Nat.lt_of_le_of_lt hle h.lt) (fun e => by have := hr b e.symm; omega)
theorem Rd.next (h : Rd w g p) (q : Int) : Rd (w.setCell ⟨g, 1, none⟩ (.int .i64 q)) g q := by
  obtain ⟨A, n, c, f, hh, h1, h2, h3, h4, h5⟩ := h
  refine ⟨A, n, c, f, ?_, h1, h2, h3, h4, fun hn => ?_⟩
  · simp [World.setCell, Array.getElem?_modify, hh]
  · obtain ⟨b, off, hA, hb, hc⟩ := h5 hn
    exact ⟨b, off, hA, hb, fun j hj => (World.cell?_of_block (Below.heap_setCell w ⟨g, 1, none⟩ _ b (by simp; omega))).trans (hc j hj)⟩
end

/-- What a pick of n leaves: a number from 0 on, below n where that is one; the reader one further on; nothing else has turned. -/
def Picked (n : Int) (g : Nat) (p : Int) (w : World) (e : Ending) (w' : World) : Prop :=
  ∃ m : Int, e = .returned (.int .i64 m) ∧ 0 ≤ m ∧ (1 ≤ n → m < n) ∧ Rd w' g (p + 1) ∧ w.grownBy w' (some g)

theorem grownSet {w : World} {g : Nat} (i : Nat) (u : Value) (k : Nat) : w.grownBy ((w.setCell ⟨g, i, none⟩ u).drewN k) (some g) :=
  ⟨rfl, rfl, rfl, by simp [World.setCell], fun b _ hne => Below.heap_setCell w ⟨g, i, none⟩ u b (fun e => hne (by rw [e]))⟩

theorem pick_any (w : World) (g : Nat) (p n : Int) (hr : Rd w g p) (hp : 0 ≤ p) (hp' : p ≤ 1000000000) (hn : n ≤ 1000000) :
    Calls Try.prog 59 #[.pointer (some ⟨g, 0, none⟩), .int .i64 n] w (Picked n g p w) := by
  have HR := Lib.hid (hr.next (p + 1))
  obtain ⟨A, l, c, f, hh, h1, h2, h3, h4, h5⟩ := hr
  have c0 : w.cell? ⟨g, 0, none⟩ = some (.slice A l c) := by simp [World.cell?, hh]
  have c1 : w.cell? ⟨g, 1, none⟩ = some (.int .i64 p) := by simp [World.cell?, hh]
  have z1 : w.frozen? ⟨g, 1, none⟩ = false := by simp [World.frozen?, hh]
  have HH := Lib.hid hh
  have H5 := Lib.hid h5
  have H4 := Lib.hid h4
  unfold maxLen at h3
  clear hh h5 h4
  by_cases hn1 : n < 1
  · go_enter Try.func59, Try.ntmps59
    go_wp2
    go_ret
    exact ⟨0, rfl, by omega, fun h => absurd h (by omega), HR.out, grownSet _ _ 0⟩
  · have hn2 : 1 ≤ n := by omega
    clear hn1
    by_cases hl : l = 0
    · have hl0 : ((l : Int) == 0) = true := by simp [hl]
      have HL := Lib.hid hl
      clear hl
      go_enter Try.func59, Try.ntmps59
      go_wp2
      go_ret
      exact ⟨0, rfl, by omega, fun h => by omega, HR.out, grownSet _ _ 0⟩
    · have hl0 : ((l : Int) == 0) = false := by simp [hl]
      have hlp : 0 < l := by omega
      obtain ⟨b, off, rfl, hb, hc⟩ := H5.out hlp
      have hbg : b ≠ g := by omega
      obtain ⟨k, rfl⟩ := Int.eq_ofNat_of_zero_le hp
      by_cases hkl : k < l
      · have hck := hc k hkl
        obtain ⟨x, hx⟩ : ∃ x, f k = x := ⟨_, rfl⟩
        obtain ⟨hx0, hx1⟩ := H4.out k
        rw [hx] at hck hx0 hx1
        clear hc hx hl
        go_enter Try.func59, Try.ntmps59
        go_wp2
        go_ret
        exact ⟨x % n, rfl, Int.emod_nonneg _ (by omega), fun _ => Int.emod_lt_of_pos _ (by omega), HR.out, grownSet _ _ 0⟩
      · obtain ⟨j1, hj1⟩ : ∃ j : Nat, k % l = j := ⟨_, rfl⟩
        obtain ⟨j2, hj2⟩ : ∃ j : Nat, (k * 7 + 3) % l = j := ⟨_, rfl⟩
        have b1 : j1 < l := by rw [← hj1]; exact Nat.mod_lt _ hlp
        have b2 : j2 < l := by rw [← hj2]; exact Nat.mod_lt _ hlp
        have hc1 := hc j1 b1
        have hc2 := hc j2 b2
        obtain ⟨x, hx⟩ : ∃ x, f j1 = x := ⟨_, rfl⟩
        obtain ⟨y, hy⟩ : ∃ x, f j2 = x := ⟨_, rfl⟩
        obtain ⟨hx0, hx1⟩ := H4.out j1
        obtain ⟨hy0, hy1⟩ := H4.out j2
        rw [hx] at hc1 hx0 hx1
        rw [hy] at hc2 hy0 hy1
        have hl' : ¬ (l : Int) = 0 := by omega
        have m1 : (k : Int).tmod (l : Int) = (j1 : Int) := by rw [← hj1, Int.tmod_eq_emod_of_nonneg (by omega)]; simp
        have m2 : ((k : Int) * 7 + 3).tmod (l : Int) = (j2 : Int) := by rw [← hj2, Int.tmod_eq_emod_of_nonneg (by omega)]; simp
        obtain ⟨q, hq⟩ : ∃ q : Nat, k / l = q := ⟨_, rfl⟩
        have hqk : q ≤ k := by rw [← hq]; exact Nat.div_le_self _ _
        have m3 : (k : Int).tdiv (l : Int) = (q : Int) := by rw [← hq, Int.tdiv_eq_ediv_of_nonneg (by omega)]; simp
        have f1 : (0 : Int) ≤ (j1 : Int) := by omega
        have f2 : (j1 : Int) < (l : Int) := by omega
        have f3 : (0 : Int) ≤ (j2 : Int) := by omega
        have f4 : (j2 : Int) < (l : Int) := by omega
        have w1 : IntKind.i64.wrap (j1 : Int) = (j1 : Int) := IntWalk.i64_in _ (by omega)
        have w2 : IntKind.i64.wrap ((k : Int) * 7) = (k : Int) * 7 := IntWalk.i64_in _ (by omega)
        have w3 : IntKind.i64.wrap ((k : Int) * 7 + 3) = (k : Int) * 7 + 3 := IntWalk.i64_in _ (by omega)
        have w4 : IntKind.i64.wrap (j2 : Int) = (j2 : Int) := IntWalk.i64_in _ (by omega)
        have w5 : IntKind.i64.wrap x = x := IntWalk.i64_in _ (by omega)
        have w6 : IntKind.i64.wrap y = y := IntWalk.i64_in _ (by omega)
        have w7 : IntKind.i64.wrap (x * 131) = x * 131 := IntWalk.i64_in _ (by omega)
        have w8 : IntKind.i64.wrap (y * 1117) = y * 1117 := IntWalk.i64_in _ (by omega)
        have w9 : IntKind.i64.wrap (x * 131 + y * 1117) = x * 131 + y * 1117 := IntWalk.i64_in _ (by omega)
        have w10 : IntKind.i64.wrap ((k : Int) * 29) = (k : Int) * 29 := IntWalk.i64_in _ (by omega)
        have w11 : IntKind.i64.wrap (x * 131 + y * 1117 + (k : Int) * 29) = x * 131 + y * 1117 + (k : Int) * 29 := IntWalk.i64_in _ (by omega)
        have w12 : IntKind.i64.wrap (q : Int) = (q : Int) := IntWalk.i64_in _ (by omega)
        have w13 : IntKind.i64.wrap ((q : Int) * 53) = (q : Int) * 53 := IntWalk.i64_in _ (by omega)
        have w14 : IntKind.i64.wrap (x * 131 + y * 1117 + (k : Int) * 29 + (q : Int) * 53) = x * 131 + y * 1117 + (k : Int) * 29 + (q : Int) * 53 := IntWalk.i64_in _ (by omega)
        have HJ := Lib.hid (And.intro hj1 (And.intro hj2 hq))
        clear hc hx hy hj1 hj2 hq
        go_enter Try.func59, Try.ntmps59
        go_wp2
        go_quiet (fail)
        clear w1 w2 w3 w4 w5 w6 w7 w8 w9 w10 w11 w12 w13 w14 m1 m2 m3 hc1 hc2
        have hX0 : 0 ≤ x * 131 + y * 1117 + (k : Int) * 29 + (q : Int) * 53 := by omega
        have hX1 : x * 131 + y * 1117 + (k : Int) * 29 + (q : Int) * 53 ≤ 1000000000000 := by omega
        generalize x * 131 + y * 1117 + (k : Int) * 29 + (q : Int) * 53 = X at *
        obtain ⟨hY0, hY1⟩ := xor_i64 (a := X) (b := X / 64) hX0 (by omega) (by omega) (by omega)
        go_wp2
        go_ret
        exact ⟨_, rfl, Int.emod_nonneg _ (by omega), fun _ => Int.emod_lt_of_pos _ (by omega), HR.out, grownSet _ _ _⟩

end Go.Proofs.Ytkamlibfcakblaa

/- Draws of names: odd, digits, names. -/
namespace Go.Proofs.Ytkamlibfcakblaa
open Go.RowKit

/-- A reader that has come to some place up to P. -/
def Rds (w : World) (g : Nat) (P : Int) : Prop := ∃ p, 0 ≤ p ∧ p ≤ P ∧ Rd w g p
section
variable {w w' : World} {g : Nat} {P P' : Int}
theorem Rds.lt (h : Rds w g P) : g < w.heap.size := by obtain ⟨p, _, _, h⟩ := h; exact h.lt
theorem Rds.below {B : Nat} (h : Rds w g P) (hb : Below B w w') (hB : g < B) : Rds w' g P := by
  obtain ⟨p, h0, h1, h⟩ := h; exact ⟨p, h0, h1, h.below hb hB⟩
theorem Rds.grown {row : Option Nat} (h : Rds w g P) (hg : w.grownBy w' row) (hr : ∀ k, row = some k → g < k) : Rds w' g P := by
  obtain ⟨p, h0, h1, h⟩ := h; exact ⟨p, h0, h1, h.grown hg hr⟩
theorem Rds.more (h : Rds w g P) (hP : P ≤ P') : Rds w g P' := by obtain ⟨p, h0, h1, h⟩ := h; exact ⟨p, h0, by omega, h⟩
theorem Rds.alloc (h : Rds w g P) (o : Obj) : Rds (w.alloc o) g P := h.below ((Below.refl _ _).alloc (Nat.le_refl _) o) h.lt
end

/-- What a draw leaves of the world: the reader at most so much further on; nothing else that was there has turned. -/
def Drew (g : Nat) (P : Int) (w w' : World) : Prop := Rds w' g P ∧ w.grownBy w' (some g)
theorem Drew.trans {g : Nat} {P P' : Int} {a b c : World} (h : Drew g P a b) (k : Drew g P' b c) : Drew g P' a c := ⟨k.1, h.2.trans k.2⟩
theorem Drew.then_ {g : Nat} {P : Int} {a b c : World} (h : Drew g P a b) (k : Below b.heap.size b c) : Drew g P a c :=
  ⟨h.1.below k h.1.lt, h.2.trans ⟨k.os, k.tape, k.output, k.size, fun i hi _ => k.block i hi⟩⟩
theorem Drew.alloc {g : Nat} {P : Int} {a b : World} (h : Drew g P a b) (o : Obj) : Drew g P a (b.alloc o) := h.then_ (belowOne b o)
theorem Drew.grown {g : Nat} {P : Int} {w a b : World} {row : Option Nat} (h : Drew g P w a) (hg : a.grownBy b row) (hr : ∀ k, row = some k → w.heap.size ≤ k) (hgw : g < w.heap.size) : Drew g P w b :=
  ⟨h.1.grown hg (fun k hk => Nat.lt_of_lt_of_le hgw (hr k hk)), hg.os.trans h.2.os, hg.tape.trans h.2.tape, hg.output.trans h.2.output, Nat.le_trans h.2.size hg.size,
    fun i hi hne => (hg.block i (Nat.lt_of_lt_of_le hi h.2.size) (fun e => by have := hr i e.symm; omega)).trans (h.2.block i hi hne)⟩
theorem Drew.below {g : Nat} {P : Int} {a b : World} (h : Drew g P a b) {B : Nat} (hB : B ≤ g) (hs : B ≤ a.heap.size) : Below B a b :=
  ⟨h.2.os, h.2.tape, h.2.output, h.2.size, fun k hk => h.2.block k (by omega) (fun e => by injection e with e; omega)⟩

theorem pick_rds (w : World) (g : Nat) (P n : Int) (hr : Rds w g P) (hP : P ≤ 1000000000) (hn : n ≤ 1000000) :
    Calls Try.prog 59 #[.pointer (some ⟨g, 0, none⟩), .int .i64 n] w fun e w' =>
      ∃ m : Int, e = .returned (.int .i64 m) ∧ 0 ≤ m ∧ (1 ≤ n → m < n) ∧ Drew g (P + 1) w w' := by
  obtain ⟨p, h0, h1, hr⟩ := hr
  refine (pick_any w g p n hr h0 (by omega) hn).mono ?_
  rintro e w' ⟨m, rfl, a, b, c, d⟩
  exact ⟨m, rfl, a, b, ⟨p + 1, by omega, by omega, c⟩, d⟩

theorem odd_any (w : World) (g : Nat) (P n : Int) (hr : Rds w g P) (hP : P ≤ 1000000000) (hn : n ≤ 1000000) :
    Calls Try.prog 76 #[.pointer (some ⟨g, 0, none⟩), .int .i64 n] w fun e w' =>
      ∃ b : Bool, e = .returned (.bool b) ∧ (n < 1 → b = false) ∧ Drew g (P + 1) w w' := by
  by_cases h : n < 1
  · have hd : decide (0 < n) = false := by simp; omega
    go_enter Try.func76, Try.ntmps76
    go_wp2
    go_ret
    exact ⟨false, rfl, fun _ => rfl, hr.more (by omega), World.grownBy.refl _ _⟩
  · have h' : 0 < n := by omega
    clear h
    go_enter Try.func76, Try.ntmps76
    go_wp2_with (go_at_call 59; refine (pick_rds _ _ _ _ hr hP hn).mono ?_; rintro e w' ⟨m, rfl, hm0, hm1, hd⟩)
    go_ret
    exact ⟨_, rfl, fun h => absurd h (by omega), by assumption⟩

/-- One digit. -/
def digS (n : Int) : ByteArray := strOfNums [48 + n]
theorem digS_size (n : Int) : (digS n).size = 1 := strOfNums_size _

set_option maxRecDepth 100000 in
theorem l3Digit_any (w : World) (n : Int) (h0 : 0 ≤ n) (h9 : n ≤ 9) :
    Calls Try.prog 148 #[.int .i64 n] w fun e w' => e = .returned (.string (digS n)) ∧ Below w.heap.size w w' := by
  have hcv := run_convert_bytes_arg (P := Try.prog) (w.alloc (.cells #[.int .u8 (48 + n)] 5)) 22 5 Try.underlying22 Try.underlying5 w.heap.size 0 1 1 [48 + n] rfl
    (fun i hi => by have : i = 0 := by omega
                    subst this; simp) 9 Try.underlying9
  go_enter Try.func148, Try.ntmps148
  go_wp2
  go_ret
  exact ⟨rfl, belowOne _ _⟩

theorem append_size (a b : ByteArray) : (a ++ b).size = a.size + b.size := by simp

theorem l3Plain_any (w : World) (n : Int) (h0 : 0 ≤ n) (h9 : n ≤ 1000000) :
    Calls Try.prog 136 #[.int .i64 n] w fun e w' => ∃ s : ByteArray, e = .returned (.string s) ∧ s.size ≤ 1000001 ∧ Below w.heap.size w w' := by
  go_enter Try.func136, Try.ntmps136
  go_wp2
  go_loopw [0, 3] (fun i o wr => ∃ (m : Int) (s : ByteArray), i = .int .i64 m ∧ o = .string s ∧ 0 ≤ m ∧ m ≤ 1000000 ∧ (s.size : Int) ≤ 1000000 - m ∧ Below w.heap.size w wr) (fun i _ _ => (intOf i).toNat)
  case atStart => exact ⟨n, _, rfl, rfl, h0, h9, by show ((0 : Nat) : Int) ≤ _; omega, Below.refl _ _⟩
  case round =>
    obtain ⟨m, s, rfl, rfl, hm0, hm1, hs, hb⟩ := hrel
    by_cases h : 9 < m
    · have hd := digS_size (m % 10)
      have HD := Lib.hid hd
      have hd1 : (digS (m % 10)).size ≤ 1 := by omega
      clear hd
      go_wp2_with (go_at_call 148; refine (l3Digit_any _ _ (by omega) (by omega)).mono ?_; rintro e w1 ⟨rfl, hb1⟩; have hq := belowNext hb hb1; clear hb1)
      go_roundw
      case rel => exact ⟨m / 10, _, by go_num, rfl, by omega, by omega, by rw [append_size]; omega, by assumption⟩
      case measure => simp [intOf]; omega
    · have HD := Lib.hid (digS_size m)
      have hd1 : (digS m).size ≤ 1 := by have := HD.out; omega
      go_wp2_with (go_at_call 148; refine (l3Digit_any _ _ (by omega) (by omega)).mono ?_; rintro e w1 ⟨rfl, hb1⟩; have hq := belowNext hb hb1; clear hb1)
      go_ret
      exact ⟨_, rfl, by rw [append_size]; omega, by assumption⟩

end Go.Proofs.Ytkamlibfcakblaa
