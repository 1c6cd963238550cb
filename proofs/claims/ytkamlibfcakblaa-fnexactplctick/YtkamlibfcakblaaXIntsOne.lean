/- Texts that follow each other, merged: IntsOne, DrawVal, DrawBox, DrawWrt. -/
import Derived.Test.YtkamlibfcakblaaXPlain
import Derived.Test.YtkamlibfcakblaaXDrawKey2
import Derived.Test.YtkamlibfcakblaaXGet
import Derived.Test.YtkamlibfcakblaaXFresh

/- One number, made. -/
namespace Go.Proofs.Ytkamlibfcakblaa
open Go.RowKit

theorem Ints.one (w : World) (m : Int) : Ints (w.alloc (.cells #[.int .i64 m] 3)) (w.alloc (.cells #[.int .i64 m] 3)).heap.size (.slice (some ⟨w.heap.size, 0, none⟩) 1 1) [m] := by
  refine ⟨some ⟨w.heap.size, 0, none⟩, 1, rfl, Nat.le_refl _, by unfold maxLen; omega, fun _ => ⟨w.heap.size, 0, rfl, by simp, fun j hj => ?_⟩⟩
  have hj0 : j = 0 := by simp at hj; exact hj
  subst hj0
  exact (Held.new w #[.int .i64 m] 3).of 0 _ rfl

end Go.Proofs.Ytkamlibfcakblaa

/- Drawn numbers, and drawn writes. -/
namespace Go.Proofs.Ytkamlibfcakblaa
open Go.RowKit

theorem OwnInts.drew {w w' : World} {g lo : Nat} {P : Int} {v : Value} {xs : List Int} (h : OwnInts w lo v xs) (hd : Drew g P w w') (hg : g < lo) : OwnInts w' lo v xs :=
  h.kept hd.2 (by
    cases hv : v.ownBlock with
    | none => exact .inl rfl
    | some b =>
      refine .inr fun e => ?_
      have h1 := (h.lt b hv).1
      have h2 : b = g := Option.some.inj e
      omega)
theorem OwnInts.lit (w : World) (lo : Nat) (hlo : lo ≤ w.heap.size) (xs : List Int) (hl : xs.length ≤ maxLen) : OwnInts (w.alloc (.cells (xs.map (Value.int .i64)).toArray 3)) lo (.slice (some ⟨w.heap.size, 0, none⟩) xs.length xs.length) xs := by
  have := World.ownsRow_lit (base := lo) (e := 3) (size := 1) w (xs.map (Value.int .i64)).toArray xs.length hlo hl (by simp)
  simpa [OwnInts] using this
theorem OwnInts.alloc {w : World} {lo : Nat} {v : Value} {xs : List Int} (h : OwnInts w lo v xs) (o : Obj) : OwnInts (w.alloc o) lo v xs := h.below (belowOne w o)

/-- The literals of numbers with something wrong. -/
def valLits (w : World) : World := ((((w.alloc (.cells #[] 3)).alloc (.cells #[.int .i64 (-1)] 3)).alloc (.cells #[.int .i64 10000] 3)).alloc (.cells #[.int .i64 1, .int .i64 2, .int .i64 3, .int .i64 4] 3)).alloc (.cells #[.slice (some ⟨w.heap.size, 0, none⟩) 0 0, .slice (some ⟨w.heap.size + 1, 0, none⟩) 1 1, .slice (some ⟨w.heap.size + 1 + 1, 0, none⟩) 1 1, .slice (some ⟨w.heap.size + 1 + 1 + 1, 0, none⟩) 4 4] 39)
theorem valLits_at (w : World) (lo : Nat) (hlo : lo ≤ w.heap.size) : ∀ k, k < 4 → ∃ u ys, (valLits w).cell? ⟨w.heap.size + 1 + 1 + 1 + 1, k, none⟩ = some u ∧ ys.length ≤ 4 ∧ OwnInts (valLits w) lo u ys := by
  intro k hk
  have hm : ∀ n, n ≤ 4 → n ≤ maxLen := fun n hn => by unfold maxLen; omega
  unfold valLits
  have h0 := OwnInts.lit w lo hlo [] (hm _ (by decide))
  have h1 := OwnInts.lit (w.alloc (.cells #[] 3)) lo (by simp; omega) [-1] (hm _ (by decide))
  have h2 := OwnInts.lit ((w.alloc (.cells #[] 3)).alloc (.cells #[.int .i64 (-1)] 3)) lo (by simp; omega) [10000] (hm _ (by decide))
  have h3 := OwnInts.lit (((w.alloc (.cells #[] 3)).alloc (.cells #[.int .i64 (-1)] 3)).alloc (.cells #[.int .i64 10000] 3)) lo (by simp; omega) [1, 2, 3, 4] (hm _ (by decide))
  have hz : ((((w.alloc (.cells #[] 3)).alloc (.cells #[.int .i64 (-1)] 3)).alloc (.cells #[.int .i64 10000] 3)).alloc (.cells #[.int .i64 1, .int .i64 2, .int .i64 3, .int .i64 4] 3)).heap.size = w.heap.size + 1 + 1 + 1 + 1 := by simp
  have hH := Held.new ((((w.alloc (.cells #[] 3)).alloc (.cells #[.int .i64 (-1)] 3)).alloc (.cells #[.int .i64 10000] 3)).alloc (.cells #[.int .i64 1, .int .i64 2, .int .i64 3, .int .i64 4] 3)) #[.slice (some ⟨w.heap.size, 0, none⟩) 0 0, .slice (some ⟨w.heap.size + 1, 0, none⟩) 1 1, .slice (some ⟨w.heap.size + 1 + 1, 0, none⟩) 1 1, .slice (some ⟨w.heap.size + 1 + 1 + 1, 0, none⟩) 4 4] 39
  rw [hz] at hH
  rcases (by omega : k = 0 ∨ k = 1 ∨ k = 2 ∨ k = 3) with rfl | rfl | rfl | rfl
  · exact ⟨_, [], hH.of 0 _ rfl, by decide, (((h0.alloc _).alloc _).alloc _).alloc _⟩
  · exact ⟨_, [-1], hH.of 1 _ rfl, by decide, by simpa using ((h1.alloc _).alloc _).alloc _⟩
  · exact ⟨_, [10000], hH.of 2 _ rfl, by decide, by simpa using (h2.alloc _).alloc _⟩
  · exact ⟨_, [1, 2, 3, 4], hH.of 3 _ rfl, by decide, by simpa using h3.alloc _⟩

/-- What a draw of numbers leaves. -/
def DrewInts (g : Nat) (P : Int) (w : World) (e : Ending) (w' : World) : Prop :=
  ∃ v xs, e = .returned v ∧ xs.length ≤ 4 ∧ OwnInts w' w.heap.size v xs ∧ Drew g P w w'

set_option maxRecDepth 100000 in
set_option maxHeartbeats 1000000 in
theorem l20Val_any (w : World) (g : Nat) (P n : Int) (hr : Rds w g P) (hP0 : 0 ≤ P) (hP : P ≤ 900000000) (hn : n ≤ 1000000) :
    Calls Try.prog 137 #[.pointer (some ⟨g, 0, none⟩), .int .i64 n] w (DrewInts g (P + 10) w) := by
  have hgw := hr.lt
  go_enter Try.func137, Try.ntmps137
  go_wp2_with fail
  refine (pick_rds _ g _ _ hr (by omega) (by omega)).mono ?_
  rintro e w1 ⟨m, rfl, hm0, hm1, hd1⟩
  have HA := Lib.hid (hd1.alloc (.cells #[.int .i64 m] 3))
  have HO := Lib.hid (OwnInts.lit w1 w.heap.size hd1.2.size [m] (by unfold maxLen; simp))
  clear hr hm1 hd1 hm0
  go_wp2_with fail
  refine (pick_rds _ g _ _ HA.out.1 (by omega) (by omega)).mono ?_
  rintro e w2 ⟨k, rfl, hk0, hk1, hd2⟩
  obtain ⟨k, rfl⟩ := Int.eq_ofNat_of_zero_le hk0
  have hk : k < 3 := by have := hk1 (by omega); omega
  have HD2 := Lib.hid (HA.out.trans hd2)
  have HO2 := Lib.hid (HO.out.drew hd2 hgw)
  clear hk0 hk1 hd2 HA HO
  go_wp2
  go_loopw [5, 6] (fun a b wr => ∃ (xs : List Int) (j : Nat), OwnInts wr w.heap.size a xs ∧ b = .int .i64 j ∧ j ≤ 2 ∧ xs.length + j ≤ 3 ∧ Drew g (P + 4 - j) w wr) (fun _ b _ => (intOf b).toNat)
  case atStart => exact ⟨[m], k, HO2.out, rfl, by omega, by simp; omega, HD2.out.1.more (by omega), HD2.out.2⟩
  case round =>
    clear HD2 HO2
    obtain ⟨xs, j, hown, rfl, hj2, hxj, hd⟩ := hrel
    have HO := Lib.hid hown
    have HD := Lib.hid hd
    have hz : w.heap.size ≤ wr.heap.size := hd.2.size
    clear hown hd
    by_cases hj : 0 < j
    · go_wp2_with fail
      refine (pick_rds _ g _ _ HD.out.1 (by omega) (by omega)).mono ?_
      rintro e w3 ⟨q, rfl, hq0, hq1, hd3⟩
      have HD3 := Lib.hid (HD.out.trans hd3)
      have HO3 := Lib.hid ((HO.out.drew hd3 hgw).alloc (.cells #[.int .i64 q] 3))
      have hz3 : w.heap.size ≤ w3.heap.size := Nat.le_trans hz hd3.2.size
      clear hq0 hq1 hd3 HD HO hz
      go_wp2_with (at_builtin; refine wpl_append_ints rfl _ _ rfl w.heap.size _ xs rfl HO3.out _ _ _ [q] rfl (Ints.one w3 q) (by simp; omega) (by simp; omega) ?_; intro u w4 hown4 hg4; have HO4 := Lib.hid hown4; have HG4 := Lib.hid hg4; clear hown4 hg4)
      have HD4 := Lib.hid ((HD3.out.alloc _).grown HG4.out (fun k hk => (HO3.out.lt k hk).1) hgw)
      clear HD3 HO3 HG4
      go_wp2
      go_roundw
      case rel => exact ⟨xs ++ [q], j - 1, HO4.out, by go_num, by omega, by simp; omega, HD4.out.1.more (by omega), HD4.out.2⟩
      case measure => simp [intOf]; omega
    · go_wp2_with fail
      refine (odd_any _ g _ _ HD.out.1 (by omega) hn).mono ?_
      rintro e w3 ⟨bb, rfl, hbb, hd3⟩
      have HD3 := Lib.hid (HD.out.trans hd3)
      have HO3 := Lib.hid (HO.out.drew hd3 hgw)
      have hz3 : w.heap.size ≤ w3.heap.size := Nat.le_trans hz hd3.2.size
      clear hbb hd3 HD HO hz
      cases bb
      · go_wp2
        go_ret
        exact ⟨_, xs, rfl, by omega, HO3.out, HD3.out.1.more (by omega), HD3.out.2⟩
      · have HL := Lib.hid (valLits_at w3 w.heap.size hz3)
        have HA := Lib.hid (show Drew g (P + 4 - j + 1) w (valLits w3) from ((((HD3.out.alloc _).alloc _).alloc _).alloc _).alloc _)
        go_wp2_with fail
        refine (pick_rds (valLits w3) g _ _ HA.out.1 (by omega) (by omega)).mono ?_
        rintro e w4 ⟨m4, rfl, hm0, hm1, hd4⟩
        obtain ⟨q, rfl⟩ := Int.eq_ofNat_of_zero_le hm0
        have hq : q < 4 := by have := hm1 (by omega); omega
        obtain ⟨u, ys, hx, hys, hown⟩ := HL.out q hq
        have hx2 := hd4.2.cell hx (fun e => by have := Option.some.inj e; simp at this; omega)
        obtain ⟨Au, cu, huf, -, -⟩ := hown.ints.form
        have HO4 := Lib.hid (hown.drew hd4 hgw)
        have HD4 := Lib.hid (HA.out.trans hd4)
        subst huf
        clear hm0 hm1 hd4 hx hown HA HL HD3 HO3
        go_wp2
        go_ret
        exact ⟨_, ys, rfl, hys, HO4.out, HD4.out.1.more (by omega), HD4.out.2⟩

end Go.Proofs.Ytkamlibfcakblaa

/- Blocks of a call's own, beside a reader. -/
namespace Go.Proofs.Ytkamlibfcakblaa
open Go.RowKit

theorem Held.drew {w w' : World} {g b : Nat} {P : Int} {cs : List Value} (h : Held w b cs) (hd : Drew g P w w') (hb : b ≠ g) : Held w' b cs := by
  have hk := hd.2.block b h.1 (fun e => hb (Option.some.inj e))
  exact ⟨Nat.lt_of_lt_of_le h.1 hd.2.size, fun j => (World.frozen?_of_block (a := ⟨b, j, none⟩) hk).trans (h.2.1 j), fun j u hu => (World.cell?_of_block (a := ⟨b, j, none⟩) hk).trans (h.2.2 j u hu)⟩
theorem Held.cells {w : World} {b : Nat} {x y z : Value} (h : Held w b [x, y, z]) : w.cell? ⟨b, 0, none⟩ = some x ∧ w.cell? ⟨b, 1, none⟩ = some y ∧ w.cell? ⟨b, 2, none⟩ = some z := ⟨h.of 0 _ rfl, h.of 1 _ rfl, h.of 2 _ rfl⟩

theorem Drew.setCell {g : Nat} {P : Int} {w a : World} (h : Drew g P w a) {p : Addr} (hp : w.heap.size ≤ p.block) (hgw : g < w.heap.size) (u : Value) : Drew g P w (a.setCell p u) :=
  h.grown (row := some p.block) ⟨rfl, rfl, rfl, by simp [World.setCell], fun b _ hne => Below.heap_setCell a p u b (fun e => hne (by rw [e]))⟩ (fun k hk => by have := Option.some.inj hk; omega) hgw
theorem Held.far {w : World} {b : Nat} {cs : List Value} {p : Addr} (h : Held w b cs) (hp : b ≠ p.block) (u : Value) : Held (w.setCell p u) b cs := by
  have hk := Below.heap_setCell w p u b hp
  exact ⟨by simpa [World.setCell] using h.1, fun j => (World.frozen?_of_block (a := ⟨b, j, none⟩) hk).trans (h.2.1 j), fun j x hx => (World.cell?_of_block (a := ⟨b, j, none⟩) hk).trans (h.2.2 j x hx)⟩


theorem Held.new1 (w : World) (x : Obj) (cs : Array Value) (t : TypeId) : Held ((w.alloc x).alloc (.cells cs t)) (w.heap.size + 1) cs.toList := by
  have h := Held.new (w.alloc x) cs t
  rwa [show (w.alloc x).heap.size = w.heap.size + 1 by simp] at h
theorem Held.new2 (w : World) (x y : Obj) (cs : Array Value) (t : TypeId) : Held (((w.alloc x).alloc y).alloc (.cells cs t)) (w.heap.size + 1 + 1) cs.toList := by
  have h := Held.new1 (w.alloc x) y cs t
  rwa [show (w.alloc x).heap.size = w.heap.size + 1 by simp] at h

theorem Held.seven {w' : World} {b : Nat} {a0 a1 a2 a3 a4 a5 a6 : Value} (h : Held w' b [a0, a1, a2, a3, a4, a5, a6]) : w'.cell? ⟨b, 0, none⟩ = some a0 ∧ w'.cell? ⟨b, 1, none⟩ = some a1 ∧ w'.cell? ⟨b, 2, none⟩ = some a2 ∧ w'.cell? ⟨b, 3, none⟩ = some a3 ∧ w'.cell? ⟨b, 4, none⟩ = some a4 ∧ w'.cell? ⟨b, 5, none⟩ = some a5 ∧ w'.cell? ⟨b, 6, none⟩ = some a6 :=
  ⟨h.of 0 _ rfl, h.of 1 _ rfl, h.of 2 _ rfl, h.of 3 _ rfl, h.of 4 _ rfl, h.of 5 _ rfl, h.of 6 _ rfl⟩

/-- Seven cells of a block written. -/
abbrev put7 (w : World) (b : Nat) (b0 b1 b2 b3 b4 b5 b6 : Value) : World := (((((((w).setCell ⟨b, 0, none⟩ b0).setCell ⟨b, 1, none⟩ b1).setCell ⟨b, 2, none⟩ b2).setCell ⟨b, 3, none⟩ b3).setCell ⟨b, 4, none⟩ b4).setCell ⟨b, 5, none⟩ b5).setCell ⟨b, 6, none⟩ b6
theorem Held.put7 {w : World} {b : Nat} {a0 a1 a2 a3 a4 a5 a6 : Value} (h : Held w b [a0, a1, a2, a3, a4, a5, a6]) (b0 b1 b2 b3 b4 b5 b6 : Value) : Held (put7 w b b0 b1 b2 b3 b4 b5 b6) b [b0, b1, b2, b3, b4, b5, b6] :=
  ((((((h.set_ (i := 0) b0).set_ (i := 1) b1).set_ (i := 2) b2).set_ (i := 3) b3).set_ (i := 4) b4).set_ (i := 5) b5).set_ (i := 6) b6
theorem Held.far7 {w : World} {c b : Nat} {cs : List Value} (h : Held w c cs) (hp : c ≠ b) (b0 b1 b2 b3 b4 b5 b6 : Value) : Held (Go.Proofs.Ytkamlibfcakblaa.put7 w b b0 b1 b2 b3 b4 b5 b6) c cs :=
  ((((((h.far (p := ⟨b, 0, none⟩) hp b0).far (p := ⟨b, 1, none⟩) hp b1).far (p := ⟨b, 2, none⟩) hp b2).far (p := ⟨b, 3, none⟩) hp b3).far (p := ⟨b, 4, none⟩) hp b4).far (p := ⟨b, 5, none⟩) hp b5).far (p := ⟨b, 6, none⟩) hp b6
theorem Drew.put7 {g : Nat} {P : Int} {w a : World} (h : Drew g P w a) (b : Nat) (hb : w.heap.size ≤ b) (hgw : g < w.heap.size) (b0 b1 b2 b3 b4 b5 b6 : Value) : Drew g P w (Go.Proofs.Ytkamlibfcakblaa.put7 a b b0 b1 b2 b3 b4 b5 b6) :=
  ((((((h.setCell (p := ⟨b, 0, none⟩) hb hgw b0).setCell (p := ⟨b, 1, none⟩) hb hgw b1).setCell (p := ⟨b, 2, none⟩) hb hgw b2).setCell (p := ⟨b, 3, none⟩) hb hgw b3).setCell (p := ⟨b, 4, none⟩) hb hgw b4).setCell (p := ⟨b, 5, none⟩) hb hgw b5).setCell (p := ⟨b, 6, none⟩) hb hgw b6
theorem belowPut7 {B : Nat} {w a : World} (h : Below B w a) (b : Nat) (hb : B ≤ b) (b0 b1 b2 b3 b4 b5 b6 : Value) : Below B w (Go.Proofs.Ytkamlibfcakblaa.put7 a b b0 b1 b2 b3 b4 b5 b6) :=
  (((((((h.setCell (p := ⟨b, 0, none⟩) hb b0).setCell (p := ⟨b, 1, none⟩) hb b1).setCell (p := ⟨b, 2, none⟩) hb b2).setCell (p := ⟨b, 3, none⟩) hb b3).setCell (p := ⟨b, 4, none⟩) hb b4).setCell (p := ⟨b, 5, none⟩) hb b5).setCell (p := ⟨b, 6, none⟩) hb b6)

end Go.Proofs.Ytkamlibfcakblaa

/- A drawn write. -/
namespace Go.Proofs.Ytkamlibfcakblaa
open Go.RowKit

theorem Held.write3 {w : World} {b : Nat} {x y z : Value} (h : Held w b [x, y, z]) (x' y' z' : Value) :
    Held (((w.setCell ⟨b, 0, none⟩ x').setCell ⟨b, 1, none⟩ y').setCell ⟨b, 2, none⟩ z') b [x', y', z'] := ((h.set_ (i := 0) x').set_ (i := 1) y').set_ (i := 2) z'
theorem Drew.write3 {g : Nat} {P : Int} {w a : World} (h : Drew g P w a) (b : Nat) (hb : w.heap.size ≤ b) (hgw : g < w.heap.size) (x y z : Value) :
    Drew g P w (((a.setCell ⟨b, 0, none⟩ x).setCell ⟨b, 1, none⟩ y).setCell ⟨b, 2, none⟩ z) := ((h.setCell (p := ⟨b, 0, none⟩) hb hgw x).setCell (p := ⟨b, 1, none⟩) hb hgw y).setCell (p := ⟨b, 2, none⟩) hb hgw z
theorem OwnInts.set_ {w : World} {lo : Nat} {v : Value} {xs : List Int} (h : OwnInts w lo v xs) {p : Addr} (hp : ∀ b, v.ownBlock = some b → b ≠ p.block) (u : Value) : OwnInts (w.setCell p u) lo v xs :=
  h.kept (row := some p.block) ⟨rfl, rfl, rfl, by simp [World.setCell], fun b _ hne => Below.heap_setCell w p u b (fun e => hne (by rw [e]))⟩ (by
    cases hv : v.ownBlock with
    | none => exact .inl rfl
    | some b => exact .inr fun e => hp b hv (Option.some.inj e))
theorem OwnInts.write3 {w : World} {lo : Nat} {v : Value} {xs : List Int} (h : OwnInts w lo v xs) (b : Nat) (hp : ∀ k, v.ownBlock = some k → k ≠ b) (x y z : Value) :
    OwnInts (((w.setCell ⟨b, 0, none⟩ x).setCell ⟨b, 1, none⟩ y).setCell ⟨b, 2, none⟩ z) lo v xs := ((h.set_ (p := ⟨b, 0, none⟩) hp x).set_ (p := ⟨b, 1, none⟩) hp y).set_ (p := ⟨b, 2, none⟩) hp z
theorem ownNil (w : World) (lo : Nat) : OwnInts w lo (.slice none 0 0) [] := World.ownsRow_nil _ _ _ _

/-- What a draw of a write leaves. -/
def DrewWrite (g : Nat) (P : Int) (w : World) (e : Ending) (w' : World) : Prop :=
  ∃ s d v xs, e = .returned (.agg #[.string s, .bool d, v]) ∧ s.size ≤ 1000002 ∧ xs.length ≤ 4 ∧ OwnInts w' w.heap.size v xs ∧ Drew g P w w'

set_option maxRecDepth 100000 in
set_option maxHeartbeats 1000000 in
theorem l20Write_any (w : World) (g : Nat) (P n : Int) (hr : Rds w g P) (hP0 : 0 ≤ P) (hP : P ≤ 800000000) (hn : n ≤ 1000000) :
    Calls Try.prog 117 #[.pointer (some ⟨g, 0, none⟩), .int .i64 n] w (DrewWrite g (P + 40) w) := by
  have hgw := hr.lt
  have HA := Lib.hid (show Drew g P w (w.alloc (.cells #[.string ⟨#[]⟩, .bool false, .slice none 0 0] 86)) from ⟨hr.alloc _, World.grownBy_alloc _ _ _⟩)
  have HH := Lib.hid (Held.new w #[.string ⟨#[]⟩, .bool false, .slice none 0 0] 86)
  clear hr
  go_enter Try.func117, Try.ntmps117
  go_wp2_with fail
  refine (l20Key_any _ g _ _ HA.out.1 hP0 (by omega) hn).mono ?_
  rintro e w1 ⟨s, rfl, hs, hd1⟩
  have HD1 := Lib.hid (HA.out.trans hd1)
  have HH1 := Lib.hid (HH.out.drew hd1 (by omega))
  have hz1 : w.heap.size < w1.heap.size := HH1.out.1
  have HA1 := Lib.hid (HD1.out.alloc (.cells #[.string s, .bool false, .slice none 0 0] 86))
  have HB1 := Lib.hid (Held.new w1 #[.string s, .bool false, .slice none 0 0] 86)
  have HH1' := Lib.hid (HH1.out.after (.cells #[.string s, .bool false, .slice none 0 0] 86))
  clear hd1 HA HH HD1 HH1
  go_wp2_with fail
  refine (pick_rds _ g _ _ HA1.out.1 (by omega) (by omega)).mono ?_
  rintro e w2 ⟨m, rfl, hm0, hm1, hd2⟩
  have HD2 := Lib.hid (HA1.out.trans hd2)
  have HB2 := Lib.hid (HB1.out.drew hd2 (by omega))
  have HH2 := Lib.hid (HH1'.out.drew hd2 (by omega))
  have hz2 : w1.heap.size < w2.heap.size := HB2.out.1
  clear hd2 HA1 HB1 HH1' hm1
  obtain ⟨b0, b1, b2⟩ := HB2.out.cells
  obtain ⟨r0, r1, r2⟩ := HH2.out.cells
  have fb := HB2.out.2.1
  have fr := HH2.out.2.1
  by_cases hm : m = 0
  · have hmb : (m == 0) = true := by simp [hm]
    clear hm
    have HD3 := Lib.hid (HD2.out.setCell (p := ⟨w1.heap.size, 1, none⟩) (Nat.le_of_lt hz1) hgw (.bool true))
    have HB3 := Lib.hid (HB2.out.set_ (i := 1) (.bool true))
    have HH3 := Lib.hid (HH2.out.far (p := ⟨w1.heap.size, 1, none⟩) (by simp; omega) (.bool true))
    go_wp2_with fail
    refine (odd_any _ g _ _ HD3.out.1 (by omega) hn).mono ?_
    rintro e w4 ⟨bb, rfl, hbb, hd4⟩
    have HD4 := Lib.hid (HD3.out.trans hd4)
    have HB4 := Lib.hid (HB3.out.drew hd4 (by omega))
    have HH4 := Lib.hid (HH3.out.drew hd4 (by omega))
    clear hbb hd4 HD3 HB3 HH3 HD2 HB2 HH2 b0 b1 b2 r0 r1 r2 fb fr
    obtain ⟨b0, b1, b2⟩ := HB4.out.cells
    obtain ⟨r0, r1, r2⟩ := HH4.out.cells
    have fb := HB4.out.2.1
    have fr := HH4.out.2.1
    have hz4 : w1.heap.size < w4.heap.size := HB4.out.1
    have hne : ¬ w.heap.size = w1.heap.size := by omega
    cases bb
    · go_wp2
      obtain ⟨q0, q1, q2⟩ := (HH4.out.write3 (.string s) (.bool true) (.slice none 0 0)).cells
      refine bodyPost_ret (v := .agg #[.string s, .bool true, .slice none 0 0]) (by simp [results, Try.results117, go_sem, q0, q1, q2]) rfl ⟨s, true, _, [], rfl, hs, by simp, ownNil _ _, ?_⟩
      exact (Drew.write3 ⟨HD4.out.1.more (by omega), HD4.out.2⟩ w.heap.size (Nat.le_refl _) hgw _ _ _)
    · have HB5 := Lib.hid ((HB4.out.set_ (i := 2) (.slice (some ⟨w4.heap.size, 0, none⟩) 1 1)).after (.cells #[.int .i64 1] 3))
      have HH5 := Lib.hid ((HH4.out.far (p := ⟨w1.heap.size, 2, none⟩) hne (.slice (some ⟨w4.heap.size, 0, none⟩) 1 1)).after (.cells #[.int .i64 1] 3))
      have hz5 : w.heap.size < w4.heap.size := by omega
      obtain ⟨p0, p1, p2⟩ := HB5.out.cells
      obtain ⟨s0, s1, s2⟩ := HH5.out.cells
      have fs := HH5.out.2.1
      have HQ := Lib.hid (((HH4.out.far (p := ⟨w1.heap.size, 2, none⟩) hne (.slice (some ⟨w4.heap.size, 0, none⟩) 1 1)).write3 (.string s) (.bool true) (.slice (some ⟨w4.heap.size, 0, none⟩) 1 1)).after (.cells #[.int .i64 1] 3))
      have HDf := Lib.hid (((HD4.out.setCell (p := ⟨w1.heap.size, 2, none⟩) (Nat.le_of_lt hz1) hgw (.slice (some ⟨w4.heap.size, 0, none⟩) 1 1)).write3 w.heap.size (Nat.le_refl _) hgw (.string s) (.bool true) (.slice (some ⟨w4.heap.size, 0, none⟩) 1 1)).alloc (.cells #[.int .i64 1] 3))
      have HOf := Lib.hid (show OwnInts (((((w4.setCell ⟨w1.heap.size, 2, none⟩ (.slice (some ⟨w4.heap.size, 0, none⟩) 1 1)).setCell ⟨w.heap.size, 0, none⟩ (.string s)).setCell ⟨w.heap.size, 1, none⟩ (.bool true)).setCell ⟨w.heap.size, 2, none⟩ (.slice (some ⟨w4.heap.size, 0, none⟩) 1 1)).alloc (.cells #[.int .i64 1] 3)) w.heap.size (.slice (some ⟨w4.heap.size, 0, none⟩) 1 1) [1] by
        have := OwnInts.lit ((((w4.setCell ⟨w1.heap.size, 2, none⟩ (.slice (some ⟨w4.heap.size, 0, none⟩) 1 1)).setCell ⟨w.heap.size, 0, none⟩ (.string s)).setCell ⟨w.heap.size, 1, none⟩ (.bool true)).setCell ⟨w.heap.size, 2, none⟩ (.slice (some ⟨w4.heap.size, 0, none⟩) 1 1)) w.heap.size (by simp; omega) [1] (by unfold maxLen; simp)
        simpa using this)
      go_wp2
      obtain ⟨q0, q1, q2⟩ := HQ.out.cells
      refine bodyPost_ret (v := .agg #[.string s, .bool true, .slice (some ⟨w4.heap.size, 0, none⟩) 1 1]) (by simp [results, Try.results117, go_sem, q0, q1, q2]) rfl ⟨s, true, _, [1], rfl, hs, by simp, HOf.out, HDf.out.1.more (by omega), HDf.out.2⟩
  · have hmb : (m == 0) = false := by simp [hm]
    clear hm
    go_wp2_with fail
    refine (l20Val_any _ g _ _ HD2.out.1 (by omega) (by omega) hn).mono ?_
    rintro e w4 ⟨v, xs, rfl, hxs, hown, hd4⟩
    obtain ⟨Av, cv, hvf, -, -⟩ := hown.ints.form
    subst hvf
    have HD4 := Lib.hid (HD2.out.trans hd4)
    have HB4 := Lib.hid (HB2.out.drew hd4 (by omega))
    have HH4 := Lib.hid (HH2.out.drew hd4 (by omega))
    have HO4 := Lib.hid hown
    clear hd4 HD2 HB2 HH2 b0 b1 b2 r0 r1 r2 fb fr hown
    have hlo : ∀ b, (Value.slice Av xs.length cv).ownBlock = some b → w2.heap.size ≤ b := fun b hb => (HO4.out.lt b hb).1
    have HLo := Lib.hid hlo
    clear hlo
    obtain ⟨b0, b1, b2⟩ := HB4.out.cells
    obtain ⟨r0, r1, r2⟩ := HH4.out.cells
    have fb := HB4.out.2.1
    have fr := HH4.out.2.1
    have hz4 : w1.heap.size < w4.heap.size := HB4.out.1
    have hne : ¬ w.heap.size = w1.heap.size := by omega
    have HB5 := Lib.hid (HB4.out.set_ (i := 2) (.slice Av xs.length cv))
    have HH5 := Lib.hid (HH4.out.far (p := ⟨w1.heap.size, 2, none⟩) hne (.slice Av xs.length cv))
    obtain ⟨p0, p1, p2⟩ := HB5.out.cells
    obtain ⟨s0, s1, s2⟩ := HH5.out.cells
    have fs := HH5.out.2.1
    go_wp2
    obtain ⟨q0, q1, q2⟩ := (HH5.out.write3 (.string s) (.bool false) (.slice Av xs.length cv)).cells
    refine bodyPost_ret (v := .agg #[.string s, .bool false, .slice Av xs.length cv]) (by simp [results, Try.results117, go_sem, q0, q1, q2]) rfl ⟨s, false, _, xs, rfl, hs, hxs, ?_, ?_⟩
    · exact ((HO4.out.set_ (p := ⟨w1.heap.size, 2, none⟩) (fun b hb => by have := HLo.out b hb; simp; omega) _).write3 w.heap.size (fun b hb => by have := HLo.out b hb; omega) _ _ _).less (by omega)
    · exact Drew.write3 ⟨(HD4.out.setCell (p := ⟨w1.heap.size, 2, none⟩) (Nat.le_of_lt hz1) hgw _).1.more (by omega), (HD4.out.setCell (p := ⟨w1.heap.size, 2, none⟩) (Nat.le_of_lt hz1) hgw _).2⟩ w.heap.size (Nat.le_refl _) hgw _ _ _

end Go.Proofs.Ytkamlibfcakblaa
