/- Texts that follow each other, merged: IntsOne, DrawVal, DrawBox, DrawWrt, Reach, Copy. -/
import Derived.Test.YtecdibpiojgppaaGreatXPlain
import Derived.Test.YtecdibpiojgppaaGreatXOwnIt
import Derived.Test.YtecdibpiojgppaaGreatXCmp

/- One number, made. -/
namespace Go.Proofs.YtecdibpiojgppaaGreat
open Go.RowKit

theorem Ints.one (w : World) (m : Int) : Ints (w.alloc (.cells #[.int .i64 m] 3)) (w.alloc (.cells #[.int .i64 m] 3)).heap.size (.slice (some ⟨w.heap.size, 0, none⟩) 1 1) [m] := by
  refine ⟨some ⟨w.heap.size, 0, none⟩, 1, rfl, Nat.le_refl _, by unfold maxLen; omega, fun _ => ⟨w.heap.size, 0, rfl, by simp, fun j hj => ?_⟩⟩
  have hj0 : j = 0 := by simp at hj; exact hj
  subst hj0
  exact (Held.new w #[.int .i64 m] 3).of 0 _ rfl

end Go.Proofs.YtecdibpiojgppaaGreat

/- Drawn numbers, and drawn writes. -/
namespace Go.Proofs.YtecdibpiojgppaaGreat
open Go.RowKit

theorem OwnInts.drew {w w' : World} {g lo : Nat} {P : Int} {v : Value} {xs : List Int} (h : OwnInts w lo v xs) (hd : Drew g P w w') (hg : g < lo) : OwnInts w' lo v xs :=
  h.kept hd.2 (by
    cases hv : v.ownBlock with
    | none => exact .inl rfl
    | some b =>
      refine .inr fun e => ?_
      have h1 := (h.lt b hv).1
      have h2 : b = g := Option.some.inj e
      omega)
theorem OwnInts.lit (w : World) (lo : Nat) (hlo : lo ≤ w.heap.size) (xs : List Int) (hl : xs.length ≤ maxLen) : OwnInts (w.alloc (.cells (xs.map (Value.int .i64)).toArray 3)) lo (.slice (some ⟨w.heap.size, 0, none⟩) xs.length xs.length) xs := by
  have := World.ownsRow_lit (base := lo) (e := 3) (size := 1) w (xs.map (Value.int .i64)).toArray xs.length hlo hl (by simp)
  simpa [OwnInts] using this
theorem OwnInts.alloc {w : World} {lo : Nat} {v : Value} {xs : List Int} (h : OwnInts w lo v xs) (o : Obj) : OwnInts (w.alloc o) lo v xs := h.below (belowOne w o)

/-- The literals of numbers with something wrong. -/
def valLits (w : World) : World := ((((w.alloc (.cells #[] 3)).alloc (.cells #[.int .i64 (-1)] 3)).alloc (.cells #[.int .i64 10000] 3)).alloc (.cells #[.int .i64 1, .int .i64 2, .int .i64 3, .int .i64 4] 3)).alloc (.cells #[.slice (some ⟨w.heap.size, 0, none⟩) 0 0, .slice (some ⟨w.heap.size + 1, 0, none⟩) 1 1, .slice (some ⟨w.heap.size + 1 + 1, 0, none⟩) 1 1, .slice (some ⟨w.heap.size + 1 + 1 + 1, 0, none⟩) 4 4] 65)
theorem valLits_at (w : World) (lo : Nat) (hlo : lo ≤ w.heap.size) : ∀ k, k < 4 → ∃ u ys, (valLits w).cell? ⟨w.heap.size + 1 + 1 + 1 + 1, k, none⟩ = some u ∧ ys.length ≤ 4 ∧ OwnInts (valLits w) lo u ys := by
  intro k hk
  have hm : ∀ n, n ≤ 4 → n ≤ maxLen := fun n hn => by unfold maxLen; omega
  unfold valLits
  have h0 := OwnInts.lit w lo hlo [] (hm _ (by decide))
  have h1 := OwnInts.lit (w.alloc (.cells #[] 3)) lo (by simp; omega) [-1] (hm _ (by decide))
  have h2 := OwnInts.lit ((w.alloc (.cells #[] 3)).alloc (.cells #[.int .i64 (-1)] 3)) lo (by simp; omega) [10000] (hm _ (by decide))
  have h3 := OwnInts.lit (((w.alloc (.cells #[] 3)).alloc (.cells #[.int .i64 (-1)] 3)).alloc (.cells #[.int .i64 10000] 3)) lo (by simp; omega) [1, 2, 3, 4] (hm _ (by decide))
  have hz : ((((w.alloc (.cells #[] 3)).alloc (.cells #[.int .i64 (-1)] 3)).alloc (.cells #[.int .i64 10000] 3)).alloc (.cells #[.int .i64 1, .int .i64 2, .int .i64 3, .int .i64 4] 3)).heap.size = w.heap.size + 1 + 1 + 1 + 1 := by simp
  have hH := Held.new ((((w.alloc (.cells #[] 3)).alloc (.cells #[.int .i64 (-1)] 3)).alloc (.cells #[.int .i64 10000] 3)).alloc (.cells #[.int .i64 1, .int .i64 2, .int .i64 3, .int .i64 4] 3)) #[.slice (some ⟨w.heap.size, 0, none⟩) 0 0, .slice (some ⟨w.heap.size + 1, 0, none⟩) 1 1, .slice (some ⟨w.heap.size + 1 + 1, 0, none⟩) 1 1, .slice (some ⟨w.heap.size + 1 + 1 + 1, 0, none⟩) 4 4] 65
  rw [hz] at hH
  rcases (by omega : k = 0 ∨ k = 1 ∨ k = 2 ∨ k = 3) with rfl | rfl | rfl | rfl
  · exact ⟨_, [], hH.of 0 _ rfl, by decide, (((h0.alloc _).alloc _).alloc _).alloc _⟩
  · exact ⟨_, [-1], hH.of 1 _ rfl, by decide, by simpa using ((h1.alloc _).alloc _).alloc _⟩
  · exact ⟨_, [10000], hH.of 2 _ rfl, by decide, by simpa using (h2.alloc _).alloc _⟩
  · exact ⟨_, [1, 2, 3, 4], hH.of 3 _ rfl, by decide, by simpa using h3.alloc _⟩

/-- What a draw of numbers leaves. -/
def DrewInts (g : Nat) (P : Int) (w : World) (e : Ending) (w' : World) : Prop :=
  ∃ v xs, e = .returned v ∧ xs.length ≤ 4 ∧ OwnInts w' w.heap.size v xs ∧ Drew g P w w'

set_option maxRecDepth 100000 in
set_option maxHeartbeats 1000000 in
theorem l20Val_any (w : World) (g : Nat) (P n : Int) (hr : Rds w g P) (hP0 : 0 ≤ P) (hP : P ≤ 900000000) (hn : n ≤ 1000000) :
    Calls Tryz.prog 74 #[.pointer (some ⟨g, 0, none⟩), .int .i64 n] w (DrewInts g (P + 10) w) := by
  have hgw := hr.lt
  go_enter Tryz.func74, Tryz.ntmps74
  go_wp2_with fail
  refine (pick_rds _ g _ _ hr (by omega) (by omega)).mono ?_
  rintro e w1 ⟨m, rfl, hm0, hm1, hd1⟩
  have HA := Lib.hid (hd1.alloc (.cells #[.int .i64 m] 3))
  have HO := Lib.hid (OwnInts.lit w1 w.heap.size hd1.2.size [m] (by unfold maxLen; simp))
  clear hr hm1 hd1 hm0
  go_wp2_with fail
  refine (pick_rds _ g _ _ HA.out.1 (by omega) (by omega)).mono ?_
  rintro e w2 ⟨k, rfl, hk0, hk1, hd2⟩
  obtain ⟨k, rfl⟩ := Int.eq_ofNat_of_zero_le hk0
  have hk : k < 3 := by have := hk1 (by omega); omega
  have HD2 := Lib.hid (HA.out.trans hd2)
  have HO2 := Lib.hid (HO.out.drew hd2 hgw)
  clear hk0 hk1 hd2 HA HO
  go_wp2
  go_loopw [5, 6] (fun a b wr => ∃ (xs : List Int) (j : Nat), OwnInts wr w.heap.size a xs ∧ b = .int .i64 j ∧ j ≤ 2 ∧ xs.length + j ≤ 3 ∧ Drew g (P + 4 - j) w wr) (fun _ b _ => (intOf b).toNat)
  case atStart => exact ⟨[m], k, HO2.out, rfl, by omega, by simp; omega, HD2.out.1.more (by omega), HD2.out.2⟩
  case round =>
    clear HD2 HO2
    obtain ⟨xs, j, hown, rfl, hj2, hxj, hd⟩ := hrel
    have HO := Lib.hid hown
    have HD := Lib.hid hd
    have hz : w.heap.size ≤ wr.heap.size := hd.2.size
    clear hown hd
    by_cases hj : 0 < j
    · go_wp2_with fail
      refine (pick_rds _ g _ _ HD.out.1 (by omega) (by omega)).mono ?_
      rintro e w3 ⟨q, rfl, hq0, hq1, hd3⟩
      have HD3 := Lib.hid (HD.out.trans hd3)
      have HO3 := Lib.hid ((HO.out.drew hd3 hgw).alloc (.cells #[.int .i64 q] 3))
      have hz3 : w.heap.size ≤ w3.heap.size := Nat.le_trans hz hd3.2.size
      clear hq0 hq1 hd3 HD HO hz
      go_wp2_with (at_builtin; refine wpl_append_ints rfl _ _ rfl w.heap.size _ xs rfl HO3.out _ _ _ [q] rfl (Ints.one w3 q) (by simp; omega) (by simp; omega) ?_; intro u w4 hown4 hg4; have HO4 := Lib.hid hown4; have HG4 := Lib.hid hg4; clear hown4 hg4)
      have HD4 := Lib.hid ((HD3.out.alloc _).grown HG4.out (fun k hk => (HO3.out.lt k hk).1) hgw)
      clear HD3 HO3 HG4
      go_wp2
      go_roundw
      case rel => exact ⟨xs ++ [q], j - 1, HO4.out, by go_num, by omega, by simp; omega, HD4.out.1.more (by omega), HD4.out.2⟩
      case measure => simp [intOf]; omega
    · go_wp2_with fail
      refine (odd_any _ g _ _ HD.out.1 (by omega) hn).mono ?_
      rintro e w3 ⟨bb, rfl, hbb, hd3⟩
      have HD3 := Lib.hid (HD.out.trans hd3)
      have HO3 := Lib.hid (HO.out.drew hd3 hgw)
      have hz3 : w.heap.size ≤ w3.heap.size := Nat.le_trans hz hd3.2.size
      clear hbb hd3 HD HO hz
      cases bb
      · go_wp2
        go_ret
        exact ⟨_, xs, rfl, by omega, HO3.out, HD3.out.1.more (by omega), HD3.out.2⟩
      · have HL := Lib.hid (valLits_at w3 w.heap.size hz3)
        have HA := Lib.hid (show Drew g (P + 4 - j + 1) w (valLits w3) from ((((HD3.out.alloc _).alloc _).alloc _).alloc _).alloc _)
        go_wp2_with fail
        refine (pick_rds (valLits w3) g _ _ HA.out.1 (by omega) (by omega)).mono ?_
        rintro e w4 ⟨m4, rfl, hm0, hm1, hd4⟩
        obtain ⟨q, rfl⟩ := Int.eq_ofNat_of_zero_le hm0
        have hq : q < 4 := by have := hm1 (by omega); omega
        obtain ⟨u, ys, hx, hys, hown⟩ := HL.out q hq
        have hx2 := hd4.2.cell hx (fun e => by have := Option.some.inj e; simp at this; omega)
        obtain ⟨Au, cu, huf, -, -⟩ := hown.ints.form
        have HO4 := Lib.hid (hown.drew hd4 hgw)
        have HD4 := Lib.hid (HA.out.trans hd4)
        subst huf
        clear hm0 hm1 hd4 hx hown HA HL HD3 HO3
        go_wp2
        go_ret
        exact ⟨_, ys, rfl, hys, HO4.out, HD4.out.1.more (by omega), HD4.out.2⟩

end Go.Proofs.YtecdibpiojgppaaGreat

/- Blocks of a call's own, beside a reader. -/
namespace Go.Proofs.YtecdibpiojgppaaGreat
open Go.RowKit

theorem Held.drew {w w' : World} {g b : Nat} {P : Int} {cs : List Value} (h : Held w b cs) (hd : Drew g P w w') (hb : b ≠ g) : Held w' b cs := by
  have hk := hd.2.block b h.1 (fun e => hb (Option.some.inj e))
  exact ⟨Nat.lt_of_lt_of_le h.1 hd.2.size, fun j => (World.frozen?_of_block (a := ⟨b, j, none⟩) hk).trans (h.2.1 j), fun j u hu => (World.cell?_of_block (a := ⟨b, j, none⟩) hk).trans (h.2.2 j u hu)⟩
theorem Held.cells {w : World} {b : Nat} {x y z : Value} (h : Held w b [x, y, z]) : w.cell? ⟨b, 0, none⟩ = some x ∧ w.cell? ⟨b, 1, none⟩ = some y ∧ w.cell? ⟨b, 2, none⟩ = some z := ⟨h.of 0 _ rfl, h.of 1 _ rfl, h.of 2 _ rfl⟩

theorem Drew.setCell {g : Nat} {P : Int} {w a : World} (h : Drew g P w a) {p : Addr} (hp : w.heap.size ≤ p.block) (hgw : g < w.heap.size) (u : Value) : Drew g P w (a.setCell p u) :=
  h.grown (row := some p.block) ⟨rfl, rfl, rfl, by simp [World.setCell], fun b _ hne => Below.heap_setCell a p u b (fun e => hne (by rw [e]))⟩ (fun k hk => by have := Option.some.inj hk; omega) hgw
theorem Held.far {w : World} {b : Nat} {cs : List Value} {p : Addr} (h : Held w b cs) (hp : b ≠ p.block) (u : Value) : Held (w.setCell p u) b cs := by
  have hk := Below.heap_setCell w p u b hp
  exact ⟨by simpa [World.setCell] using h.1, fun j => (World.frozen?_of_block (a := ⟨b, j, none⟩) hk).trans (h.2.1 j), fun j x hx => (World.cell?_of_block (a := ⟨b, j, none⟩) hk).trans (h.2.2 j x hx)⟩


theorem Held.new1 (w : World) (x : Obj) (cs : Array Value) (t : TypeId) : Held ((w.alloc x).alloc (.cells cs t)) (w.heap.size + 1) cs.toList := by
  have h := Held.new (w.alloc x) cs t
  rwa [show (w.alloc x).heap.size = w.heap.size + 1 by simp] at h
theorem Held.new2 (w : World) (x y : Obj) (cs : Array Value) (t : TypeId) : Held (((w.alloc x).alloc y).alloc (.cells cs t)) (w.heap.size + 1 + 1) cs.toList := by
  have h := Held.new1 (w.alloc x) y cs t
  rwa [show (w.alloc x).heap.size = w.heap.size + 1 by simp] at h

theorem Held.seven {w' : World} {b : Nat} {a0 a1 a2 a3 a4 a5 a6 : Value} (h : Held w' b [a0, a1, a2, a3, a4, a5, a6]) : w'.cell? ⟨b, 0, none⟩ = some a0 ∧ w'.cell? ⟨b, 1, none⟩ = some a1 ∧ w'.cell? ⟨b, 2, none⟩ = some a2 ∧ w'.cell? ⟨b, 3, none⟩ = some a3 ∧ w'.cell? ⟨b, 4, none⟩ = some a4 ∧ w'.cell? ⟨b, 5, none⟩ = some a5 ∧ w'.cell? ⟨b, 6, none⟩ = some a6 :=
  ⟨h.of 0 _ rfl, h.of 1 _ rfl, h.of 2 _ rfl, h.of 3 _ rfl, h.of 4 _ rfl, h.of 5 _ rfl, h.of 6 _ rfl⟩

/-- Seven cells of a block written. -/
abbrev put7 (w : World) (b : Nat) (b0 b1 b2 b3 b4 b5 b6 : Value) : World := (((((((w).setCell ⟨b, 0, none⟩ b0).setCell ⟨b, 1, none⟩ b1).setCell ⟨b, 2, none⟩ b2).setCell ⟨b, 3, none⟩ b3).setCell ⟨b, 4, none⟩ b4).setCell ⟨b, 5, none⟩ b5).setCell ⟨b, 6, none⟩ b6
theorem Held.put7 {w : World} {b : Nat} {a0 a1 a2 a3 a4 a5 a6 : Value} (h : Held w b [a0, a1, a2, a3, a4, a5, a6]) (b0 b1 b2 b3 b4 b5 b6 : Value) : Held (put7 w b b0 b1 b2 b3 b4 b5 b6) b [b0, b1, b2, b3, b4, b5, b6] :=
  ((((((h.set_ (i := 0) b0).set_ (i := 1) b1).set_ (i := 2) b2).set_ (i := 3) b3).set_ (i := 4) b4).set_ (i := 5) b5).set_ (i := 6) b6
theorem Held.far7 {w : World} {c b : Nat} {cs : List Value} (h : Held w c cs) (hp : c ≠ b) (b0 b1 b2 b3 b4 b5 b6 : Value) : Held (Go.Proofs.YtecdibpiojgppaaGreat.put7 w b b0 b1 b2 b3 b4 b5 b6) c cs :=
  ((((((h.far (p := ⟨b, 0, none⟩) hp b0).far (p := ⟨b, 1, none⟩) hp b1).far (p := ⟨b, 2, none⟩) hp b2).far (p := ⟨b, 3, none⟩) hp b3).far (p := ⟨b, 4, none⟩) hp b4).far (p := ⟨b, 5, none⟩) hp b5).far (p := ⟨b, 6, none⟩) hp b6
theorem Drew.put7 {g : Nat} {P : Int} {w a : World} (h : Drew g P w a) (b : Nat) (hb : w.heap.size ≤ b) (hgw : g < w.heap.size) (b0 b1 b2 b3 b4 b5 b6 : Value) : Drew g P w (Go.Proofs.YtecdibpiojgppaaGreat.put7 a b b0 b1 b2 b3 b4 b5 b6) :=
  ((((((h.setCell (p := ⟨b, 0, none⟩) hb hgw b0).setCell (p := ⟨b, 1, none⟩) hb hgw b1).setCell (p := ⟨b, 2, none⟩) hb hgw b2).setCell (p := ⟨b, 3, none⟩) hb hgw b3).setCell (p := ⟨b, 4, none⟩) hb hgw b4).setCell (p := ⟨b, 5, none⟩) hb hgw b5).setCell (p := ⟨b, 6, none⟩) hb hgw b6
theorem belowPut7 {B : Nat} {w a : World} (h : Below B w a) (b : Nat) (hb : B ≤ b) (b0 b1 b2 b3 b4 b5 b6 : Value) : Below B w (Go.Proofs.YtecdibpiojgppaaGreat.put7 a b b0 b1 b2 b3 b4 b5 b6) :=
  (((((((h.setCell (p := ⟨b, 0, none⟩) hb b0).setCell (p := ⟨b, 1, none⟩) hb b1).setCell (p := ⟨b, 2, none⟩) hb b2).setCell (p := ⟨b, 3, none⟩) hb b3).setCell (p := ⟨b, 4, none⟩) hb b4).setCell (p := ⟨b, 5, none⟩) hb b5).setCell (p := ⟨b, 6, none⟩) hb b6)

end Go.Proofs.YtecdibpiojgppaaGreat

/- A drawn write. -/
namespace Go.Proofs.YtecdibpiojgppaaGreat
open Go.RowKit

theorem Held.write3 {w : World} {b : Nat} {x y z : Value} (h : Held w b [x, y, z]) (x' y' z' : Value) :
    Held (((w.setCell ⟨b, 0, none⟩ x').setCell ⟨b, 1, none⟩ y').setCell ⟨b, 2, none⟩ z') b [x', y', z'] := ((h.set_ (i := 0) x').set_ (i := 1) y').set_ (i := 2) z'
theorem Drew.write3 {g : Nat} {P : Int} {w a : World} (h : Drew g P w a) (b : Nat) (hb : w.heap.size ≤ b) (hgw : g < w.heap.size) (x y z : Value) :
    Drew g P w (((a.setCell ⟨b, 0, none⟩ x).setCell ⟨b, 1, none⟩ y).setCell ⟨b, 2, none⟩ z) := ((h.setCell (p := ⟨b, 0, none⟩) hb hgw x).setCell (p := ⟨b, 1, none⟩) hb hgw y).setCell (p := ⟨b, 2, none⟩) hb hgw z
theorem OwnInts.set_ {w : World} {lo : Nat} {v : Value} {xs : List Int} (h : OwnInts w lo v xs) {p : Addr} (hp : ∀ b, v.ownBlock = some b → b ≠ p.block) (u : Value) : OwnInts (w.setCell p u) lo v xs :=
  h.kept (row := some p.block) ⟨rfl, rfl, rfl, by simp [World.setCell], fun b _ hne => Below.heap_setCell w p u b (fun e => hne (by rw [e]))⟩ (by
    cases hv : v.ownBlock with
    | none => exact .inl rfl
    | some b => exact .inr fun e => hp b hv (Option.some.inj e))
theorem OwnInts.write3 {w : World} {lo : Nat} {v : Value} {xs : List Int} (h : OwnInts w lo v xs) (b : Nat) (hp : ∀ k, v.ownBlock = some k → k ≠ b) (x y z : Value) :
    OwnInts (((w.setCell ⟨b, 0, none⟩ x).setCell ⟨b, 1, none⟩ y).setCell ⟨b, 2, none⟩ z) lo v xs := ((h.set_ (p := ⟨b, 0, none⟩) hp x).set_ (p := ⟨b, 1, none⟩) hp y).set_ (p := ⟨b, 2, none⟩) hp z
theorem ownNil (w : World) (lo : Nat) : OwnInts w lo (.slice none 0 0) [] := World.ownsRow_nil _ _ _ _

/-- What a draw of a write leaves. -/
def DrewWrite (g : Nat) (P : Int) (w : World) (e : Ending) (w' : World) : Prop :=
  ∃ s d v xs, e = .returned (.agg #[.string s, .bool d, v]) ∧ s.size ≤ 1000002 ∧ xs.length ≤ 4 ∧ OwnInts w' w.heap.size v xs ∧ Drew g P w w'

set_option maxRecDepth 100000 in
set_option maxHeartbeats 1000000 in
theorem l20Write_any (w : World) (g : Nat) (P n : Int) (hr : Rds w g P) (hP0 : 0 ≤ P) (hP : P ≤ 800000000) (hn : n ≤ 1000000) :
    Calls Tryz.prog 104 #[.pointer (some ⟨g, 0, none⟩), .int .i64 n] w (DrewWrite g (P + 40) w) := by
  have hgw := hr.lt
  have HA := Lib.hid (show Drew g P w (w.alloc (.cells #[.string ⟨#[]⟩, .bool false, .slice none 0 0] 77)) from ⟨hr.alloc _, World.grownBy_alloc _ _ _⟩)
  have HH := Lib.hid (Held.new w #[.string ⟨#[]⟩, .bool false, .slice none 0 0] 77)
  clear hr
  go_enter Tryz.func104, Tryz.ntmps104
  go_wp2_with fail
  refine (l20Key_any _ g _ _ HA.out.1 hP0 (by omega) hn).mono ?_
  rintro e w1 ⟨s, rfl, hs, hd1⟩
  have HD1 := Lib.hid (HA.out.trans hd1)
  have HH1 := Lib.hid (HH.out.drew hd1 (by omega))
  have hz1 : w.heap.size < w1.heap.size := HH1.out.1
  have HA1 := Lib.hid (HD1.out.alloc (.cells #[.string s, .bool false, .slice none 0 0] 77))
  have HB1 := Lib.hid (Held.new w1 #[.string s, .bool false, .slice none 0 0] 77)
  have HH1' := Lib.hid (HH1.out.after (.cells #[.string s, .bool false, .slice none 0 0] 77))
  clear hd1 HA HH HD1 HH1
  go_wp2_with fail
  refine (pick_rds _ g _ _ HA1.out.1 (by omega) (by omega)).mono ?_
  rintro e w2 ⟨m, rfl, hm0, hm1, hd2⟩
  have HD2 := Lib.hid (HA1.out.trans hd2)
  have HB2 := Lib.hid (HB1.out.drew hd2 (by omega))
  have HH2 := Lib.hid (HH1'.out.drew hd2 (by omega))
  have hz2 : w1.heap.size < w2.heap.size := HB2.out.1
  clear hd2 HA1 HB1 HH1' hm1
  obtain ⟨b0, b1, b2⟩ := HB2.out.cells
  obtain ⟨r0, r1, r2⟩ := HH2.out.cells
  have fb := HB2.out.2.1
  have fr := HH2.out.2.1
  by_cases hm : m = 0
  · have hmb : (m == 0) = true := by simp [hm]
    clear hm
    have HD3 := Lib.hid (HD2.out.setCell (p := ⟨w1.heap.size, 1, none⟩) (Nat.le_of_lt hz1) hgw (.bool true))
    have HB3 := Lib.hid (HB2.out.set_ (i := 1) (.bool true))
    have HH3 := Lib.hid (HH2.out.far (p := ⟨w1.heap.size, 1, none⟩) (by simp; omega) (.bool true))
    go_wp2_with fail
    refine (odd_any _ g _ _ HD3.out.1 (by omega) hn).mono ?_
    rintro e w4 ⟨bb, rfl, hbb, hd4⟩
    have HD4 := Lib.hid (HD3.out.trans hd4)
    have HB4 := Lib.hid (HB3.out.drew hd4 (by omega))
    have HH4 := Lib.hid (HH3.out.drew hd4 (by omega))
    clear hbb hd4 HD3 HB3 HH3 HD2 HB2 HH2 b0 b1 b2 r0 r1 r2 fb fr
    obtain ⟨b0, b1, b2⟩ := HB4.out.cells
    obtain ⟨r0, r1, r2⟩ := HH4.out.cells
    have fb := HB4.out.2.1
    have fr := HH4.out.2.1
    have hz4 : w1.heap.size < w4.heap.size := HB4.out.1
    have hne : ¬ w.heap.size = w1.heap.size := by omega
    cases bb
    · go_wp2
      obtain ⟨q0, q1, q2⟩ := (HH4.out.write3 (.string s) (.bool true) (.slice none 0 0)).cells
      refine bodyPost_ret (v := .agg #[.string s, .bool true, .slice none 0 0]) (by simp [results, Tryz.results104, go_sem, q0, q1, q2]) rfl ⟨s, true, _, [], rfl, hs, by simp, ownNil _ _, ?_⟩
      exact (Drew.write3 ⟨HD4.out.1.more (by omega), HD4.out.2⟩ w.heap.size (Nat.le_refl _) hgw _ _ _)
    · have HB5 := Lib.hid ((HB4.out.set_ (i := 2) (.slice (some ⟨w4.heap.size, 0, none⟩) 1 1)).after (.cells #[.int .i64 1] 3))
      have HH5 := Lib.hid ((HH4.out.far (p := ⟨w1.heap.size, 2, none⟩) hne (.slice (some ⟨w4.heap.size, 0, none⟩) 1 1)).after (.cells #[.int .i64 1] 3))
      have hz5 : w.heap.size < w4.heap.size := by omega
      obtain ⟨p0, p1, p2⟩ := HB5.out.cells
      obtain ⟨s0, s1, s2⟩ := HH5.out.cells
      have fs := HH5.out.2.1
      have HQ := Lib.hid (((HH4.out.far (p := ⟨w1.heap.size, 2, none⟩) hne (.slice (some ⟨w4.heap.size, 0, none⟩) 1 1)).write3 (.string s) (.bool true) (.slice (some ⟨w4.heap.size, 0, none⟩) 1 1)).after (.cells #[.int .i64 1] 3))
      have HDf := Lib.hid (((HD4.out.setCell (p := ⟨w1.heap.size, 2, none⟩) (Nat.le_of_lt hz1) hgw (.slice (some ⟨w4.heap.size, 0, none⟩) 1 1)).write3 w.heap.size (Nat.le_refl _) hgw (.string s) (.bool true) (.slice (some ⟨w4.heap.size, 0, none⟩) 1 1)).alloc (.cells #[.int .i64 1] 3))
      have HOf := Lib.hid (show OwnInts (((((w4.setCell ⟨w1.heap.size, 2, none⟩ (.slice (some ⟨w4.heap.size, 0, none⟩) 1 1)).setCell ⟨w.heap.size, 0, none⟩ (.string s)).setCell ⟨w.heap.size, 1, none⟩ (.bool true)).setCell ⟨w.heap.size, 2, none⟩ (.slice (some ⟨w4.heap.size, 0, none⟩) 1 1)).alloc (.cells #[.int .i64 1] 3)) w.heap.size (.slice (some ⟨w4.heap.size, 0, none⟩) 1 1) [1] by
        have := OwnInts.lit ((((w4.setCell ⟨w1.heap.size, 2, none⟩ (.slice (some ⟨w4.heap.size, 0, none⟩) 1 1)).setCell ⟨w.heap.size, 0, none⟩ (.string s)).setCell ⟨w.heap.size, 1, none⟩ (.bool true)).setCell ⟨w.heap.size, 2, none⟩ (.slice (some ⟨w4.heap.size, 0, none⟩) 1 1)) w.heap.size (by simp; omega) [1] (by unfold maxLen; simp)
        simpa using this)
      go_wp2
      obtain ⟨q0, q1, q2⟩ := HQ.out.cells
      refine bodyPost_ret (v := .agg #[.string s, .bool true, .slice (some ⟨w4.heap.size, 0, none⟩) 1 1]) (by simp [results, Tryz.results104, go_sem, q0, q1, q2]) rfl ⟨s, true, _, [1], rfl, hs, by simp, HOf.out, HDf.out.1.more (by omega), HDf.out.2⟩
  · have hmb : (m == 0) = false := by simp [hm]
    clear hm
    go_wp2_with fail
    refine (l20Val_any _ g _ _ HD2.out.1 (by omega) (by omega) hn).mono ?_
    rintro e w4 ⟨v, xs, rfl, hxs, hown, hd4⟩
    obtain ⟨Av, cv, hvf, -, -⟩ := hown.ints.form
    subst hvf
    have HD4 := Lib.hid (HD2.out.trans hd4)
    have HB4 := Lib.hid (HB2.out.drew hd4 (by omega))
    have HH4 := Lib.hid (HH2.out.drew hd4 (by omega))
    have HO4 := Lib.hid hown
    clear hd4 HD2 HB2 HH2 b0 b1 b2 r0 r1 r2 fb fr hown
    have hlo : ∀ b, (Value.slice Av xs.length cv).ownBlock = some b → w2.heap.size ≤ b := fun b hb => (HO4.out.lt b hb).1
    have HLo := Lib.hid hlo
    clear hlo
    obtain ⟨b0, b1, b2⟩ := HB4.out.cells
    obtain ⟨r0, r1, r2⟩ := HH4.out.cells
    have fb := HB4.out.2.1
    have fr := HH4.out.2.1
    have hz4 : w1.heap.size < w4.heap.size := HB4.out.1
    have hne : ¬ w.heap.size = w1.heap.size := by omega
    have HB5 := Lib.hid (HB4.out.set_ (i := 2) (.slice Av xs.length cv))
    have HH5 := Lib.hid (HH4.out.far (p := ⟨w1.heap.size, 2, none⟩) hne (.slice Av xs.length cv))
    obtain ⟨p0, p1, p2⟩ := HB5.out.cells
    obtain ⟨s0, s1, s2⟩ := HH5.out.cells
    have fs := HH5.out.2.1
    go_wp2
    obtain ⟨q0, q1, q2⟩ := (HH5.out.write3 (.string s) (.bool false) (.slice Av xs.length cv)).cells
    refine bodyPost_ret (v := .agg #[.string s, .bool false, .slice Av xs.length cv]) (by simp [results, Tryz.results104, go_sem, q0, q1, q2]) rfl ⟨s, false, _, xs, rfl, hs, hxs, ?_, ?_⟩
    · exact ((HO4.out.set_ (p := ⟨w1.heap.size, 2, none⟩) (fun b hb => by have := HLo.out b hb; simp; omega) _).write3 w.heap.size (fun b hb => by have := HLo.out b hb; omega) _ _ _).less (by omega)
    · exact Drew.write3 ⟨(HD4.out.setCell (p := ⟨w1.heap.size, 2, none⟩) (Nat.le_of_lt hz1) hgw _).1.more (by omega), (HD4.out.setCell (p := ⟨w1.heap.size, 2, none⟩) (Nat.le_of_lt hz1) hgw _).2⟩ w.heap.size (Nat.le_refl _) hgw _ _ _

end Go.Proofs.YtecdibpiojgppaaGreat

/- Which operations of a region that draws must have come up behind which. Nothing of the program. -/
namespace Go.Proofs.YtecdibpiojgppaaGreat

/-- Which operations must have come up behind which. -/
def reach (ops : Array Oper) : Nat → Nat → Nat → Bool
  | 0, i, j => i == j
  | f + 1, i, j => i == j || (match ops[i]? with
    | some o => o.after.any fun e => reach ops f e.on j
    | none => false)
theorem Down.reach {ops : Array Oper} {L : Nat → Bool} (h : Down ops L) : ∀ (f i j : Nat), reach ops f i j = true → L i = true → L j = true := by
  intro f
  induction f with
  | zero => intro i j hr hL; simp [Go.Proofs.YtecdibpiojgppaaGreat.reach] at hr; subst hr; exact hL
  | succ f ih =>
    intro i j hr hL
    unfold Go.Proofs.YtecdibpiojgppaaGreat.reach at hr
    rcases Bool.or_eq_true_iff.1 hr with h1 | h1
    · simp at h1; subst h1; exact hL
    · split at h1
      · next o ho =>
        obtain ⟨n, hn, he⟩ := Array.any_eq_true.1 h1
        exact ih _ _ he (h i o ho hL _ (Array.getElem_mem hn))
      · cases h1
theorem Down.notYet {ops : Array Oper} {L : Nat → Bool} (h : Down ops L) (f n m : Nat) (hr : ((List.range n).all fun j => Go.Proofs.YtecdibpiojgppaaGreat.reach ops f m j) = true) {i : Nat} (hi : i < n) (hL : L i = false) : L m = false := by
  cases hm : L m with
  | false => rfl
  | true =>
    have := h.reach f m i (List.all_eq_true.1 hr i (List.mem_range.2 hi)) hm
    rw [hL] at this
    cases this

end Go.Proofs.YtecdibpiojgppaaGreat

/- The model's copy of a store. -/
namespace Go.Proofs.YtecdibpiojgppaaGreat
open Go.RowKit

/-- What holds of the world while a thing is copied. -/
structure CpW (w0 : World) (v vx : Value) (its : List Item) (k : Nat) (it : Item) (b off : Nat) (ux : Value) (W : World) : Prop where
  box1 : Held W w0.heap.size [v]
  box2 : Held W (w0.heap.size + 1) [.slice none 0 0]
  box3 : Held W (w0.heap.size + 1 + 1) [vx]
  own : OwnIt W (w0.heap.size + 1 + 1 + 1) (w0.heap.size + 1 + 1 + 1 ≤ ·) vx (its.take k)
  low : Below w0.heap.size w0 W
  key : W.cell? ⟨b, off + k * 2, none⟩ = some (.string it.key)
  val : W.cell? ⟨b, off + k * 2 + 1, none⟩ = some ux
  ints : Ints W w0.heap.size ux it.val
theorem CpW.next {w0 : World} {v vx : Value} {its : List Item} {k : Nat} {it : Item} {b off : Nat} {ux : Value} {W W' : World} (h : CpW w0 v vx its k it b off ux W) (hb : b < w0.heap.size) (hn : Below W.heap.size W W') : CpW w0 v vx its k it b off ux W' := by
  have hz := h.box1.1
  exact ⟨h.box1.below hn h.box1.1, h.box2.below hn h.box2.1, h.box3.below hn h.box3.1, h.own.below hn, h.low.trans (hn.mono (by omega)), (hn.cell (p := ⟨b, off + k * 2, none⟩) (by show b < _; omega)).trans h.key, (hn.cell (p := ⟨b, off + k * 2 + 1, none⟩) (by show b < _; omega)).trans h.val, h.ints.below (hn.mono (by omega))⟩

/-- What each operation's slot is good for. -/
def cpGood (w0 : World) (v vx : Value) (k : Nat) (it : Item) (b off : Nat) (ux : Value) (i : Nat) (W : World) (u : Value) : Prop :=
  match i with
  | 0 => u = .pointer (some ⟨w0.heap.size + 1 + 1, 0, none⟩)
  | 1 => u = vx
  | 2 => u = .pointer (some ⟨w0.heap.size, 0, none⟩)
  | 3 => u = v
  | 4 => u = .int .i64 k
  | 5 => u = .pointer (some ⟨b, off + k * 2, none⟩)
  | 6 => u = .pointer (some ⟨b, off + k * 2, none⟩)
  | 7 => u = .string it.key
  | 8 => ∃ B, u = .slice (some ⟨B, 0, none⟩) 0 0 ∧ OwnInts W B u [] ∧ B ≤ W.heap.size ∧ w0.heap.size + 1 + 1 + 1 ≤ B ∧ ∀ g, vx.ownBlock = some g → g < B
  | 9 => u = .pointer (some ⟨w0.heap.size, 0, none⟩)
  | 10 => u = v
  | 11 => u = .int .i64 k
  | 12 => u = .pointer (some ⟨b, off + k * 2, none⟩)
  | 13 => u = .pointer (some ⟨b, off + k * 2 + 1, none⟩)
  | 14 => u = ux
  | 15 => ∃ B, OwnInts W B u it.val ∧ w0.heap.size + 1 + 1 + 1 ≤ B ∧ ∀ g, vx.ownBlock = some g → g < B
  | 16 => ∃ u' B, u = .agg #[.string it.key, u'] ∧ OwnInts W B u' it.val ∧ w0.heap.size + 1 + 1 + 1 ≤ B ∧ ∀ g, vx.ownBlock = some g → g < B
  | 17 => ∃ u' B D, u = .slice (some ⟨D, 0, none⟩) 1 1 ∧ Held W D [.string it.key, u'] ∧ OwnInts W B u' it.val ∧ w0.heap.size + 1 + 1 + 1 ≤ B ∧ ∀ g, vx.ownBlock = some g → g < B
  | _ => True
theorem cpGood_next {w0 : World} {v vx : Value} {k : Nat} {it : Item} {b off : Nat} {ux : Value} {W W' : World} (hn : Below W.heap.size W W') (j : Nat) (u : Value) (h : cpGood w0 v vx k it b off ux j W u) : cpGood w0 v vx k it b off ux j W' u := by
  match j, h with
  | 0, h => exact h
  | 1, h => exact h
  | 2, h => exact h
  | 3, h => exact h
  | 4, h => exact h
  | 5, h => exact h
  | 6, h => exact h
  | 7, h => exact h
  | 8, ⟨B, h1, h2, h3, h4, h5⟩ => exact ⟨B, h1, h2.below hn, Nat.le_trans h3 hn.size, h4, h5⟩
  | 9, h => exact h
  | 10, h => exact h
  | 11, h => exact h
  | 12, h => exact h
  | 13, h => exact h
  | 14, h => exact h
  | 15, ⟨B, h1, h2, h3⟩ => exact ⟨B, h1.below hn, h2, h3⟩
  | 16, ⟨u', B, h0, h1, h2, h3⟩ => exact ⟨u', B, h0, h1.below hn, h2, h3⟩
  | 17, ⟨u', B, D, h0, h1, h2, h3, h4⟩ => exact ⟨u', B, D, h0, h1.below hn h1.1, h2.below hn, h3, h4⟩
  | n + 18, h => exact h

/-- What holds behind the last append, and behind the store. -/
structure CpZ (w0 : World) (v vx : Value) (its : List Item) (k : Nat) (vn : Value) (W : World) : Prop where
  box1 : Held W w0.heap.size [v]
  box2 : Held W (w0.heap.size + 1) [.slice none 0 0]
  box3 : Held W (w0.heap.size + 1 + 1) [vx]
  own : OwnIt W (w0.heap.size + 1 + 1 + 1) (w0.heap.size + 1 + 1 + 1 ≤ ·) vn (its.take (k + 1))
  low : Below w0.heap.size w0 W

def cpFrame (w0 : World) (v : Value) (k : Nat) (u6 u7 u8 u9 u10 u11 u12 u33 : Value) (U : Nat → Value) : Array Value :=
  #[.agg #[v], .pointer (some ⟨w0.heap.size, 0, none⟩), .pointer (some ⟨w0.heap.size + 1, 0, none⟩), .pointer (some ⟨w0.heap.size + 1 + 1, 0, none⟩), .int .i64 k, .agg #[.slice none 0 0], u6, u7, u8, u9, u10, u11, u12,
    U 0, U 1, U 2, U 3, U 4, U 5, U 6, U 7, U 8, U 9, U 10, U 11, U 12, U 13, U 14, U 15, U 16, U 17, U 18, U 19, u33]

def cpInv (w0 : World) (v vx : Value) (its : List Item) (k : Nat) (it : Item) (b off : Nat) (ux : Value) (u6 u7 u8 u9 u10 u11 u12 u33 : Value) (L : Nat → Bool) (a : Act) (W : World) : Prop :=
  ∃ U : Nat → Value, a = { tmps := cpFrame w0 v k u6 u7 u8 u9 u10 u11 u12 u33 U, defers := [] } ∧ (L 18 = false → (∀ j, L j = true → cpGood w0 v vx k it b off ux j W (U j)) ∧ CpW w0 v vx its k it b off ux W) ∧
    (L 18 = true → L 20 = false → CpZ w0 v vx its k (U 18) W) ∧ (L 19 = true → U 19 = .pointer (some ⟨w0.heap.size + 1 + 1, 0, none⟩)) ∧ (L 20 = true → ∃ vn, CpZ w0 v vn its k vn W)

theorem cpInv_step {w0 : World} {v vx : Value} {its : List Item} {k : Nat} {it : Item} {b off : Nat} {ux u6 u7 u8 u9 u10 u11 u12 u33 : Value} {L : Nat → Bool} {U : Nat → Value} {W W' : World} {a : Act} {i : Nat} {u : Value} (hi : i < 18) (hb : b < w0.heap.size)
    (h18 : L 18 = false) (h19 : L 19 = false) (h20 : L 20 = false) (hG : ∀ j, L j = true → cpGood w0 v vx k it b off ux j W (U j)) (hW : CpW w0 v vx its k it b off ux W) (hn : Below W.heap.size W W') (hu : cpGood w0 v vx k it b off ux i W' u)
    (ha : a = { tmps := cpFrame w0 v k u6 u7 u8 u9 u10 u11 u12 u33 (upd U i u), defers := [] }) : cpInv w0 v vx its k it b off ux u6 u7 u8 u9 u10 u11 u12 u33 (upd L i true) a W' := by
  have e18 : upd L i true 18 = false := by rw [upd_other _ _ (by omega)]; exact h18
  have e19 : upd L i true 19 = false := by rw [upd_other _ _ (by omega)]; exact h19
  have e20 : upd L i true 20 = false := by rw [upd_other _ _ (by omega)]; exact h20
  refine ⟨upd U i u, ha, fun _ => ⟨RInv.next (Good := cpGood w0 v vx k it b off ux) hG (fun j x h => cpGood_next hn j x h) hu, hW.next hb hn⟩, fun h => ?_, fun h => ?_, fun h => ?_⟩
  · rw [e18] at h; cases h
  · rw [e19] at h; cases h
  · rw [e20] at h; cases h

theorem ownItLt {w : World} {lo : Nat} {S : Nat → Prop} {v : Value} {its : List Item} (h : OwnIt w lo S v its) : ∀ g, v.ownBlock = some g → lo ≤ g ∧ g < w.heap.size := by
  obtain ⟨U, h1, _⟩ := h
  exact h1.lt
theorem takeNext {its : List Item} {k : Nat} {it : Item} (h : its[k]? = some it) : its.take k ++ [it] = its.take (k + 1) := by
  rw [List.take_add_one, h]; rfl

set_option maxRecDepth 100000 in
set_option maxHeartbeats 2000000 in
theorem l1Copy_any (w : World) (v : Value) (its : List Item) (hv : Items w w.heap.size v its) (hs : Short its its.length) (hl : its.length ≤ 2097152) :
    Calls Tryz.prog 79 #[.agg #[v]] w fun e w' => ∃ u, e = .returned (.agg #[u]) ∧ OwnIt w' w.heap.size (w.heap.size ≤ ·) u its ∧ Below w.heap.size w w' := by
  obtain ⟨A, c, rfl, hc2, hc1⟩ := hv.form
  unfold maxLen at hc2
  have H1 := Lib.hid (((Held.new w #[.slice A its.length c] 35).after (.cells #[.slice none 0 0] 35)).after (.cells #[.slice none 0 0] 35))
  have H2 := Lib.hid ((Held.new (w.alloc (.cells #[.slice A its.length c] 35)) #[.slice none 0 0] 35).after (.cells #[.slice none 0 0] 35))
  have H3 := Lib.hid (Held.new ((w.alloc (.cells #[.slice A its.length c] 35)).alloc (.cells #[.slice none 0 0] 35)) #[.slice none 0 0] 35)
  have HB := Lib.hid (belowThree w (.cells #[.slice A its.length c] 35) (.cells #[.slice none 0 0] 35) (.cells #[.slice none 0 0] 35))
  have z1 : (w.alloc (.cells #[.slice A its.length c] 35)).heap.size = w.heap.size + 1 := by simp
  have z2 : ((w.alloc (.cells #[.slice A its.length c] 35)).alloc (.cells #[.slice none 0 0] 35)).heap.size = w.heap.size + 1 + 1 := by simp
  rw [z1] at H2
  rw [z2] at H3
  clear z1 z2
  have HS := Lib.hid hs
  have HV := Lib.hid hv
  clear hs hv
  go_enter Tryz.func79, Tryz.ntmps79
  go_wp2
  go_loopw [4] (fun i wr => ∃ (k : Nat) (vx : Value), k ≤ its.length ∧ i = .int .i64 k ∧ Held wr w.heap.size [.slice A its.length c] ∧ Held wr (w.heap.size + 1) [.slice none 0 0] ∧ Held wr (w.heap.size + 1 + 1) [vx] ∧ OwnIt wr (w.heap.size + 1 + 1 + 1) (w.heap.size + 1 + 1 + 1 ≤ ·) vx (its.take k) ∧ Below w.heap.size w wr) (fun i _ => its.length - (intOf i).toNat)
  case atStart => exact ⟨0, _, Nat.zero_le _, rfl, H1.out, H2.out, H3.out, OwnIt.nil _ _ _, HB.out⟩
  case round =>
    clear H1 H2 H3 HB
    obtain ⟨k, vx, hk, rfl, hb1, hb2, hb3, hown, hlow⟩ := hrel
    have HB1 := Lib.hid hb1
    have HB2 := Lib.hid hb2
    have HB3 := Lib.hid hb3
    have HO := Lib.hid hown
    have HL := Lib.hid hlow
    clear hb1 hb2 hb3 hown hlow
    have hz : w.heap.size + 1 + 1 < wr.heap.size := HB3.out.1
    have c1 := HB1.out.of 0 _ rfl
    by_cases hlt : k < its.length
    · obtain ⟨b, off, d, it, ux, e1, hit, hbB, hks, ck, cu, hx⟩ := (HV.out.below HL.out).at_ (k := k) hlt
      obtain ⟨-, hsv⟩ := HS.out k it hlt hit
      obtain ⟨Ax, cx, hxf, -, -⟩ := hx.form
      subst hxf
      injection e1 with e1a e1b e1c
      subst e1a
      clear e1b e1c
      have HIt := Lib.hid hit
      have HW : Hid (CpW w (.slice (some ⟨b, off, none⟩) its.length c) vx its k it b off (.slice Ax it.val.length cx) wr) := ⟨HB1.out, HB2.out, HB3.out, HO.out, HL.out, ck, cu, hx⟩
      clear hx HV HB1 HB2 HB3 HO HL hit ck cu
      go_wp2
      refine wp_region_inv2 (by kernel_rfl) (cpInv w (.slice (some ⟨b, off, none⟩) its.length c) vx its k it b off (.slice Ax it.val.length cx) (.int .i64 k) (.pointer (some ⟨w.heap.size, 0, none⟩)) (.slice (some ⟨b, off, none⟩) its.length c) (.int .i64 its.length) (.bool true) u11 u12 undef) (fun i o ho e he => (backB_at (by kernel_rfl) i o ho e he).1) (fun i o ho e he => (backB_at (by kernel_rfl) i o ho e he).2) ?h0 ?hstep ?hend
      case h0 =>
        refine ⟨fun j => #[u13, u14, u15, u16, u17, u18, u19, u20, u21, u22, u23, u24, u25, u26, u27, u28, u29, u30, u31, u32].getD j undef, rfl, fun _ => ⟨fun j h => absurd h (by simp), HW.out.next hbB (Below.refl _ _).drew⟩, fun h => absurd h (by simp), fun h => absurd h (by simp), fun h => absurd h (by simp)⟩
      case hstep =>
        clear HW
        rintro L a W i o ho hLi hpre hdn ⟨U, rfl, h1, h2, h19', -⟩ K hK
        have hi : i < 21 := (Array.getElem?_eq_some_iff.1 ho).1
        have hd18 : ∀ j, j < 18 → L j = false → L 18 = false := fun j hj hL => hdn.notYet 10 18 18 (by kernel_rfl) hj hL
        have hd19 : ∀ j, j < 19 → L j = false → L 19 = false := fun j hj hL => hdn.notYet 1 19 19 (by kernel_rfl) hj hL
        have hd20 : ∀ j, j < 20 → L j = false → L 20 = false := fun j hj hL => hdn.notYet 1 20 20 (by kernel_rfl) hj hL
        clear hdn
        have HK := Lib.hid hK
        have HZ := Lib.hid h2
        clear hK h2
        by_cases hi18 : i < 18
        · have h18 := hd18 i hi18 hLi
          have h19 := hd19 i (by omega) hLi
          have h20 := hd20 i (by omega) hLi
          obtain ⟨hG, hW⟩ := h1 h18
          have HG := Lib.hid hG
          have HW := Lib.hid hW
          clear hG hW h1 hd18 hd19 hd20 h19' HZ
          unfold cpFrame at *
          rcases (by omega : i = 0 ∨ i = 1 ∨ i = 2 ∨ i = 3 ∨ i = 4 ∨ i = 5 ∨ i = 6 ∨ i = 7 ∨ i = 8 ∨ i = 9 ∨ i = 10 ∨ i = 11 ∨ i = 12 ∨ i = 13 ∨ i = 14 ∨ i = 15 ∨ i = 16 ∨ i = 17) with rfl | rfl | rfl | rfl | rfl | rfl | rfl | rfl | rfl | rfl | rfl | rfl | rfl | rfl | rfl | rfl | rfl | rfl
          all_goals (simp at ho; subst ho; simp at hpre)
          · go_simp
            exact HK.out _ _ (cpInv_step (u := (.pointer (some ⟨w.heap.size + 1 + 1, 0, none⟩))) (by decide) hbB h18 h19 h20 HG.out HW.out (Below.refl _ _) (rfl) (by simp [cpFrame, upd]))
          · have e0 : U 0 = (.pointer (some ⟨w.heap.size + 1 + 1, 0, none⟩)) := HG.out 0 (by simp [hpre])
            have cb := HW.out.box3.of 0 _ rfl
            go_simp
            exact HK.out _ _ (cpInv_step (u := vx) (by decide) hbB h18 h19 h20 HG.out HW.out (Below.refl _ _) (rfl) (by simp [cpFrame, upd, e0]))
          · go_simp
            exact HK.out _ _ (cpInv_step (u := (.pointer (some ⟨w.heap.size, 0, none⟩))) (by decide) hbB h18 h19 h20 HG.out HW.out (Below.refl _ _) (rfl) (by simp [cpFrame, upd]))
          · have e0 : U 2 = (.pointer (some ⟨w.heap.size, 0, none⟩)) := HG.out 2 (by simp [hpre])
            have cb := HW.out.box1.of 0 _ rfl
            go_simp
            exact HK.out _ _ (cpInv_step (u := (.slice (some ⟨b, off, none⟩) its.length c)) (by decide) hbB h18 h19 h20 HG.out HW.out (Below.refl _ _) (rfl) (by simp [cpFrame, upd, e0]))
          · go_simp
            exact HK.out _ _ (cpInv_step (u := (.int .i64 k)) (by decide) hbB h18 h19 h20 HG.out HW.out (Below.refl _ _) (rfl) (by simp [cpFrame, upd]))
          · have e0 : U 3 = (.slice (some ⟨b, off, none⟩) its.length c) := HG.out 3 (by simp [hpre])
            have e1 : U 4 = .int .i64 k := HG.out 4 (by simp [hpre])
            go_simp
            exact HK.out _ _ (cpInv_step (u := (.pointer (some ⟨b, off + k * 2, none⟩))) (by decide) hbB h18 h19 h20 HG.out HW.out (Below.refl _ _) (rfl) (by simp [cpFrame, upd, e0, e1]))
          · have e0 : U 5 = (.pointer (some ⟨b, off + k * 2, none⟩)) := HG.out 5 (by simp [hpre])
            go_simp
            exact HK.out _ _ (cpInv_step (u := (.pointer (some ⟨b, off + k * 2, none⟩))) (by decide) hbB h18 h19 h20 HG.out HW.out (Below.refl _ _) (rfl) (by simp [cpFrame, upd, e0]))
          · have e0 : U 6 = (.pointer (some ⟨b, off + k * 2, none⟩)) := HG.out 6 (by simp [hpre])
            have cb := HW.out.key
            go_simp
            exact HK.out _ _ (cpInv_step (u := (.string it.key)) (by decide) hbB h18 h19 h20 HG.out HW.out (Below.refl _ _) (rfl) (by simp [cpFrame, upd, e0]))
          · have hz8 : w.heap.size + 1 + 1 < W.heap.size := HW.out.box3.1
            go_simp
            exact HK.out _ _ (cpInv_step (u := (.slice (some ⟨W.heap.size, 0, none⟩) 0 0)) (by decide) hbB h18 h19 h20 HG.out HW.out (belowOne W _) (⟨W.heap.size, rfl, OwnInts.empty W W.heap.size (Nat.le_refl _), by simp, by omega, fun g hg => (ownItLt HW.out.own g hg).2⟩) (by simp [cpFrame, upd]))
          · go_simp
            exact HK.out _ _ (cpInv_step (u := (.pointer (some ⟨w.heap.size, 0, none⟩))) (by decide) hbB h18 h19 h20 HG.out HW.out (Below.refl _ _) (rfl) (by simp [cpFrame, upd]))
          · have e0 : U 9 = (.pointer (some ⟨w.heap.size, 0, none⟩)) := HG.out 9 (by simp [hpre])
            have cb := HW.out.box1.of 0 _ rfl
            go_simp
            exact HK.out _ _ (cpInv_step (u := (.slice (some ⟨b, off, none⟩) its.length c)) (by decide) hbB h18 h19 h20 HG.out HW.out (Below.refl _ _) (rfl) (by simp [cpFrame, upd, e0]))
          · go_simp
            exact HK.out _ _ (cpInv_step (u := (.int .i64 k)) (by decide) hbB h18 h19 h20 HG.out HW.out (Below.refl _ _) (rfl) (by simp [cpFrame, upd]))
          · have e0 : U 10 = (.slice (some ⟨b, off, none⟩) its.length c) := HG.out 10 (by simp [hpre])
            have e1 : U 11 = .int .i64 k := HG.out 11 (by simp [hpre])
            go_simp
            exact HK.out _ _ (cpInv_step (u := (.pointer (some ⟨b, off + k * 2, none⟩))) (by decide) hbB h18 h19 h20 HG.out HW.out (Below.refl _ _) (rfl) (by simp [cpFrame, upd, e0, e1]))
          · have e0 : U 12 = (.pointer (some ⟨b, off + k * 2, none⟩)) := HG.out 12 (by simp [hpre])
            go_simp
            exact HK.out _ _ (cpInv_step (u := (.pointer (some ⟨b, off + k * 2 + 1, none⟩))) (by decide) hbB h18 h19 h20 HG.out HW.out (Below.refl _ _) (rfl) (by simp [cpFrame, upd, e0]))
          · have e0 : U 13 = (.pointer (some ⟨b, off + k * 2 + 1, none⟩)) := HG.out 13 (by simp [hpre])
            have cb := HW.out.val
            go_simp
            exact HK.out _ _ (cpInv_step (u := (.slice Ax it.val.length cx)) (by decide) hbB h18 h19 h20 HG.out HW.out (Below.refl _ _) (rfl) (by simp [cpFrame, upd, e0]))
          · obtain ⟨B, e0, hown, hB1, hB2, hB3⟩ := HG.out 8 (by simp [hpre])
            have e1 : U 14 = (.slice Ax it.val.length cx) := HG.out 14 (by simp [hpre])
            rw [e0] at hown
            refine step_append_fresh rfl (.tmp 21) (.tmp 27) rfl B (by simp [Act.eval, e0]) hown w.heap.size Ax cx it.val (by simp [Act.eval, e1]) HW.out.ints (by omega) hB1 fun v' W' ho hn => ?_
            exact HK.out _ _ (cpInv_step (u := v') (by decide) hbB h18 h19 h20 HG.out HW.out (hn) (⟨B, ho, hB2, hB3⟩) (by simp [cpFrame, upd, Act.put]))
          · have e0 : U 7 = .string it.key := HG.out 7 (by simp [hpre])
            obtain ⟨B, hown, hB2, hB3⟩ := HG.out 15 (by simp [hpre])
            obtain ⟨A', c', e1, -, -⟩ := hown.ints.form
            have HOwn := Lib.hid hown
            clear hown
            go_simp
            exact HK.out _ _ (cpInv_step (u := (.agg #[.string it.key, U 15])) (by decide) hbB h18 h19 h20 HG.out HW.out (Below.refl _ _) (⟨_, B, rfl, HOwn.out, hB2, hB3⟩) (by simp [cpFrame, upd, e0, e1]))
          · obtain ⟨u', B, e0, hown, hB2, hB3⟩ := HG.out 16 (by simp [hpre])
            obtain ⟨A', c', rfl, -, -⟩ := hown.ints.form
            have HOwn := Lib.hid hown
            clear hown
            go_simp
            exact HK.out _ _ (cpInv_step (u := (.slice (some ⟨W.heap.size, 0, none⟩) 1 1)) (by decide) hbB h18 h19 h20 HG.out HW.out (belowOne W _) (⟨_, B, W.heap.size, rfl, Held.new W #[.string it.key, .slice A' it.val.length c'] 95, HOwn.out.alloc _, hB2, hB3⟩) (by simp [cpFrame, upd, e0]))
        · rcases (by omega : i = 18 ∨ i = 19 ∨ i = 20) with rfl | rfl | rfl
          · have h19 := hd19 18 (by omega) hLi
            have h20 := hd20 18 (by omega) hLi
            obtain ⟨hG, hW⟩ := h1 hLi
            have HG := Lib.hid hG
            have HW := Lib.hid hW
            clear hG hW h1 hd18 hd19 hd20 h19' HZ
            unfold cpFrame at *
            simp at ho; subst ho; simp at hpre
            have e0 : U 1 = vx := HG.out 1 (by simp [hpre])
            obtain ⟨u', B, D, e1, hheld, hown, hB2, hB3⟩ := HG.out 17 (by simp [hpre])
            obtain ⟨A', c', rfl, -, -⟩ := hown.ints.form
            have hlt' : (its.take k).length ≤ 2097152 := by rw [List.length_take]; omega
            have hzW : w.heap.size + 1 + 1 < W.heap.size := HW.out.box3.1
            refine step_append_item rfl (.tmp 14) (.tmp 30) rfl (w.heap.size + 1 + 1 + 1) (w.heap.size + 1 + 1 + 1 ≤ ·) vx (its.take k) (by simp [Act.eval, e0]) HW.out.own it A' it.val.length c' D (by simp [Act.eval, e1]) hks
              (hown.toIn.keep (fun _ _ _ => rfl) (Nat.le_refl _) fun q _ hq => ⟨Nat.le_trans hB2 hq, fun hh => by have := hB3 q hh; omega⟩) hheld hlt' (by omega) fun v' W' ho hg => ?_
            rw [takeNext HIt.out] at ho
            have hrow : ∀ g, vx.ownBlock = some g → w.heap.size + 1 + 1 + 1 ≤ g := fun g hh => (ownItLt HW.out.own g hh).1
            refine HK.out _ _ ⟨upd U 18 v', by simp [cpFrame, upd, Act.put], fun h => absurd h (by simp [upd]), fun _ _ => ?_, fun h => absurd h (by simp [upd, h19]), fun h => absurd h (by simp [upd, h20])⟩
            have hbl : Below (w.heap.size + 1 + 1 + 1) W W' := (Below.refl _ W).grown hg (by omega) hrow
            exact ⟨HW.out.box1.below hbl (by omega), HW.out.box2.below hbl (by omega), HW.out.box3.below hbl (by omega), by rw [upd_same]; exact ho, HW.out.low.trans (hbl.mono (by omega))⟩
          · have h20 := hd20 19 (by omega) hLi
            clear h1 hd18 hd19 hd20 h19'
            unfold cpFrame at *
            simp at ho; subst ho; simp at hpre
            have h18 : L 18 = true := by simp [hpre]
            go_simp
            exact HK.out _ _ ⟨upd U 19 (.pointer (some ⟨w.heap.size + 1 + 1, 0, none⟩)), by simp [cpFrame, upd], fun h => absurd h (by simp [upd, h18]), fun _ _ => by have := HZ.out h18 h20; simpa [upd] using this, fun _ => by simp [upd], fun h => absurd h (by simp [upd, h20])⟩
          · clear h1 hd18 hd19 hd20
            unfold cpFrame at *
            simp at ho; subst ho; simp at hpre
            have h18 : L 18 = true := by simp [hpre]
            have e0 : U 19 = (.pointer (some ⟨w.heap.size + 1 + 1, 0, none⟩)) := h19' (by simp [hpre])
            have hz := HZ.out h18 hLi
            have cb := hz.box3.of 0 _ rfl
            have fb := hz.box3.2.1 0
            obtain ⟨A8, n8, c8, e8⟩ : ∃ A n c, U 18 = .slice A n c := by
              obtain ⟨A8, c8, e8, -, -⟩ := hz.own.items.form
              exact ⟨A8, _, c8, e8⟩
            have HZ' := Lib.hid hz
            clear hz
            go_simp
            rw [← e8]
            refine HK.out _ _ ⟨U, by simp [cpFrame, e0], fun h => absurd h (by simp [upd, h18]), fun _ h => absurd h (by simp [upd]), fun _ => e0, fun _ => ⟨U 18, ?_⟩⟩
            exact ⟨HZ'.out.box1.far (by simp; omega) _, HZ'.out.box2.far (by simp) _, HZ'.out.box3.set_ (i := 0) (U 18), HZ'.out.own.setCell (by simp) (by simp) _, HZ'.out.low.setCell (by show _ ≤ w.heap.size + 1 + 1; omega) _⟩
      case hend =>
        rintro L a W hL ⟨U, rfl, -, -, -, h20⟩
        obtain ⟨vn, hz⟩ := h20 (hL 20 (by decide))
        have HZ := Lib.hid hz
        clear hz HW
        unfold cpFrame
        go_wp2
        exact ⟨⟨k + 1, vn, by omega, by simp, HZ.out.box1, HZ.out.box2, HZ.out.box3, HZ.out.own, HZ.out.low⟩, by simp [intOf]; omega⟩
    · have hke : k = its.length := by omega
      subst hke
      have cb2 := HB2.out.of 0 _ rfl
      have cb3 := HB3.out.of 0 _ rfl
      have fb2 := HB2.out.2.1 0
      have HQ := Lib.hid (HB2.out.set_ (i := 0) vx)
      have ho := HO.out
      rw [List.take_length] at ho
      have HOQ := Lib.hid (ho.setCell (p := ⟨w.heap.size + 1, 0, none⟩) (by simp; omega) (by show w.heap.size + 1 < _; omega) vx)
      have HLQ := Lib.hid (HL.out.setCell (p := ⟨w.heap.size + 1, 0, none⟩) (by simp) vx)
      obtain ⟨A8, c8, e8, -, -⟩ := ho.items.form
      subst e8
      clear ho
      go_wp2
      have q0 := HQ.out.of 0 _ rfl
      exact bodyPost_ret (v := .agg #[.slice A8 its.length c8]) (by simp [results, Tryz.results79, go_sem, q0]) rfl ⟨_, rfl, HOQ.out.weaken (by omega) (fun q hq => by omega), HLQ.out⟩

end Go.Proofs.YtecdibpiojgppaaGreat
