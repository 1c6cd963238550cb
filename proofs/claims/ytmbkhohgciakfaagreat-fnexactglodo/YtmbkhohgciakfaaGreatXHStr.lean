/- Texts that follow each other, merged: HStr, HTo, HStoItem. -/
import Derived.Test.YtmbkhohgciakfaaGreatXExItems
import Derived.Test.YtmbkhohgciakfaaGreatXKey
import Derived.Deep.RegionHeld3

/- The helpers of the exact laws over texts: a count, a copy, a comparison, marks. -/
namespace Go.Proofs.YtmbkhohgciakfaaGreat
open Go.RowKit

theorem wtL_eq {α : Type} (f : α → Nat) (xs : List α) : wtL f xs = xs.length + cntL f xs := by
  induction xs with
  | nil => rfl
  | cons x l ih => simp only [wtL, cntL, List.length_cons, ih]; omega
theorem wtInts (xs : List Int) : ((intsSh.wt xs : Nat) : Int) = (xs.length : Int) := by
  have h : intsSh.wt xs = xs.length := by
    show wtL (fun _ => 0) xs = xs.length
    induction xs with
    | nil => rfl
    | cons x l ih => simp only [wtL, List.length_cons, ih]; omega
  rw [h]
theorem less_low {left n : Int} (h0 : 0 ≤ left) (hn : 0 ≤ n) : -1 ≤ less left n ∧ less left n ≤ left := by unfold less; split <;> omega
theorem less_ge {left n : Int} (h : 0 ≤ less left n) : n ≤ left := by unfold less at h; split at h <;> omega

/-- What a count leaves. -/
def Sized (left : Int) (n : Nat) (w : World) (e : Ending) (w' : World) : Prop := e = .returned (.int .i64 (less left n)) ∧ Below w.heap.size w w'
/-- What a copy of a slice leaves: one of its own, in new blocks. -/
def CopiedSl {α : Type} (A : Sh α) (t : TypeId) (xs : List α) (w : World) (e : Ending) (w' : World) : Prop :=
  ∃ v, e = .returned v ∧ A.Own t w' (fun b => w.heap.size ≤ b ∧ b < w'.heap.size) v xs ∧ Below w.heap.size w w'
/-- What a copy of a record leaves. -/
def CopiedAg {α : Type} (A : Sh α) (x : α) (w : World) (e : Ending) (w' : World) : Prop :=
  ∃ cs, e = .returned (.agg (List.toArray cs)) ∧ A.own w' (fun b => w.heap.size ≤ b ∧ b < w'.heap.size) cs x ∧ Below w.heap.size w w'
/-- What a comparison of what is the same leaves. -/
def Alike (w : World) (e : Ending) (w' : World) : Prop := e = .returned (.bool true) ∧ Below w.heap.size w w'
/-- What marking a slice of its own leaves. -/
def MarkedSl {α : Type} (A : Sh α) (t : TypeId) (S : Nat → Prop) (v : Value) (xs : List α) (k : Int) (w : World) (e : Ending) (w' : World) : Prop :=
  ∃ xs' : List α, e = .returned (.int .i64 (k + cntL A.cnt xs)) ∧ xs'.length = xs.length ∧ cntL A.cnt xs' = cntL A.cnt xs ∧ mkdL A.cnt A.mkd k xs' ∧ A.Own t w' S v xs' ∧ Outs S w w'

/-- Numbers: the same words. -/
theorem szIntS_sh (w : World) (B : Nat) (v : Value) (xs : List Int) (hv : Sh.int.Row w B v xs) (left : Int) (h0 : 0 ≤ left) (h1 : left ≤ 1048576) :
    Calls Tryz.prog 111 #[v, .int .i64 left] w (Sized left (intsSh.wt xs) w) :=
  (szIntS_any w B v xs (ints_row.1 hv) left h0 h1).mono fun e w' ⟨h1, h2⟩ => ⟨by rw [h1, wtInts], h2 ▸ Below.refl _ _⟩
theorem ints_own {w : World} {g : Nat} {xs : List Int} (h : w.rowIs g 3 xs.length fun j => .int .i64 (nth xs j)) (hl : xs.length ≤ maxLen) :
    Sh.int.Own 3 w (fun b => b = g) (.slice (some ⟨g, 0, none⟩) xs.length xs.length) xs := by
  obtain ⟨cs, hb, hn, hc⟩ := h
  refine ⟨fun j => [.int .i64 (nth xs j)], fun _ _ => False, ⟨by rw [flat_len (d := 1) (fun _ _ => rfl)]; rfl, .inr ⟨g, xs.length, cs, rfl, Nat.zero_le _, hb, Nat.le_refl _, hl, by rw [hn]; exact (Nat.mul_one _).symm, ?_⟩⟩, fun q hq => (Option.some.inj hq).symm, fun j x hx => ⟨?_, fun _ h => h.elim⟩, fun i j b _ _ h => h.elim⟩
  · refine flat_ext (d := 1) (fun _ _ => rfl) ?_ fun j i hj hi => ?_
    · show (List.take (xs.length * 1) cs.toList).length = xs.length * 1
      have hn' : cs.toList.length = xs.length := by rw [Array.length_toList]; exact hn
      rw [List.length_take, hn']; omega
    · have hi0 : i = 0 := by omega
      subst hi0
      show (List.take (xs.length * 1) cs.toList)[j * 1 + 0]? = _
      rw [List.getElem?_take, if_pos (by omega), Array.getElem?_toList, Nat.mul_one, Nat.add_zero, hc j hj]
      rfl
  · have hj := (List.getElem?_eq_some_iff.1 hx)
    obtain ⟨hj, rfl⟩ := hj
    show [Value.int .i64 (nth xs j)] = [.int .i64 xs[j]]
    rw [nth_get hj]
theorem toIntS_sh (w : World) (v : Value) (xs : List Int) (hv : Sh.int.Row w w.heap.size v xs) (hl : xs.length ≤ 1048576) :
    Calls Tryz.prog 119 #[v] w (CopiedSl Sh.int 3 xs w) :=
  (toIntS_any w v xs (ints_row.1 hv) hl).mono fun e w' ⟨h1, h2, h3, h4⟩ => ⟨_, h1, (ints_own h2 (by unfold maxLen; omega)).mono fun b hb => ⟨by omega, by omega⟩, h3⟩
theorem eqIntS_same (w : World) (B : Nat) (v u : Value) (xs : List Int) (hv : Sh.int.Row w B v xs) (hu : Sh.int.Row w B u xs) :
    Calls Tryz.prog 120 #[v, u] w (Alike w) :=
  (eqIntS_any w B v u xs xs (ints_row.1 hv) (ints_row.1 hu)).mono fun e w' ⟨h1, n, h2⟩ => ⟨by rw [h1]; simp, h2 ▸ belowDraws (Below.refl _ _) n⟩

theorem infoStr : (Tryz.prog.info? 9).map (fun i => (i.zero, i.size, i.bytes)) = some (some (.string ByteArray.empty), 1, 16) := by kernel_rfl

theorem made_one {P : Program} (t e : TypeId) (z0 : Value) (bytes : Nat) (ht : P.underlying t = some (.slice e)) (hinfo : (P.info? e).map (fun i => (i.zero, i.size, i.bytes)) = some (some z0, 1, bytes)) (hz0 : z0.cells = #[z0])
    (n : Nat) (hbytes : bytes * n ≤ 281474976710656) (h63 : n ≤ 9223372036854775807) (w : World) :
    (Instr.makeSlice t (.int .i64 (n : Int)) (.int .i64 (n : Int))).run P w = .ok (.slice (some ⟨w.heap.size, 0, none⟩) n n) (w.alloc (.cells (madeCells #[z0] (n * 1)) e)) := by
  obtain ⟨i, hi, hzz⟩ := Option.map_eq_some_iff.1 hinfo
  simp only [Prod.mk.injEq] at hzz
  obtain ⟨hz, hs, hb⟩ := hzz
  have hb' : (i.bytes : Int) * (n : Int) ≤ 281474976710656 := by
    have h : ((i.bytes * n : Nat) : Int) ≤ 281474976710656 := by rw [hb]; omega
    rwa [Int.natCast_mul] at h
  have hr := run_make (P := P) w t e i _ ht hi hz .i64 .i64 n n (by omega) (Int.le_refl _) hb' (by omega)
  simp only [Int.toNat_natCast, hs, hz0] at hr
  exact hr

/-- Behind k of a copy. -/
theorem repl_take {α : Type} {xs : List α} {z : α} {k : Nat} {x : α} (hx : xs[k]? = some x) : (xs.take k ++ List.replicate (xs.length - k) z).set k x = xs.take (k + 1) ++ List.replicate (xs.length - (k + 1)) z := by
  have hk : k < xs.length := (List.getElem?_eq_some_iff.1 hx).1
  have h1 : (xs.take k).length = k := by simp; omega
  have h2 : xs.length - k = (xs.length - (k + 1)) + 1 := by omega
  rw [take_snoc hx, h2, List.replicate_succ, List.set_append_right _ _ (by omega), h1]
  simp

theorem eqStringS_same (w : World) (B : Nat) (v u : Value) (xs : List ByteArray) (hv : strSh.Row w B v xs) (hu : strSh.Row w B u xs) :
    Calls Tryz.prog 51 #[v, u] w (Alike w) := by
  obtain ⟨A, c, rfl, hc2, hc1⟩ := hv.form
  obtain ⟨A', c', rfl, hc2', hc1'⟩ := hu.form
  unfold maxLen at hc2 hc2'
  go_enter Tryz.func51, Tryz.ntmps51
  go_wp2
  go_loopw [5] (fun i wr => ∃ k n : Nat, k ≤ xs.length ∧ i = .int .i64 k ∧ wr = w.drewN n) (fun i _ => xs.length - (intOf i).toNat)
  case atStart => exact ⟨0, 0, Nat.zero_le _, rfl, rfl⟩
  case round =>
    obtain ⟨k, n, hk, rfl, rfl⟩ := hrel
    by_cases hlt : k < xs.length
    · obtain ⟨b, off, d, x, e1, hx, hB, hs, ck⟩ := strs_at hv hlt
      obtain ⟨b2, off2, d2, x2, e2, hx2, hB2, hs2, ck2⟩ := strs_at hu hlt
      rw [hx] at hx2
      injection hx2 with hx2
      subst hx2
      injection e1 with e1a e1b e1c
      injection e2 with e2a e2b e2c
      subst e1a e2a
      clear e1b e1c e2b e2c hv hu hx
      go_wp2
      go_quiet (fail)
      go_wp2
      go_roundw
      case rel => exact ⟨k + 1, _, by omega, by go_num, rfl⟩
      case measure => simp [intOf]; omega
    · clear hv hu
      go_wp2
      go_ret
      exact ⟨rfl, belowDraws (Below.refl _ _) _⟩

end Go.Proofs.YtmbkhohgciakfaaGreat

/- A copy of a record under way: the box of what came in, the result, what is being filled; and what was copied. Nothing of the program. -/
namespace Go.Proofs.YtmbkhohgciakfaaGreat
open Go.RowKit

theorem Held.farS {w : World} {b : Nat} {cs : List Value} {p : Addr} (h : Held w b cs) (hp : b ≠ p.block) (u : Value) : Held (w.setCell p u) b cs := by
  have hk := Below.heap_setCell w p u b hp
  exact ⟨by simpa [World.setCell] using h.1, fun j => (World.frozen?_of_block (a := ⟨b, j, none⟩) hk).trans (h.2.1 j), fun j x hx => (World.cell?_of_block (a := ⟨b, j, none⟩) hk).trans (h.2.2 j x hx)⟩
theorem Held.lit {w : World} {g : Nat} {cs : List Value} (h : Held w g cs) {g' : Nat} (e : g = g') : Held w g' cs := e ▸ h

/-- The three blocks behind w0. -/
structure ToInv (w0 : World) (bx rs ot : List Value) (W : World) : Prop where
  bel : Below w0.heap.size w0 W
  box : Held W w0.heap.size bx
  res : Held W (w0.heap.size + 1) rs
  out : Held W (w0.heap.size + 1 + 1) ot
section
variable {w0 W W' : World} {bx rs ot : List Value}
theorem ToInv.start (w0 : World) (bx rs ot : Array Value) (t1 t2 t3 : TypeId) : ToInv w0 bx.toList rs.toList ot.toList (((w0.alloc (.cells bx t1)).alloc (.cells rs t2)).alloc (.cells ot t3)) :=
  ⟨belowThree _ _ _ _, ((Held.new w0 bx t1).after _).after _, ((Held.new (w0.alloc (.cells bx t1)) rs t2).after (.cells ot t3)).lit (by simp), (Held.new ((w0.alloc (.cells bx t1)).alloc (.cells rs t2)) ot t3).lit (by simp)⟩
theorem ToInv.size (h : ToInv w0 bx rs ot W) : w0.heap.size + 1 + 1 < W.heap.size := h.out.1
theorem ToInv.call (h : ToInv w0 bx rs ot W) (hb : Below W.heap.size W W') : ToInv w0 bx rs ot W' :=
  ⟨belowNext h.bel hb, h.box.below hb h.box.1, h.res.below hb h.res.1, h.out.below hb h.out.1⟩
theorem ToInv.putOut (h : ToInv w0 bx rs ot W) (i : Nat) (u : Value) : ToInv w0 bx rs (ot.set i u) (W.setCell ⟨w0.heap.size + 1 + 1, i, none⟩ u) :=
  ⟨h.bel.setCell (by show _ ≤ w0.heap.size + 1 + 1; omega) u, h.box.farS (by show _ ≠ w0.heap.size + 1 + 1; omega) u, h.res.farS (by show _ ≠ w0.heap.size + 1 + 1; omega) u, h.out.set_ u⟩
theorem ToInv.putRes (h : ToInv w0 bx rs ot W) (i : Nat) (u : Value) : ToInv w0 bx (rs.set i u) ot (W.setCell ⟨w0.heap.size + 1, i, none⟩ u) :=
  ⟨h.bel.setCell (by show _ ≤ w0.heap.size + 1; omega) u, h.box.farS (by show _ ≠ w0.heap.size + 1; omega) u, h.res.set_ u, h.out.farS (by show _ ≠ w0.heap.size + 1; omega) u⟩
end

/-- Two boxes behind w0. -/
structure TwoInv (w0 : World) (b1 b2 : List Value) (W : World) : Prop where
  bel : Below w0.heap.size w0 W
  one : Held W w0.heap.size b1
  two : Held W (w0.heap.size + 1) b2
section
variable {w0 W W' : World} {b1 b2 : List Value}
theorem TwoInv.start (w0 : World) (b1 b2 : Array Value) (t1 t2 : TypeId) : TwoInv w0 b1.toList b2.toList ((w0.alloc (.cells b1 t1)).alloc (.cells b2 t2)) :=
  ⟨belowTwo _ _ _, (Held.new w0 b1 t1).after _, (Held.new (w0.alloc (.cells b1 t1)) b2 t2).lit (by simp)⟩
theorem TwoInv.call (h : TwoInv w0 b1 b2 W) (hb : Below W.heap.size W W') : TwoInv w0 b1 b2 W' :=
  ⟨belowNext h.bel hb, h.one.below hb h.one.1, h.two.below hb h.two.1⟩
end

/-- A slice that was copied: in blocks of its own from lo up to hi. -/
def CopFrom {α : Type} (A : Sh α) (t : TypeId) (lo hi : Nat) (v : Value) (xs : List α) (W : World) : Prop := A.Own t W (fun b => lo ≤ b ∧ b < hi) v xs
section
variable {α : Type} {A : Sh α} {t : TypeId} {lo hi : Nat} {v : Value} {xs : List α} {W W' : World}
theorem CopFrom.call (h : CopFrom A t lo hi v xs W) (hb : Below W.heap.size W W') : CopFrom A t lo hi v xs W' := Sh.Own.below h hb
theorem CopFrom.set (h : CopFrom A t lo hi v xs W) {p : Addr} (hp : p.block < lo) (u : Value) : CopFrom A t lo hi v xs (W.setCell p u) :=
  Sh.Own.keep h fun b hb _ => Below.heap_setCell W p u b (by have := hb.1; omega)
end

end Go.Proofs.YtmbkhohgciakfaaGreat

/- The helpers of the exact laws over StoItem: a count, a copy, a comparison, marks. By shgen.py. -/
namespace Go.Proofs.YtmbkhohgciakfaaGreat
open Go.RowKit

theorem wtStoItem (x : Item) : (itSh.wt x : Int) = (x.key.size : Int) + (intsSh.wt x.val : Int) := by
  show (((x.key.size + intsSh.wt x.val) : Nat) : Int) = _
  omega
theorem szStoItem_sh1 (w : World) (cs : List Value) (x : Item) (h : itSh.rel w w.heap.size cs x) (left : Int) (h0 : 0 ≤ left) (h1 : left ≤ 1048576) :
    Calls Tryz.prog 85 #[.agg cs.toArray, .int .i64 left] w (Sized left (itSh.wt x) w) := by
  obtain ⟨u1, rfl, hs_key, hu1⟩ := it_rel.1 h
  obtain ⟨A1, c1, rfl, hc1, hd1⟩ := hu1.form
  unfold maxLen at hc1
  have HU1 := Lib.hid fun W (hb : Below w.heap.size w W) => (hu1.below hb).more hb.size
  unfold maxLen at hs_key
  clear h hu1
  have HT := Lib.hid (wtStoItem x)
  have HB0 := Lib.hid (belowOne w (.cells #[.string x.key, .slice A1 x.val.length c1] 114))
  have HX0 := Lib.hid (Held.new w #[.string x.key, .slice A1 x.val.length c1] 114)
  go_enter Tryz.func85, Tryz.ntmps85
  by_cases hq0 : left < (x.key.size : Int)
  · go_wp2
    go_ret
    exact ⟨ret_int (by rw [less_no (by rw [HT.out]; omega)]), HB0.out⟩
  · have hq0' : (x.key.size : Int) ≤ left := by omega
    clear hq0
    by_cases hq1 : left - (x.key.size : Int) < (intsSh.wt x.val : Int)
    · have hl := less_no hq1
      go_wp2_with fail
      refine (szIntS_sh _ _ _ _ (HU1.out _ HB0.out) _ (by omega) (by omega)).mono ?_
      rintro e w1 ⟨rfl, hb⟩
      rw [hl]
      have HB1 := Lib.hid (belowNext HB0.out hb)
      have HX1 := Lib.hid (HX0.out.below hb HX0.out.1)
      clear hb
      clear hl HB0 HX0
      have x0 := HX1.out.of 0 _ rfl
      have x1 := HX1.out.of 1 _ rfl
      go_wp2
      go_ret
      exact ⟨ret_int (by rw [less_no (by rw [HT.out]; omega)]), HB1.out⟩
    · have hl := less_yes (show (intsSh.wt x.val : Int) ≤ left - (x.key.size : Int) by omega)
      have hq1' : (intsSh.wt x.val : Int) ≤ left - (x.key.size : Int) := by omega
      clear hq1
      go_wp2_with fail
      refine (szIntS_sh _ _ _ _ (HU1.out _ HB0.out) _ (by omega) (by omega)).mono ?_
      rintro e w1 ⟨rfl, hb⟩
      rw [hl]
      have HB1 := Lib.hid (belowNext HB0.out hb)
      have HX1 := Lib.hid (HX0.out.below hb HX0.out.1)
      clear hb
      clear hl HB0 HX0
      have x0 := HX1.out.of 0 _ rfl
      have x1 := HX1.out.of 1 _ rfl
      go_wp2
      go_ret
      exact ⟨ret_int (by rw [less_yes (by rw [HT.out]; omega), HT.out] <;> omega), HB1.out⟩
set_option maxRecDepth 100000 in
theorem szStoItemS_sh (w : World) (v : Value) (xs : List Item) (hv : itSh.Row w w.heap.size v xs) (left : Int) (h0 : 0 ≤ left) (h1 : left ≤ 1048576) :
    Calls Tryz.prog 41 #[v, .int .i64 left] w (Sized left (itsSh.wt xs) w) := by
  obtain ⟨A, c, rfl, hc2, hc1⟩ := hv.form
  unfold maxLen at hc2
  have HW := Lib.hid (show itsSh.wt xs = xs.length + cntL itSh.wt xs from wtL_eq _ _)
  by_cases h : left < (xs.length : Int)
  · have HL := Lib.hid (less_no (left := left) (n := (itsSh.wt xs : Int)) (by rw [HW.out]; omega))
    clear hv
    go_enter Tryz.func41, Tryz.ntmps41
    go_wp2
    go_ret
    exact ⟨ret_int HL.out.symm, Below.refl _ _⟩
  · have h2 : (xs.length : Int) ≤ left := by omega
    clear h
    go_enter Tryz.func41, Tryz.ntmps41
    go_wp2
    go_loopw [1, 5] (fun l i wr => ∃ (k : Nat) (r : Int), k ≤ xs.length ∧ i = .int .i64 k ∧ l = .int .i64 r ∧ 0 ≤ r ∧ r = left - xs.length - cntL itSh.wt (xs.take k) ∧ Below w.heap.size w wr) (fun _ i _ => xs.length - (intOf i).toNat)
    case atStart => exact ⟨0, _, Nat.zero_le _, rfl, rfl, by omega, by simp [cntL], Below.refl _ _⟩
    case round =>
      obtain ⟨k, r, hk, rfl, rfl, hr0, hr, hb⟩ := hrel
      have HR := Lib.hid hr
      have hrl : r ≤ left := by omega
      have HB := Lib.hid hb
      clear hr hb
      by_cases hlt : k < xs.length
      · obtain ⟨b, off, c', x, cs, e1, hx, hB, hrel, hcell⟩ := (hv.below HB.out).at_ (k := k) hlt
        injection e1 with e1a e1b e1c
        subst e1a
        have HV := Lib.hid (itSh.rmore hrel HB.out.size)
        obtain ⟨u1, rfl, hs_key, hu1⟩ := it_rel.1 hrel
        obtain ⟨A1, c1, rfl, -, -⟩ := hu1.form
        have d0 := hcell 0 _ rfl
        have d1 := hcell 1 _ rfl
        have hwd : itSh.wd = 2 := rfl
        rw [hwd] at d0 d1
        simp only [Nat.add_zero] at d0
        have HC := Lib.hid (cntL_take (f := itSh.wt) hx)
        have HT := Lib.hid (cntL_take_le itSh.wt xs (k + 1))
        clear e1b e1c hv hx hcell hrel hwd hu1
        by_cases hneg : r < (itSh.wt x : Int)
        · have HL := Lib.hid (less_no (left := left) (n := (itsSh.wt xs : Int)) (by rw [HW.out]; have := HR.out; have := HC.out; have := HT.out; omega))
          have hl := less_no hneg
          go_wp2_with fail
          refine (szStoItem_sh1 _ _ x HV.out _ hr0 (by omega)).mono ?_
          rintro e w1 ⟨rfl, hb1⟩
          rw [hl]
          clear hl
          go_wp2
          go_ret
          exact ⟨ret_int HL.out.symm, belowNext HB.out hb1⟩
        · have hge : (itSh.wt x : Int) ≤ r := by omega
          have hl := less_yes hge
          go_wp2_with fail
          refine (szStoItem_sh1 _ _ x HV.out _ hr0 (by omega)).mono ?_
          rintro e w1 ⟨rfl, hb1⟩
          rw [hl]
          clear hl
          go_wp2
          go_roundw
          case rel => exact ⟨k + 1, _, by omega, by go_num, rfl, by omega, by rw [HR.out, HC.out]; omega, belowNext HB.out hb1⟩
          case measure => simp [intOf]; omega
      · have hks : k = xs.length := by omega
        have HL := Lib.hid (less_yes (left := left) (n := (itsSh.wt xs : Int)) (by have h1 := HR.out; rw [HW.out]; rw [hks, List.take_length] at h1; omega))
        have HE := Lib.hid (show r = left - (itsSh.wt xs : Int) by have h1 := HR.out; rw [HW.out]; rw [hks, List.take_length] at h1; omega)
        clear hks hv
        go_wp2
        go_ret
        exact ⟨ret_int (by rw [HL.out]; exact HE.out), HB.out⟩

set_option maxRecDepth 100000 in
theorem toStoItem_sh1 (w : World) (cs : List Value) (x : Item) (h : itSh.rel w w.heap.size cs x) (hl : itSh.wt x ≤ 1048576) :
    Calls Tryz.prog 93 #[.agg cs.toArray] w (CopiedAg itSh x w) := by
  have hwt := wtStoItem x
  obtain ⟨u1, rfl, hs_key, hu1⟩ := it_rel.1 h
  have hn1 : x.val.length ≤ intsSh.wt x.val := wtL_len _ _
  obtain ⟨A1, c1, rfl, hc1, hd1⟩ := hu1.form
  have HU1 := Lib.hid fun W (hb : Below w.heap.size w W) => (hu1.below hb).more hb.size
  have hm1 : intsSh.wt x.val ≤ 1048576 := by omega
  have hp1 : x.val.length ≤ 1048576 := by omega
  clear h hwt hu1
  have HI := Lib.hid (ToInv.start w #[.string x.key, .slice A1 x.val.length c1] #[.string ByteArray.empty, .slice none 0 0] #[.string x.key, .slice none 0 0] 114 98 98)
  go_enter Tryz.func93, Tryz.ntmps93
  go_wp2_with fail
  refine (toIntS_sh _ _ x.val (HU1.out _ HI.out.bel) hp1).mono ?_
  rintro e w1 ⟨v1, rfl, ho, hb⟩
  obtain ⟨B1, e1, rfl, -, -⟩ := ho.row.form
  have hz := HI.out.size
  have HJ := Lib.hid (HI.out.call hb)
  have HS1 : Hid (CopFrom Sh.int 3 (w.heap.size + 1 + 1 + 1) (w1.heap.size) (.slice B1 x.val.length e1) x.val w1) := Lib.hid (Sh.Own.mono ho fun b hb => ⟨by have := hb.1; simp at this; omega, hb.2⟩)
  have hzw : w.heap.size + 1 + 1 + 1 ≤ w1.heap.size := by have := hb.size; simp at this; omega
  have x0 := HJ.out.box.of 0 _ rfl
  have x1 := HJ.out.box.of 1 _ rfl
  have o0 := HJ.out.out.of 0 _ rfl
  have o1 := HJ.out.out.of 1 _ rfl
  have of := HJ.out.out.2.1
  replace HJ := Lib.hid (HJ.out.putOut 1 (.slice B1 x.val.length e1))
  replace HS1 := Lib.hid (HS1.out.set (p := ⟨w.heap.size + 1 + 1, 1, none⟩) (by show w.heap.size + 1 + 1 < _; omega) (.slice B1 x.val.length e1))
  clear HI hb ho hz
  have HI := HJ
  clear HJ
  have r0 := HI.out.res.of 0 _ rfl
  have r1 := HI.out.res.of 1 _ rfl
  have rf := HI.out.res.2.1
  go_wp2
  replace HI := Lib.hid (HI.out.putRes 0 (.string x.key))
  replace HS1 := Lib.hid (HS1.out.set (p := ⟨w.heap.size + 1, 0, none⟩) (by show w.heap.size + 1 < _; omega) (.string x.key))
  replace HI := Lib.hid (HI.out.putRes 1 (.slice B1 x.val.length e1))
  replace HS1 := Lib.hid (HS1.out.set (p := ⟨w.heap.size + 1, 1, none⟩) (by show w.heap.size + 1 < _; omega) (.slice B1 x.val.length e1))
  have q0 := HI.out.res.of 0 _ rfl
  have q1 := HI.out.res.of 1 _ rfl
  refine bodyPost_ret (v := .agg #[.string x.key, .slice B1 x.val.length e1]) (by simp [results, Tryz.results93, go_sem, q0, q1]) rfl ⟨[.string x.key, .slice B1 x.val.length e1], rfl, ?_, HI.out.bel⟩
  exact it_own.2 ⟨_, rfl, hs_key, Sh.Own.mono HS1.out fun b hb => ⟨by have := hb.1; omega, by simp [World.setCell]; exact hb.2⟩⟩

theorem infoStoItemH : (Tryz.prog.info? 98).map (fun i => (i.zero, i.size, i.bytes)) = some (some (.agg #[.string ByteArray.empty, .slice none 0 0]), 2, 40) := by kernel_rfl
theorem madeStoItem (n : Nat) (hbytes : 40 * n ≤ 281474976710656) (w : World) :
    (Instr.makeSlice 33 (.int .i64 (n : Int)) (.int .i64 (n : Int))).run Tryz.prog w = .ok (.slice (some ⟨w.heap.size, 0, none⟩) n n) (w.alloc (.cells (madeCells #[.string ByteArray.empty, .slice none 0 0] (n * 2)) 98)) := by
  obtain ⟨i, hi, hzz⟩ := Option.map_eq_some_iff.1 infoStoItemH
  simp only [Prod.mk.injEq] at hzz
  obtain ⟨hz, hs, hb⟩ := hzz
  have hb' : (i.bytes : Int) * (n : Int) ≤ 281474976710656 := by
    have h : ((i.bytes * n : Nat) : Int) ≤ 281474976710656 := by rw [hb]; omega
    rwa [Int.natCast_mul] at h
  have hr := run_make (P := Tryz.prog) w 33 98 i _ Tryz.underlying33 hi hz .i64 .i64 n n (by omega) (Int.le_refl _) hb' (by omega)
  simp only [Int.toNat_natCast, hs] at hr
  exact hr
set_option maxRecDepth 100000 in
theorem toStoItemS_sh (w : World) (v : Value) (xs : List Item) (hv : itSh.Row w w.heap.size v xs) (hl : itsSh.wt xs ≤ 1048576) :
    Calls Tryz.prog 47 #[v] w (CopiedSl itSh 98 xs w) := by
  obtain ⟨A, c, rfl, hc2, hc1⟩ := hv.form
  unfold maxLen at hc2
  have hlen : xs.length ≤ 1048576 := Nat.le_trans (wtL_len itSh.wt xs) hl
  have hmk := fun W => madeStoItem xs.length (by omega) W
  have HM : Hid (itSh.Own 98 (w.alloc (.cells (madeCells #[.string ByteArray.empty, .slice none 0 0] (xs.length * 2)) 98)) (fun b => b = w.heap.size) (.slice (some ⟨w.heap.size, 0, none⟩) xs.length xs.length) (xs.take 0 ++ List.replicate (xs.length - 0) itSh.z)) :=
    Lib.hid (Sh.Own.made itSh 98 w xs.length (by unfold maxLen; omega))
  have HW := Lib.hid (belowOne w (.cells (madeCells #[.string ByteArray.empty, .slice none 0 0] (xs.length * 2)) 98))
  go_enter Tryz.func47, Tryz.ntmps47
  go_wp2
  clear hmk
  go_loopw [4] (fun i wr => ∃ k : Nat, k ≤ xs.length ∧ i = .int .i64 k ∧ itSh.Own 98 wr (fun b => w.heap.size ≤ b ∧ b < wr.heap.size) (.slice (some ⟨w.heap.size, 0, none⟩) xs.length xs.length) (xs.take k ++ List.replicate (xs.length - k) itSh.z) ∧ Below w.heap.size w wr) (fun i _ => xs.length - (intOf i).toNat)
  case atStart => exact ⟨0, Nat.zero_le _, rfl, HM.out.mono fun b hb => ⟨by omega, by simp; omega⟩, HW.out⟩
  case round =>
    clear HM HW
    obtain ⟨k, hk, rfl, ho, hb⟩ := hrel
    by_cases hlt : k < xs.length
    · obtain ⟨b, off, c', x, cs, e1, hx, hB, hrel, hcell⟩ := (hv.below hb).at_ (k := k) hlt
      injection e1 with e1a e1b e1c
      subst e1a
      have HV := Lib.hid (itSh.rmore hrel hb.size)
      have hxl : itSh.wt x ≤ 1048576 := by have := wtL_at_le (f := itSh.wt) hx; have h2 : wtL itSh.wt xs ≤ 1048576 := hl; omega
      obtain ⟨u1, rfl, hs_key, hu1⟩ := it_rel.1 hrel
      obtain ⟨A1, c1, rfl, -, -⟩ := hu1.form
      have d0 := hcell 0 _ rfl
      have d1 := hcell 1 _ rfl
      have hwd : itSh.wd = 2 := rfl
      rw [hwd] at d0 d1
      simp only [Nat.add_zero] at d0
      clear e1b e1c hv hcell hrel hu1
      have HO := Lib.hid ho
      have HB := Lib.hid hb
      have HX := Lib.hid hx
      clear ho hb hx
      go_wp2_with fail
      refine (toStoItem_sh1 _ _ x HV.out hxl).mono ?_
      rintro e w1 ⟨cs, rfl, hc, hb1⟩
      obtain ⟨g, cap, y, ds, Sj, e2, -, hSg, -, hds, -, hcell, hfr, -, -⟩ := (HO.out.below hb1).at_ (j := k) (by simp; omega)
      have HLn : Hid (xs.length = (xs.take k ++ List.replicate (xs.length - k) itSh.z).length) := Lib.hid (by simp; omega)
      injection e2 with e2a e2b e2c
      injection e2a with e2a
      injection e2a with e2a
      subst e2a
      obtain ⟨y1, rfl, -, -⟩ := it_rel.1 (itSh.orel hds)
      have r0 := hcell 0 _ rfl
      have r1 := hcell 1 _ rfl
      rw [hwd] at r0 r1
      simp only [Nat.add_zero] at r0
      have hput := Sh.Own.put (HO.out) (j := k) (g := w.heap.size) (cap := xs.length) (by rw [← HLn.out]; exact hlt) (by rw [← HLn.out]) (w1 := w1) (fun b _ hlt => hb1.block b hlt) hc (fun b hb hb2 => by have := hb.1; have := hb2.2; omega)
      rw [repl_take HX.out] at hput
      obtain ⟨v1, rfl, -, hv1⟩ := it_rel.1 (itSh.orel hc)
      obtain ⟨B1, e1, rfl, -, -⟩ := hv1.form
      have HP := Lib.hid hput
      have HS := Lib.hid (Nat.le_trans HB.out.size hb1.size)
      have HN := Lib.hid (belowNext HB.out hb1)
      have hsz := hb1.size
      clear hput hcell hds hc hb1 hSg e2b e2c HV HLn hwd hv1
      go_wp2
      go_roundw
      case rel =>
        refine ⟨k + 1, by omega, by go_num, Sh.Own.mono HP.out (fun b hb => ?_), ((HN.out.setCell (Nat.le_refl _) _).setCell (Nat.le_refl _) _)⟩
        have h0 := HS.out
        simp only [World.setCell, Array.size_modify]
        rcases hb with hb | hb
        · have h1 := hb.1; have h2 := hb.2; exact ⟨h1, by omega⟩
        · have h1 := hb.1; have h2 := hb.2; exact ⟨by have := HB.out.size; omega, h2⟩
      case measure => simp [intOf]; omega
    · have hks : k = xs.length := by omega
      have HO : Hid (itSh.Own 98 wr (fun b => w.heap.size ≤ b ∧ b < wr.heap.size) (.slice (some ⟨w.heap.size, 0, none⟩) xs.length xs.length) xs) := by
        subst hks; exact Lib.hid (by simpa using ho)
      clear hks hv ho
      go_wp2
      go_ret
      exact ⟨_, rfl, HO.out, hb⟩

set_option maxRecDepth 100000 in
theorem eqStoItem_alike (w : World) (cs ds : List Value) (x : Item) (h : itSh.rel w w.heap.size cs x) (h2 : itSh.rel w w.heap.size ds x) :
    Calls Tryz.prog 95 #[.agg cs.toArray, .agg ds.toArray] w (Alike w) := by
  obtain ⟨u1, rfl, hs_key, hu1⟩ := it_rel.1 h
  obtain ⟨v1, rfl, -, hv1⟩ := it_rel.1 h2
  obtain ⟨A1, c1, rfl, hc1, hd1⟩ := hu1.form
  obtain ⟨B1, e1, rfl, hc1', hd1'⟩ := hv1.form
  have HU1 := Lib.hid fun W (hb : Below w.heap.size w W) => (hu1.below hb).more hb.size
  have HV1 := Lib.hid fun W (hb : Below w.heap.size w W) => (hv1.below hb).more hb.size
  clear h h2 hu1 hv1
  have HI := Lib.hid (TwoInv.start w #[.string x.key, .slice A1 x.val.length c1] #[.string x.key, .slice B1 x.val.length e1] 98 98)
  go_enter Tryz.func95, Tryz.ntmps95
  go_wp2_with fail
  refine (eqIntS_same _ _ _ _ x.val (HU1.out _ HI.out.bel) (HV1.out _ HI.out.bel)).mono ?_
  rintro e w1 ⟨rfl, hb⟩
  replace HI := Lib.hid (HI.out.call hb)
  clear hb
  have x0_0 := HI.out.one.of 0 _ rfl
  have x0_1 := HI.out.one.of 1 _ rfl
  have y0_0 := HI.out.two.of 0 _ rfl
  have y0_1 := HI.out.two.of 1 _ rfl
  go_wp2
  go_ret
  exact ⟨rfl, HI.out.bel⟩

set_option maxRecDepth 100000 in
theorem eqStoItemS_alike (w : World) (v u : Value) (xs : List Item) (hv : itSh.Row w w.heap.size v xs) (hu : itSh.Row w w.heap.size u xs) :
    Calls Tryz.prog 53 #[v, u] w (Alike w) := by
  obtain ⟨A, c, rfl, hc2, hc1⟩ := hv.form
  obtain ⟨A', c', rfl, hc2', hc1'⟩ := hu.form
  unfold maxLen at hc2 hc2'
  go_enter Tryz.func53, Tryz.ntmps53
  go_wp2
  go_loopw [5] (fun i wr => ∃ k : Nat, k ≤ xs.length ∧ i = .int .i64 k ∧ Below w.heap.size w wr) (fun i _ => xs.length - (intOf i).toNat)
  case atStart => exact ⟨0, Nat.zero_le _, rfl, Below.refl _ _⟩
  case round =>
    obtain ⟨k, hk, rfl, hb⟩ := hrel
    by_cases hlt : k < xs.length
    · obtain ⟨b, off, d, x, cs, e1, hx, hB, hr, hcell⟩ := hv.at_ (k := k) hlt
      obtain ⟨b2, off2, d2, x2, cs2, e2, hx2, hB2, hr2, hcell2⟩ := hu.at_ (k := k) hlt
      rw [hx] at hx2
      injection hx2 with hx2
      subst hx2
      injection e1 with e1a e1b e1c
      injection e2 with e2a e2b e2c
      subst e1a e2a
      have HR := Lib.hid fun (y : World) (hy : Below w.heap.size w y) => itSh.rmore (itSh.rbelow hr hy) hy.size
      have HR2 := Lib.hid fun (y : World) (hy : Below w.heap.size w y) => itSh.rmore (itSh.rbelow hr2 hy) hy.size
      obtain ⟨u1, rfl, hs_key, hu1⟩ := it_rel.1 hr
      obtain ⟨v1, rfl, -, hv1⟩ := it_rel.1 hr2
      obtain ⟨A1, c1, rfl, -, -⟩ := hu1.form
      obtain ⟨B1, e1, rfl, -, -⟩ := hv1.form
      have p0 := hcell 0 _ rfl
      have p1 := hcell 1 _ rfl
      have q0 := hcell2 0 _ rfl
      have q1 := hcell2 1 _ rfl
      have hwd : itSh.wd = 2 := rfl
      rw [hwd] at p0 q0 p1 q1
      simp only [Nat.add_zero] at p0 q0
      have HS := Lib.hid fun (y : World) (hy : Below w.heap.size w y) => And.intro ((hy.cell (p := ⟨b, off + k * 2, none⟩) hB).trans p0) (And.intro ((hy.cell (p := ⟨b, off + k * 2 + 1, none⟩) hB).trans p1) (And.intro ((hy.cell (p := ⟨b2, off2 + k * 2, none⟩) hB2).trans q0) ((hy.cell (p := ⟨b2, off2 + k * 2 + 1, none⟩) hB2).trans q1)))
      obtain ⟨d0', d1', d2', d3'⟩ := HS.out wr hb
      have hb0 := hb.drew
      have f3 : (0 : Int) ≤ (k : Int) := by omega
      have f4 : (k : Int) < (xs.length : Int) := by omega
      clear e1b e1c e2b e2c hv hu hx hr hr2 hcell hcell2 hwd p0 q0 p1 q1 hu1 hv1
      go_wp2
      go_region_held3 (fun w' => w'.cell? ⟨b, off + k * 2, none⟩ = some (.string x.key) ∧ w'.cell? ⟨b, off + k * 2 + 1, none⟩ = some (.slice A1 x.val.length c1) ∧ w'.cell? ⟨b2, off2 + k * 2, none⟩ = some (.string x.key) ∧ w'.cell? ⟨b2, off2 + k * 2 + 1, none⟩ = some (.slice B1 x.val.length e1))
        (first | exact HS.out _ hb0 | exact HS.out _ (by assumption))
        (first | (go_at_call 95; refine (eqStoItem_alike _ _ _ x (HR.out _ hb0) (HR2.out _ hb0)).mono ?_; rintro e w' ⟨rfl, hb'⟩; have hq := belowNext hb0 hb'; clear hb'))
      go_wp2
      go_roundw
      case rel => exact ⟨k + 1, by omega, by go_num, by assumption⟩
      case measure => simp [intOf]; omega
    · clear hv hu
      go_wp2
      go_ret
      exact ⟨rfl, hb⟩

end Go.Proofs.YtmbkhohgciakfaaGreat
