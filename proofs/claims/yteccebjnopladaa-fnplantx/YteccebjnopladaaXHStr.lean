/- Texts that follow each other, merged: HStr, HTo, HStoItem. -/
import Derived.Test.YteccebjnopladaaXExItems
import Derived.Test.YteccebjnopladaaXVal
import Derived.Deep.RegionHeld3

/- The helpers of the exact laws over texts: a count, a copy, a comparison, marks. -/
namespace Go.Proofs.Yteccebjnopladaa
open Go.RowKit

theorem wtL_eq {α : Type} (f : α → Nat) (xs : List α) : wtL f xs = xs.length + cntL f xs := by
  induction xs with
  | nil => rfl
  | cons x l ih => simp only [wtL, cntL, List.length_cons, ih]; omega
theorem wtInts (xs : List Int) : ((intsSh.wt xs : Nat) : Int) = (xs.length : Int) := by
  have h : intsSh.wt xs = xs.length := by
    show wtL (fun _ => 0) xs = xs.length
    induction xs with
    | nil => rfl
    | cons x l ih => simp only [wtL, List.length_cons, ih]; omega
  rw [h]
theorem less_low {left n : Int} (h0 : 0 ≤ left) (hn : 0 ≤ n) : -1 ≤ less left n ∧ less left n ≤ left := by unfold less; split <;> omega
theorem less_ge {left n : Int} (h : 0 ≤ less left n) : n ≤ left := by unfold less at h; split at h <;> omega

/-- What a count leaves. -/
def Sized (left : Int) (n : Nat) (w : World) (e : Ending) (w' : World) : Prop := e = .returned (.int .i64 (less left n)) ∧ Below w.heap.size w w'
/-- What a copy of a slice leaves: one of its own, in new blocks. -/
def CopiedSl {α : Type} (A : Sh α) (t : TypeId) (xs : List α) (w : World) (e : Ending) (w' : World) : Prop :=
  ∃ v, e = .returned v ∧ A.Own t w' (fun b => w.heap.size ≤ b ∧ b < w'.heap.size) v xs ∧ Below w.heap.size w w'
/-- What a copy of a record leaves. -/
def CopiedAg {α : Type} (A : Sh α) (x : α) (w : World) (e : Ending) (w' : World) : Prop :=
  ∃ cs, e = .returned (.agg (List.toArray cs)) ∧ A.own w' (fun b => w.heap.size ≤ b ∧ b < w'.heap.size) cs x ∧ Below w.heap.size w w'
/-- What a comparison of what is the same leaves. -/
def Alike (w : World) (e : Ending) (w' : World) : Prop := e = .returned (.bool true) ∧ Below w.heap.size w w'
/-- What marking a slice of its own leaves. -/
def MarkedSl {α : Type} (A : Sh α) (t : TypeId) (S : Nat → Prop) (v : Value) (xs : List α) (k : Int) (w : World) (e : Ending) (w' : World) : Prop :=
  ∃ xs' : List α, e = .returned (.int .i64 (k + cntL A.cnt xs)) ∧ xs'.length = xs.length ∧ cntL A.cnt xs' = cntL A.cnt xs ∧ mkdL A.cnt A.mkd k xs' ∧ A.Own t w' S v xs' ∧ Outs S w w'

theorem ints_own {w : World} {g : Nat} {xs : List Int} (h : w.rowIs g 3 xs.length fun j => .int .i64 (nth xs j)) (hl : xs.length ≤ maxLen) :
    Sh.int.Own 3 w (fun b => b = g) (.slice (some ⟨g, 0, none⟩) xs.length xs.length) xs := by
  obtain ⟨cs, hb, hn, hc⟩ := h
  refine ⟨fun j => [.int .i64 (nth xs j)], fun _ _ => False, ⟨by rw [flat_len (d := 1) (fun _ _ => rfl)]; rfl, .inr ⟨g, xs.length, cs, rfl, Nat.zero_le _, hb, Nat.le_refl _, hl, by rw [hn]; exact (Nat.mul_one _).symm, ?_⟩⟩, fun q hq => (Option.some.inj hq).symm, fun j x hx => ⟨?_, fun _ h => h.elim⟩, fun i j b _ _ h => h.elim⟩
  · refine flat_ext (d := 1) (fun _ _ => rfl) ?_ fun j i hj hi => ?_
    · show (List.take (xs.length * 1) cs.toList).length = xs.length * 1
      have hn' : cs.toList.length = xs.length := by rw [Array.length_toList]; exact hn
      rw [List.length_take, hn']; omega
    · have hi0 : i = 0 := by omega
      subst hi0
      show (List.take (xs.length * 1) cs.toList)[j * 1 + 0]? = _
      rw [List.getElem?_take, if_pos (by omega), Array.getElem?_toList, Nat.mul_one, Nat.add_zero, hc j hj]
      rfl
  · have hj := (List.getElem?_eq_some_iff.1 hx)
    obtain ⟨hj, rfl⟩ := hj
    show [Value.int .i64 (nth xs j)] = [.int .i64 xs[j]]
    rw [nth_get hj]
theorem infoStr : (Try.prog.info? 9).map (fun i => (i.zero, i.size, i.bytes)) = some (some (.string ByteArray.empty), 1, 16) := by kernel_rfl

theorem made_one {P : Program} (t e : TypeId) (z0 : Value) (bytes : Nat) (ht : P.underlying t = some (.slice e)) (hinfo : (P.info? e).map (fun i => (i.zero, i.size, i.bytes)) = some (some z0, 1, bytes)) (hz0 : z0.cells = #[z0])
    (n : Nat) (hbytes : bytes * n ≤ 281474976710656) (h63 : n ≤ 9223372036854775807) (w : World) :
    (Instr.makeSlice t (.int .i64 (n : Int)) (.int .i64 (n : Int))).run P w = .ok (.slice (some ⟨w.heap.size, 0, none⟩) n n) (w.alloc (.cells (madeCells #[z0] (n * 1)) e)) := by
  obtain ⟨i, hi, hzz⟩ := Option.map_eq_some_iff.1 hinfo
  simp only [Prod.mk.injEq] at hzz
  obtain ⟨hz, hs, hb⟩ := hzz
  have hb' : (i.bytes : Int) * (n : Int) ≤ 281474976710656 := by
    have h : ((i.bytes * n : Nat) : Int) ≤ 281474976710656 := by rw [hb]; omega
    rwa [Int.natCast_mul] at h
  have hr := run_make (P := P) w t e i _ ht hi hz .i64 .i64 n n (by omega) (Int.le_refl _) hb' (by omega)
  simp only [Int.toNat_natCast, hs, hz0] at hr
  exact hr

/-- Behind k of a copy. -/
theorem repl_take {α : Type} {xs : List α} {z : α} {k : Nat} {x : α} (hx : xs[k]? = some x) : (xs.take k ++ List.replicate (xs.length - k) z).set k x = xs.take (k + 1) ++ List.replicate (xs.length - (k + 1)) z := by
  have hk : k < xs.length := (List.getElem?_eq_some_iff.1 hx).1
  have h1 : (xs.take k).length = k := by simp; omega
  have h2 : xs.length - k = (xs.length - (k + 1)) + 1 := by omega
  rw [take_snoc hx, h2, List.replicate_succ, List.set_append_right _ _ (by omega), h1]
  simp

end Go.Proofs.Yteccebjnopladaa

/- A copy of a record under way: the box of what came in, the result, what is being filled; and what was copied. Nothing of the program. -/
namespace Go.Proofs.Yteccebjnopladaa
open Go.RowKit

theorem Held.farS {w : World} {b : Nat} {cs : List Value} {p : Addr} (h : Held w b cs) (hp : b ≠ p.block) (u : Value) : Held (w.setCell p u) b cs := by
  have hk := Below.heap_setCell w p u b hp
  exact ⟨by simpa [World.setCell] using h.1, fun j => (World.frozen?_of_block (a := ⟨b, j, none⟩) hk).trans (h.2.1 j), fun j x hx => (World.cell?_of_block (a := ⟨b, j, none⟩) hk).trans (h.2.2 j x hx)⟩
theorem Held.lit {w : World} {g : Nat} {cs : List Value} (h : Held w g cs) {g' : Nat} (e : g = g') : Held w g' cs := e ▸ h

/-- The three blocks behind w0. -/
structure ToInv (w0 : World) (bx rs ot : List Value) (W : World) : Prop where
  bel : Below w0.heap.size w0 W
  box : Held W w0.heap.size bx
  res : Held W (w0.heap.size + 1) rs
  out : Held W (w0.heap.size + 1 + 1) ot
section
variable {w0 W W' : World} {bx rs ot : List Value}
theorem ToInv.start (w0 : World) (bx rs ot : Array Value) (t1 t2 t3 : TypeId) : ToInv w0 bx.toList rs.toList ot.toList (((w0.alloc (.cells bx t1)).alloc (.cells rs t2)).alloc (.cells ot t3)) :=
  ⟨belowThree _ _ _ _, ((Held.new w0 bx t1).after _).after _, ((Held.new (w0.alloc (.cells bx t1)) rs t2).after (.cells ot t3)).lit (by simp), (Held.new ((w0.alloc (.cells bx t1)).alloc (.cells rs t2)) ot t3).lit (by simp)⟩
theorem ToInv.size (h : ToInv w0 bx rs ot W) : w0.heap.size + 1 + 1 < W.heap.size := h.out.1
theorem ToInv.call (h : ToInv w0 bx rs ot W) (hb : Below W.heap.size W W') : ToInv w0 bx rs ot W' :=
  ⟨belowNext h.bel hb, h.box.below hb h.box.1, h.res.below hb h.res.1, h.out.below hb h.out.1⟩
theorem ToInv.putOut (h : ToInv w0 bx rs ot W) (i : Nat) (u : Value) : ToInv w0 bx rs (ot.set i u) (W.setCell ⟨w0.heap.size + 1 + 1, i, none⟩ u) :=
  ⟨h.bel.setCell (by show _ ≤ w0.heap.size + 1 + 1; omega) u, h.box.farS (by show _ ≠ w0.heap.size + 1 + 1; omega) u, h.res.farS (by show _ ≠ w0.heap.size + 1 + 1; omega) u, h.out.set_ u⟩
theorem ToInv.putRes (h : ToInv w0 bx rs ot W) (i : Nat) (u : Value) : ToInv w0 bx (rs.set i u) ot (W.setCell ⟨w0.heap.size + 1, i, none⟩ u) :=
  ⟨h.bel.setCell (by show _ ≤ w0.heap.size + 1; omega) u, h.box.farS (by show _ ≠ w0.heap.size + 1; omega) u, h.res.set_ u, h.out.farS (by show _ ≠ w0.heap.size + 1; omega) u⟩
end

/-- Two boxes behind w0. -/
structure TwoInv (w0 : World) (b1 b2 : List Value) (W : World) : Prop where
  bel : Below w0.heap.size w0 W
  one : Held W w0.heap.size b1
  two : Held W (w0.heap.size + 1) b2
section
variable {w0 W W' : World} {b1 b2 : List Value}
theorem TwoInv.start (w0 : World) (b1 b2 : Array Value) (t1 t2 : TypeId) : TwoInv w0 b1.toList b2.toList ((w0.alloc (.cells b1 t1)).alloc (.cells b2 t2)) :=
  ⟨belowTwo _ _ _, (Held.new w0 b1 t1).after _, (Held.new (w0.alloc (.cells b1 t1)) b2 t2).lit (by simp)⟩
theorem TwoInv.call (h : TwoInv w0 b1 b2 W) (hb : Below W.heap.size W W') : TwoInv w0 b1 b2 W' :=
  ⟨belowNext h.bel hb, h.one.below hb h.one.1, h.two.below hb h.two.1⟩
end

/-- A slice that was copied: in blocks of its own from lo up to hi. -/
def CopFrom {α : Type} (A : Sh α) (t : TypeId) (lo hi : Nat) (v : Value) (xs : List α) (W : World) : Prop := A.Own t W (fun b => lo ≤ b ∧ b < hi) v xs
section
variable {α : Type} {A : Sh α} {t : TypeId} {lo hi : Nat} {v : Value} {xs : List α} {W W' : World}
theorem CopFrom.call (h : CopFrom A t lo hi v xs W) (hb : Below W.heap.size W W') : CopFrom A t lo hi v xs W' := Sh.Own.below h hb
theorem CopFrom.set (h : CopFrom A t lo hi v xs W) {p : Addr} (hp : p.block < lo) (u : Value) : CopFrom A t lo hi v xs (W.setCell p u) :=
  Sh.Own.keep h fun b hb _ => Below.heap_setCell W p u b (by have := hb.1; omega)
end

end Go.Proofs.Yteccebjnopladaa

/- The helpers of the exact laws over StoItem: a count, a copy, a comparison, marks. By shgen.py. -/
namespace Go.Proofs.Yteccebjnopladaa
open Go.RowKit

theorem wtStoItem (x : Item) : (itSh.wt x : Int) = (x.key.size : Int) + (intsSh.wt x.val : Int) := by
  show (((x.key.size + intsSh.wt x.val) : Nat) : Int) = _
  omega
theorem infoStoItemH : (Try.prog.info? 50).map (fun i => (i.zero, i.size, i.bytes)) = some (some (.agg #[.string ByteArray.empty, .slice none 0 0]), 2, 40) := by kernel_rfl
theorem madeStoItem (n : Nat) (hbytes : 40 * n ≤ 281474976710656) (w : World) :
    (Instr.makeSlice 23 (.int .i64 (n : Int)) (.int .i64 (n : Int))).run Try.prog w = .ok (.slice (some ⟨w.heap.size, 0, none⟩) n n) (w.alloc (.cells (madeCells #[.string ByteArray.empty, .slice none 0 0] (n * 2)) 50)) := by
  obtain ⟨i, hi, hzz⟩ := Option.map_eq_some_iff.1 infoStoItemH
  simp only [Prod.mk.injEq] at hzz
  obtain ⟨hz, hs, hb⟩ := hzz
  have hb' : (i.bytes : Int) * (n : Int) ≤ 281474976710656 := by
    have h : ((i.bytes * n : Nat) : Int) ≤ 281474976710656 := by rw [hb]; omega
    rwa [Int.natCast_mul] at h
  have hr := run_make (P := Try.prog) w 23 50 i _ Try.underlying23 hi hz .i64 .i64 n n (by omega) (Int.le_refl _) hb' (by omega)
  simp only [Int.toNat_natCast, hs] at hr
  exact hr
end Go.Proofs.Yteccebjnopladaa
