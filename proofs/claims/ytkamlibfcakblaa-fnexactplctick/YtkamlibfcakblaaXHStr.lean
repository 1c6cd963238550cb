/- Texts that follow each other, merged: HStr, HTo. -/
import Derived.Test.YtkamlibfcakblaaXMark
import Derived.Test.YtkamlibfcakblaaXKey

/- The helpers of the exact laws over texts: a count, a copy, a comparison, marks. -/
namespace Go.Proofs.Ytkamlibfcakblaa
open Go.RowKit

theorem wtL_eq {α : Type} (f : α → Nat) (xs : List α) : wtL f xs = xs.length + cntL f xs := by
  induction xs with
  | nil => rfl
  | cons x l ih => simp only [wtL, cntL, List.length_cons, ih]; omega
theorem wtInts (xs : List Int) : ((intsSh.wt xs : Nat) : Int) = (xs.length : Int) := by
  have h : intsSh.wt xs = xs.length := by
    show wtL (fun _ => 0) xs = xs.length
    induction xs with
    | nil => rfl
    | cons x l ih => simp only [wtL, List.length_cons, ih]; omega
  rw [h]
theorem less_low {left n : Int} (h0 : 0 ≤ left) (hn : 0 ≤ n) : -1 ≤ less left n ∧ less left n ≤ left := by unfold less; split <;> omega
theorem less_ge {left n : Int} (h : 0 ≤ less left n) : n ≤ left := by unfold less at h; split at h <;> omega

/-- What a count leaves. -/
def Sized (left : Int) (n : Nat) (w : World) (e : Ending) (w' : World) : Prop := e = .returned (.int .i64 (less left n)) ∧ Below w.heap.size w w'
/-- What a copy of a slice leaves: one of its own, in new blocks. -/
def CopiedSl {α : Type} (A : Sh α) (t : TypeId) (xs : List α) (w : World) (e : Ending) (w' : World) : Prop :=
  ∃ v, e = .returned v ∧ A.Own t w' (fun b => w.heap.size ≤ b ∧ b < w'.heap.size) v xs ∧ Below w.heap.size w w'
/-- What a copy of a record leaves. -/
def CopiedAg {α : Type} (A : Sh α) (x : α) (w : World) (e : Ending) (w' : World) : Prop :=
  ∃ cs, e = .returned (.agg (List.toArray cs)) ∧ A.own w' (fun b => w.heap.size ≤ b ∧ b < w'.heap.size) cs x ∧ Below w.heap.size w w'
/-- What a comparison of what is the same leaves. -/
def Alike (w : World) (e : Ending) (w' : World) : Prop := e = .returned (.bool true) ∧ Below w.heap.size w w'
/-- What marking a slice of its own leaves. -/
def MarkedSl {α : Type} (A : Sh α) (t : TypeId) (S : Nat → Prop) (v : Value) (xs : List α) (k : Int) (w : World) (e : Ending) (w' : World) : Prop :=
  ∃ xs' : List α, e = .returned (.int .i64 (k + cntL A.cnt xs)) ∧ xs'.length = xs.length ∧ cntL A.cnt xs' = cntL A.cnt xs ∧ mkdL A.cnt A.mkd k xs' ∧ A.Own t w' S v xs' ∧ Outs S w w'

/-- Numbers: the same words. -/
theorem szIntS_sh (w : World) (B : Nat) (v : Value) (xs : List Int) (hv : Sh.int.Row w B v xs) (left : Int) (h0 : 0 ≤ left) (h1 : left ≤ 1048576) :
    Calls Try.prog 156 #[v, .int .i64 left] w (Sized left (intsSh.wt xs) w) :=
  (szIntS_any w B v xs (ints_row.1 hv) left h0 h1).mono fun e w' ⟨h1, h2⟩ => ⟨by rw [h1, wtInts], h2 ▸ Below.refl _ _⟩
theorem ints_own {w : World} {g : Nat} {xs : List Int} (h : w.rowIs g 3 xs.length fun j => .int .i64 (nth xs j)) (hl : xs.length ≤ maxLen) :
    Sh.int.Own 3 w (fun b => b = g) (.slice (some ⟨g, 0, none⟩) xs.length xs.length) xs := by
  obtain ⟨cs, hb, hn, hc⟩ := h
  refine ⟨fun j => [.int .i64 (nth xs j)], fun _ _ => False, ⟨by rw [flat_len (d := 1) (fun _ _ => rfl)]; rfl, .inr ⟨g, xs.length, cs, rfl, Nat.zero_le _, hb, Nat.le_refl _, hl, by rw [hn]; exact (Nat.mul_one _).symm, ?_⟩⟩, fun q hq => (Option.some.inj hq).symm, fun j x hx => ⟨?_, fun _ h => h.elim⟩, fun i j b _ _ h => h.elim⟩
  · refine flat_ext (d := 1) (fun _ _ => rfl) ?_ fun j i hj hi => ?_
    · show (List.take (xs.length * 1) cs.toList).length = xs.length * 1
      have hn' : cs.toList.length = xs.length := by rw [Array.length_toList]; exact hn
      rw [List.length_take, hn']; omega
    · have hi0 : i = 0 := by omega
      subst hi0
      show (List.take (xs.length * 1) cs.toList)[j * 1 + 0]? = _
      rw [List.getElem?_take, if_pos (by omega), Array.getElem?_toList, Nat.mul_one, Nat.add_zero, hc j hj]
      rfl
  · have hj := (List.getElem?_eq_some_iff.1 hx)
    obtain ⟨hj, rfl⟩ := hj
    show [Value.int .i64 (nth xs j)] = [.int .i64 xs[j]]
    rw [nth_get hj]
theorem toIntS_sh (w : World) (v : Value) (xs : List Int) (hv : Sh.int.Row w w.heap.size v xs) (hl : xs.length ≤ 1048576) :
    Calls Try.prog 157 #[v] w (CopiedSl Sh.int 3 xs w) :=
  (toIntS_any w v xs (ints_row.1 hv) hl).mono fun e w' ⟨h1, h2, h3, h4⟩ => ⟨_, h1, (ints_own h2 (by unfold maxLen; omega)).mono fun b hb => ⟨by omega, by omega⟩, h3⟩
theorem eqIntS_same (w : World) (B : Nat) (v u : Value) (xs : List Int) (hv : Sh.int.Row w B v xs) (hu : Sh.int.Row w B u xs) :
    Calls Try.prog 41 #[v, u] w (Alike w) :=
  (eqIntS_any w B v u xs xs (ints_row.1 hv) (ints_row.1 hu)).mono fun e w' ⟨h1, n, h2⟩ => ⟨by rw [h1]; simp, h2 ▸ belowDraws (Below.refl _ _) n⟩

theorem infoStr : (Try.prog.info? 9).map (fun i => (i.zero, i.size, i.bytes)) = some (some (.string ByteArray.empty), 1, 16) := by kernel_rfl

theorem szStringS_sh (w : World) (B : Nat) (v : Value) (xs : List ByteArray) (hv : strSh.Row w B v xs) (left : Int) (h0 : 0 ≤ left) (h1 : left ≤ 1048576) :
    Calls Try.prog 143 #[v, .int .i64 left] w (Sized left (strsSh.wt xs) w) := by
  obtain ⟨A, c, rfl, hc2, hc1⟩ := hv.form
  unfold maxLen at hc2
  have HW := Lib.hid (show strsSh.wt xs = xs.length + cntL ByteArray.size xs from wtL_eq _ _)
  by_cases h : left < (xs.length : Int)
  · have HL := Lib.hid (less_no (left := left) (n := (strsSh.wt xs : Int)) (by rw [HW.out]; omega))
    clear hv
    go_enter Try.func143, Try.ntmps143
    go_wp2
    go_ret
    exact ⟨ret_int HL.out.symm, Below.refl _ _⟩
  · have h2 : (xs.length : Int) ≤ left := by omega
    clear h
    go_enter Try.func143, Try.ntmps143
    go_wp2
    go_loop [1, 5] (fun l i => ∃ (k : Nat) (r : Int), k ≤ xs.length ∧ i = .int .i64 k ∧ l = .int .i64 r ∧ 0 ≤ r ∧ r = left - xs.length - cntL ByteArray.size (xs.take k)) (fun _ i => xs.length - (intOf i).toNat)
    case atStart => exact ⟨0, _, Nat.zero_le _, rfl, rfl, by omega, by simp [cntL]⟩
    case round =>
      obtain ⟨k, r, hk, rfl, rfl, hr0, hr⟩ := hrel
      have HR := Lib.hid hr
      have hrl : r ≤ left := by omega
      clear hr
      by_cases hlt : k < xs.length
      · obtain ⟨b, off, c', x, e1, hx, hB, hs, ck⟩ := strs_at hv hlt
        injection e1 with e1a e1b e1c
        subst e1a
        unfold maxLen at hs
        have HC := Lib.hid (cntL_take (f := ByteArray.size) hx)
        have HT := Lib.hid (cntL_take_le ByteArray.size xs (k + 1))
        clear e1b e1c hv hx
        by_cases hneg : r - (x.size : Int) < 0
        · have HL := Lib.hid (less_no (left := left) (n := (strsSh.wt xs : Int)) (by rw [HW.out]; have := HR.out; have := HC.out; have := HT.out; omega))
          go_wp2
          go_ret
          exact ⟨ret_int HL.out.symm, Below.refl _ _⟩
        · have hge : 0 ≤ r - (x.size : Int) := by omega
          go_wp2
          go_round
          case rel => exact ⟨k + 1, _, by omega, by go_num, rfl, by omega, by rw [HR.out, HC.out]; omega⟩
          case measure => simp [intOf]; omega
      · have hks : k = xs.length := by omega
        have HL := Lib.hid (less_yes (left := left) (n := (strsSh.wt xs : Int)) (by have h1 := HR.out; rw [HW.out]; rw [hks, List.take_length] at h1; omega))
        have HE := Lib.hid (show r = left - (strsSh.wt xs : Int) by have h1 := HR.out; rw [HW.out]; rw [hks, List.take_length] at h1; omega)
        clear hks hv
        go_wp2
        go_ret
        exact ⟨ret_int (by rw [HL.out]; exact HE.out), Below.refl _ _⟩

theorem made_one {P : Program} (t e : TypeId) (z0 : Value) (bytes : Nat) (ht : P.underlying t = some (.slice e)) (hinfo : (P.info? e).map (fun i => (i.zero, i.size, i.bytes)) = some (some z0, 1, bytes)) (hz0 : z0.cells = #[z0])
    (n : Nat) (hbytes : bytes * n ≤ 281474976710656) (h63 : n ≤ 9223372036854775807) (w : World) :
    (Instr.makeSlice t (.int .i64 (n : Int)) (.int .i64 (n : Int))).run P w = .ok (.slice (some ⟨w.heap.size, 0, none⟩) n n) (w.alloc (.cells (madeCells #[z0] (n * 1)) e)) := by
  obtain ⟨i, hi, hzz⟩ := Option.map_eq_some_iff.1 hinfo
  simp only [Prod.mk.injEq] at hzz
  obtain ⟨hz, hs, hb⟩ := hzz
  have hb' : (i.bytes : Int) * (n : Int) ≤ 281474976710656 := by
    have h : ((i.bytes * n : Nat) : Int) ≤ 281474976710656 := by rw [hb]; omega
    rwa [Int.natCast_mul] at h
  have hr := run_make (P := P) w t e i _ ht hi hz .i64 .i64 n n (by omega) (Int.le_refl _) hb' (by omega)
  simp only [Int.toNat_natCast, hs, hz0] at hr
  exact hr

/-- Behind k of a copy. -/
theorem repl_take {α : Type} {xs : List α} {z : α} {k : Nat} {x : α} (hx : xs[k]? = some x) : (xs.take k ++ List.replicate (xs.length - k) z).set k x = xs.take (k + 1) ++ List.replicate (xs.length - (k + 1)) z := by
  have hk : k < xs.length := (List.getElem?_eq_some_iff.1 hx).1
  have h1 : (xs.take k).length = k := by simp; omega
  have h2 : xs.length - k = (xs.length - (k + 1)) + 1 := by omega
  rw [take_snoc hx, h2, List.replicate_succ, List.set_append_right _ _ (by omega), h1]
  simp

theorem toStringS_sh (w : World) (v : Value) (xs : List ByteArray) (hv : strSh.Row w w.heap.size v xs) (hl : xs.length ≤ 1048576) :
    Calls Try.prog 145 #[v] w (CopiedSl strSh 9 xs w) := by
  obtain ⟨A, c, rfl, hc2, hc1⟩ := hv.form
  unfold maxLen at hc2
  have hmk := fun W => made_one (P := Try.prog) 33 9 (.string ByteArray.empty) 16 Try.underlying33 infoStr rfl xs.length (by omega) (by omega) W
  have HM : Hid (strSh.Own 9 (w.alloc (.cells (madeCells #[.string ByteArray.empty] xs.length) 9)) (fun b => b = w.heap.size) (.slice (some ⟨w.heap.size, 0, none⟩) xs.length xs.length) (xs.take 0 ++ List.replicate (xs.length - 0) ByteArray.empty)) :=
    Lib.hid (by have h := Sh.Own.made strSh 9 w xs.length (by unfold maxLen; omega); rw [show xs.length * strSh.wd = xs.length from Nat.mul_one _] at h; exact h)
  have HW := Lib.hid (belowOne w (.cells (madeCells #[.string ByteArray.empty] xs.length) 9))
  go_enter Try.func145, Try.ntmps145
  go_wp2
  clear hmk
  go_loopw [4] (fun i wr => ∃ k : Nat, k ≤ xs.length ∧ i = .int .i64 k ∧ strSh.Own 9 wr (fun b => b = w.heap.size) (.slice (some ⟨w.heap.size, 0, none⟩) xs.length xs.length) (xs.take k ++ List.replicate (xs.length - k) ByteArray.empty) ∧ Below w.heap.size w wr ∧ wr.heap.size = w.heap.size + 1) (fun i _ => xs.length - (intOf i).toNat)
  case atStart => exact ⟨0, Nat.zero_le _, rfl, HM.out, HW.out, by simp⟩
  case round =>
    clear HM HW
    obtain ⟨k, hk, rfl, ho, hb, hz⟩ := hrel
    by_cases hlt : k < xs.length
    · obtain ⟨b, off, c', x, e1, hx, hB, hs, ck⟩ := strs_at (hv.below hb) hlt
      injection e1 with e1a e1b e1c
      subst e1a
      obtain ⟨g, cap, y, cs, Sj, e2, -, -, -, ⟨rfl, hys⟩, hSj, hcell, hfr, -, hput⟩ := ho.at_ (j := k) (by simp; omega)
      injection e2 with e2a e2b e2c
      injection e2a with e2a
      injection e2a with e2a
      subst e2a
      have r0 : wr.cell? ⟨w.heap.size, k, none⟩ = some (.string y) := by simpa [Sh.str] using hcell 0 _ rfl
      have f0 := hfr k
      have HP : Hid (strSh.Own 9 (wr.setCell ⟨w.heap.size, k, none⟩ (.string x)) (fun b => b = w.heap.size) (.slice (some ⟨w.heap.size, 0, none⟩) xs.length xs.length) (xs.take (k + 1) ++ List.replicate (xs.length - (k + 1)) ByteArray.empty)) := by
        have h := hput 0 (.string x) (fun _ => False) x (by decide) ⟨rfl, hs⟩ (fun _ h => h.elim)
        rw [repl_take hx, show k * strSh.wd + 0 = k from Nat.mul_one k] at h
        exact Lib.hid (h.mono fun b hb => hb.elim id (fun h => h.elim))
      have HZ := Lib.hid hz
      have HB := Lib.hid (hb.setCell (p := ⟨w.heap.size, k, none⟩) (Nat.le_refl _) (.string x))
      clear e1b e1c e2b e2c hv hx ho hcell hfr hput hSj hz
      go_wp2
      go_roundw
      case rel => exact ⟨k + 1, by omega, by go_num, HP.out, HB.out, by simpa [World.setCell] using HZ.out⟩
      case measure => simp [intOf]; omega
    · have hks : k = xs.length := by omega
      have HO : Hid (strSh.Own 9 wr (fun b => b = w.heap.size) (.slice (some ⟨w.heap.size, 0, none⟩) xs.length xs.length) xs) := by
        subst hks; exact Lib.hid (by simpa using ho)
      have HZ := Lib.hid hz
      clear hks hv ho hz
      go_wp2
      go_ret
      exact ⟨_, rfl, HO.out.mono fun b hb => ⟨by omega, by rw [HZ.out]; omega⟩, hb⟩

theorem eqStringS_same (w : World) (B : Nat) (v u : Value) (xs : List ByteArray) (hv : strSh.Row w B v xs) (hu : strSh.Row w B u xs) :
    Calls Try.prog 46 #[v, u] w (Alike w) := by
  obtain ⟨A, c, rfl, hc2, hc1⟩ := hv.form
  obtain ⟨A', c', rfl, hc2', hc1'⟩ := hu.form
  unfold maxLen at hc2 hc2'
  go_enter Try.func46, Try.ntmps46
  go_wp2
  go_loopw [5] (fun i wr => ∃ k n : Nat, k ≤ xs.length ∧ i = .int .i64 k ∧ wr = w.drewN n) (fun i _ => xs.length - (intOf i).toNat)
  case atStart => exact ⟨0, 0, Nat.zero_le _, rfl, rfl⟩
  case round =>
    obtain ⟨k, n, hk, rfl, rfl⟩ := hrel
    by_cases hlt : k < xs.length
    · obtain ⟨b, off, d, x, e1, hx, hB, hs, ck⟩ := strs_at hv hlt
      obtain ⟨b2, off2, d2, x2, e2, hx2, hB2, hs2, ck2⟩ := strs_at hu hlt
      rw [hx] at hx2
      injection hx2 with hx2
      subst hx2
      injection e1 with e1a e1b e1c
      injection e2 with e2a e2b e2c
      subst e1a e2a
      clear e1b e1c e2b e2c hv hu hx
      go_wp2
      go_quiet (fail)
      go_wp2
      go_roundw
      case rel => exact ⟨k + 1, _, by omega, by go_num, rfl⟩
      case measure => simp [intOf]; omega
    · clear hv hu
      go_wp2
      go_ret
      exact ⟨rfl, belowDraws (Below.refl _ _) _⟩

end Go.Proofs.Ytkamlibfcakblaa

/- A copy of a record under way: the box of what came in, the result, what is being filled; and what was copied. Nothing of the program. -/
namespace Go.Proofs.Ytkamlibfcakblaa
open Go.RowKit

theorem Held.farS {w : World} {b : Nat} {cs : List Value} {p : Addr} (h : Held w b cs) (hp : b ≠ p.block) (u : Value) : Held (w.setCell p u) b cs := by
  have hk := Below.heap_setCell w p u b hp
  exact ⟨by simpa [World.setCell] using h.1, fun j => (World.frozen?_of_block (a := ⟨b, j, none⟩) hk).trans (h.2.1 j), fun j x hx => (World.cell?_of_block (a := ⟨b, j, none⟩) hk).trans (h.2.2 j x hx)⟩
theorem Held.lit {w : World} {g : Nat} {cs : List Value} (h : Held w g cs) {g' : Nat} (e : g = g') : Held w g' cs := e ▸ h

/-- The three blocks behind w0. -/
structure ToInv (w0 : World) (bx rs ot : List Value) (W : World) : Prop where
  bel : Below w0.heap.size w0 W
  box : Held W w0.heap.size bx
  res : Held W (w0.heap.size + 1) rs
  out : Held W (w0.heap.size + 1 + 1) ot
section
variable {w0 W W' : World} {bx rs ot : List Value}
theorem ToInv.start (w0 : World) (bx rs ot : Array Value) (t1 t2 t3 : TypeId) : ToInv w0 bx.toList rs.toList ot.toList (((w0.alloc (.cells bx t1)).alloc (.cells rs t2)).alloc (.cells ot t3)) :=
  ⟨belowThree _ _ _ _, ((Held.new w0 bx t1).after _).after _, ((Held.new (w0.alloc (.cells bx t1)) rs t2).after (.cells ot t3)).lit (by simp), (Held.new ((w0.alloc (.cells bx t1)).alloc (.cells rs t2)) ot t3).lit (by simp)⟩
theorem ToInv.size (h : ToInv w0 bx rs ot W) : w0.heap.size + 1 + 1 < W.heap.size := h.out.1
theorem ToInv.call (h : ToInv w0 bx rs ot W) (hb : Below W.heap.size W W') : ToInv w0 bx rs ot W' :=
  ⟨belowNext h.bel hb, h.box.below hb h.box.1, h.res.below hb h.res.1, h.out.below hb h.out.1⟩
theorem ToInv.putOut (h : ToInv w0 bx rs ot W) (i : Nat) (u : Value) : ToInv w0 bx rs (ot.set i u) (W.setCell ⟨w0.heap.size + 1 + 1, i, none⟩ u) :=
  ⟨h.bel.setCell (by show _ ≤ w0.heap.size + 1 + 1; omega) u, h.box.farS (by show _ ≠ w0.heap.size + 1 + 1; omega) u, h.res.farS (by show _ ≠ w0.heap.size + 1 + 1; omega) u, h.out.set_ u⟩
theorem ToInv.putRes (h : ToInv w0 bx rs ot W) (i : Nat) (u : Value) : ToInv w0 bx (rs.set i u) ot (W.setCell ⟨w0.heap.size + 1, i, none⟩ u) :=
  ⟨h.bel.setCell (by show _ ≤ w0.heap.size + 1; omega) u, h.box.farS (by show _ ≠ w0.heap.size + 1; omega) u, h.res.set_ u, h.out.farS (by show _ ≠ w0.heap.size + 1; omega) u⟩
end

/-- Two boxes behind w0. -/
structure TwoInv (w0 : World) (b1 b2 : List Value) (W : World) : Prop where
  bel : Below w0.heap.size w0 W
  one : Held W w0.heap.size b1
  two : Held W (w0.heap.size + 1) b2
section
variable {w0 W W' : World} {b1 b2 : List Value}
theorem TwoInv.start (w0 : World) (b1 b2 : Array Value) (t1 t2 : TypeId) : TwoInv w0 b1.toList b2.toList ((w0.alloc (.cells b1 t1)).alloc (.cells b2 t2)) :=
  ⟨belowTwo _ _ _, (Held.new w0 b1 t1).after _, (Held.new (w0.alloc (.cells b1 t1)) b2 t2).lit (by simp)⟩
theorem TwoInv.call (h : TwoInv w0 b1 b2 W) (hb : Below W.heap.size W W') : TwoInv w0 b1 b2 W' :=
  ⟨belowNext h.bel hb, h.one.below hb h.one.1, h.two.below hb h.two.1⟩
end

/-- A slice that was copied: in blocks of its own from lo up to hi. -/
def CopFrom {α : Type} (A : Sh α) (t : TypeId) (lo hi : Nat) (v : Value) (xs : List α) (W : World) : Prop := A.Own t W (fun b => lo ≤ b ∧ b < hi) v xs
section
variable {α : Type} {A : Sh α} {t : TypeId} {lo hi : Nat} {v : Value} {xs : List α} {W W' : World}
theorem CopFrom.call (h : CopFrom A t lo hi v xs W) (hb : Below W.heap.size W W') : CopFrom A t lo hi v xs W' := Sh.Own.below h hb
theorem CopFrom.set (h : CopFrom A t lo hi v xs W) {p : Addr} (hp : p.block < lo) (u : Value) : CopFrom A t lo hi v xs (W.setCell p u) :=
  Sh.Own.keep h fun b hb _ => Below.heap_setCell W p u b (by have := hb.1; omega)
end

end Go.Proofs.Ytkamlibfcakblaa
