/- Texts that follow each other, merged: DrawWrt, Reach. -/
import Derived.Test.YtllmmhibmgpehaaXIntsOne
import Derived.Test.YtllmmhibmgpehaaXRegInv

/- A drawn write. -/
namespace Go.Proofs.Ytllmmhibmgpehaa
open Go.RowKit

theorem Held.write3 {w : World} {b : Nat} {x y z : Value} (h : Held w b [x, y, z]) (x' y' z' : Value) :
    Held (((w.setCell ⟨b, 0, none⟩ x').setCell ⟨b, 1, none⟩ y').setCell ⟨b, 2, none⟩ z') b [x', y', z'] := ((h.set_ (i := 0) x').set_ (i := 1) y').set_ (i := 2) z'
theorem Drew.write3 {g : Nat} {P : Int} {w a : World} (h : Drew g P w a) (b : Nat) (hb : w.heap.size ≤ b) (hgw : g < w.heap.size) (x y z : Value) :
    Drew g P w (((a.setCell ⟨b, 0, none⟩ x).setCell ⟨b, 1, none⟩ y).setCell ⟨b, 2, none⟩ z) := ((h.setCell (p := ⟨b, 0, none⟩) hb hgw x).setCell (p := ⟨b, 1, none⟩) hb hgw y).setCell (p := ⟨b, 2, none⟩) hb hgw z
theorem OwnInts.set_ {w : World} {lo : Nat} {v : Value} {xs : List Int} (h : OwnInts w lo v xs) {p : Addr} (hp : ∀ b, v.ownBlock = some b → b ≠ p.block) (u : Value) : OwnInts (w.setCell p u) lo v xs :=
  h.kept (row := some p.block) ⟨rfl, rfl, rfl, by simp [World.setCell], fun b _ hne => Below.heap_setCell w p u b (fun e => hne (by rw [e]))⟩ (by
    cases hv : v.ownBlock with
    | none => exact .inl rfl
    | some b => exact .inr fun e => hp b hv (Option.some.inj e))
theorem OwnInts.write3 {w : World} {lo : Nat} {v : Value} {xs : List Int} (h : OwnInts w lo v xs) (b : Nat) (hp : ∀ k, v.ownBlock = some k → k ≠ b) (x y z : Value) :
    OwnInts (((w.setCell ⟨b, 0, none⟩ x).setCell ⟨b, 1, none⟩ y).setCell ⟨b, 2, none⟩ z) lo v xs := ((h.set_ (p := ⟨b, 0, none⟩) hp x).set_ (p := ⟨b, 1, none⟩) hp y).set_ (p := ⟨b, 2, none⟩) hp z
theorem ownNil (w : World) (lo : Nat) : OwnInts w lo (.slice none 0 0) [] := World.ownsRow_nil _ _ _ _

/-- What a draw of a write leaves. -/
def DrewWrite (g : Nat) (P : Int) (w : World) (e : Ending) (w' : World) : Prop :=
  ∃ s d v xs, e = .returned (.agg #[.string s, .bool d, v]) ∧ s.size ≤ 1000002 ∧ xs.length ≤ 4 ∧ OwnInts w' w.heap.size v xs ∧ Drew g P w w'

set_option maxRecDepth 100000 in
set_option maxHeartbeats 1000000 in
theorem l20Write_any (w : World) (g : Nat) (P n : Int) (hr : Rds w g P) (hP0 : 0 ≤ P) (hP : P ≤ 800000000) (hn : n ≤ 1000000) :
    Calls Try.prog 109 #[.pointer (some ⟨g, 0, none⟩), .int .i64 n] w (DrewWrite g (P + 40) w) := by
  have hgw := hr.lt
  have HA := Lib.hid (show Drew g P w (w.alloc (.cells #[.string ⟨#[]⟩, .bool false, .slice none 0 0] 33)) from ⟨hr.alloc _, World.grownBy_alloc _ _ _⟩)
  have HH := Lib.hid (Held.new w #[.string ⟨#[]⟩, .bool false, .slice none 0 0] 33)
  clear hr
  go_enter Try.func109, Try.ntmps109
  go_wp2_with fail
  refine (l20Key_any _ g _ _ HA.out.1 hP0 (by omega) hn).mono ?_
  rintro e w1 ⟨s, rfl, hs, hd1⟩
  have HD1 := Lib.hid (HA.out.trans hd1)
  have HH1 := Lib.hid (HH.out.drew hd1 (by omega))
  have hz1 : w.heap.size < w1.heap.size := HH1.out.1
  have HA1 := Lib.hid (HD1.out.alloc (.cells #[.string s, .bool false, .slice none 0 0] 33))
  have HB1 := Lib.hid (Held.new w1 #[.string s, .bool false, .slice none 0 0] 33)
  have HH1' := Lib.hid (HH1.out.after (.cells #[.string s, .bool false, .slice none 0 0] 33))
  clear hd1 HA HH HD1 HH1
  go_wp2_with fail
  refine (pick_rds _ g _ _ HA1.out.1 (by omega) (by omega)).mono ?_
  rintro e w2 ⟨m, rfl, hm0, hm1, hd2⟩
  have HD2 := Lib.hid (HA1.out.trans hd2)
  have HB2 := Lib.hid (HB1.out.drew hd2 (by omega))
  have HH2 := Lib.hid (HH1'.out.drew hd2 (by omega))
  have hz2 : w1.heap.size < w2.heap.size := HB2.out.1
  clear hd2 HA1 HB1 HH1' hm1
  obtain ⟨b0, b1, b2⟩ := HB2.out.cells
  obtain ⟨r0, r1, r2⟩ := HH2.out.cells
  have fb := HB2.out.2.1
  have fr := HH2.out.2.1
  by_cases hm : m = 0
  · have hmb : (m == 0) = true := by simp [hm]
    clear hm
    have HD3 := Lib.hid (HD2.out.setCell (p := ⟨w1.heap.size, 1, none⟩) (Nat.le_of_lt hz1) hgw (.bool true))
    have HB3 := Lib.hid (HB2.out.set_ (i := 1) (.bool true))
    have HH3 := Lib.hid (HH2.out.far (p := ⟨w1.heap.size, 1, none⟩) (by simp; omega) (.bool true))
    go_wp2_with fail
    refine (odd_any _ g _ _ HD3.out.1 (by omega) hn).mono ?_
    rintro e w4 ⟨bb, rfl, hbb, hd4⟩
    have HD4 := Lib.hid (HD3.out.trans hd4)
    have HB4 := Lib.hid (HB3.out.drew hd4 (by omega))
    have HH4 := Lib.hid (HH3.out.drew hd4 (by omega))
    clear hbb hd4 HD3 HB3 HH3 HD2 HB2 HH2 b0 b1 b2 r0 r1 r2 fb fr
    obtain ⟨b0, b1, b2⟩ := HB4.out.cells
    obtain ⟨r0, r1, r2⟩ := HH4.out.cells
    have fb := HB4.out.2.1
    have fr := HH4.out.2.1
    have hz4 : w1.heap.size < w4.heap.size := HB4.out.1
    have hne : ¬ w.heap.size = w1.heap.size := by omega
    cases bb
    · go_wp2
      obtain ⟨q0, q1, q2⟩ := (HH4.out.write3 (.string s) (.bool true) (.slice none 0 0)).cells
      refine bodyPost_ret (v := .agg #[.string s, .bool true, .slice none 0 0]) (by simp [results, Try.results109, go_sem, q0, q1, q2]) rfl ⟨s, true, _, [], rfl, hs, by simp, ownNil _ _, ?_⟩
      exact (Drew.write3 ⟨HD4.out.1.more (by omega), HD4.out.2⟩ w.heap.size (Nat.le_refl _) hgw _ _ _)
    · have HB5 := Lib.hid ((HB4.out.set_ (i := 2) (.slice (some ⟨w4.heap.size, 0, none⟩) 1 1)).after (.cells #[.int .i64 1] 3))
      have HH5 := Lib.hid ((HH4.out.far (p := ⟨w1.heap.size, 2, none⟩) hne (.slice (some ⟨w4.heap.size, 0, none⟩) 1 1)).after (.cells #[.int .i64 1] 3))
      have hz5 : w.heap.size < w4.heap.size := by omega
      obtain ⟨p0, p1, p2⟩ := HB5.out.cells
      obtain ⟨s0, s1, s2⟩ := HH5.out.cells
      have fs := HH5.out.2.1
      have HQ := Lib.hid (((HH4.out.far (p := ⟨w1.heap.size, 2, none⟩) hne (.slice (some ⟨w4.heap.size, 0, none⟩) 1 1)).write3 (.string s) (.bool true) (.slice (some ⟨w4.heap.size, 0, none⟩) 1 1)).after (.cells #[.int .i64 1] 3))
      have HDf := Lib.hid (((HD4.out.setCell (p := ⟨w1.heap.size, 2, none⟩) (Nat.le_of_lt hz1) hgw (.slice (some ⟨w4.heap.size, 0, none⟩) 1 1)).write3 w.heap.size (Nat.le_refl _) hgw (.string s) (.bool true) (.slice (some ⟨w4.heap.size, 0, none⟩) 1 1)).alloc (.cells #[.int .i64 1] 3))
      have HOf := Lib.hid (show OwnInts (((((w4.setCell ⟨w1.heap.size, 2, none⟩ (.slice (some ⟨w4.heap.size, 0, none⟩) 1 1)).setCell ⟨w.heap.size, 0, none⟩ (.string s)).setCell ⟨w.heap.size, 1, none⟩ (.bool true)).setCell ⟨w.heap.size, 2, none⟩ (.slice (some ⟨w4.heap.size, 0, none⟩) 1 1)).alloc (.cells #[.int .i64 1] 3)) w.heap.size (.slice (some ⟨w4.heap.size, 0, none⟩) 1 1) [1] by
        have := OwnInts.lit ((((w4.setCell ⟨w1.heap.size, 2, none⟩ (.slice (some ⟨w4.heap.size, 0, none⟩) 1 1)).setCell ⟨w.heap.size, 0, none⟩ (.string s)).setCell ⟨w.heap.size, 1, none⟩ (.bool true)).setCell ⟨w.heap.size, 2, none⟩ (.slice (some ⟨w4.heap.size, 0, none⟩) 1 1)) w.heap.size (by simp; omega) [1] (by unfold maxLen; simp)
        simpa using this)
      go_wp2
      obtain ⟨q0, q1, q2⟩ := HQ.out.cells
      refine bodyPost_ret (v := .agg #[.string s, .bool true, .slice (some ⟨w4.heap.size, 0, none⟩) 1 1]) (by simp [results, Try.results109, go_sem, q0, q1, q2]) rfl ⟨s, true, _, [1], rfl, hs, by simp, HOf.out, HDf.out.1.more (by omega), HDf.out.2⟩
  · have hmb : (m == 0) = false := by simp [hm]
    clear hm
    go_wp2_with fail
    refine (l20Val_any _ g _ _ HD2.out.1 (by omega) (by omega) hn).mono ?_
    rintro e w4 ⟨v, xs, rfl, hxs, hown, hd4⟩
    obtain ⟨Av, cv, hvf, -, -⟩ := hown.ints.form
    subst hvf
    have HD4 := Lib.hid (HD2.out.trans hd4)
    have HB4 := Lib.hid (HB2.out.drew hd4 (by omega))
    have HH4 := Lib.hid (HH2.out.drew hd4 (by omega))
    have HO4 := Lib.hid hown
    clear hd4 HD2 HB2 HH2 b0 b1 b2 r0 r1 r2 fb fr hown
    have hlo : ∀ b, (Value.slice Av xs.length cv).ownBlock = some b → w2.heap.size ≤ b := fun b hb => (HO4.out.lt b hb).1
    have HLo := Lib.hid hlo
    clear hlo
    obtain ⟨b0, b1, b2⟩ := HB4.out.cells
    obtain ⟨r0, r1, r2⟩ := HH4.out.cells
    have fb := HB4.out.2.1
    have fr := HH4.out.2.1
    have hz4 : w1.heap.size < w4.heap.size := HB4.out.1
    have hne : ¬ w.heap.size = w1.heap.size := by omega
    have HB5 := Lib.hid (HB4.out.set_ (i := 2) (.slice Av xs.length cv))
    have HH5 := Lib.hid (HH4.out.far (p := ⟨w1.heap.size, 2, none⟩) hne (.slice Av xs.length cv))
    obtain ⟨p0, p1, p2⟩ := HB5.out.cells
    obtain ⟨s0, s1, s2⟩ := HH5.out.cells
    have fs := HH5.out.2.1
    go_wp2
    obtain ⟨q0, q1, q2⟩ := (HH5.out.write3 (.string s) (.bool false) (.slice Av xs.length cv)).cells
    refine bodyPost_ret (v := .agg #[.string s, .bool false, .slice Av xs.length cv]) (by simp [results, Try.results109, go_sem, q0, q1, q2]) rfl ⟨s, false, _, xs, rfl, hs, hxs, ?_, ?_⟩
    · exact ((HO4.out.set_ (p := ⟨w1.heap.size, 2, none⟩) (fun b hb => by have := HLo.out b hb; simp; omega) _).write3 w.heap.size (fun b hb => by have := HLo.out b hb; omega) _ _ _).less (by omega)
    · exact Drew.write3 ⟨(HD4.out.setCell (p := ⟨w1.heap.size, 2, none⟩) (Nat.le_of_lt hz1) hgw _).1.more (by omega), (HD4.out.setCell (p := ⟨w1.heap.size, 2, none⟩) (Nat.le_of_lt hz1) hgw _).2⟩ w.heap.size (Nat.le_refl _) hgw _ _ _

end Go.Proofs.Ytllmmhibmgpehaa

/- Which operations of a region that draws must have come up behind which. Nothing of the program. -/
namespace Go.Proofs.Ytllmmhibmgpehaa

/-- Which operations must have come up behind which. -/
def reach (ops : Array Oper) : Nat → Nat → Nat → Bool
  | 0, i, j => i == j
  | f + 1, i, j => i == j || (match ops[i]? with
    | some o => o.after.any fun e => reach ops f e.on j
    | none => false)
theorem Down.reach {ops : Array Oper} {L : Nat → Bool} (h : Down ops L) : ∀ (f i j : Nat), reach ops f i j = true → L i = true → L j = true := by
  intro f
  induction f with
  | zero => intro i j hr hL; simp [Go.Proofs.Ytllmmhibmgpehaa.reach] at hr; subst hr; exact hL
  | succ f ih =>
    intro i j hr hL
    unfold Go.Proofs.Ytllmmhibmgpehaa.reach at hr
    rcases Bool.or_eq_true_iff.1 hr with h1 | h1
    · simp at h1; subst h1; exact hL
    · split at h1
      · next o ho =>
        obtain ⟨n, hn, he⟩ := Array.any_eq_true.1 h1
        exact ih _ _ he (h i o ho hL _ (Array.getElem_mem hn))
      · cases h1
theorem Down.notYet {ops : Array Oper} {L : Nat → Bool} (h : Down ops L) (f n m : Nat) (hr : ((List.range n).all fun j => Go.Proofs.Ytllmmhibmgpehaa.reach ops f m j) = true) {i : Nat} (hi : i < n) (hL : L i = false) : L m = false := by
  cases hm : L m with
  | false => rfl
  | true =>
    have := h.reach f m i (List.all_eq_true.1 hr i (List.mem_range.2 hi)) hm
    rw [hL] at this
    cases this

end Go.Proofs.Ytllmmhibmgpehaa
