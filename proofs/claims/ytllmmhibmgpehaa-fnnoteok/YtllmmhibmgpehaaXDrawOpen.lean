/- Texts that follow each other, merged: DrawOpen, JaHas, JaOk, ExKit, LNoteOk. -/
import Derived.Test.YtllmmhibmgpehaaXDrawWrt
import Derived.Test.YtllmmhibmgpehaaXDrawKey
import Derived.Test.YtllmmhibmgpehaaXCmp
import Derived.Test.YtllmmhibmgpehaaXMark
import Derived.Test.YtllmmhibmgpehaaXIntsOne
import Derived.Test.YtllmmhibmgpehaaXShOwn
import Derived.Test.YtllmmhibmgpehaaXDrawNote
import Derived.Test.YtllmmhibmgpehaaXNoteOkS

/- A reader is opened over a code. -/
namespace Go.Proofs.Ytllmmhibmgpehaa
open Go.RowKit

/-- What a draw out of a code leaves of a write. -/
def DrawnWrite (w : World) (e : Ending) (w' : World) : Prop :=
  ∃ s d v xs, e = .returned (.agg #[.string s, .bool d, v]) ∧ s.size ≤ 1000002 ∧ xs.length ≤ 4 ∧ Ints w' w'.heap.size v xs ∧ Below w.heap.size w w'

end Go.Proofs.Ytllmmhibmgpehaa

/- jaHas of the laws. -/
namespace Go.Proofs.Ytllmmhibmgpehaa
open Go.RowKit

/-- A text is one of some. -/
def hasT (xs : List ByteArray) (s : ByteArray) : Bool := xs.any fun x => decide (x = s)
theorem hasT_yes {xs : List ByteArray} {s : ByteArray} (h : s ∈ xs) : hasT xs s = true := List.any_eq_true.2 ⟨s, h, by simp⟩
theorem hasT_no {xs : List ByteArray} {s : ByteArray} (h : s ∉ xs) : hasT xs s = false := by
  unfold hasT
  rw [List.any_eq_false]
  intro x hx
  simp only [decide_eq_true_eq]
  exact fun e => h (e ▸ hx)
/-- None of the first k is it. -/
def FreeTo (xs : List ByteArray) (s : ByteArray) (k : Nat) : Prop := ∀ j, j < k → xs[j]? ≠ some s
theorem FreeTo.start (xs : List ByteArray) (s : ByteArray) : FreeTo xs s 0 := fun j h => absurd h (by omega)
theorem FreeTo.step {xs : List ByteArray} {s x : ByteArray} {k : Nat} (h : FreeTo xs s k) (hx : xs[k]? = some x) (hn : x ≠ s) : FreeTo xs s (k + 1) := by
  intro j hj
  rcases Nat.lt_or_ge j k with hlt | hge
  · exact h j hlt
  · have : j = k := by omega
    subst this
    rw [hx]
    exact fun e => hn (Option.some.inj e)
theorem FreeTo.all {xs : List ByteArray} {s : ByteArray} (h : FreeTo xs s xs.length) : hasT xs s = false := by
  refine hasT_no fun hm => ?_
  obtain ⟨j, hj, e⟩ := List.getElem_of_mem hm
  exact h j hj (by rw [List.getElem?_eq_getElem hj, e])
theorem hasT_at {xs : List ByteArray} {s x : ByteArray} {k : Nat} (hx : xs[k]? = some x) (h : x = s) : hasT xs s = true := by
  exact hasT_yes (h ▸ List.mem_of_getElem? hx)
set_option maxRecDepth 100000 in
theorem jaHas_any (w : World) (B : Nat) (v : Value) (xs : List ByteArray) (s : ByteArray) (hv : strSh.Row w B v xs) :
    Calls Try.prog 18 #[v, .string s] w fun e w' => e = .returned (.bool (hasT xs s)) ∧ w = w' := by
  obtain ⟨A, c, rfl, hc2, hc1⟩ := hv.form
  unfold maxLen at hc2
  go_enter Try.func18, Try.ntmps18
  go_wp2
  go_loop [5] (fun i => ∃ k : Nat, k ≤ xs.length ∧ i = .int .i64 k ∧ FreeTo xs s k) (fun i => xs.length - (intOf i).toNat)
  case atStart => exact ⟨0, Nat.zero_le _, rfl, FreeTo.start xs s⟩
  case round =>
    obtain ⟨k, hk, rfl, hf⟩ := hrel
    by_cases hlt : k < xs.length
    · obtain ⟨b, off, d, x, e1, hx, hB, hs, cu⟩ := strs_at hv hlt
      injection e1 with e1a e1b e1c
      subst e1a
      clear e1b e1c hv hs
      by_cases hn : x = s
      · have HM := Lib.hid (hasT_at hx hn)
        have hb1 : (x.toList == s.toList) = true := by rw [eq_toList]; simpa using hn
        clear hn hx hf
        go_wp2
        go_ret
        exact ⟨ret_bool HM.out.symm, rfl⟩
      · have HS := Lib.hid (hf.step hx hn)
        have hb1 : (x.toList == s.toList) = false := by rw [eq_toList]; simpa using hn
        clear hn hx hf
        go_wp2
        go_round
        case rel => exact ⟨k + 1, by omega, by go_num, HS.out⟩
        case measure => simp [intOf]; omega
    · have hks : k = xs.length := by omega
      have HM := Lib.hid (FreeTo.all (hks ▸ hf : FreeTo xs s xs.length))
      clear hks hv hf
      go_wp2
      go_ret
      exact ⟨ret_bool HM.out.symm, rfl⟩

end Go.Proofs.Ytllmmhibmgpehaa

/- What every law of draws ends with. -/
namespace Go.Proofs.Ytllmmhibmgpehaa
open Go.RowKit

set_option maxRecDepth 100000 in
theorem jaOk_any (w : World) : Calls Try.prog 17 #[] w fun e w' => e = .returned (.bool true) ∧ Below w.heap.size w w' := by
  have HI := Lib.hid (Ints.one w 1)
  have HK : Hid (wrtB ⟨#[97, 49]⟩ false [1] = true) := by show wrtB ⟨#[97, 49]⟩ false [1] = true; decide
  go_enter Try.func17, Try.ntmps17
  go_wp2_with fail
  refine (implWrtOk_any _ _ _ _ [1] (by show 2 ≤ _; unfold maxLen; omega) HI.out).mono ?_
  rintro e w1 ⟨rfl, hb1⟩
  rw [HK.out]
  have HB := Lib.hid (belowNext (belowOne _ _) hb1)
  clear hb1
  go_wp2
  go_ret
  exact ⟨rfl, HB.out⟩

end Go.Proofs.Ytllmmhibmgpehaa

/- How what is owned, or read, is carried through a call, and through the marks on other blocks. Nothing of the program. -/
namespace Go.Proofs.Ytllmmhibmgpehaa
open Go.RowKit

section
variable {α : Type} {A : Sh α} {w w' : World} {S T : Nat → Prop} {B n : Nat} {cs : List Value} {x : α} {e : TypeId} {v : Value} {xs : List α}
theorem own_call (h : A.own w S cs x) (hb : Below w.heap.size w w') : A.own w' S cs x := A.okeep h fun b _ hlt => hb.block b hlt
theorem own_mark (h : A.own w S cs x) (ht : Outs T w w') (hd : ∀ b, S b → T b → False) : A.own w' S cs x := A.okeep h fun b hb hlt => ht.block b hlt fun h => hd b hb h
theorem rel_call (h : A.rel w B cs x) (hb : Below w.heap.size w w') (hB : B ≤ w.heap.size) : A.rel w' B cs x := A.rbelow h (hb.mono hB)
theorem rel_mark (h : A.rel w B cs x) (ht : Outs T w w') (hB : B ≤ w.heap.size) (hd : ∀ b, T b → B ≤ b) : A.rel w' B cs x :=
  A.rkeep h fun b o hb => World.cell?_of_block (a := ⟨b, o, none⟩) (ht.block b (by omega) fun h => by have := hd b h; omega)
theorem own_sl_call (h : A.Own e w S v xs) (hb : Below w.heap.size w w') : A.Own e w' S v xs := h.keep fun b _ hlt => hb.block b hlt
theorem own_sl_mark (h : A.Own e w S v xs) (ht : Outs T w w') (hd : ∀ b, S b → T b → False) : A.Own e w' S v xs := h.keep fun b hb hlt => ht.block b hlt fun h => hd b hb h
theorem row_call (h : A.Row w B v xs) (hb : Below w.heap.size w w') (hB : B ≤ w.heap.size) : A.Row w' B v xs := h.below (hb.mono hB)
theorem row_mark (h : A.Row w B v xs) (ht : Outs T w w') (hB : B ≤ w.heap.size) (hd : ∀ b, T b → B ≤ b) : A.Row w' B v xs :=
  h.keep fun b o hb => World.cell?_of_block (a := ⟨b, o, none⟩) (ht.block b (by omega) fun h => by have := hd b h; omega)
theorem below_mark (h : Below n w w') {w2 : World} (ht : Outs T w' w2) (hn : n ≤ w'.heap.size) (hd : ∀ b, T b → n ≤ b) : Below n w w2 := h.trans (ht.below hn hd)
end

end Go.Proofs.Ytllmmhibmgpehaa

/- The walk of FnNoteOk. -/
namespace Go.Proofs.Ytllmmhibmgpehaa
open Go.RowKit

set_option maxRecDepth 100000 in
set_option maxHeartbeats 1000000 in
theorem drawNoteOk_any (w : World) (v : Value) (n : Nat) (hv : Code8 w v n) :
    Calls Try.prog 14 #[v] w fun e w' => ∃ cs x, e = .returned (.agg (List.toArray cs)) ∧ FewN 8 8 x ∧ noteSh.own w' (fun b => w.heap.size ≤ b ∧ b < w'.heap.size) cs x ∧ Below w.heap.size w w' := by
  have HV := Lib.hid (hv.below (belowOne w (.cells #[.int .i64 0, .int .i64 0, .slice none 0 0, .slice none 0 0] 26)))
  have HH := Lib.hid (Held.new w #[.int .i64 0, .int .i64 0, .slice none 0 0, .slice none 0 0] 26)
  clear hv
  go_enter Try.func14, Try.ntmps14
  go_wp2_with fail
  refine (l20Open_any _ _ _ HV.out).mono ?_
  rintro e w1 ⟨rfl, hr, hb1⟩
  have HH1 := Lib.hid (HH.out.below hb1 HH.out.1)
  have HB1 := Lib.hid (belowNext (belowOne _ _) hb1)
  rw [allocSize] at hr
  have HR := Lib.hid (show Rds w1 (w.heap.size + 1) 0 from ⟨0, by omega, by omega, hr⟩)
  have hz1 : w.heap.size + 1 < w1.heap.size := HR.out.lt
  clear hr hb1 HH HV
  go_wp2_with fail
  refine (l20Note_any _ _ _ _ HR.out (by omega) (by omega) (by omega)).mono ?_
  rintro e w2 ⟨cs, x, rfl, hfew, ho, hd⟩
  obtain ⟨u, v, S1, S2, rfl, hu, hv, s1, s2, hd12⟩ := note_own.1 ho
  obtain ⟨A1, c1, rfl, -, -⟩ := hu.row.form
  obtain ⟨A2, c2, rfl, -, -⟩ := hv.row.form
  have HO := Lib.hid ho
  have HF := Lib.hid hfew
  have HH2 := Lib.hid (HH1.out.drew hd (by omega))
  have HB2 := Lib.hid (HB1.out.trans (hd.below (by omega) HB1.out.size))
  clear hd HH1 HB1 HR ho hu hv s1 s2 hd12 hfew
  have r0 := HH2.out.of 0 _ rfl
  have r1 := HH2.out.of 1 _ rfl
  have r2 := HH2.out.of 2 _ rfl
  have r3 := HH2.out.of 3 _ rfl
  have gr := HH2.out.2.1
  go_wp2
  have HQ := HH2.out.put4 (.int .i64 x.kind) (.int .i64 x.tx) (.slice A1 x.locks.length c1) (.slice A2 x.writes.length c2)
  have q0 := HQ.of 0 _ rfl
  have q1 := HQ.of 1 _ rfl
  have q2 := HQ.of 2 _ rfl
  have q3 := HQ.of 3 _ rfl
  refine bodyPost_ret (v := .agg #[.int .i64 x.kind, .int .i64 x.tx, .slice A1 x.locks.length c1, .slice A2 x.writes.length c2]) (by simp only [results, Try.results14, go_sem]; simp [go_sem, q0, q1, q2, q3]) rfl ⟨_, x, rfl, HF.out, ?_, belowPut4 HB2.out w.heap.size (Nat.le_refl _) _ _ _ _⟩
  exact noteSh.omono (noteSh.okeep HO.out fun b hb _ => put4_far _ _ _ _ _ _ (by have := hb.1; omega)) fun b hb => ⟨by have := hb.1; omega, by rw [put4_size]; exact hb.2⟩

/-- Without names and writes. -/
theorem noteB_bare {x : Note} (h : noteB x = true) : noteB ⟨x.kind, x.tx, [], []⟩ = true := by
  unfold noteB at *
  by_cases hk : x.kind = 1
  · simp [hk, Bool.and_eq_true] at h ⊢
    refine ⟨h.1, by decide, by decide⟩
  · rw [if_neg hk] at h
    rw [if_neg hk]
    simp only [Bool.and_eq_true, decide_eq_true_iff] at h ⊢
    exact ⟨h.1, h.2.1, rfl, rfl⟩
theorem noteB_has {x : Note} (h : noteB x = true) : ∀ y ∈ x.writes, hasT x.locks y.key = true := by
  intro y hy
  unfold noteB at h
  simp only [Bool.and_eq_true] at h
  by_cases hk : x.kind = 1
  · rw [if_pos hk] at h
    obtain ⟨-, -, h2⟩ := (by simpa only [Bool.and_eq_true] using h : _ ∧ _ ∧ _)
    unfold wrsB at h2
    simp only [Bool.and_eq_true, List.all_eq_true] at h2
    have h3 := h2.2 y hy
    unfold lwB at h3
    simp only [Bool.and_eq_true] at h3
    exact h3.2
  · rw [if_neg hk] at h
    simp only [Bool.and_eq_true, decide_eq_true_iff] at h
    have := List.length_eq_zero_iff.1 h.2.2.2
    rw [this] at hy; cases hy
theorem noteB_lens {x : Note} (h : noteB x = true) (hk : x.kind ≠ 1) : x.locks.length = 0 ∧ x.writes.length = 0 := by
  unfold noteB at h
  simp only [Bool.and_eq_true] at h
  rw [if_neg hk] at h
  simp only [Bool.and_eq_true, decide_eq_true_iff] at h
  exact h.2.2

set_option maxRecDepth 100000 in
set_option maxHeartbeats 2000000 in
theorem lawNoteOk_any (w : World) (v : Value) (n : Nat) (hv : Code8 w v n) :
    Calls Try.prog 3 #[v] w fun e w' => e = .returned (.bool true) ∧ Below w.heap.size w w' := by
  have HV := Lib.hid hv
  obtain ⟨A, c, f, rfl, h1, h2, -, -⟩ := hv
  unfold maxLen at h2
  by_cases hn : 1048576 < n
  · clear HV
    go_enter Try.func3, Try.ntmps3
    go_wp2
    go_ret
    exact ⟨rfl, Below.refl _ _⟩
  have hn' : n ≤ 1048576 := by omega
  clear hn
  go_enter Try.func3, Try.ntmps3
  go_wp2_with fail
  refine (drawNoteOk_any _ _ _ HV.out).mono ?_
  rintro e w1 ⟨cs, x, rfl, hfew, ho, hb1⟩
  obtain ⟨u, v, S1, S2, rfl, hu, hv, s1, s2, hd12⟩ := note_own.1 ho
  obtain ⟨A1, c1, rfl, hm1, -⟩ := hu.row.form
  obtain ⟨A2, c2, rfl, hm2, -⟩ := hv.row.form
  unfold maxLen at hm1 hm2
  have HN := Lib.hid fun W (hb : Below w1.heap.size w1 W) => noteSh.rmore (noteSh.rbelow (noteSh.orel ho) hb) hb.size
  have HRl := Lib.hid fun W (hb : Below w1.heap.size w1 W) => hu.row.below hb
  have HRw := Lib.hid fun W (hb : Below w1.heap.size w1 W) => hv.row.below hb
  have HX := Lib.hid (Held.new w1 #[.int .i64 x.kind, .int .i64 x.tx, .slice A1 x.locks.length c1, .slice A2 x.writes.length c2] 26)
  have HB := Lib.hid (belowOne w1 (.cells #[.int .i64 x.kind, .int .i64 x.tx, .slice A1 x.locks.length c1, .slice A2 x.writes.length c2] 26))
  have HW := Lib.hid hb1
  have hwl := hfew.2.1
  have hll := hfew.1
  clear ho hu hv s1 s2 hd12 hb1 HV hfew
  go_wp2_with fail
  refine (implNoteOk_any _ _ x (HN.out _ HB.out)).mono ?_
  rintro e w2 ⟨rfl, hb⟩
  replace HX := Lib.hid (HX.out.below hb HX.out.1)
  replace HB := Lib.hid (belowNext HB.out hb)
  clear hb
  have x0 := HX.out.of 0 _ rfl
  have x1 := HX.out.of 1 _ rfl
  have x2 := HX.out.of 2 _ rfl
  have x3 := HX.out.of 3 _ rfl
  go_wp2_with fail
  clear x0 x1 x2 x3
  refine (specNoteOk_any _ _ x (HN.out _ HB.out)).mono ?_
  rintro e w3 ⟨rfl, hb⟩
  replace HX := Lib.hid (HX.out.below hb HX.out.1)
  replace HB := Lib.hid (belowNext HB.out hb)
  clear hb
  have hne : (noteB x != noteB x) = false := by simp
  cases hok : noteB x with
  | false =>
    rw [hok] at hne
    clear hok
    go_wp2_with fail
    refine (jaOk_any _).mono ?_
    rintro e w4 ⟨rfl, hb⟩
    have HB4 := Lib.hid (belowNext HB.out hb)
    clear hb
    go_wp2
    go_ret
    exact ⟨rfl, belowNext HW.out HB4.out⟩
  | true =>
    rw [hok] at hne
    have HHas := Lib.hid (noteB_has hok)
    have HBr := Lib.hid (noteB_bare hok)
    have HLe := Lib.hid (noteB_lens hok)
    clear hok
    go_wp2
    go_loopw [5] (fun i wr => ∃ k : Nat, k ≤ x.writes.length ∧ i = .int .i64 k ∧ Held wr w1.heap.size [.int .i64 x.kind, .int .i64 x.tx, .slice A1 x.locks.length c1, .slice A2 x.writes.length c2] ∧ Below w1.heap.size w1 wr) (fun i _ => x.writes.length - (intOf i).toNat)
    case atStart => exact ⟨0, Nat.zero_le _, rfl, HX.out, HB.out⟩
    case round =>
      clear HX HB
      obtain ⟨k, hk, rfl, hX, hB⟩ := hrel
      have x3 := hX.of 3 _ rfl
      by_cases hlt : k < x.writes.length
      · obtain ⟨b, off, cc, y, A4, n4, d4, e1, hy, hbb, hys, y0, -, -, -⟩ := wrs_at (HRw.out _ hB) hlt
        injection e1 with e1a e1b e1c
        subst e1a
        have hhas := HHas.out y (List.mem_of_getElem? hy)
        have HX := Lib.hid hX
        have HB := Lib.hid hB
        have k0 : wr.drew.cell? ⟨w1.heap.size, 2, none⟩ = some (.slice A1 x.locks.length c1) ∧ wr.drew.cell? ⟨w1.heap.size, 3, none⟩ = some (.slice (some ⟨b, off, none⟩) x.writes.length c2) ∧ wr.drew.cell? ⟨b, off + k * 3, none⟩ = some (.string y.key) := ⟨hX.of 2 _ rfl, hX.of 3 _ rfl, y0⟩
        clear e1b e1c hX hB hy y0
        go_wp2
        clear x3
        refine wp_region_held_drew (S := (fun w' => w'.cell? ⟨w1.heap.size, 2, none⟩ = some (.slice A1 x.locks.length c1) ∧ w'.cell? ⟨w1.heap.size, 3, none⟩ = some (.slice (some ⟨b, off, none⟩) x.writes.length c2) ∧ w'.cell? ⟨b, off + k * 3, none⟩ = some (.string y.key))) (by kernel_rfl) ?hSr (fun hHeldr => ?str)
        case hSr => (first | (dsimp only; (exact k0)) | (exact k0))
        refine take_first 0 28 (v := ?vr_1) rfl rfl (by kernel_rfl) (by kernel_rfl) (by kernel_rfl) (fun _ _ _ h => h) (by rfl) ?yr_1 (by assumption) ?rr_1
        case yr_1 => (intro w hSw; (try dsimp only at hSw); go_simp; (try with_reducible rfl))
        simp only [Act.put, List.setIfInBounds_toArray, List.set_cons_zero, List.set_cons_succ]
        refine take_first 1 29 (v := ?vr_2) rfl rfl (by kernel_rfl) (by kernel_rfl) (by kernel_rfl) (fun _ _ _ h => h) (by rfl) ?yr_2 (by assumption) ?rr_2
        case yr_2 => (intro w hSw; (try dsimp only at hSw); go_simp; (try with_reducible rfl))
        simp only [Act.put, List.setIfInBounds_toArray, List.set_cons_zero, List.set_cons_succ]
        refine take_first 2 30 (v := ?vr_3) rfl rfl (by kernel_rfl) (by kernel_rfl) (by kernel_rfl) (fun _ _ _ h => h) (by rfl) ?yr_3 (by assumption) ?rr_3
        case yr_3 => (intro w hSw; (try dsimp only at hSw); go_simp; (try with_reducible rfl))
        simp only [Act.put, List.setIfInBounds_toArray, List.set_cons_zero, List.set_cons_succ]
        refine take_first 3 31 (v := ?vr_4) rfl rfl (by kernel_rfl) (by kernel_rfl) (by kernel_rfl) (fun _ _ _ h => h) (by rfl) ?yr_4 (by assumption) ?rr_4
        case yr_4 => (intro w hSw; (try dsimp only at hSw); go_simp; (try with_reducible rfl))
        simp only [Act.put, List.setIfInBounds_toArray, List.set_cons_zero, List.set_cons_succ]
        refine take_first 4 32 (v := ?vr_5) rfl rfl (by kernel_rfl) (by kernel_rfl) (by kernel_rfl) (fun _ _ _ h => h) (by rfl) ?yr_5 (by assumption) ?rr_5
        case yr_5 => (intro w hSw; (try dsimp only at hSw); go_simp; (try with_reducible rfl))
        simp only [Act.put, List.setIfInBounds_toArray, List.set_cons_zero, List.set_cons_succ]
        refine take_first 5 33 (v := ?vr_6) rfl rfl (by kernel_rfl) (by kernel_rfl) (by kernel_rfl) (fun _ _ _ h => h) (by rfl) ?yr_6 (by assumption) ?rr_6
        case yr_6 => (intro w hSw; (try dsimp only at hSw); go_simp; (try with_reducible rfl))
        simp only [Act.put, List.setIfInBounds_toArray, List.set_cons_zero, List.set_cons_succ]
        refine take_first 6 34 (v := ?vr_7) rfl rfl (by kernel_rfl) (by kernel_rfl) (by kernel_rfl) (fun _ _ _ h => h) (by rfl) ?yr_7 (by assumption) ?rr_7
        case yr_7 => (intro w hSw; (try dsimp only at hSw); go_simp; (try with_reducible rfl))
        simp only [Act.put, List.setIfInBounds_toArray, List.set_cons_zero, List.set_cons_succ]
        refine take_first 7 35 (v := ?vr_8) rfl rfl (by kernel_rfl) (by kernel_rfl) (by kernel_rfl) (fun _ _ _ h => h) (by rfl) ?yr_8 (by assumption) ?rr_8
        case yr_8 => (intro w hSw; (try dsimp only at hSw); go_simp; (try with_reducible rfl))
        simp only [Act.put, List.setIfInBounds_toArray, List.set_cons_zero, List.set_cons_succ]
        refine wpAnyH_ready (rs := [8]) (by kernel_rfl) (by simp) ?_
        refine AllReadyH.cons (o := _) rfl (fun Kr_9 hKr_9 => ?cr_9) ?mr_9
        case mr_9 => exact AllReadyH.nil
        go_simp
        refine (jaHas_any wr.drew _ _ x.locks y.key (HRl.out _ HB.out.drew)).mono ?_; rintro e w5 ⟨rfl, rfl⟩; rw [hhas]
        go_wp2_with fail
        refine hKr_9.out _ _ ?kr_9 (fun hHeldr_9 => ?dr_9)
        case kr_9 => (first | (dsimp only; (exact k0)) | (exact k0))
        clear hKr_9 Kr_9
        refine take_first 9 37 (v := ?vr_10) rfl rfl (by kernel_rfl) (by kernel_rfl) (by kernel_rfl) (fun _ _ _ h => h) (by rfl) ?yr_10 (by assumption) ?rr_10
        case yr_10 => (intro w hSw; (try dsimp only at hSw); go_simp; (try with_reducible rfl))
        simp only [Act.put, List.setIfInBounds_toArray, List.set_cons_zero, List.set_cons_succ]
        refine wpAnyH_done (by kernel_rfl) ?er _
        have HX5 := Lib.hid (show Held wr.drew w1.heap.size [.int .i64 x.kind, .int .i64 x.tx, .slice A1 x.locks.length c1, .slice (some ⟨b, off, none⟩) x.writes.length c2] from HX.out)
        clear k0
        go_wp2
        go_roundw
        case rel => exact ⟨k + 1, by omega, by go_num, HX5.out, HB.out.drew⟩
        case measure => simp [intOf]; omega
      · have x0 := hX.of 0 _ rfl
        have x1 := hX.of 1 _ rfl
        have x2 := hX.of 2 _ rfl
        have HX := Lib.hid hX
        have HB := Lib.hid hB
        have hBs := hB.size
        have HX1 := Lib.hid (HX.out.after (.cells #[.int .i64 x.kind, .int .i64 x.tx, .slice none 0 0, .slice none 0 0] 26))
        have HB1 := Lib.hid (HB.out.alloc hBs (.cells #[.int .i64 x.kind, .int .i64 x.tx, .slice none 0 0, .slice none 0 0] 26))
        have HY := Lib.hid (Held.new wr #[.int .i64 x.kind, .int .i64 x.tx, .slice none 0 0, .slice none 0 0] 26)
        have HBa := Lib.hid (note_rel (w := wr.alloc (.cells #[.int .i64 x.kind, .int .i64 x.tx, .slice none 0 0, .slice none 0 0] 26)) (B := (wr.alloc (.cells #[.int .i64 x.kind, .int .i64 x.tx, .slice none 0 0, .slice none 0 0] 26)).heap.size) (x := ⟨x.kind, x.tx, [], []⟩).2 ⟨_, _, rfl, Sh.Row.nil _ _, Sh.Row.nil _ _⟩)
        have z0 := HX1.out.of 0 _ rfl
        have z2 := HX1.out.of 2 _ rfl
        have z3 := HX1.out.of 3 _ rfl
        clear hX hB
        by_cases hk1 : x.kind = 1
        · have hkb : (x.kind == 1) = true := by simp [hk1]
          have hfin := HBr.out
          clear hk1
          go_wp2_with fail
          refine (implNoteOk_any _ _ _ HBa.out).mono ?_
          rintro e w5 ⟨rfl, hb⟩
          rw [hfin]
          have HB5 := Lib.hid (belowNext HB1.out hb)
          clear hb
          go_wp2
          go_ret
          exact ⟨rfl, belowNext HW.out HB5.out⟩
        · have hkb : (x.kind == 1) = false := by simp [hk1]
          obtain ⟨l1, l2⟩ := HLe.out hk1
          have hfin := HBr.out
          have hsum : (((x.locks.length : Int) + (x.writes.length : Int)) == 0) = true := by simp [l1, l2]
          clear hk1 l1 l2
          go_wp2_with fail
          refine (implNoteOk_any _ _ _ HBa.out).mono ?_
          rintro e w5 ⟨rfl, hb⟩
          rw [hfin]
          have HB5 := Lib.hid (belowNext HB1.out hb)
          clear hb
          go_wp2
          go_ret
          exact ⟨rfl, belowNext HW.out HB5.out⟩

end Go.Proofs.Ytllmmhibmgpehaa
