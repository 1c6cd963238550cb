/- A drawn list of notes. By drawdiskgen.py. -/
import Derived.Test.YtkamlibfcakblaaXDrawNote
import Derived.Test.YtkamlibfcakblaaXL2Copy
namespace Go.Proofs.Ytkamlibfcakblaa
open Go.RowKit

def dkGood (g : Nat) (bx : Nat) (ln : Int) (VL : Value) (i : Nat) (w : World) (u : Value) : Prop :=
  match i with
  | 0 => u = .pointer (some ⟨bx, 0, none⟩)
  | 1 => u = VL
  | 2 => u = .int .i64 ln
  | 3 => u = .int .i64 (ln + 1)
  | 4 => rowIn w g 2 (-1) (123) u
  | 5 => u = .pointer (some ⟨g, 0, none⟩)
  | 6 => intIn (0) (2) u
  | 7 => atIn w g (-1) (123) u
  | 8 => intIn (-1) (123) u
  | 9 => u = .pointer (some ⟨bx, 1, none⟩)
  | _ => True
theorem dkGood_stable {g : Nat} {bx : Nat} {ln : Int} {VL : Value} {w w' : World} (h : w.grownBy w' (some g)) (i : Nat) (u : Value) (hg : dkGood g bx ln VL i w u) : dkGood g bx ln VL i w' u := by
  match i, hg with
  | 0, hg => exact hg
  | 1, hg => exact hg
  | 2, hg => exact hg
  | 3, hg => exact hg
  | 4, hg => exact rowIn_stable h hg
  | 5, hg => exact hg
  | 6, hg => exact hg
  | 7, hg => exact atIn_stable h hg
  | 8, hg => exact hg
  | 9, hg => exact hg
  | k + 10, _ => exact trivial
def dkCnt (L : Nat → Bool) : Int := (if L 6 then 1 else 0)
theorem dkCnt_same {L : Nat → Bool} {i : Nat} (h6 : i ≠ 6) : dkCnt (upd L i true) = dkCnt L := by
  unfold dkCnt
  rw [upd_other _ _ (Ne.symm h6)]
theorem dkCnt_6 {L : Nat → Bool} (hL : L 6 = false) : dkCnt (upd L 6 true) = dkCnt L + 1 := by
  unfold dkCnt
  simp [upd, hL] <;> omega
theorem dkCnt_bound (L : Nat → Bool) : 0 ≤ dkCnt L ∧ dkCnt L ≤ 1 := by
  unfold dkCnt; repeat' split
  all_goals omega

/-- What holds while a place's notes are drawn: their box, the row. -/
structure DkC (w : World) (g : Nat) (P : Int) (bx : Nat) (x : Disk) (u : Value) (S : Nat → Prop) (W : World) : Prop where
  hr : Held W w.heap.size [.slice none 0 0, .int .i64 0]
  hx : Held W bx [u, .int .i64 x.safe]
  own : noteSh.Own 36 W S u x.notes
  st : ∀ b, S b → w.heap.size < b ∧ b < W.heap.size ∧ b ≠ bx
  dr : Drew g P w W
  gw : g < w.heap.size
  hb : w.heap.size < bx
section
variable {w W W' : World} {g bx : Nat} {P P' : Int} {x : Disk} {u u' : Value} {S S' : Nat → Prop} {ns : List Note}
theorem DkC.draw (h : DkC w g P bx x u S W) (hd : Drew g P' W W') : DkC w g P' bx x u S W' := by
  have g1 := h.gw
  have g2 := h.hb
  have g3 := hd.2.size
  exact ⟨h.hr.drew hd (by omega), h.hx.drew hd (by omega), sh_drew h.own hd (fun b hb => by have := h.st b hb; omega), fun b hb => by have := h.st b hb; omega, h.dr.trans hd, h.gw, h.hb⟩
theorem DkC.more (h : DkC w g P bx x u S W) (hP : P ≤ P') : DkC w g P' bx x u S W := ⟨h.hr, h.hx, h.own, h.st, ⟨h.dr.1.more hP, h.dr.2⟩, h.gw, h.hb⟩
theorem DkC.then_ (h : DkC w g P bx x u S W) (hb : Below W.heap.size W W') : DkC w g P bx x u S W' := by
  have g3 := hb.size
  exact ⟨h.hr.below hb h.hr.1, h.hx.below hb h.hx.1, h.own.below hb, fun b hb => by have := h.st b hb; omega, h.dr.then_ hb, h.gw, h.hb⟩
theorem DkC.setSafe (h : DkC w g P bx x u S W) (k : Int) : DkC w g P bx ⟨x.notes, k⟩ u S (W.setCell ⟨bx, 1, none⟩ (.int .i64 k)) := by
  have g2 := h.hb
  have hs : (W.setCell ⟨bx, 1, none⟩ (.int .i64 k)).heap.size = W.heap.size := by simp [World.setCell]
  exact ⟨h.hr.farS (by show w.heap.size ≠ bx; omega) _, h.hx.set_ (i := 1) _, h.own.keep fun b hb _ => Below.heap_setCell _ _ _ _ (h.st b hb).2.2, fun b hb => by rw [hs]; exact h.st b hb, h.dr.setCell (p := ⟨bx, 1, none⟩) (by show w.heap.size ≤ bx; omega) h.gw _, h.gw, h.hb⟩
/-- Notes of another make. -/
theorem DkC.fresh (h : DkC w g P bx x u S W) (y : Disk) (hS : ∀ b, S' b → w.heap.size < b ∧ b < W.heap.size ∧ b ≠ bx) (ho : noteSh.Own 36 W S' u' y.notes) : DkC w g P bx y u' S' (put2 W bx u' (.int .i64 y.safe)) := by
  have g2 := h.hb
  exact ⟨(h.hr.farS (p := ⟨bx, 0, none⟩) (by show w.heap.size ≠ bx; omega) _).farS (p := ⟨bx, 1, none⟩) (by show w.heap.size ≠ bx; omega) _, h.hx.put2 _ _, ho.keep fun b hb _ => put2_far _ _ _ _ (hS b hb).2.2, fun b hb => by rw [put2_size]; exact hS b hb, (h.dr.setCell (p := ⟨bx, 0, none⟩) (by show w.heap.size ≤ bx; omega) h.gw _).setCell (p := ⟨bx, 1, none⟩) (by show w.heap.size ≤ bx; omega) h.gw _, h.gw, h.hb⟩
/-- A note appended. -/
theorem DkC.put (h : DkC w g P bx x u S W) (hS : ∀ b, S' b → w.heap.size < b ∧ b < W.heap.size ∧ b ≠ bx) (ho : noteSh.Own 36 W' (fun b => S b ∨ S' b ∨ b = W.heap.size) u' ns) (hg : W.grownBy W' u.ownBlock) : DkC w g P bx ⟨ns, x.safe⟩ u' (fun b => (S b ∨ S' b ∨ b = W.heap.size) ∧ b < W'.heap.size) (W'.setCell ⟨bx, 0, none⟩ u') := by
  have g2 := h.hb
  have g3 := h.hx.1
  have g4 := hg.size
  have hs : (W'.setCell ⟨bx, 0, none⟩ u').heap.size = W'.heap.size := by simp [World.setCell]
  have hO : Outs S W W' := Outs.of_grown hg (fun k e => h.own.blk k e)
  have hset : ∀ b, (S b ∨ S' b ∨ b = W.heap.size) ∧ b < W'.heap.size → w.heap.size < b ∧ b < W'.heap.size ∧ b ≠ bx := fun b hb => by
    rcases hb.1 with h1 | h1 | h1
    · have := h.st b h1; omega
    · have := hS b h1; omega
    · omega
  exact ⟨(h.hr.outs hO (fun e => by have := h.st _ e; omega)).farS (by show w.heap.size ≠ bx; omega) _, (h.hx.outs hO (fun e => (h.st _ e).2.2 rfl)).set_ (i := 0) u', ho.cap.keep fun b hb _ => Below.heap_setCell _ _ _ _ (hset b hb).2.2, fun b hb => by rw [hs]; exact hset b hb, (h.dr.grown hg (fun k e => by have := h.st k (h.own.blk k e); omega) h.gw).setCell (p := ⟨bx, 0, none⟩) (by show w.heap.size ≤ bx; omega) h.gw _, h.gw, h.hb⟩
end
def DkW (w : World) (g : Nat) (P : Int) (bx : Nat) (x : Disk) (W : World) : Prop := ∃ A c S, DkC w g P bx x (.slice A x.notes.length c) S W
/-- As many notes as are drawn, none longer than a drawn one. -/
def FewD (m : Nat) (x : Disk) : Prop := x.notes.length ≤ m ∧ (∀ n ∈ x.notes, FewN 8 8 n) ∧ -1 ≤ x.safe ∧ x.safe ≤ 122
theorem few_add {m : Nat} {x : Disk} {n : Note} {b : Bool} (h : FewD m x) (hn : FewN 8 8 n) : FewD (m + 1) (addD x n b) := by
  obtain ⟨h1, h2, h3, h4⟩ := h
  have hd := diskB_add (x := x) (n := n) (b := b)
  obtain ⟨p1, p2, p3, -⟩ := diskB_parts hd
  refine ⟨?_, ?_, by omega, by omega⟩
  · unfold addD
    split
    · split
      · simp; omega
      · omega
    · simp [noDisk]
  · intro k hk
    unfold addD at hk
    split at hk
    · split at hk
      · rcases List.mem_append.1 hk with h | h
        · exact h2 k h
        · rw [List.mem_singleton.1 h]; exact hn
      · exact h2 k hk
    · simp [noDisk] at hk
theorem few_snoc {m : Nat} {x : Disk} {n : Note} (h : FewD m x) (hn : FewN 8 8 n) : FewD (m + 1) ⟨x.notes ++ [n], x.safe⟩ := by
  obtain ⟨h1, h2, h3, h4⟩ := h
  refine ⟨by simp; omega, fun k hk => ?_, h3, h4⟩
  rcases List.mem_append.1 hk with h | h
  · exact h2 k h
  · rw [List.mem_singleton.1 h]; exact hn
theorem few_le {m m' : Nat} {x : Disk} (h : FewD m x) (hm : m ≤ m') : FewD m' x := ⟨by have := h.1; omega, h.2⟩
/-- What a draw of a place's notes leaves. -/
def DrewDisk (g : Nat) (P : Int) (w : World) (e : Ending) (w' : World) : Prop :=
  ∃ cs x, e = .returned (.agg (List.toArray cs)) ∧ FewD 121 x ∧ diskSh.own w' (fun b => w.heap.size ≤ b ∧ b < w'.heap.size) cs x ∧ Drew g P w w'

/-- How long the row in a box is. -/
def boxN (w : World) (xb : Nat) : Nat := match w.cell? ⟨xb, 0, none⟩ with
  | some (.slice _ n _) => n
  | _ => 0
theorem boxN_at {w : World} {xb n c : Nat} {A : Option Addr} (h : w.cell? ⟨xb, 0, none⟩ = some (.slice A n c)) : boxN w xb = n := by unfold boxN; rw [h]

/-- What holds while the number of what is safe is drawn. -/
def dkInv (w W0 : World) (g : Nat) (P : Int) (bx : Nat) (x : Disk) (VL : Value) (L : Nat → Bool) (U : Nat → Value) (W : World) : Prop :=
  (L 10 = false → (∀ j, L j = true → dkGood g bx (x.notes.length : Int) VL j W (U j)) ∧ Rds W g (P + dkCnt L) ∧ W0.grownBy W (some g)) ∧
    (L 10 = true → ∃ k : Int, -1 ≤ k ∧ k < 123 ∧ DkW w g (P + 1) bx ⟨x.notes, k⟩ W)
theorem dkStep {w W0 : World} {g : Nat} {P : Int} {bx : Nat} {x : Disk} {VL : Value} {L : Nat → Bool} {U : Nat → Value} {W W' : World} {i : Nat} {u : Value} (hi : i < 10) (h10 : L 10 = false) (hG : ∀ j, L j = true → dkGood g bx (x.notes.length : Int) VL j W (U j)) (hst : ∀ j u, dkGood g bx (x.notes.length : Int) VL j W u → dkGood g bx (x.notes.length : Int) VL j W' u) (hu : dkGood g bx (x.notes.length : Int) VL i W' u)
    (hR : Rds W' g (P + dkCnt (upd L i true))) (hg : W0.grownBy W' (some g)) : dkInv w W0 g P bx x VL (upd L i true) (upd U i u) W' := by
  have e : upd L i true 10 = false := by rw [upd_other _ _ (by omega)]; exact h10
  refine ⟨fun _ => ⟨RInv.next (Good := fun j W u => dkGood g bx (x.notes.length : Int) VL j W u) hG (fun j x h => hst j x h) hu, hR, hg⟩, fun h => ?_⟩
  rw [e] at h; cases h

set_option maxRecDepth 100000 in
set_option maxHeartbeats 4000000 in
theorem l20Disk_any (w : World) (g : Nat) (P n : Int) (hr : Rds w g P) (hP0 : 0 ≤ P) (hP : P ≤ 500000000) (hn : n ≤ 1000000) :
    Calls Try.prog 58 #[.pointer (some ⟨g, 0, none⟩), .int .i64 n] w (DrewDisk g (P + 20000) w) := by
  have hgw := hr.lt
  have HC := Lib.hid (show DkC w g P (w.heap.size + 1) noDisk (.slice none 0 0) (fun _ => False) ((w.alloc (.cells #[.slice none 0 0, .int .i64 0] 25)).alloc (.cells #[.slice none 0 0, .int .i64 0] 25)) from
    ⟨(Held.new w #[.slice none 0 0, .int .i64 0] 25).after _, (by have h := Held.new (w.alloc (.cells #[.slice none 0 0, .int .i64 0] 25)) #[.slice none 0 0, .int .i64 0] 25; rwa [allocSize] at h), Sh.Own.nil _ _, fun _ h => h.elim, Drew.alloc (Drew.alloc ⟨hr, World.grownBy.refl _ _⟩ _) _, hgw, by omega⟩)
  clear hr
  go_enter Try.func58, Try.ntmps58
  go_wp2_with fail
  refine (pick_rds _ g _ _ HC.out.dr.1 (by omega) (by omega)).mono ?_
  rintro e w1 ⟨k, rfl, hk0, hk1, hd1⟩
  obtain ⟨k, rfl⟩ := Int.eq_ofNat_of_zero_le hk0
  have hk : k < 10 := by have := hk1 (by omega); omega
  have HC1 := Lib.hid (HC.out.draw hd1)
  clear hk0 hk1 hd1 HC
  go_wp2
  go_loopw [6] (fun i wr => ∃ (j : Nat) (x : Disk), j < 10 ∧ i = .int .i64 j ∧ FewD (10 - j) x ∧ DkW w g (P + 12000 - 1100 * j) (w.heap.size + 1) x wr) (fun i _ => (intOf i).toNat)
  case atStart => exact ⟨k, noDisk, hk, rfl, ⟨by simp [noDisk], fun _ h => absurd h (by simp [noDisk]), by simp [noDisk], by simp [noDisk]⟩, _, _, _, HC1.out.more (by omega)⟩
  case round =>
    clear HC1
    obtain ⟨j, x, hj, rfl, hfew, A1, c1, S1, hC⟩ := hrel
    by_cases hj0 : 0 < j
    · have HC := Lib.hid (show DkC w g (P + 12000 - 1100 * j) (w.heap.size + 1) x (.slice A1 x.notes.length c1) S1 wr.drew from hC.then_ (Below.refl _ wr).drew)
      have HF := Lib.hid hfew
      have hgb := hC.gw
      have hgz := hC.dr.2.size
      clear hC hfew
      go_wp2
      refine wp_region_held_drew (S := (fun _ => True)) (by kernel_rfl) ?hSr (fun hHeldr => ?str)
      case hSr => exact trivial
      refine take_first 1 16 (v := ?vr_1) rfl rfl (by kernel_rfl) (by kernel_rfl) (by kernel_rfl) (fun _ _ _ h => h) (by rfl) ?yr_1 (by assumption) ?rr_1
      case yr_1 => (intro w hSw; (try dsimp only at hSw); go_simp; (try with_reducible rfl))
      simp only [Act.put, List.setIfInBounds_toArray, List.set_cons_zero, List.set_cons_succ]
      refine take_first 3 18 (v := ?vr_2) rfl rfl (by kernel_rfl) (by kernel_rfl) (by kernel_rfl) (fun _ _ _ h => h) (by rfl) ?yr_2 (by assumption) ?rr_2
      case yr_2 => (intro w hSw; (try dsimp only at hSw); go_simp; (try with_reducible rfl))
      simp only [Act.put, List.setIfInBounds_toArray, List.set_cons_zero, List.set_cons_succ]
      refine wpAnyH_ready (rs := [0, 2]) (by kernel_rfl) (by simp) ?_
      refine AllReadyH.cons (o := _) rfl (fun Kr_4 hKr_4 => ?cr_4) ?mr_4
      case cr_4 =>
        have ld0 := HC.out.hx.of 0 _ rfl
        have ld1 := HC.out.hx.of 1 _ rfl
        go_simp
        clear ld0 ld1
        go_wp2_with fail
        refine hKr_4.out _ _ ?kr_4 (fun hHeldr_4 => ?dr_4)
        case kr_4 => (first | (dsimp only; (exact trivial)) | (exact trivial))
        clear hKr_4 Kr_4
        refine wpAnyH_ready (rs := [2]) (by kernel_rfl) (by simp) ?_
        refine AllReadyH.cons (o := _) rfl (fun Kr_5 hKr_5 => ?cr_5) ?mr_5
        case mr_5 => exact AllReadyH.nil
        go_simp
        refine (l20Note_any _ g _ _ HC.out.dr.1 (by omega) (by omega) (by omega)).mono ?_
        rintro e w1 ⟨cs2, m, rfl, hfm, ho2, hd2⟩
        obtain ⟨u2, v2, T1, T2, rfl, hu2, hv2, -, -, -⟩ := note_own.1 ho2
        obtain ⟨E1, d1, rfl, -, -⟩ := hu2.row.form
        obtain ⟨E2, d2, rfl, -, -⟩ := hv2.row.form
        replace HC := Lib.hid (HC.out.draw hd2)
        have HO2 := Lib.hid (noteSh.omono ho2 (S' := fun b => wr.heap.size ≤ b ∧ b < w1.heap.size) (fun b hb => ⟨by have h1 : wr.drew.heap.size ≤ b := hb.1; have h2 : wr.drew.heap.size = wr.heap.size := rfl; omega, hb.2⟩))
        have HFm := Lib.hid hfm
        have hz2 := hd2.2.size
        clear hu2 hv2 ho2 hd2 hfm
        go_wp2_with fail
        refine hKr_5.out _ _ ?kr_5 (fun hHeldr_5 => ?dr_5)
        case kr_5 => (first | (dsimp only; (exact trivial)) | (exact trivial))
        clear hKr_5 Kr_5
        refine wpAnyH_ready (rs := [4]) (by kernel_rfl) (by simp) ?_
        refine AllReadyH.cons (o := _) rfl (fun Kr_6 hKr_6 => ?cr_6) ?mr_6
        case mr_6 => exact AllReadyH.nil
        go_simp
        refine (pick_rds _ g _ _ HC.out.dr.1 (by omega) (by omega)).mono ?_
        rintro e w2 ⟨kb, rfl, -, -, hd3⟩
        replace HC := Lib.hid (HC.out.draw hd3)
        replace HO2 := Lib.hid (noteSh.okeep HO2.out (w' := w2) (fun b hb hlt => hd3.2.block b hlt (fun e => by have h1 := hb.1; have h2 := Option.some.inj e; omega)))
        have hz3 := hd3.2.size
        clear hd3
        go_wp2_with fail
        refine hKr_6.out _ _ ?kr_6 (fun hHeldr_6 => ?dr_6)
        case kr_6 => (first | (dsimp only; (exact trivial)) | (exact trivial))
        clear hKr_6 Kr_6
        refine take_first 5 20 (v := ?vr_7) rfl rfl (by kernel_rfl) (by kernel_rfl) (by kernel_rfl) (fun _ _ _ h => h) (by rfl) ?yr_7 (by assumption) ?rr_7
        case yr_7 => (intro w hSw; (try dsimp only at hSw); go_simp; (try with_reducible rfl))
        simp only [Act.put, List.setIfInBounds_toArray, List.set_cons_zero, List.set_cons_succ]
        refine wpAnyH_ready (rs := [6]) (by kernel_rfl) (by simp) ?_
        refine AllReadyH.cons (o := _) rfl (fun Kr_8 hKr_8 => ?cr_8) ?mr_8
        case mr_8 => exact AllReadyH.nil
        go_simp
        refine (specDiskAdd_any w2 _ _ x m (kb == 0) (disk_rel.2 ⟨_, rfl, HC.out.own.row⟩) (noteSh.orel HO2.out)).mono ?_
        rintro e w3 ⟨cs4, rfl, ho4, hb4⟩
        obtain ⟨y, hy⟩ : ∃ y, addD x m (kb == 0) = y := ⟨_, rfl⟩
        rw [hy] at ho4
        obtain ⟨u4, rfl, hu4⟩ := disk_own.1 ho4
        obtain ⟨A4, c4, hf4, -, -⟩ := hu4.row.form
        subst hf4
        have hbx := HC.out.hx.1
        replace HC := Lib.hid (HC.out.then_ hb4)
        have HO4 := Lib.hid hu4
        have HFy := Lib.hid (show FewD (10 - j + 1) y from hy ▸ few_add HF.out HFm.out)
        have hz4 := hb4.size
        clear hb4 ho4 hu4 hy HO2
        go_wp2_with fail
        refine hKr_8.out _ _ ?kr_8 (fun hHeldr_8 => ?dr_8)
        case kr_8 => (first | (dsimp only; (exact trivial)) | (exact trivial))
        clear hKr_8 Kr_8
        refine take_first 7 14 (v := ?vr_9) rfl rfl (by kernel_rfl) (by kernel_rfl) (by kernel_rfl) (fun _ _ _ h => h) (by rfl) ?yr_9 (by assumption) ?rr_9
        case yr_9 => (intro w hSw; (try dsimp only at hSw); go_simp; (try with_reducible rfl))
        simp only [Act.put, List.setIfInBounds_toArray, List.set_cons_zero, List.set_cons_succ]
        refine take_first 8 22 (v := ?vr_10) rfl rfl (by kernel_rfl) (by kernel_rfl) (by kernel_rfl) (fun _ _ _ h => h) (by rfl) ?yr_10 (by assumption) ?rr_10
        case yr_10 => (intro w hSw; (try dsimp only at hSw); go_simp; (try with_reducible rfl))
        simp only [Act.put, List.setIfInBounds_toArray, List.set_cons_zero, List.set_cons_succ]
        refine take_first 9 23 (v := ?vr_11) rfl rfl (by kernel_rfl) (by kernel_rfl) (by kernel_rfl) (fun _ _ _ h => h) (by rfl) ?yr_11 (by assumption) ?rr_11
        case yr_11 => (intro w hSw; (try dsimp only at hSw); go_simp; (try with_reducible rfl))
        simp only [Act.put, List.setIfInBounds_toArray, List.set_cons_zero, List.set_cons_succ]
        refine wpAnyH_ready (rs := [10]) (by kernel_rfl) (by simp) ?_
        refine AllReadyH.cons (o := _) rfl (fun Kr_12 hKr_12 => ?cr_12) ?mr_12
        case mr_12 => exact AllReadyH.nil
        have st0 := HC.out.hx.of 0 _ rfl
        have st1 := HC.out.hx.of 1 _ rfl
        have stf := HC.out.hx.2.1
        go_simp
        clear st0 st1 stf
        replace HC := Lib.hid (HC.out.fresh y (S' := fun b => w2.heap.size ≤ b ∧ b < w3.heap.size) (fun b hb => ⟨by have := HC.out.hb; omega, hb.2, by omega⟩) HO4.out)
        go_wp2_with fail
        refine hKr_12.out _ _ ?kr_12 (fun hHeldr_12 => ?dr_12)
        case kr_12 => (first | (dsimp only; (exact trivial)) | (exact trivial))
        clear hKr_12 Kr_12
        refine wpAnyH_done (by kernel_rfl) ?er_13 _
        go_wp2
        go_roundw
        case rel => exact ⟨j - 1, y, by omega, by go_num, few_le HFy.out (by omega), _, _, _, HC.out.more (by omega)⟩
        case measure => simp [intOf]; omega
      refine AllReadyH.cons (o := _) rfl (fun Kr_14 hKr_14 => ?cr_14) ?mr_14
      case cr_14 =>
        go_simp
        refine (l20Note_any _ g _ _ HC.out.dr.1 (by omega) (by omega) (by omega)).mono ?_
        rintro e w5 ⟨cs2, m, rfl, hfm, ho2, hd2⟩
        obtain ⟨u2, v2, T1, T2, rfl, hu2, hv2, -, -, -⟩ := note_own.1 ho2
        obtain ⟨E1, d1, rfl, -, -⟩ := hu2.row.form
        obtain ⟨E2, d2, rfl, -, -⟩ := hv2.row.form
        replace HC := Lib.hid (HC.out.draw hd2)
        have HO2 := Lib.hid (noteSh.omono ho2 (S' := fun b => wr.heap.size ≤ b ∧ b < w5.heap.size) (fun b hb => ⟨by have h1 : wr.drew.heap.size ≤ b := hb.1; have h2 : wr.drew.heap.size = wr.heap.size := rfl; omega, hb.2⟩))
        have HFm := Lib.hid hfm
        have hz2 := hd2.2.size
        clear hu2 hv2 ho2 hd2 hfm
        go_wp2_with fail
        refine hKr_14.out _ _ ?kr_14 (fun hHeldr_14 => ?dr_14)
        case kr_14 => (first | (dsimp only; (exact trivial)) | (exact trivial))
        clear hKr_14 Kr_14
        refine wpAnyH_ready (rs := [0, 4]) (by kernel_rfl) (by simp) ?_
        refine AllReadyH.cons (o := _) rfl (fun Kr_16 hKr_16 => ?cr_16) ?mr_16
        case cr_16 =>
          have ld0 := HC.out.hx.of 0 _ rfl
          have ld1 := HC.out.hx.of 1 _ rfl
          go_simp
          clear ld0 ld1
          go_wp2_with fail
          refine hKr_16.out _ _ ?kr_16 (fun hHeldr_16 => ?dr_16)
          case kr_16 => (first | (dsimp only; (exact trivial)) | (exact trivial))
          clear hKr_16 Kr_16
          refine wpAnyH_ready (rs := [4]) (by kernel_rfl) (by simp) ?_
          refine AllReadyH.cons (o := _) rfl (fun Kr_17 hKr_17 => ?cr_17) ?mr_17
          case mr_17 => exact AllReadyH.nil
          go_simp
          refine (pick_rds _ g _ _ HC.out.dr.1 (by omega) (by omega)).mono ?_
          rintro e w6 ⟨kb, rfl, -, -, hd3⟩
          replace HC := Lib.hid (HC.out.draw hd3)
          replace HO2 := Lib.hid (noteSh.okeep HO2.out (w' := w6) (fun b hb hlt => hd3.2.block b hlt (fun e => by have h1 := hb.1; have h2 := Option.some.inj e; omega)))
          have hz3 := hd3.2.size
          clear hd3
          go_wp2_with fail
          refine hKr_17.out _ _ ?kr_17 (fun hHeldr_17 => ?dr_17)
          case kr_17 => (first | (dsimp only; (exact trivial)) | (exact trivial))
          clear hKr_17 Kr_17
          refine take_first 5 20 (v := ?vr_18) rfl rfl (by kernel_rfl) (by kernel_rfl) (by kernel_rfl) (fun _ _ _ h => h) (by rfl) ?yr_18 (by assumption) ?rr_18
          case yr_18 => (intro w hSw; (try dsimp only at hSw); go_simp; (try with_reducible rfl))
          simp only [Act.put, List.setIfInBounds_toArray, List.set_cons_zero, List.set_cons_succ]
          refine wpAnyH_ready (rs := [6]) (by kernel_rfl) (by simp) ?_
          refine AllReadyH.cons (o := _) rfl (fun Kr_19 hKr_19 => ?cr_19) ?mr_19
          case mr_19 => exact AllReadyH.nil
          go_simp
          refine (specDiskAdd_any w6 _ _ x m (kb == 0) (disk_rel.2 ⟨_, rfl, HC.out.own.row⟩) (noteSh.orel HO2.out)).mono ?_
          rintro e w7 ⟨cs4, rfl, ho4, hb4⟩
          obtain ⟨y, hy⟩ : ∃ y, addD x m (kb == 0) = y := ⟨_, rfl⟩
          rw [hy] at ho4
          obtain ⟨u4, rfl, hu4⟩ := disk_own.1 ho4
          obtain ⟨A4, c4, hf4, -, -⟩ := hu4.row.form
          subst hf4
          have hbx := HC.out.hx.1
          replace HC := Lib.hid (HC.out.then_ hb4)
          have HO4 := Lib.hid hu4
          have HFy := Lib.hid (show FewD (10 - j + 1) y from hy ▸ few_add HF.out HFm.out)
          have hz4 := hb4.size
          clear hb4 ho4 hu4 hy HO2
          go_wp2_with fail
          refine hKr_19.out _ _ ?kr_19 (fun hHeldr_19 => ?dr_19)
          case kr_19 => (first | (dsimp only; (exact trivial)) | (exact trivial))
          clear hKr_19 Kr_19
          refine take_first 7 14 (v := ?vr_20) rfl rfl (by kernel_rfl) (by kernel_rfl) (by kernel_rfl) (fun _ _ _ h => h) (by rfl) ?yr_20 (by assumption) ?rr_20
          case yr_20 => (intro w hSw; (try dsimp only at hSw); go_simp; (try with_reducible rfl))
          simp only [Act.put, List.setIfInBounds_toArray, List.set_cons_zero, List.set_cons_succ]
          refine take_first 8 22 (v := ?vr_21) rfl rfl (by kernel_rfl) (by kernel_rfl) (by kernel_rfl) (fun _ _ _ h => h) (by rfl) ?yr_21 (by assumption) ?rr_21
          case yr_21 => (intro w hSw; (try dsimp only at hSw); go_simp; (try with_reducible rfl))
          simp only [Act.put, List.setIfInBounds_toArray, List.set_cons_zero, List.set_cons_succ]
          refine take_first 9 23 (v := ?vr_22) rfl rfl (by kernel_rfl) (by kernel_rfl) (by kernel_rfl) (fun _ _ _ h => h) (by rfl) ?yr_22 (by assumption) ?rr_22
          case yr_22 => (intro w hSw; (try dsimp only at hSw); go_simp; (try with_reducible rfl))
          simp only [Act.put, List.setIfInBounds_toArray, List.set_cons_zero, List.set_cons_succ]
          refine wpAnyH_ready (rs := [10]) (by kernel_rfl) (by simp) ?_
          refine AllReadyH.cons (o := _) rfl (fun Kr_23 hKr_23 => ?cr_23) ?mr_23
          case mr_23 => exact AllReadyH.nil
          have st0 := HC.out.hx.of 0 _ rfl
          have st1 := HC.out.hx.of 1 _ rfl
          have stf := HC.out.hx.2.1
          go_simp
          clear st0 st1 stf
          replace HC := Lib.hid (HC.out.fresh y (S' := fun b => w6.heap.size ≤ b ∧ b < w7.heap.size) (fun b hb => ⟨by have := HC.out.hb; omega, hb.2, by omega⟩) HO4.out)
          go_wp2_with fail
          refine hKr_23.out _ _ ?kr_23 (fun hHeldr_23 => ?dr_23)
          case kr_23 => (first | (dsimp only; (exact trivial)) | (exact trivial))
          clear hKr_23 Kr_23
          refine wpAnyH_done (by kernel_rfl) ?er_24 _
          go_wp2
          go_roundw
          case rel => exact ⟨j - 1, y, by omega, by go_num, few_le HFy.out (by omega), _, _, _, HC.out.more (by omega)⟩
          case measure => simp [intOf]; omega
        refine AllReadyH.cons (o := _) rfl (fun Kr_25 hKr_25 => ?cr_25) ?mr_25
        case cr_25 =>
          go_simp
          refine (pick_rds _ g _ _ HC.out.dr.1 (by omega) (by omega)).mono ?_
          rintro e w9 ⟨kb, rfl, -, -, hd3⟩
          replace HC := Lib.hid (HC.out.draw hd3)
          replace HO2 := Lib.hid (noteSh.okeep HO2.out (w' := w9) (fun b hb hlt => hd3.2.block b hlt (fun e => by have h1 := hb.1; have h2 := Option.some.inj e; omega)))
          have hz3 := hd3.2.size
          clear hd3
          go_wp2_with fail
          refine hKr_25.out _ _ ?kr_25 (fun hHeldr_25 => ?dr_25)
          case kr_25 => (first | (dsimp only; (exact trivial)) | (exact trivial))
          clear hKr_25 Kr_25
          refine take_first 5 20 (v := ?vr_26) rfl rfl (by kernel_rfl) (by kernel_rfl) (by kernel_rfl) (fun _ _ _ h => h) (by rfl) ?yr_26 (by assumption) ?rr_26
          case yr_26 => (intro w hSw; (try dsimp only at hSw); go_simp; (try with_reducible rfl))
          simp only [Act.put, List.setIfInBounds_toArray, List.set_cons_zero, List.set_cons_succ]
          refine wpAnyH_ready (rs := [0]) (by kernel_rfl) (by simp) ?_
          refine AllReadyH.cons (o := _) rfl (fun Kr_27 hKr_27 => ?cr_27) ?mr_27
          case mr_27 => exact AllReadyH.nil
          have ld0 := HC.out.hx.of 0 _ rfl
          have ld1 := HC.out.hx.of 1 _ rfl
          go_simp
          clear ld0 ld1
          go_wp2_with fail
          refine hKr_27.out _ _ ?kr_27 (fun hHeldr_27 => ?dr_27)
          case kr_27 => (first | (dsimp only; (exact trivial)) | (exact trivial))
          clear hKr_27 Kr_27
          refine wpAnyH_ready (rs := [6]) (by kernel_rfl) (by simp) ?_
          refine AllReadyH.cons (o := _) rfl (fun Kr_28 hKr_28 => ?cr_28) ?mr_28
          case mr_28 => exact AllReadyH.nil
          go_simp
          refine (specDiskAdd_any w9 _ _ x m (kb == 0) (disk_rel.2 ⟨_, rfl, HC.out.own.row⟩) (noteSh.orel HO2.out)).mono ?_
          rintro e w10 ⟨cs4, rfl, ho4, hb4⟩
          obtain ⟨y, hy⟩ : ∃ y, addD x m (kb == 0) = y := ⟨_, rfl⟩
          rw [hy] at ho4
          obtain ⟨u4, rfl, hu4⟩ := disk_own.1 ho4
          obtain ⟨A4, c4, hf4, -, -⟩ := hu4.row.form
          subst hf4
          have hbx := HC.out.hx.1
          replace HC := Lib.hid (HC.out.then_ hb4)
          have HO4 := Lib.hid hu4
          have HFy := Lib.hid (show FewD (10 - j + 1) y from hy ▸ few_add HF.out HFm.out)
          have hz4 := hb4.size
          clear hb4 ho4 hu4 hy HO2
          go_wp2_with fail
          refine hKr_28.out _ _ ?kr_28 (fun hHeldr_28 => ?dr_28)
          case kr_28 => (first | (dsimp only; (exact trivial)) | (exact trivial))
          clear hKr_28 Kr_28
          refine take_first 7 14 (v := ?vr_29) rfl rfl (by kernel_rfl) (by kernel_rfl) (by kernel_rfl) (fun _ _ _ h => h) (by rfl) ?yr_29 (by assumption) ?rr_29
          case yr_29 => (intro w hSw; (try dsimp only at hSw); go_simp; (try with_reducible rfl))
          simp only [Act.put, List.setIfInBounds_toArray, List.set_cons_zero, List.set_cons_succ]
          refine take_first 8 22 (v := ?vr_30) rfl rfl (by kernel_rfl) (by kernel_rfl) (by kernel_rfl) (fun _ _ _ h => h) (by rfl) ?yr_30 (by assumption) ?rr_30
          case yr_30 => (intro w hSw; (try dsimp only at hSw); go_simp; (try with_reducible rfl))
          simp only [Act.put, List.setIfInBounds_toArray, List.set_cons_zero, List.set_cons_succ]
          refine take_first 9 23 (v := ?vr_31) rfl rfl (by kernel_rfl) (by kernel_rfl) (by kernel_rfl) (fun _ _ _ h => h) (by rfl) ?yr_31 (by assumption) ?rr_31
          case yr_31 => (intro w hSw; (try dsimp only at hSw); go_simp; (try with_reducible rfl))
          simp only [Act.put, List.setIfInBounds_toArray, List.set_cons_zero, List.set_cons_succ]
          refine wpAnyH_ready (rs := [10]) (by kernel_rfl) (by simp) ?_
          refine AllReadyH.cons (o := _) rfl (fun Kr_32 hKr_32 => ?cr_32) ?mr_32
          case mr_32 => exact AllReadyH.nil
          have st0 := HC.out.hx.of 0 _ rfl
          have st1 := HC.out.hx.of 1 _ rfl
          have stf := HC.out.hx.2.1
          go_simp
          clear st0 st1 stf
          replace HC := Lib.hid (HC.out.fresh y (S' := fun b => w9.heap.size ≤ b ∧ b < w10.heap.size) (fun b hb => ⟨by have := HC.out.hb; omega, hb.2, by omega⟩) HO4.out)
          go_wp2_with fail
          refine hKr_32.out _ _ ?kr_32 (fun hHeldr_32 => ?dr_32)
          case kr_32 => (first | (dsimp only; (exact trivial)) | (exact trivial))
          clear hKr_32 Kr_32
          refine wpAnyH_done (by kernel_rfl) ?er_33 _
          go_wp2
          go_roundw
          case rel => exact ⟨j - 1, y, by omega, by go_num, few_le HFy.out (by omega), _, _, _, HC.out.more (by omega)⟩
          case measure => simp [intOf]; omega
        exact AllReadyH.nil
      exact AllReadyH.nil
    · obtain rfl : j = 0 := by omega
      have HC := Lib.hid (show DkC w g (P + 12000) (w.heap.size + 1) x (.slice A1 x.notes.length c1) S1 wr from hC.more (by omega))
      have HF := Lib.hid (few_le (m' := 10) hfew (by omega))
      clear hC hfew
      go_wp2_with fail
      refine (odd_any _ g _ _ HC.out.dr.1 (by omega) hn).mono ?_
      rintro e w5 ⟨bb, rfl, -, hdr5⟩
      have HC5 := Lib.hid (HC.out.draw hdr5)
      clear hdr5 HC
      go_upto_if 26 with fail
      go_cut [] from 26 to 59 (fun we => ∃ x, FewD 121 x ∧ DkW w g (P + 15000) (w.heap.size + 1) x we)
      case first =>
        cases bb
        · go_wp2
          go_meet
          case rel => exact ⟨x, few_le HF.out (by omega), _, _, _, HC5.out.more (by omega)⟩
        · go_wp2_with fail
          refine (pick_rds _ g _ _ HC5.out.dr.1 (by omega) (by omega)).mono ?_
          rintro e w6 ⟨m, rfl, hm0, hm1, hdr6⟩
          have HC6 := Lib.hid (HC5.out.draw hdr6)
          clear hdr6 HC5
          rcases (by have := hm1 (by omega); omega : m = 0 ∨ m = 1 ∨ (m ≠ 0 ∧ m ≠ 1)) with hm | hm | ⟨h0, h1⟩
          · have e0 : (m == 0) = true := by simp [hm]
            clear hm
            clear hm0 hm1
            go_upto_region 11 with fail
            refine wp_region_inv4 (by kernel_rfl) (fun L a W => ∃ U : Nat → Value, a = { tmps := #[.pointer (some ⟨g, 0, none⟩), .int .i64 n, undef, undef, .pointer (some ⟨w.heap.size, 0, none⟩), .pointer (some ⟨w.heap.size + 1, 0, none⟩), .int .i64 0, .agg #[.slice none 0 0, .int .i64 0], .pointer (some ⟨g, 0, none⟩), .int .i64 k, .int .i64 0, .bool false, u12, u13, u14, u15, u16, u17, u18, u19, u20, u21, u22, u23, .pointer (some ⟨g, 0, none⟩), .int .i64 n, .bool true, .pointer (some ⟨g, 0, none⟩), .int .i64 m, undef, undef, undef, undef, undef, undef, undef, undef, undef, undef, .bool true, .bool true, U 0, U 1, U 2, U 3, U 4, U 5, U 6, U 7, U 8, U 9, undef, undef, undef, undef, undef, undef, undef, undef, undef, undef], defers := [] } ∧ dkInv w w6 g (P + 12000 + 1 + 1) (w.heap.size + 1) x (.slice A1 x.notes.length c1) L U W) (by kernel_rfl) ?h0 ?hstep ?hend
            case h0 => exact ⟨fun _ => undef, rfl, fun _ => ⟨fun j h => absurd h (by simp), HC6.out.dr.1.more (by have := dkCnt_bound (fun _ => false); omega), ⟨rfl, rfl, rfl, Nat.le_refl _, fun _ _ _ => rfl⟩⟩, fun h => absurd h (by simp)⟩
            case hstep =>
              rintro L a W i o ho hLi hpre hdn ⟨U, rfl, h1, -⟩ K hK
              have hi : i < 11 := (Array.getElem?_eq_some_iff.1 ho).1
              have hd10 : ∀ j, j < 10 → L j = false → L 10 = false := fun j hj hL => hdn.notYet 12 10 10 (by kernel_rfl) hj hL
              clear hdn
              have HK := Lib.hid hK
              clear hK
              have hcb := dkCnt_bound L
              have hxl := HF.out.1
              by_cases hi10 : i < 10
              · have h10 := hd10 i hi10 hLi
                obtain ⟨hG, hRd, hGr⟩ := h1 h10
                have HG := Lib.hid hG
                have HRd := Lib.hid hRd
                have HGr := Lib.hid hGr
                clear hG hRd hGr h1 hd10
                rcases (by omega : i = 0 ∨ i = 1 ∨ i = 2 ∨ i = 3 ∨ i = 4 ∨ i = 5 ∨ i = 6 ∨ i = 7 ∨ i = 8 ∨ i = 9) with rfl | rfl | rfl | rfl | rfl | rfl | rfl | rfl | rfl | rfl
                all_goals (simp at ho; subst ho; simp [Region.binds] at hpre)
                · go_simp
                  exact HK.out _ _ ⟨upd U 0 (.pointer (some ⟨w.heap.size + 1, 0, none⟩)), by simp [upd], dkStep (by decide) h10 HG.out (fun _ _ h => h) (rfl) (HRd.out.more (by rw [dkCnt_same (by decide)]; omega)) (HGr.out)⟩
                · have e1 : U 0 = .pointer (some ⟨w.heap.size + 1, 0, none⟩) := HG.out 0 (by simp [hpre])
                  have x0 := (HC6.out.draw ⟨HRd.out, HGr.out⟩).hx.of 0 _ rfl
                  go_simp
                  exact HK.out _ _ ⟨upd U 1 (.slice A1 x.notes.length c1), by simp [upd, e1], dkStep (by decide) h10 HG.out (fun _ _ h => h) (rfl) (HRd.out.more (by rw [dkCnt_same (by decide)]; omega)) (HGr.out)⟩
                · have e1 : U 1 = .slice A1 x.notes.length c1 := HG.out 1 (by simp [hpre])
                  go_simp
                  exact HK.out _ _ ⟨upd U 2 (.int .i64 x.notes.length), by simp [upd, e1], dkStep (by decide) h10 HG.out (fun _ _ h => h) (rfl) (HRd.out.more (by rw [dkCnt_same (by decide)]; omega)) (HGr.out)⟩
                · have e1 : U 2 = .int .i64 (x.notes.length : Int) := HG.out 2 (by simp [hpre])
                  have hwm : IntKind.i64.wrap ((x.notes.length : Int) + 1) = (x.notes.length : Int) + 1 := IntWalk.i64_in _ (by omega)
                  go_simp
                  exact HK.out _ _ ⟨upd U 3 (.int .i64 ((x.notes.length : Int) + 1)), by simp [upd, e1], dkStep (by decide) h10 HG.out (fun _ _ h => h) (rfl) (HRd.out.more (by rw [dkCnt_same (by decide)]; omega)) (HGr.out)⟩
                · obtain ⟨m3, e3, ha3, hb3⟩ : intIn 1 12 (U 3) := by have e : U 3 = .int .i64 ((x.notes.length : Int) + 1) := HG.out 3 (by simp [hpre]); exact ⟨_, e, by omega, by omega⟩
                  have hz := HRd.out.lt
                  have hrow := rowIn_lit (w := W) (g := g) (lo := -1) (hi := 123) [(-1), m3] hz (by simp; omega)
                  have HRw := Lib.hid hrow
                  clear hrow
                  go_simp
                  exact HK.out _ _ ⟨upd U 4 (.slice (some ⟨W.heap.size, 0, none⟩) 2 2), by simp [upd, e3], dkStep (by decide) h10 HG.out (fun j u h => dkGood_stable (World.grownBy_alloc _ _ _) j u h) (HRw.out) ((Rds.alloc HRd.out _).more (by rw [dkCnt_same (by decide)]; omega)) (HGr.out.trans (World.grownBy_alloc _ _ _))⟩
                · go_simp
                  exact HK.out _ _ ⟨upd U 5 (.pointer (some ⟨g, 0, none⟩)), by simp [upd], dkStep (by decide) h10 HG.out (fun _ _ h => h) (rfl) (HRd.out.more (by rw [dkCnt_same (by decide)]; omega)) (HGr.out)⟩
                · have e1 : U 5 = .pointer (some ⟨g, 0, none⟩) := HG.out 5 (by simp [hpre])
                  have HC := Lib.hid (dkCnt_6 hLi)
                  go_simp
                  go_wp2_with (go_at_call 59; refine (pick_rds _ g _ _ HRd.out (by omega) (by omega)).mono ?_; rintro e w' ⟨m, rfl, hm0, hm1, hd⟩)
                  exact HK.out _ _ ⟨upd U 6 (.int .i64 m), by simp [upd, e1], dkStep (by decide) h10 HG.out (fun j u h => dkGood_stable hd.2 j u h) (⟨m, rfl, hm0, by have := hm1 (by omega); omega⟩) (hd.1.more (by rw [HC.out]; omega)) (HGr.out.trans hd.2)⟩
                · obtain ⟨B, e0, hB1, hB2, hB3⟩ := HG.out 4 (by simp [hpre])
                  obtain ⟨m, e1, hm0, hm1⟩ := HG.out 6 (by simp [hpre])
                  obtain ⟨k, rfl⟩ := Int.eq_ofNat_of_zero_le (show 0 ≤ m by omega)
                  have hk : k < 2 := by omega
                  have hk0 : (0 : Int) ≤ (k : Int) := by omega
                  have hk1 : (k : Int) < 2 := by omega
                  obtain ⟨x, hx, hxs⟩ := hB3 k hk
                  have HB := Lib.hid (And.intro hx hxs)
                  clear hB3 hm0 hx hxs
                  go_simp
                  exact HK.out _ _ ⟨upd U 7 (.pointer (some ⟨B, k, none⟩)), by simp [upd, e0, e1], dkStep (by decide) h10 HG.out (fun _ _ h => h) (⟨B, k, x, rfl, hB1, hB2, HB.out.1, HB.out.2⟩) (HRd.out.more (by rw [dkCnt_same (by decide)]; omega)) (HGr.out)⟩
                · obtain ⟨B, j, x, e1, hB1, hB2, hx, m, rfl, hm0, hm1⟩ := HG.out 7 (by simp [hpre])
                  go_simp
                  exact HK.out _ _ ⟨upd U 8 (.int .i64 m), by simp [upd, e1], dkStep (by decide) h10 HG.out (fun _ _ h => h) (⟨m, rfl, hm0, hm1⟩) (HRd.out.more (by rw [dkCnt_same (by decide)]; omega)) (HGr.out)⟩
                · go_simp
                  exact HK.out _ _ ⟨upd U 9 (.pointer (some ⟨w.heap.size + 1, 1, none⟩)), by simp [upd], dkStep (by decide) h10 HG.out (fun _ _ h => h) (rfl) (HRd.out.more (by rw [dkCnt_same (by decide)]; omega)) (HGr.out)⟩
              · obtain rfl : i = 10 := by omega
                obtain ⟨hG, hRd, hGr⟩ := h1 hLi
                simp at ho; subst ho; simp [Region.binds] at hpre
                obtain ⟨k', e8, hk0', hk1'⟩ : intIn (-1) 123 (U 8) := hG 8 (by simp [hpre])
                have e9 : U 9 = .pointer (some ⟨w.heap.size + 1, 1, none⟩) := hG 9 (by simp [hpre])
                have HX := Lib.hid (HC6.out.draw ⟨hRd, hGr⟩)
                have HN := Lib.hid (show ∃ k : Int, -1 ≤ k ∧ k < 123 ∧ DkW w g (P + 12000 + 1 + 1 + 1) (w.heap.size + 1) ⟨x.notes, k⟩ (W.setCell ⟨w.heap.size + 1, 1, none⟩ (.int .i64 k')) from ⟨k', hk0', hk1', A1, c1, S1, (HX.out.more (by omega)).setSafe k'⟩)
                have x1 := HX.out.hx.of 1 _ rfl
                have xf := HX.out.hx.2.1
                clear hG hRd hGr h1 hd10
                go_simp
                exact HK.out _ _ ⟨U, by simp [e8, e9], fun h => absurd h (by simp [upd]), fun _ => HN.out⟩
            case hend =>
              rintro L a W hL ⟨U, rfl, -, h⟩
              obtain ⟨k', hk0', hk1', A3, c3, S3, hC3⟩ := h (hL 10 (by decide))
              have HC3 := Lib.hid hC3
              clear h hC3
              dsimp only
              go_wp2
              go_meet
              case rel => exact ⟨⟨x.notes, k'⟩, ⟨by have := HF.out.1; show x.notes.length ≤ 121; omega, HF.out.2.1, hk0', by show k' ≤ 122; omega⟩, A3, c3, S3, HC3.out.more (by omega)⟩
          · have e0 : (m == 0) = false := by simp [hm]
            have e1 : (m == 1) = true := by simp [hm]
            clear hm
            have k0 : w6.drew.cell? ⟨w.heap.size + 1, 0, none⟩ = some (.slice A1 x.notes.length c1) := HC6.out.hx.of 0 _ rfl
            have hgw6 : g < w6.heap.size := HC6.out.dr.1.lt
            have HCd := Lib.hid (show DkC w g (P + 12000 + 20 + 1) (w.heap.size + 1) x (.slice A1 x.notes.length c1) S1 w6.drew from (HC6.out.then_ (Below.refl _ w6).drew).more (by omega))
            go_wp2
            refine region_l (S := (fun w' => w'.cell? ⟨w.heap.size + 1, 0, none⟩ = some (.slice A1 x.notes.length c1))) 7 (by kernel_rfl) ?hSt (fun hHeldt => ?stt)
            case hSt => (first | (dsimp only; (first | with_reducible exact k3 | with_reducible exact k2 | with_reducible exact k1 | exact k0)) | (first | with_reducible exact k3 | with_reducible exact k2 | with_reducible exact k1 | exact k0))
            refine take_l 0 53 (v := ?vt_1) rfl rfl (by kernel_rfl) (by kernel_rfl) (by kernel_rfl) (by kernel_rfl) (fun _ _ _ h => h) (by rfl) ?yt_1 (by assumption) ?rt_1
            case yt_1 => (intro w hSw; (try dsimp only at hSw); go_simp; (try with_reducible rfl))
            simp only [Act.put, List.setIfInBounds_toArray, List.set_cons_zero, List.set_cons_succ]
            refine take_l 1 54 (v := ?vt_2) rfl rfl (by kernel_rfl) (by kernel_rfl) (by kernel_rfl) (by kernel_rfl) (fun _ _ _ h => h) (by rfl) ?yt_2 (by assumption) ?rt_2
            case yt_2 => (intro w hSw; (try dsimp only at hSw); go_simp; (try with_reducible rfl))
            simp only [Act.put, List.setIfInBounds_toArray, List.set_cons_zero, List.set_cons_succ]
            refine take_l 2 55 (v := ?vt_3) rfl rfl (by kernel_rfl) (by kernel_rfl) (by kernel_rfl) (by kernel_rfl) (fun _ _ _ h => h) (by rfl) ?yt_3 (by assumption) ?rt_3
            case yt_3 => (intro w hSw; (try dsimp only at hSw); go_simp; (try with_reducible rfl))
            simp only [Act.put, List.setIfInBounds_toArray, List.set_cons_zero, List.set_cons_succ]
            refine one_l 3 rfl (by kernel_rfl) (fun Kt_4 hKt_4 => ?ct_4)
            go_simp
            refine (l20Note_any _ g _ _ HCd.out.dr.1 (by omega) (by omega) (by omega)).mono ?_; rintro e w7 ⟨cs7, n7, rfl, hfn, ho7, hdr7⟩; obtain ⟨u7, v7, T1, T2, rfl, hu7, hv7, -, -, -⟩ := note_own.1 ho7; obtain ⟨E1, d1, hf1, -, -⟩ := hu7.row.form; obtain ⟨E2, d2, hf2, -, -⟩ := hv7.row.form; subst hf1 hf2; have HC7 := Lib.hid (HCd.out.draw hdr7); have k1 := HC7.out.hx.of 0 _ rfl; have HC8 := Lib.hid (HC7.out.then_ (belowOne w7 (.cells #[.int .i64 n7.kind, .int .i64 n7.tx, .slice E1 n7.locks.length d1, .slice E2 n7.writes.length d2] 36))); have k2 := HC8.out.hx.of 0 _ rfl; have HQ := Lib.hid (noteSh.okeep ho7 (w' := w7.alloc (.cells #[.int .i64 n7.kind, .int .i64 n7.tx, .slice E1 n7.locks.length d1, .slice E2 n7.writes.length d2] 36)) (fun b _ hlt => (belowOne w7 _).block b hlt)); have HFn := Lib.hid hfn; have hz7 := hdr7.2.size; clear hdr7 ho7 hu7 hv7 hfn
            go_wp2_with fail
            refine hKt_4.out _ _ ?kt_4 (fun hHoldt_4 => ?dt_4)
            case kt_4 => (intro _; (first | (dsimp only; (first | with_reducible exact k3 | with_reducible exact k2 | with_reducible exact k1 | exact k0)) | (first | with_reducible exact k3 | with_reducible exact k2 | with_reducible exact k1 | exact k0)))
            clear hKt_4 Kt_4
            have hHeldt_4 := hHoldt_4 (by decide)
            clear hHoldt_4
            refine one_l 4 rfl (by kernel_rfl) (fun Kt_5 hKt_5 => ?ct_5)
            go_simp
            skip
            go_wp2_with fail
            refine hKt_5.out _ _ ?kt_5 (fun hHoldt_5 => ?dt_5)
            case kt_5 => (intro _; (first | (dsimp only; (first | with_reducible exact k3 | with_reducible exact k2 | with_reducible exact k1 | exact k0)) | (first | with_reducible exact k3 | with_reducible exact k2 | with_reducible exact k1 | exact k0)))
            clear hKt_5 Kt_5
            have hHeldt_5 := hHoldt_5 (by decide)
            clear hHoldt_5
            refine one_l 5 rfl (by kernel_rfl) (fun Kt_6 hKt_6 => ?ct_6)
            rw [if_pos (by rfl)]
            refine app_one noteSh 23 36 _ 64 Try.underlying23 infoNoteA rfl (by decide) (by omega) (.tmp 54) (.tmp 57) rfl S1 _ _ x.notes rfl HC8.out.own w7.heap.size rfl _ n7 HQ.out (Held.new w7 _ _) (fun b hb hb2 => by have := HC6.out.st b hb; have := hb2.1; have : w6.drew.heap.size = w6.heap.size := rfl; omega) (by have := HF.out.1; omega) ?_; intro v9 w9 ho9 hg9 _; obtain ⟨A9, c9, hf9, -, -⟩ := ho9.row.form; rw [List.length_append, List.length_singleton] at hf9; subst hf9; have HC9 := Lib.hid (HC8.out.put (S' := fun b => w6.drew.heap.size ≤ b ∧ b < w7.heap.size) (fun b hb => by have h7 : w6.drew.heap.size = w6.heap.size := rfl; have h8 := hb.1; have h9 := hb.2; have := HC6.out.hx.1; exact ⟨by omega, by simp; omega, by omega⟩) ho9 hg9); have HX9 := Lib.hid (HC8.out.hx.outs (Outs.of_grown (S := S1) hg9 HC8.out.own.blk) (fun e => (HC8.out.st _ e).2.2 rfl)); have k3 := HX9.out.of 0 _ rfl; have f9 := HX9.out.2.1 0; clear ho9 hg9
            refine hKt_6.out _ _ ?kt_6 (fun hHoldt_6 => ?dt_6)
            case kt_6 => (intro _; (first | (dsimp only; (first | with_reducible exact k3 | with_reducible exact k2 | with_reducible exact k1 | exact k0)) | (first | with_reducible exact k3 | with_reducible exact k2 | with_reducible exact k1 | exact k0)))
            clear hKt_6 Kt_6
            have hHeldt_6 := hHoldt_6 (by decide)
            clear hHoldt_6
            refine take_l 6 59 (v := ?vt_7) rfl rfl (by kernel_rfl) (by kernel_rfl) (by kernel_rfl) (by kernel_rfl) (fun _ _ _ h => h) (by rfl) ?yt_7 (by assumption) ?rt_7
            case yt_7 => (intro w hSw; (try dsimp only at hSw); go_simp; (try with_reducible rfl))
            simp only [Act.put, List.setIfInBounds_toArray]
            refine one_l 7 rfl (by kernel_rfl) (fun Kt_8 hKt_8 => ?ct_8)
            go_simp
            skip
            go_wp2_with fail
            refine hKt_8.out _ _ ?kt_8 (fun hHoldt_8 => ?dt_8)
            case kt_8 => exact fun h => absurd rfl h
            clear hKt_8 Kt_8
            clear hHoldt_8
            refine done_l (by kernel_rfl) ?et _
            have HF9 := Lib.hid (few_snoc HF.out HFn.out)
            have HN9 := Lib.hid (show DkW w g (P + 15000) (w.heap.size + 1) ⟨x.notes ++ [n7], x.safe⟩ (w9.setCell ⟨w.heap.size + 1, 0, none⟩ (.slice A9 (x.notes.length + 1) c9)) from ⟨A9, c9, _, by have h := HC9.out.more (P' := P + 15000) (by omega); rw [show x.notes.length + 1 = (x.notes ++ [n7]).length by simp] at h ⊢; exact h⟩)
            clear HC6 HCd HC7 HC8 HQ HC9 HX9 k0 k1 k2 k3 f9
            go_wp2
            go_meet
            case rel => exact ⟨_, few_le HF9.out (by omega), HN9.out⟩
          · have e0 : (m == 0) = false := by simp [h0]
            have e1 : (m == 1) = false := by simp [h1]
            clear h0 h1 hm0 hm1
            go_wp2
            go_loopw [] (fun wr => ∃ x : Disk, FewD 121 x ∧ DkW w g (P + 15000) (w.heap.size + 1) x wr) (fun wr => 121 - boxN wr (w.heap.size + 1))
            case atStart => exact ⟨x, few_le HF.out (by omega), _, _, _, HC6.out.more (by omega)⟩
            case round =>
              clear HC6 HF
              obtain ⟨x2, hf, A2, c2, S2, hC⟩ := hrel
              have HC := Lib.hid hC
              have HF := Lib.hid hf
              have d3 := hC.hx.of 0 _ rfl
              have HL := Lib.hid (boxN_at d3)
              clear hC hf
              by_cases hlt : x2.notes.length ≤ 120
              · have H7 := Lib.hid (HC.out.then_ (belowOne wr (.cells #[.int .i64 3, .int .i64 0, .slice none 0 0, .slice none 0 0] 36)))
                have HQ := Lib.hid (show noteSh.own (wr.alloc (.cells #[.int .i64 3, .int .i64 0, .slice none 0 0, .slice none 0 0] 36)) (fun _ => False) [.int .i64 3, .int .i64 0, .slice none 0 0, .slice none 0 0] ⟨3, 0, [], []⟩ from note_own.2 ⟨_, _, fun _ => False, fun _ => False, rfl, Sh.Own.nil _ _, Sh.Own.nil _ _, fun _ h => h.elim, fun _ h => h.elim, fun _ h => h.elim⟩)
                go_wp2_with (at_builtin; refine wpl_one noteSh 23 36 _ 64 Try.underlying23 infoNoteA rfl (by decide) (by omega) rfl (.tmp 34) (.tmp 36) rfl S2 (fun _ => False) _ x2.notes rfl H7.out.own wr.heap.size rfl _ ⟨3, 0, [], []⟩ HQ.out (Held.new wr _ _) (fun b hb h => h) (by omega) ?_; intro v8 w8 ho8 hg8 _; obtain ⟨A8, c8, hf8, -, -⟩ := ho8.row.form; rw [List.length_append, List.length_singleton] at hf8; subst hf8; have H8 := Lib.hid (H7.out.put (S' := fun _ => False) (fun b hb => hb.elim) ho8 hg8); have HX8 := Lib.hid (H7.out.hx.outs (Outs.of_grown (S := S2) hg8 H7.out.own.blk) (fun e => (H7.out.st _ e).2.2 rfl)); have x8 := HX8.out.of 0 _ rfl; have f8 := HX8.out.2.1 0; clear ho8 hg8)
                have h8 := H8.out
                have hl8 := boxN_at (h8.hx.of 0 _ rfl)
                exact ⟨⟨⟨x2.notes ++ [⟨3, 0, [], []⟩], x2.safe⟩, few_le (few_snoc (m := 120) ⟨hlt, HF.out.2⟩ ⟨by simp, by simp, fun _ h => absurd h (by simp), fun _ h => absurd h (by simp)⟩) (by omega), A8, c8, _, by rw [show (x2.notes ++ [(⟨3, 0, [], []⟩ : Note)]).length = x2.notes.length + 1 by simp]; exact h8⟩, by rw [HL.out, hl8]; omega⟩
              · have hfl : ¬ ((x2.notes.length : Int) ≤ 120) := by omega
                go_wp2
                go_meet
                case rel => exact ⟨x2, HF.out, _, _, _, HC.out⟩
      case rest =>
        obtain ⟨x, hfew, A2, c2, S2, hC⟩ := hcut
        have HC := Lib.hid hC
        have HF := Lib.hid hfew
        clear hC hfew
        have x0 := HC.out.hx.of 0 _ rfl
        have x1 := HC.out.hx.of 1 _ rfl
        have y0 := HC.out.hr.of 0 _ rfl
        have y1 := HC.out.hr.of 1 _ rfl
        have yf := HC.out.hr.2.1
        go_wp2
        have HN := Lib.hid ((HC.out.dr.setCell (p := ⟨w.heap.size, 0, none⟩) (Nat.le_refl _) hgw (.slice A2 x.notes.length c2)).setCell (p := ⟨w.heap.size, 1, none⟩) (Nat.le_refl _) hgw (.int .i64 x.safe))
        have HQ := HC.out.hr.put2 (.slice A2 x.notes.length c2) (.int .i64 x.safe)
        have q0 := HQ.of 0 _ rfl
        have q1 := HQ.of 1 _ rfl
        refine bodyPost_ret (v := .agg #[.slice A2 x.notes.length c2, .int .i64 x.safe]) (by simp only [results, Try.results58, go_sem]; simp [go_sem, q0, q1]) rfl ⟨_, x, rfl, HF.out, ?_, HN.out.1.more (by omega), HN.out.2⟩
        exact disk_own.2 ⟨_, rfl, (HC.out.own.keep (w' := put2 wc w.heap.size (.slice A2 x.notes.length c2) (.int .i64 x.safe)) fun b hb _ => put2_far _ _ _ _ (by have := HC.out.st b hb; omega)).mono (fun b hb => by have h1 := HC.out.st b hb; have h2 := put2_size wc w.heap.size (.slice A2 x.notes.length c2) (.int .i64 x.safe); exact ⟨by omega, by show b < (put2 wc w.heap.size (.slice A2 x.notes.length c2) (.int .i64 x.safe)).heap.size; omega⟩)⟩

end Go.Proofs.Ytkamlibfcakblaa
