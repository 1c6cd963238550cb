/- What DrawDiskFall draws. By drawdisk3gen.py. -/
import Derived.Test.YtllmmhibmgpehaaXDrawDisk
import Derived.Test.YtllmmhibmgpehaaXDrawOpen
import Derived.Test.YtllmmhibmgpehaaXDrawKey
namespace Go.Proofs.Ytllmmhibmgpehaa
open Go.RowKit

/-- As rowIn and atIn: behind the reader. -/
def rowUp (w : World) (g n : Nat) (lo hi : Int) (u : Value) : Prop := ∃ B, u = .slice (some ⟨B, 0, none⟩) n n ∧ g < B ∧ B < w.heap.size ∧ ∀ j, j < n → ∃ x, w.cell? ⟨B, j, none⟩ = some x ∧ intIn lo hi x
def atUp (w : World) (g : Nat) (lo hi : Int) (u : Value) : Prop := ∃ B j x, u = .pointer (some ⟨B, j, none⟩) ∧ g < B ∧ B < w.heap.size ∧ w.cell? ⟨B, j, none⟩ = some x ∧ intIn lo hi x
theorem rowUp_stable {w w' : World} {g n : Nat} {lo hi : Int} {u : Value} (h : w.grownBy w' (some g)) : rowUp w g n lo hi u → rowUp w' g n lo hi u := by
  rintro ⟨B, h1, h2, h3, h4⟩
  have hz := h.size
  exact ⟨B, h1, h2, by omega, fun j hj => by rw [World.cell?_of_block (h.block B h3 (fun e => by have := Option.some.inj e; omega))]; exact h4 j hj⟩
theorem atUp_stable {w w' : World} {g : Nat} {lo hi : Int} {u : Value} (h : w.grownBy w' (some g)) : atUp w g lo hi u → atUp w' g lo hi u := by
  rintro ⟨B, j, x, h1, h2, h3, h4, h5⟩
  have hz := h.size
  exact ⟨B, j, x, h1, h2, by omega, by rw [World.cell?_of_block (h.block B h3 (fun e => by have := Option.some.inj e; omega))]; exact h4, h5⟩
theorem rowUp_lit {w : World} {g : Nat} {lo hi : Int} (l : List Int) (hg : g < w.heap.size) (hl : ∀ x ∈ l, lo ≤ x ∧ x < hi) : rowUp (w.alloc (.cells (l.map (Value.int .i64)).toArray 3)) g l.length lo hi (.slice (some ⟨w.heap.size, 0, none⟩) l.length l.length) := by
  refine ⟨w.heap.size, rfl, hg, by simp, fun j hj => ⟨.int .i64 l[j], ?_, l[j], rfl, hl _ (List.getElem_mem hj)⟩⟩
  exact (Held.new w (l.map (Value.int .i64)).toArray 3).of j _ (by simp [hj])
def flGood (g : Nat)  (i : Nat) (w : World) (u : Value) : Prop :=
  match i with
  | 0 => u = .pointer (some ⟨g, 0, none⟩)
  | 1 => ∃ c0 c1 x, u = .agg #[c0, c1] ∧ FewD 121 x ∧ diskSh.own w (fun b => g < b ∧ b < w.heap.size) [c0, c1] x
  | 2 => u = .pointer (some ⟨g, 0, none⟩)
  | 3 => intIn (0) (6) u
  | 4 => rowUp w g 3 (-1) (9223372036854775808) u
  | 5 => rowUp w g 5 (0) (3) u
  | 6 => u = .pointer (some ⟨g, 0, none⟩)
  | 7 => intIn (0) (5) u
  | 8 => atUp w g (0) (3) u
  | 9 => intIn (0) (3) u
  | 10 => atUp w g (-1) (9223372036854775808) u
  | 11 => intIn (-1) (9223372036854775808) u
  | _ => True
theorem flGood_stable {g : Nat}  {w w' : World} (h : w.grownBy w' (some g)) (i : Nat) (u : Value) (hg : flGood g  i w u) : flGood g  i w' u := by
  match i, hg with
  | 0, hg => exact hg
  | 1, ⟨c0, c1, x, e, h1, h2⟩ => exact ⟨c0, c1, x, e, h1, diskSh.omono (diskSh.okeep h2 fun b hb hlt => h.block b hlt fun e => by have := Option.some.inj e; have := hb.1; omega) fun b hb => ⟨hb.1, Nat.lt_of_lt_of_le hb.2 h.size⟩⟩
  | 2, hg => exact hg
  | 3, hg => exact hg
  | 4, hg => exact rowUp_stable h hg
  | 5, hg => exact rowUp_stable h hg
  | 6, hg => exact hg
  | 7, hg => exact hg
  | 8, hg => exact atUp_stable h hg
  | 9, hg => exact hg
  | 10, hg => exact atUp_stable h hg
  | 11, hg => exact hg
  | k + 12, _ => exact trivial
def flCnt (L : Nat → Bool) : Int := (if L 1 then 20000 else 0) + (if L 3 then 1 else 0) + (if L 7 then 1 else 0)
theorem flCnt_same {L : Nat → Bool} {i : Nat} (h1 : i ≠ 1) (h3 : i ≠ 3) (h7 : i ≠ 7) : flCnt (upd L i true) = flCnt L := by
  unfold flCnt
  rw [upd_other _ _ (Ne.symm h1), upd_other _ _ (Ne.symm h3), upd_other _ _ (Ne.symm h7)]
theorem flCnt_1 {L : Nat → Bool} (hL : L 1 = false) : flCnt (upd L 1 true) = flCnt L + 20000 := by
  unfold flCnt
  simp [upd, hL] <;> omega
theorem flCnt_3 {L : Nat → Bool} (hL : L 3 = false) : flCnt (upd L 3 true) = flCnt L + 1 := by
  unfold flCnt
  simp [upd, hL] <;> omega
theorem flCnt_7 {L : Nat → Bool} (hL : L 7 = false) : flCnt (upd L 7 true) = flCnt L + 1 := by
  unfold flCnt
  simp [upd, hL] <;> omega
theorem flCnt_bound (L : Nat → Bool) : 0 ≤ flCnt L ∧ flCnt L ≤ 20002 := by
  unfold flCnt; repeat' split
  all_goals omega
theorem flGood_far {g q : Nat} {w : World} {a b : Value} (hq : q < g) (i : Nat) (u : Value) (hg : flGood g i w u) : flGood g i (put2 w q a b) u := by
  have hs := put2_size w q a b
  match i, hg with
  | 0, hg => exact hg
  | 1, ⟨c0, c1, x, e, h1, h2⟩ => exact ⟨c0, c1, x, e, h1, diskSh.omono (diskSh.okeep h2 fun b hb _ => put2_far _ _ _ _ (by have := hb.1; omega)) fun b hb => ⟨hb.1, by rw [hs]; exact hb.2⟩⟩
  | 2, hg => exact hg
  | 3, hg => exact hg
  | 4, ⟨B, h1, h2, h3, h4⟩ => exact ⟨B, h1, h2, by rw [hs]; exact h3, fun j hj => by rw [World.cell?_of_block (a := ⟨B, j, none⟩) (put2_far w q a b (by show B ≠ q; omega))]; exact h4 j hj⟩
  | 5, ⟨B, h1, h2, h3, h4⟩ => exact ⟨B, h1, h2, by rw [hs]; exact h3, fun j hj => by rw [World.cell?_of_block (a := ⟨B, j, none⟩) (put2_far w q a b (by show B ≠ q; omega))]; exact h4 j hj⟩
  | 6, hg => exact hg
  | 7, hg => exact hg
  | 8, ⟨B, j, x, h1, h2, h3, h4, h5⟩ => exact ⟨B, j, x, h1, h2, by rw [hs]; exact h3, by rw [World.cell?_of_block (a := ⟨B, j, none⟩) (put2_far w q a b (by show B ≠ q; omega))]; exact h4, h5⟩
  | 9, hg => exact hg
  | 10, ⟨B, j, x, h1, h2, h3, h4, h5⟩ => exact ⟨B, j, x, h1, h2, by rw [hs]; exact h3, by rw [World.cell?_of_block (a := ⟨B, j, none⟩) (put2_far w q a b (by show B ≠ q; omega))]; exact h4, h5⟩
  | 11, hg => exact hg
  | k + 12, _ => exact trivial

/-- The answer's box, ahead of the store and behind it. -/
def FlB (w : World) (g : Nat) (b : Bool) (u : Value) (W : World) : Prop :=
  (w.heap.size < g ∧ g < W.heap.size) ∧ Below w.heap.size w W ∧ ∃ c0 c1, Held W w.heap.size [c0, c1] ∧ (b = true → u = .agg #[c0, c1]) ∧ (b = false → c0 = .slice none 0 0 ∧ c1 = .int .i64 0)
theorem FlB.trans {w W W' : World} {g : Nat} {b : Bool} {u : Value} (h : FlB w g b u W) (hg : W.grownBy W' (some g)) : FlB w g b u W' := by
  obtain ⟨h0, h1, c0, c1, h2, h3⟩ := h
  exact ⟨⟨h0.1, Nat.lt_of_lt_of_le h0.2 hg.size⟩, h1.grown hg h1.size (fun k hk => by have := Option.some.inj hk; omega), c0, c1, h2.outs (Outs.of_grown (S := fun k => k = g) hg (fun k e => (Option.some.inj e).symm)) (by omega), h3⟩
theorem FlB.same {w W : World} {g : Nat} {b : Bool} {u u' : Value} (h : FlB w g b u W) (he : b = true → u' = u) : FlB w g b u' W := by
  obtain ⟨h0, h1, c0, c1, h2, h3, h4⟩ := h
  exact ⟨h0, h1, c0, c1, h2, fun e => (he e).trans (h3 e), h4⟩
/-- What DrawDiskFall leaves. -/
def DrewDF (w : World) (e : Ending) (w' : World) : Prop :=
  ∃ cs x k, e = .returned (.tuple #[.agg (List.toArray cs), .int .i64 k]) ∧ FewD 121 x ∧ diskSh.own w' (fun b => w.heap.size ≤ b ∧ b < w'.heap.size) cs x ∧ Below w.heap.size w w'
def flInv (w : World) (g : Nat) (L : Nat → Bool) (U : Nat → Value) (W : World) : Prop :=
  (∀ j, L j = true → flGood g j W (U j)) ∧ (L 12 = false → Rds W g (0 + flCnt L)) ∧ FlB w g (L 12) (U 1) W ∧ (L 12 = true → L 1 = true) ∧ (L 13 = true → ∃ k, U 13 = .int .i64 k)
theorem flStep {w : World} {g : Nat} {L : Nat → Bool} {U : Nat → Value} {W W' : World} {i : Nat} {u : Value} (hi : i < 12) (hLi : L i = false) (h1 : L 12 = true → L 1 = true) (h13 : L 13 = true → ∃ k, U 13 = .int .i64 k) (hG : ∀ j, L j = true → flGood g j W (U j)) (hst : ∀ j u, flGood g j W u → flGood g j W' u) (hu : flGood g i W' u)
    (hR : L 12 = false → Rds W' g (0 + flCnt (upd L i true))) (hg : FlB w g (L 12) (U 1) W') : flInv w g (upd L i true) (upd U i u) W' := by
  have e : upd L i true 12 = L 12 := upd_other _ _ (by omega)
  have e13 : upd L i true 13 = L 13 := upd_other _ _ (by omega)
  refine ⟨RInv.next (Good := fun j W u => flGood g j W u) hG (fun j x h => hst j x h) hu, by rw [e]; exact hR, ?_, fun h => ?_, fun h => ?_⟩
  · rw [e]
    refine hg.same fun h => upd_other _ _ fun e1 => ?_
    have := h1 h
    rw [e1, hLi] at this; cases this
  · rw [e] at h
    by_cases e1 : 1 = i
    · rw [← e1]; simp [upd]
    · rw [upd_other _ _ e1]; exact h1 h
  · rw [e13] at h
    rw [upd_other _ _ (by omega)]; exact h13 h

set_option maxRecDepth 100000 in
set_option maxHeartbeats 4000000 in
theorem drawDiskFall_any (w : World) (v : Value) (n : Nat) (hv : Code8 w v n) : Calls Try.prog 52 #[v] w (DrewDF w) := by
  have HV := Lib.hid (hv.below (belowOne w (.cells #[.slice none 0 0, .int .i64 0] 45)))
  have HH := Lib.hid (Held.new w #[.slice none 0 0, .int .i64 0] 45)
  clear hv
  go_enter Try.func52, Try.ntmps52
  go_wp2_with fail
  refine (l20Open_any _ _ _ HV.out).mono ?_
  rintro e w1 ⟨rfl, hr, hb1⟩
  have HH1 := Lib.hid (HH.out.below hb1 HH.out.1)
  have HB1 := Lib.hid (belowNext (belowOne _ _) hb1)
  simp only [allocSize] at hr
  obtain ⟨g, hg⟩ : ∃ g, w.heap.size + 1 = g := ⟨_, rfl⟩
  rw [hg] at hr
  have hqg : w.heap.size < g := by omega
  have HR := Lib.hid (show Rds w1 g 0 from ⟨0, by omega, by omega, hr⟩)
  clear hr hb1 HH HV
  simp only [allocSize, hg]
  go_upto_region 2 with fail
  refine wp_region_inv4 (by kernel_rfl) (fun L a W => ∃ U : Nat → Value, a = { tmps := #[v, undef, .pointer (some ⟨w.heap.size, 0, none⟩), U 13, .pointer (some ⟨g, 0, none⟩), v, .pointer (some ⟨g, 0, none⟩), U 0, U 1, U 2, U 3, U 4, U 5, U 6, U 7, U 8, U 9, U 10, U 11], defers := [] } ∧ flInv w g L U W) (by kernel_rfl) ?h0 ?hstep ?hend
  case h0 => exact ⟨fun j => if j = 13 then .int .i64 0 else undef, rfl, fun j h => absurd h (by simp), fun _ => by have h := HR.out; exact Rds.more (w := w1.drew) h (by have := flCnt_bound (fun _ => false); omega), ⟨⟨hqg, HR.out.lt⟩, HB1.out.drew, _, _, HH1.out, fun h => absurd h (by simp), fun _ => ⟨rfl, rfl⟩⟩, fun h => absurd h (by simp), fun h => absurd h (by simp)⟩
  case hstep =>
    rintro L a W i o ho hLi hpre hdn ⟨U, rfl, hG, hRd, hGr, h12, h13⟩ K hK
    have hi : i < 14 := (Array.getElem?_eq_some_iff.1 ho).1
    have hd1 : L 12 = true → L 1 = true := hdn.reach 4 12 1 (by kernel_rfl)
    have hd3 : L 12 = true → L 3 = true := hdn.reach 4 12 3 (by kernel_rfl)
    have hd7 : L 12 = true → L 7 = true := hdn.reach 4 12 7 (by kernel_rfl)
    clear hdn
    have HK := Lib.hid hK
    clear hK
    have hcb := flCnt_bound L
    have HG := Lib.hid hG
    have HRd := Lib.hid hRd
    have HGr := Lib.hid hGr
    have hgW := hGr.1.2
    clear hG hRd hGr
    rcases (by omega : i = 0 ∨ i = 1 ∨ i = 2 ∨ i = 3 ∨ i = 4 ∨ i = 5 ∨ i = 6 ∨ i = 7 ∨ i = 8 ∨ i = 9 ∨ i = 10 ∨ i = 11 ∨ i = 12 ∨ i = 13) with rfl | rfl | rfl | rfl | rfl | rfl | rfl | rfl | rfl | rfl | rfl | rfl | rfl | rfl
    all_goals (simp at ho; subst ho; simp [Region.binds] at hpre)
    · go_simp
      exact HK.out _ _ ⟨upd U 0 (.pointer (some ⟨g, 0, none⟩)), by simp [upd], flStep (by decide) hLi h12 h13 HG.out (fun _ _ h => h) (rfl) (fun h12f => (HRd.out h12f).more (by rw [flCnt_same (by decide) (by decide) (by decide)]; omega)) (HGr.out)⟩
    · have e0 : U 0 = .pointer (some ⟨g, 0, none⟩) := HG.out 0 (by simp [hpre])
      have HC := Lib.hid (flCnt_1 hLi)
      have hf12 : L 12 = false := by
        cases h : L 12 with
        | false => rfl
        | true => have := hd1 h; rw [hLi] at this; cases this
      go_simp
      go_wp2_with (go_at_call 102; refine (l20Disk_any _ g _ _ (HRd.out hf12) (by omega) (by omega) (by omega)).mono ?_; rintro e w' ⟨cs, x, rfl, hfd, ho, hd⟩; obtain ⟨uu, rfl, hu⟩ := disk_own.1 ho)
      exact HK.out _ _ ⟨upd U 1 (.agg #[uu, .int .i64 x.safe]), by simp [upd, e0], flStep (by decide) hLi h12 h13 HG.out (fun j u h => flGood_stable hd.2 j u h) (⟨uu, .int .i64 x.safe, x, rfl, hfd, diskSh.omono ho fun b hb => ⟨by have := hb.1; omega, hb.2⟩⟩) (fun _ => hd.1.more (by rw [HC.out]; omega)) (HGr.out.trans hd.2)⟩
    · go_simp
      exact HK.out _ _ ⟨upd U 2 (.pointer (some ⟨g, 0, none⟩)), by simp [upd], flStep (by decide) hLi h12 h13 HG.out (fun _ _ h => h) (rfl) (fun h12f => (HRd.out h12f).more (by rw [flCnt_same (by decide) (by decide) (by decide)]; omega)) (HGr.out)⟩
    · have hf12 : L 12 = false := by
        cases h : L 12 with
        | false => rfl
        | true => have := hd3 h; rw [hLi] at this; cases this
      have e1 : U 2 = .pointer (some ⟨g, 0, none⟩) := HG.out 2 (by simp [hpre])
      have HC := Lib.hid (flCnt_3 hLi)
      go_simp
      go_wp2_with (go_at_call 104; refine (pick_rds _ g _ _ (HRd.out hf12) (by omega) (by omega)).mono ?_; rintro e w' ⟨m, rfl, hm0, hm1, hd⟩)
      exact HK.out _ _ ⟨upd U 3 (.int .i64 m), by simp [upd, e1], flStep (by decide) hLi h12 h13 HG.out (fun j u h => flGood_stable hd.2 j u h) (⟨m, rfl, hm0, by have := hm1 (by omega); omega⟩) (fun _ => hd.1.more (by rw [HC.out]; omega)) (HGr.out.trans hd.2)⟩
    · obtain ⟨m3, e3, ha3, hb3⟩ := HG.out 3 (by simp [hpre])
      have hz := hgW
      have hrow := rowUp_lit (w := W) (g := g) (lo := -1) (hi := 9223372036854775808) [m3, (-1), (9223372036854775807)] hz (by simp; omega)
      have HRw := Lib.hid hrow
      clear hrow
      go_simp
      exact HK.out _ _ ⟨upd U 4 (.slice (some ⟨W.heap.size, 0, none⟩) 3 3), by simp [upd, e3], flStep (by decide) hLi h12 h13 HG.out (fun j u h => flGood_stable (World.grownBy_alloc _ _ _) j u h) (HRw.out) (fun h12f => (Rds.alloc (HRd.out h12f) _).more (by rw [flCnt_same (by decide) (by decide) (by decide)]; omega)) (HGr.out.trans (World.grownBy_alloc _ _ _))⟩
    · have hz := hgW
      have hrow := rowUp_lit (w := W) (g := g) (lo := 0) (hi := 3) [(0), (0), (0), (1), (2)] hz (by decide)
      have HRw := Lib.hid hrow
      clear hrow
      go_simp
      exact HK.out _ _ ⟨upd U 5 (.slice (some ⟨W.heap.size, 0, none⟩) 5 5), by simp [upd], flStep (by decide) hLi h12 h13 HG.out (fun j u h => flGood_stable (World.grownBy_alloc _ _ _) j u h) (HRw.out) (fun h12f => (Rds.alloc (HRd.out h12f) _).more (by rw [flCnt_same (by decide) (by decide) (by decide)]; omega)) (HGr.out.trans (World.grownBy_alloc _ _ _))⟩
    · go_simp
      exact HK.out _ _ ⟨upd U 6 (.pointer (some ⟨g, 0, none⟩)), by simp [upd], flStep (by decide) hLi h12 h13 HG.out (fun _ _ h => h) (rfl) (fun h12f => (HRd.out h12f).more (by rw [flCnt_same (by decide) (by decide) (by decide)]; omega)) (HGr.out)⟩
    · have hf12 : L 12 = false := by
        cases h : L 12 with
        | false => rfl
        | true => have := hd7 h; rw [hLi] at this; cases this
      have e1 : U 6 = .pointer (some ⟨g, 0, none⟩) := HG.out 6 (by simp [hpre])
      have HC := Lib.hid (flCnt_7 hLi)
      go_simp
      go_wp2_with (go_at_call 104; refine (pick_rds _ g _ _ (HRd.out hf12) (by omega) (by omega)).mono ?_; rintro e w' ⟨m, rfl, hm0, hm1, hd⟩)
      exact HK.out _ _ ⟨upd U 7 (.int .i64 m), by simp [upd, e1], flStep (by decide) hLi h12 h13 HG.out (fun j u h => flGood_stable hd.2 j u h) (⟨m, rfl, hm0, by have := hm1 (by omega); omega⟩) (fun _ => hd.1.more (by rw [HC.out]; omega)) (HGr.out.trans hd.2)⟩
    · obtain ⟨B, e0, hB1, hB2, hB3⟩ := HG.out 5 (by simp [hpre])
      obtain ⟨m, e1, hm0, hm1⟩ := HG.out 7 (by simp [hpre])
      obtain ⟨k, rfl⟩ := Int.eq_ofNat_of_zero_le (show 0 ≤ m by omega)
      have hk : k < 5 := by omega
      have hk0 : (0 : Int) ≤ (k : Int) := by omega
      have hk1 : (k : Int) < 5 := by omega
      obtain ⟨x, hx, hxs⟩ := hB3 k hk
      have HB := Lib.hid (And.intro hx hxs)
      clear hB3 hm0 hx hxs
      go_simp
      exact HK.out _ _ ⟨upd U 8 (.pointer (some ⟨B, k, none⟩)), by simp [upd, e0, e1], flStep (by decide) hLi h12 h13 HG.out (fun _ _ h => h) (⟨B, k, x, rfl, hB1, hB2, HB.out.1, HB.out.2⟩) (fun h12f => (HRd.out h12f).more (by rw [flCnt_same (by decide) (by decide) (by decide)]; omega)) (HGr.out)⟩
    · obtain ⟨B, j, x, e1, hB1, hB2, hx, m, rfl, hm0, hm1⟩ := HG.out 8 (by simp [hpre])
      go_simp
      exact HK.out _ _ ⟨upd U 9 (.int .i64 m), by simp [upd, e1], flStep (by decide) hLi h12 h13 HG.out (fun _ _ h => h) (⟨m, rfl, hm0, hm1⟩) (fun h12f => (HRd.out h12f).more (by rw [flCnt_same (by decide) (by decide) (by decide)]; omega)) (HGr.out)⟩
    · obtain ⟨B, e0, hB1, hB2, hB3⟩ := HG.out 4 (by simp [hpre])
      obtain ⟨m, e1, hm0, hm1⟩ := HG.out 9 (by simp [hpre])
      obtain ⟨k, rfl⟩ := Int.eq_ofNat_of_zero_le (show 0 ≤ m by omega)
      have hk : k < 3 := by omega
      have hk0 : (0 : Int) ≤ (k : Int) := by omega
      have hk1 : (k : Int) < 3 := by omega
      obtain ⟨x, hx, hxs⟩ := hB3 k hk
      have HB := Lib.hid (And.intro hx hxs)
      clear hB3 hm0 hx hxs
      go_simp
      exact HK.out _ _ ⟨upd U 10 (.pointer (some ⟨B, k, none⟩)), by simp [upd, e0, e1], flStep (by decide) hLi h12 h13 HG.out (fun _ _ h => h) (⟨B, k, x, rfl, hB1, hB2, HB.out.1, HB.out.2⟩) (fun h12f => (HRd.out h12f).more (by rw [flCnt_same (by decide) (by decide) (by decide)]; omega)) (HGr.out)⟩
    · obtain ⟨B, j, x, e1, hB1, hB2, hx, m, rfl, hm0, hm1⟩ := HG.out 10 (by simp [hpre])
      go_simp
      exact HK.out _ _ ⟨upd U 11 (.int .i64 m), by simp [upd, e1], flStep (by decide) hLi h12 h13 HG.out (fun _ _ h => h) (⟨m, rfl, hm0, hm1⟩) (fun h12f => (HRd.out h12f).more (by rw [flCnt_same (by decide) (by decide) (by decide)]; omega)) (HGr.out)⟩
    · obtain ⟨c0, c1, x, e1, hf, hown⟩ := HG.out 1 (by simp [hpre])
      obtain ⟨uu, hcc, hrw⟩ := disk_own.1 hown
      injection hcc with hca hcb0
      injection hcb0 with hcb0 _
      subst hca hcb0
      obtain ⟨A1, n1, rfl, -, -⟩ := hrw.row.form
      obtain ⟨-, hbel, b0, b1, hq, -, -⟩ := HGr.out
      have x0 := hq.of 0 _ rfl
      have x1 := hq.of 1 _ rfl
      have xf := hq.2.1
      have HB3 := Lib.hid (belowPut2 hbel w.heap.size (Nat.le_refl _) (.slice A1 x.notes.length n1) (.int .i64 x.safe))
      have HQ3 := Lib.hid (hq.put2 (.slice A1 x.notes.length n1) (.int .i64 x.safe))
      have HG3 := Lib.hid (show ∀ j, upd L 12 true j = true → flGood g j W (U j) from by
        intro j hj
        by_cases hj2 : j = 12
        · subst hj2; exact trivial
        · rw [upd_other _ _ hj2] at hj; exact HG.out j hj)
      clear hbel hq
      go_simp
      exact HK.out _ _ ⟨U, by simp [e1], fun j hj => flGood_far hqg j _ (HG3.out j hj), fun h => absurd h (by simp [upd]), ⟨⟨hqg, Nat.lt_of_lt_of_eq hgW (put2_size W w.heap.size (.slice A1 x.notes.length n1) (.int .i64 x.safe)).symm⟩, HB3.out, _, _, HQ3.out, fun _ => e1, fun h => absurd h (by simp [upd])⟩, fun _ => by rw [upd_other _ _ (by omega)]; simp [hpre], fun h => by rw [upd_other _ _ (by omega)] at h; exact h13 h⟩
    · obtain ⟨m, e1, hm0, hm1⟩ : intIn (-1) 9223372036854775808 (U 11) := HG.out 11 (by simp [hpre])
      have HG3 := Lib.hid (show ∀ j, upd L 13 true j = true → flGood g j W (upd U 13 (.int .i64 m) j) from by
        intro j hj
        by_cases hj2 : j = 13
        · subst hj2; exact trivial
        · rw [upd_other _ _ hj2] at hj ⊢; exact HG.out j hj)
      go_simp
      exact HK.out _ _ ⟨upd U 13 (.int .i64 m), by simp [upd, e1], HG3.out, fun h => (HRd.out (by rwa [upd_other _ _ (by omega)] at h)).more (by rw [flCnt_same (by decide) (by decide) (by decide)]; omega), by rw [upd_other _ _ (by omega), upd_other _ _ (by omega)]; exact HGr.out, fun h => by rw [upd_other _ _ (by omega)] at h ⊢; exact h12 h, fun _ => ⟨m, by simp [upd]⟩⟩
  case hend =>
    rintro L a W hL ⟨U, rfl, hG, -, hGr, -, h13⟩
    obtain ⟨c0, c1, x, e1, hf, hown⟩ := hG 1 (hL 1 (by decide))
    obtain ⟨-, hbel, b0, b1, hq, h12, -⟩ := hGr
    obtain ⟨k, e13⟩ := h13 (hL 13 (by decide))
    have e2 := h12 (hL 12 (by decide))
    rw [e1] at e2
    injection e2 with e2
    injection e2 with e2
    injection e2 with e2a e2
    injection e2 with e2b _
    subst e2a e2b
    have q0 := hq.of 0 _ rfl
    have q1 := hq.of 1 _ rfl
    have HO := Lib.hid hown
    have HBe := Lib.hid hbel
    clear hG hL hown hbel
    rw [e13]
    go_wp2
    refine bodyPost_ret (v := .tuple #[.agg #[c0, c1], .int .i64 k]) (by simp only [results, Try.results52, go_sem]; simp [go_sem, q0, q1]) rfl ⟨[c0, c1], x, k, rfl, hf, diskSh.omono HO.out (fun b hb => ⟨by omega, hb.2⟩), HBe.out⟩

end Go.Proofs.Ytllmmhibmgpehaa
