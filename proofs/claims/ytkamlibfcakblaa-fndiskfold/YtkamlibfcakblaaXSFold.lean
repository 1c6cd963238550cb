/- What DiskFold answers, of the model. By sfoldgen.py. -/
import Derived.Test.YtkamlibfcakblaaXShalW
import Derived.Test.YtkamlibfcakblaaXStoDoI
import Derived.Test.YtkamlibfcakblaaXCopyI
import Derived.Test.YtkamlibfcakblaaXJaPlan
import Derived.Deep.CutRange
import Derived.Deep.DeepCutAuto
namespace Go.Proofs.Ytkamlibfcakblaa
open Go.RowKit

theorem cellUnder {w w' : World} {b o : Nat} {u : Value} (hb : Below w.heap.size w w') (h : w.cell? ⟨b, o, none⟩ = some u) : w'.cell? ⟨b, o, none⟩ = some u := by
  have hlt : b < w.heap.size := by
    rcases Nat.lt_or_ge b w.heap.size with h' | h'
    · exact h'
    · simp [World.cell?, Array.getElem?_eq_none h'] at h
  exact (World.cell?_of_block (a := ⟨b, o, none⟩) (hb.block b hlt)).trans h
theorem farCell (w : World) (q j b o : Nat) (u : Value) (h : b ≠ q) : (w.setCell ⟨q, j, none⟩ u).cell? ⟨b, o, none⟩ = w.cell? ⟨b, o, none⟩ := World.cell?_setCell_other _ _ _ _ (by intro e; injection e with e1 _; exact h e1.symm)
/-- What holds while the model folds: the argument's box, the result's, the store. -/
structure FsW (w : World) (cs : List Value) (its : List Item) (W : World) : Prop where
  box : Held W w.heap.size cs
  res : Held W (w.heap.size + 1) [.slice none 0 0]
  sto : ∃ A c, Held W (w.heap.size + 1 + 1) [.slice A its.length c] ∧ OwnIt W (w.heap.size + 1 + 1 + 1) (w.heap.size + 1 + 1 + 1 ≤ ·) (.slice A its.length c) its
  bel : Below w.heap.size w W
theorem FsW.below {w : World} {cs : List Value} {its : List Item} {W W' : World} (h : FsW w cs its W) (hb : Below W.heap.size W W') : FsW w cs its W' := by
  obtain ⟨A, c, h1, h2⟩ := h.sto
  exact ⟨h.box.below hb h.box.1, h.res.below hb h.res.1, ⟨A, c, h1.below hb h1.1, h2.below hb⟩, belowNext h.bel hb⟩
theorem FsW.put {w : World} {cs : List Value} {its its' : List Item} {W W' : World} {u : Value} (h : FsW w cs its W) (hb : Below W.heap.size W W') (hu : OwnIt W' W.heap.size (W.heap.size ≤ ·) u its') : FsW w cs its' (W'.setCell ⟨w.heap.size + 1 + 1, 0, none⟩ u) := by
  have hr := h.below hb
  obtain ⟨A, c, h1, h2⟩ := h.sto
  have hz := h1.1
  have hu2 := hu.weaken (lo' := w.heap.size + 1 + 1 + 1) (S' := (w.heap.size + 1 + 1 + 1 ≤ ·)) (by omega) (fun b hb => by omega)
  have hu3 := hu2.setCell (p := ⟨w.heap.size + 1 + 1, 0, none⟩) (by show ¬ (w.heap.size + 1 + 1 + 1 ≤ w.heap.size + 1 + 1); omega) (by show w.heap.size + 1 + 1 < w.heap.size + 1 + 1 + 1; omega) u
  obtain ⟨A', c', hf⟩ : ∃ A' c', u = .slice A' its'.length c' := by
    obtain ⟨A', c', hf, -, -⟩ := hu.items.form
    exact ⟨A', c', hf⟩
  subst hf
  exact ⟨hr.box.farS (by show _ ≠ w.heap.size + 1 + 1; omega) _, hr.res.farS (by show _ ≠ w.heap.size + 1 + 1; omega) _, ⟨A', c', (h1.below hb hz).set_ (i := 0) _, hu3⟩, hr.bel.setCell (by show w.heap.size ≤ w.heap.size + 1 + 1; omega) _⟩
theorem OwnIt.cap {w : World} {lo : Nat} {S : Nat → Prop} {v : Value} {its : List Item} (h : OwnIt w lo S v its) : OwnIt w lo (fun b => S b ∧ b < w.heap.size) v its := by
  obtain ⟨U, h1, h2⟩ := h
  refine ⟨U, h1, fun j it hj => ⟨(h2 j it hj).1, ?_⟩⟩
  obtain ⟨A, c, e, q1, q2, q3⟩ := (h2 j it hj).2
  refine ⟨A, c, e, q1, q2, fun hl => ?_⟩
  obtain ⟨b, off, e2, q4, q5, q6⟩ := q3 hl
  exact ⟨b, off, e2, q4, ⟨⟨q5.1, q4⟩, q5.2⟩, q6⟩
/-- The same, and the store lies ahead of m. -/
structure FsC (w : World) (m : Nat) (cs : List Value) (its : List Item) (W : World) : Prop where
  box : Held W w.heap.size cs
  res : Held W (w.heap.size + 1) [.slice none 0 0]
  sto : ∃ A c, Held W (w.heap.size + 1 + 1) [.slice A its.length c] ∧ OwnIt W (w.heap.size + 1 + 1 + 1) (fun b => w.heap.size + 1 + 1 + 1 ≤ b ∧ b < m) (.slice A its.length c) its ∧ ∀ q, Value.ownBlock (.slice A its.length c) = some q → q < m
  bel : Below w.heap.size w W
  big : w.heap.size + 1 + 1 < m
theorem FsW.cap {w : World} {cs : List Value} {its : List Item} {W : World} (h : FsW w cs its W) : FsC w W.heap.size cs its W := by
  obtain ⟨A, c, h1, h2⟩ := h.sto
  refine ⟨h.box, h.res, ⟨A, c, h1, h2.cap, fun q hq => ?_⟩, h.bel, h1.1⟩
  rcases h2.form with ⟨e, -⟩ | ⟨g, cap, e, -, hg, -⟩
  · rw [e] at hq; cases hq
  · rw [e] at hq; cases hq; exact hg
theorem FsC.below {w : World} {m : Nat} {cs : List Value} {its : List Item} {W W' : World} (h : FsC w m cs its W) (hb : Below W.heap.size W W') : FsC w m cs its W' := by
  obtain ⟨A, c, h1, h2, h3⟩ := h.sto
  exact ⟨h.box.below hb h.box.1, h.res.below hb h.res.1, ⟨A, c, h1.below hb h1.1, h2.below hb, h3⟩, belowNext h.bel hb, h.big⟩
theorem FsC.set_ {w : World} {m : Nat} {cs : List Value} {its : List Item} {W : World} (h : FsC w m cs its W) (j : Nat) (u : Value) : FsC w m cs its (W.setCell ⟨m, j, none⟩ u) := by
  obtain ⟨A, c, h1, h2, h3⟩ := h.sto
  have hm := h.big
  exact ⟨h.box.farS (by show w.heap.size ≠ m; omega) _, h.res.farS (by show w.heap.size + 1 ≠ m; omega) _, ⟨A, c, h1.farS (by show w.heap.size + 1 + 1 ≠ m; omega) _, h2.setCell2 (p := ⟨m, j, none⟩) (by show ¬ (_ ∧ m < m); omega) (fun e => by have := h3 m e; omega) u, h3⟩, h.bel.setCell (p := ⟨m, j, none⟩) (by show w.heap.size ≤ m; omega) _, hm⟩
theorem FsC.toW {w : World} {m : Nat} {cs : List Value} {its : List Item} {W : World} (h : FsC w m cs its W) : FsW w cs its W := by
  obtain ⟨A, c, h1, h2, h3⟩ := h.sto
  exact ⟨h.box, h.res, ⟨A, c, h1, h2.weaken (Nat.le_refl _) (fun b hb => hb.1)⟩, h.bel⟩
/-- What the model answers. -/
def FoldMade (its : List Item) (w : World) (e : Ending) (w' : World) : Prop :=
  ∃ u, e = .returned (.agg #[u]) ∧ OwnIt w' w.heap.size (w.heap.size ≤ ·) u its ∧ Below w.heap.size w w'

set_option maxRecDepth 100000 in
set_option maxHeartbeats 8000000 in
theorem specDiskFold_any (w : World) (cs : List Value) (x : Disk) (h : diskSh.rel w w.heap.size cs x) :
    Calls Try.prog 36 #[.agg cs.toArray] w (FoldMade (foldD x) w) := by
  have HH := Lib.hid fun W (hb : Below w.heap.size w W) => diskSh.rmore (diskSh.rbelow h hb) hb.size
  obtain ⟨u, rfl, hu⟩ := disk_rel.1 h
  obtain ⟨Au, cu, rfl, hcu, hnu⟩ := hu.form
  unfold maxLen at hcu
  have HU := Lib.hid fun W (hb : Below w.heap.size w W) => hu.below hb
  have HO := Lib.hid (show FsW w [.slice Au x.notes.length cu, .int .i64 x.safe] [] (((w.alloc (.cells #[.slice Au x.notes.length cu, .int .i64 x.safe] 25)).alloc (.cells #[.slice none 0 0] 54)).alloc (.cells #[.slice none 0 0] 54)) from
    ⟨((Held.new w #[.slice Au x.notes.length cu, .int .i64 x.safe] 25).after _).after _, (by have h := Held.new (w.alloc (.cells #[.slice Au x.notes.length cu, .int .i64 x.safe] 25)) #[.slice none 0 0] 54; rw [allocSize] at h; exact h.after _),
      ⟨none, 0, (by have h := Held.new ((w.alloc (.cells #[.slice Au x.notes.length cu, .int .i64 x.safe] 25)).alloc (.cells #[.slice none 0 0] 54)) #[.slice none 0 0] 54; rw [allocSize, allocSize] at h; exact h), OwnIt.nil _ _ _⟩, belowThree _ _ _ _⟩)
  clear h hu
  go_enter Try.func36, Try.ntmps36
  go_wp2_with fail
  refine (specDiskOk_any _ _ x (HH.out _ HO.out.bel)).mono ?_
  rintro e w1 ⟨rfl, hb⟩
  replace HO := Lib.hid (HO.out.below hb)
  clear hb
  have b0 := HO.out.box.of 0 _ rfl
  have r0 := HO.out.res.of 0 _ rfl
  have rf := HO.out.res.2.1 0
  rcases hd : diskB x
  · have HE := Lib.hid (foldD_no hd)
    obtain ⟨A0, c0, s1, s2⟩ := HO.out.sto
    have s0 := s1.of 0 _ rfl
    have HQ := Lib.hid (HO.out.res.set_ (i := 0) (.slice A0 0 c0))
    have q0 := HQ.out.of 0 _ rfl
    have H2 := Lib.hid s2
    clear s1 s2
    go_wp2
    refine bodyPost_ret (v := .agg #[.slice A0 0 c0]) (by simp [results, Try.results36, go_sem, q0]) rfl ⟨_, rfl, ?_, HO.out.bel.setCell (by show w.heap.size ≤ w.heap.size + 1; omega) _⟩
    rw [HE.out]
    exact (H2.out.setCell (by show ¬ (w.heap.size + 1 + 1 + 1 ≤ w.heap.size + 1); omega) (by show w.heap.size + 1 < w.heap.size + 1 + 1 + 1; omega) _).weaken (by omega) (fun b hb => by omega)
  · have HE := Lib.hid (foldD_yes hd)
    have HL := Lib.hid (diskB_small hd).1
    have hn120 : x.notes.length ≤ 120 := HL.out
    clear hd b0 r0 rf
    go_wp2
    go_loopw [4] (fun i wr => ∃ k : Nat, k ≤ x.notes.length ∧ i = .int .i64 k ∧ FsW w [.slice Au x.notes.length cu, .int .i64 x.safe] (foldN (x.notes.take k)) wr) (fun i _ => x.notes.length - (intOf i).toNat)
    case atStart => exact ⟨0, Nat.zero_le _, rfl, HO.out⟩
    case round =>
      clear HO
      obtain ⟨k, hk, rfl, hO⟩ := hrel
      have HO := Lib.hid hO
      have c0 := hO.box.of 0 _ rfl
      have c1 := hO.box.of 1 _ rfl
      have hzr : w.heap.size + 1 + 1 < wr.heap.size := by obtain ⟨_, _, h1, _⟩ := hO.sto; exact h1.1
      clear hO
      by_cases hlt : k < x.notes.length
      · have hrow := HU.out wr HO.out.bel
        obtain ⟨b, off, d, y, A1, c1', A2, c2, e1, hy, hbB, d0, d1, d2, d3, hyr⟩ := notes_at2 hrow hlt
        injection e1 with e1a e1b e1c
        subst e1a
        clear e1b e1c hyr
        have HY := Lib.hid hy
        have HT := Lib.hid (foldN_take hy)
        have HD := Lib.hid (Sh.Row.take hrow rfl (show k ≤ x.notes.length by omega))
        clear hy hrow
        by_cases hk2 : y.kind = 2
        · have ek : (y.kind != 2) = false := by simp [hk2]
          have f0 : (0 : Int) ≤ (k : Int) := by omega
          have f1 : (k : Int) ≤ (x.notes.length : Int) := by omega
          have f2 : (k : Int) < (x.notes.length : Int) := by omega
          have f3 : (x.notes.length : Int) ≤ (cu : Int) := by omega
          have f4 : (k : Int) ≤ (cu : Int) := by omega
          replace HT := HT.out
          rw [if_pos hk2] at HT
          clear hk2
          go_upto_region 8 with fail
          go_cut [5, 6] from 26 to 39 (fun u5 u6 wc => ∃ p n q B1 d1 B2 d2, u5 = .pointer (some ⟨p, 0, none⟩) ∧ u6 = .bool q ∧ Held wc p [.int .i64 n.kind, .int .i64 n.tx, .slice B1 n.locks.length d1, .slice B2 n.writes.length d2] ∧ noteSh.rel wc w.heap.size [.int .i64 n.kind, .int .i64 n.tx, .slice B1 n.locks.length d1, .slice B2 n.writes.length d2] n ∧ RdyIs (x.notes.take k) y.tx n q ∧ FsW w [.slice (some ⟨b, off, none⟩) x.notes.length cu, .int .i64 x.safe] (foldN (x.notes.take k)) wc)
          case first =>
            have k0_ : wr.drew.cell? ⟨w.heap.size, 0, none⟩ = some (.slice (some ⟨b, off, none⟩) x.notes.length cu) ∧ wr.drew.cell? ⟨b, off + k * 4 + 1, none⟩ = some (.int .i64 y.tx) := ⟨c0, d1⟩
            have HO0 := HO.out.cap
            clear HO
            have HO := Lib.hid (HO0.below (Below.refl _ wr).drew)
            clear HO0
            have HD2 := Lib.hid (HD.out.below (Below.refl w.heap.size wr).drew)
            have hbw : b < wr.heap.size := by have := HO.out.bel.size; have e : wr.drew.heap.size = wr.heap.size := rfl; omega
            clear c0 c1 d0 d1 d2 d3
            refine wp_region_held_drew (S := (fun w' => w'.cell? ⟨w.heap.size, 0, none⟩ = some (.slice (some ⟨b, off, none⟩) x.notes.length cu) ∧ w'.cell? ⟨b, off + k * 4 + 1, none⟩ = some (.int .i64 y.tx))) (by kernel_rfl) ?hSf (fun hHeldf => ?stf)
            case hSf => (first | (dsimp only; (exact k0_)) | (exact k0_))
            refine take_first 0 27 (v := ?vf_1) rfl rfl (by kernel_rfl) (by kernel_rfl) (by kernel_rfl) (fun _ _ _ h => h) (by rfl) ?yf_1 (by assumption) ?rf_1
            case yf_1 => (intro w hSw; (try dsimp only at hSw); go_simp; (try with_reducible rfl))
            simp only [Act.put, List.setIfInBounds_toArray, List.set_cons_zero, List.set_cons_succ]
            refine take_first 1 28 (v := ?vf_2) rfl rfl (by kernel_rfl) (by kernel_rfl) (by kernel_rfl) (fun _ _ _ h => h) (by rfl) ?yf_2 (by assumption) ?rf_2
            case yf_2 => (intro w hSw; (try dsimp only at hSw); go_simp; (try with_reducible rfl))
            simp only [Act.put, List.setIfInBounds_toArray, List.set_cons_zero, List.set_cons_succ]
            refine take_first 2 29 (v := ?vf_3) rfl rfl (by kernel_rfl) (by kernel_rfl) (by kernel_rfl) (fun _ _ _ h => h) (by rfl) ?yf_3 (by assumption) ?rf_3
            case yf_3 => (intro w hSw; (try dsimp only at hSw); go_simp; (try with_reducible rfl))
            simp only [Act.put, List.setIfInBounds_toArray, List.set_cons_zero, List.set_cons_succ]
            refine take_first 3 30 (v := ?vf_4) rfl rfl (by kernel_rfl) (by kernel_rfl) (by kernel_rfl) (fun _ _ _ h => h) (by rfl) ?yf_4 (by assumption) ?rf_4
            case yf_4 => (intro w hSw; (try dsimp only at hSw); go_simp; (try with_reducible rfl))
            simp only [Act.put, List.setIfInBounds_toArray, List.set_cons_zero, List.set_cons_succ]
            refine take_first 4 31 (v := ?vf_5) rfl rfl (by kernel_rfl) (by kernel_rfl) (by kernel_rfl) (fun _ _ _ h => h) (by rfl) ?yf_5 (by assumption) ?rf_5
            case yf_5 => (intro w hSw; (try dsimp only at hSw); go_simp; (try with_reducible rfl))
            simp only [Act.put, List.setIfInBounds_toArray, List.set_cons_zero, List.set_cons_succ]
            refine take_first 5 32 (v := ?vf_6) rfl rfl (by kernel_rfl) (by kernel_rfl) (by kernel_rfl) (fun _ _ _ h => h) (by rfl) ?yf_6 (by assumption) ?rf_6
            case yf_6 => (intro w hSw; (try dsimp only at hSw); go_simp; (try with_reducible rfl))
            simp only [Act.put, List.setIfInBounds_toArray, List.set_cons_zero, List.set_cons_succ]
            refine take_first 6 33 (v := ?vf_7) rfl rfl (by kernel_rfl) (by kernel_rfl) (by kernel_rfl) (fun _ _ _ h => h) (by rfl) ?yf_7 (by assumption) ?rf_7
            case yf_7 => (intro w hSw; (try dsimp only at hSw); go_simp; (try with_reducible rfl))
            simp only [Act.put, List.setIfInBounds_toArray, List.set_cons_zero, List.set_cons_succ]
            refine take_first 7 34 (v := ?vf_8) rfl rfl (by kernel_rfl) (by kernel_rfl) (by kernel_rfl) (fun _ _ _ h => h) (by rfl) ?yf_8 (by assumption) ?rf_8
            case yf_8 => (intro w hSw; (try dsimp only at hSw); go_simp; (try with_reducible rfl))
            simp only [Act.put, List.setIfInBounds_toArray, List.set_cons_zero, List.set_cons_succ]
            refine take_first 8 35 (v := ?vf_9) rfl rfl (by kernel_rfl) (by kernel_rfl) (by kernel_rfl) (fun _ _ _ h => h) (by rfl) ?yf_9 (by assumption) ?rf_9
            case yf_9 => (intro w hSw; (try dsimp only at hSw); go_simp; (try with_reducible rfl))
            simp only [Act.put, List.setIfInBounds_toArray, List.set_cons_zero, List.set_cons_succ]
            refine take_first 9 36 (v := ?vf_10) rfl rfl (by kernel_rfl) (by kernel_rfl) (by kernel_rfl) (fun _ _ _ h => h) (by rfl) ?yf_10 (by assumption) ?rf_10
            case yf_10 => (intro w hSw; (try dsimp only at hSw); go_simp; (try with_reducible rfl))
            simp only [Act.put, List.setIfInBounds_toArray, List.set_cons_zero, List.set_cons_succ]
            refine wpAnyH_ready (rs := [10, 14]) (by kernel_rfl) (by simp) ?_
            refine AllReadyH.cons (o := _) rfl (fun Kf_12 hKf_12 => ?cf_12) ?mf_12
            case cf_12 =>
              go_simp
              refine (l2Ready_any wr.drew w.heap.size _ (x.notes.take k) y.tx HD2.out (by rw [List.length_take]; omega) (by have := HO.out.bel.size; omega)).mono ?_
              rintro e w5 ⟨n, q, B1, e1, B2, e2, rfl, hrl, hrd, hb5⟩
              have HO5 := Lib.hid (HO.out.below hb5)
              have HRd := Lib.hid hrd
              have HRl := Lib.hid hrl
              have k141_ := And.intro (cellUnder hb5 k0_.1) (cellUnder hb5 k0_.2)
              have hz5 := hb5.size
              clear hb5 hrd hrl
              go_wp2_with fail
              refine hKf_12.out _ _ ?kf_12 (fun hHeldf_12 => ?df_12)
              case kf_12 => (first | (dsimp only; (with_reducible exact k141_)) | (with_reducible exact k141_))
              clear hKf_12 Kf_12
              refine take_first 11 26 (v := ?vf_13) rfl rfl (by kernel_rfl) (by kernel_rfl) (by kernel_rfl) (fun _ _ _ h => h) (by rfl) ?yf_13 (by assumption) ?rf_13
              case yf_13 => (intro w hSw; (try dsimp only at hSw); go_simp; (try with_reducible rfl))
              simp only [Act.put, List.setIfInBounds_toArray, List.set_cons_zero, List.set_cons_succ]
              refine take_first 12 38 (v := ?vf_14) rfl rfl (by kernel_rfl) (by kernel_rfl) (by kernel_rfl) (fun _ _ _ h => h) (by rfl) ?yf_14 (by assumption) ?rf_14
              case yf_14 => (intro w hSw; (try dsimp only at hSw); go_simp; (try with_reducible rfl))
              simp only [Act.put, List.setIfInBounds_toArray, List.set_cons_zero, List.set_cons_succ]
              refine take_first 13 39 (v := ?vf_15) rfl rfl (by kernel_rfl) (by kernel_rfl) (by kernel_rfl) (fun _ _ _ h => h) (by rfl) ?yf_15 (by assumption) ?rf_15
              case yf_15 => (intro w hSw; (try dsimp only at hSw); go_simp; (try with_reducible rfl))
              simp only [Act.put, List.setIfInBounds_toArray, List.set_cons_zero, List.set_cons_succ]
              refine wpAnyH_ready (rs := [14]) (by kernel_rfl) (by simp) ?_
              refine AllReadyH.cons (o := _) rfl (fun Kf_16 hKf_16 => ?cf_16) ?mf_16
              case mf_16 => exact AllReadyH.nil
              go_simp
              have k142_ : (w5.alloc (.cells #[.int .i64 0, .int .i64 0, .slice none 0 0, .slice none 0 0] 36)).cell? ⟨w.heap.size, 0, none⟩ = some (.slice (some ⟨b, off, none⟩) x.notes.length cu) ∧ (w5.alloc (.cells #[.int .i64 0, .int .i64 0, .slice none 0 0, .slice none 0 0] 36)).cell? ⟨b, off + k * 4 + 1, none⟩ = some (.int .i64 y.tx) := And.intro (cellUnder (belowOne w5 _) k141_.1) (cellUnder (belowOne w5 _) k141_.2)
              go_wp2_with fail
              refine hKf_16.out _ _ ?kf_16 (fun hHeldf_16 => ?df_16)
              case kf_16 => (first | (dsimp only; (with_reducible exact k142_)) | (with_reducible exact k142_))
              clear hKf_16 Kf_16
              refine wpAnyH_ready (rs := [15]) (by kernel_rfl) (by simp) ?_
              refine AllReadyH.cons (o := _) rfl (fun Kf_17 hKf_17 => ?cf_17) ?mf_17
              case mf_17 => exact AllReadyH.nil
              go_simp
              have k143_ : (w5.alloc (.cells #[.int .i64 n.kind, .int .i64 n.tx, .slice B1 n.locks.length e1, .slice B2 n.writes.length e2] 36)).cell? ⟨w.heap.size, 0, none⟩ = some (.slice (some ⟨b, off, none⟩) x.notes.length cu) ∧ (w5.alloc (.cells #[.int .i64 n.kind, .int .i64 n.tx, .slice B1 n.locks.length e1, .slice B2 n.writes.length e2] 36)).cell? ⟨b, off + k * 4 + 1, none⟩ = some (.int .i64 y.tx) := And.intro (cellUnder (belowOne w5 _) k141_.1) (cellUnder (belowOne w5 _) k141_.2)
              go_wp2_with fail
              refine hKf_17.out _ _ ?kf_17 (fun hHeldf_17 => ?df_17)
              case kf_17 => (first | (dsimp only; (with_reducible exact k143_)) | (with_reducible exact k143_))
              clear hKf_17 Kf_17
              refine take_first 16 6 (v := ?vf_18) rfl rfl (by kernel_rfl) (by kernel_rfl) (by kernel_rfl) (fun _ _ _ h => h) (by rfl) ?yf_18 (by assumption) ?rf_18
              case yf_18 => (intro w hSw; (try dsimp only at hSw); go_simp; (try with_reducible rfl))
              simp only [Act.put, List.setIfInBounds_toArray, List.set_cons_zero, List.set_cons_succ]
              refine wpAnyH_done (by kernel_rfl) ?ef_19 _
              go_wp2
              go_meet
              case rel => exact ⟨w5.heap.size, n, q, B1, e1, B2, e2, rfl, rfl, Held.new w5 _ _, noteSh.rbelow HRl.out ((belowOne w5 _).mono HO5.out.bel.size), HRd.out, (HO5.out.below (belowOne w5 _)).toW⟩
            refine AllReadyH.cons (o := _) rfl (fun Kf_20 hKf_20 => ?cf_20) ?mf_20
            case cf_20 =>
              go_simp
              have hal := (show Below wr.drew.heap.size wr.drew (wr.alloc (.cells #[.int .i64 0, .int .i64 0, .slice none 0 0, .slice none 0 0] 36)).drew from belowOne wr.drew (.cells #[.int .i64 0, .int .i64 0, .slice none 0 0, .slice none 0 0] 36))
              replace HO := Lib.hid (HO.out.below hal)
              have HD3 := Lib.hid (HD2.out.below (hal.mono (by show w.heap.size ≤ wr.heap.size; omega)))
              have HQ := Lib.hid (show Held (wr.alloc (.cells #[.int .i64 0, .int .i64 0, .slice none 0 0, .slice none 0 0] 36)).drew wr.heap.size [.int .i64 0, .int .i64 0, .slice none 0 0, .slice none 0 0] from Held.new wr.drew #[.int .i64 0, .int .i64 0, .slice none 0 0, .slice none 0 0] 36)
              have k141_ := And.intro (cellUnder hal k0_.1) (cellUnder hal k0_.2)
              clear hal
              go_wp2_with fail
              refine hKf_20.out _ _ ?kf_20 (fun hHeldf_20 => ?df_20)
              case kf_20 => (first | (dsimp only; (with_reducible exact k141_)) | (with_reducible exact k141_))
              clear hKf_20 Kf_20
              refine wpAnyH_ready (rs := [10]) (by kernel_rfl) (by simp) ?_
              refine AllReadyH.cons (o := _) rfl (fun Kf_21 hKf_21 => ?cf_21) ?mf_21
              case mf_21 => exact AllReadyH.nil
              go_simp
              refine (l2Ready_any (wr.alloc (.cells #[.int .i64 0, .int .i64 0, .slice none 0 0, .slice none 0 0] 36)).drew w.heap.size _ (x.notes.take k) y.tx HD3.out (by rw [List.length_take]; omega) (by have := HO.out.bel.size; omega)).mono ?_
              rintro e w5 ⟨n, q, B1, e1, B2, e2, rfl, hrl, hrd, hb5⟩
              replace HQ := Lib.hid (HQ.out.below hb5 HQ.out.1)
              have HO5 := Lib.hid (HO.out.below hb5)
              have HRd := Lib.hid hrd
              have HRl := Lib.hid hrl
              have k142_ := And.intro (cellUnder hb5 k141_.1) (cellUnder hb5 k141_.2)
              have hz5 := hb5.size
              clear hb5 hrd hrl
              go_wp2_with fail
              refine hKf_21.out _ _ ?kf_21 (fun hHeldf_21 => ?df_21)
              case kf_21 => (first | (dsimp only; (with_reducible exact k142_)) | (with_reducible exact k142_))
              clear hKf_21 Kf_21
              refine take_first 11 26 (v := ?vf_22) rfl rfl (by kernel_rfl) (by kernel_rfl) (by kernel_rfl) (fun _ _ _ h => h) (by rfl) ?yf_22 (by assumption) ?rf_22
              case yf_22 => (intro w hSw; (try dsimp only at hSw); go_simp; (try with_reducible rfl))
              simp only [Act.put, List.setIfInBounds_toArray, List.set_cons_zero, List.set_cons_succ]
              refine take_first 12 38 (v := ?vf_23) rfl rfl (by kernel_rfl) (by kernel_rfl) (by kernel_rfl) (fun _ _ _ h => h) (by rfl) ?yf_23 (by assumption) ?rf_23
              case yf_23 => (intro w hSw; (try dsimp only at hSw); go_simp; (try with_reducible rfl))
              simp only [Act.put, List.setIfInBounds_toArray, List.set_cons_zero, List.set_cons_succ]
              refine take_first 13 39 (v := ?vf_24) rfl rfl (by kernel_rfl) (by kernel_rfl) (by kernel_rfl) (fun _ _ _ h => h) (by rfl) ?yf_24 (by assumption) ?rf_24
              case yf_24 => (intro w hSw; (try dsimp only at hSw); go_simp; (try with_reducible rfl))
              simp only [Act.put, List.setIfInBounds_toArray, List.set_cons_zero, List.set_cons_succ]
              refine wpAnyH_ready (rs := [15]) (by kernel_rfl) (by simp) ?_
              refine AllReadyH.cons (o := _) rfl (fun Kf_25 hKf_25 => ?cf_25) ?mf_25
              case mf_25 => exact AllReadyH.nil
              have s_0 := HQ.out.of 0 _ rfl
              have s_1 := HQ.out.of 1 _ rfl
              have s_2 := HQ.out.of 2 _ rfl
              have s_3 := HQ.out.of 3 _ rfl
              have s_f := HQ.out.2.1
              go_simp
              clear s_0 s_1 s_2 s_3 s_f
              have k143_ : ((((w5.setCell ⟨wr.heap.size, 0, none⟩ (.int .i64 n.kind)).setCell ⟨wr.heap.size, 1, none⟩ (.int .i64 n.tx)).setCell ⟨wr.heap.size, 2, none⟩ (.slice B1 n.locks.length e1)).setCell ⟨wr.heap.size, 3, none⟩ (.slice B2 n.writes.length e2)).cell? ⟨w.heap.size, 0, none⟩ = some (.slice (some ⟨b, off, none⟩) x.notes.length cu) ∧ ((((w5.setCell ⟨wr.heap.size, 0, none⟩ (.int .i64 n.kind)).setCell ⟨wr.heap.size, 1, none⟩ (.int .i64 n.tx)).setCell ⟨wr.heap.size, 2, none⟩ (.slice B1 n.locks.length e1)).setCell ⟨wr.heap.size, 3, none⟩ (.slice B2 n.writes.length e2)).cell? ⟨b, off + k * 4 + 1, none⟩ = some (.int .i64 y.tx) := by
                have e1 : w.heap.size ≠ wr.heap.size := by omega
                have e2 : b ≠ wr.heap.size := by omega
                constructor
                · rw [farCell _ _ _ _ _ _ e1, farCell _ _ _ _ _ _ e1, farCell _ _ _ _ _ _ e1, farCell _ _ _ _ _ _ e1]; exact k142_.1
                · rw [farCell _ _ _ _ _ _ e2, farCell _ _ _ _ _ _ e2, farCell _ _ _ _ _ _ e2, farCell _ _ _ _ _ _ e2]; exact k142_.2
              go_wp2_with fail
              refine hKf_25.out _ _ ?kf_25 (fun hHeldf_25 => ?df_25)
              case kf_25 => (first | (dsimp only; (with_reducible exact k143_)) | (with_reducible exact k143_))
              clear hKf_25 Kf_25
              refine take_first 16 6 (v := ?vf_26) rfl rfl (by kernel_rfl) (by kernel_rfl) (by kernel_rfl) (fun _ _ _ h => h) (by rfl) ?yf_26 (by assumption) ?rf_26
              case yf_26 => (intro w hSw; (try dsimp only at hSw); go_simp; (try with_reducible rfl))
              simp only [Act.put, List.setIfInBounds_toArray, List.set_cons_zero, List.set_cons_succ]
              refine wpAnyH_done (by kernel_rfl) ?ef_27 _
              go_wp2
              go_meet
              have hzz : w.heap.size < wr.heap.size := by omega
              case rel => exact ⟨wr.heap.size, n, q, B1, e1, B2, e2, rfl, rfl, ((((HQ.out.set_ (i := 0) (.int .i64 n.kind)).set_ (i := 1) (.int .i64 n.tx)).set_ (i := 2) (.slice B1 n.locks.length e1)).set_ (i := 3) (.slice B2 n.writes.length e2)), (noteSh.rkeep (noteSh.rkeep (noteSh.rkeep (noteSh.rkeep HRl.out (w' := w5.setCell ⟨wr.heap.size, 0, none⟩ (.int .i64 n.kind)) fun b o hb => farCell _ _ _ _ _ _ (by omega)) (w' := (w5.setCell ⟨wr.heap.size, 0, none⟩ (.int .i64 n.kind)).setCell ⟨wr.heap.size, 1, none⟩ (.int .i64 n.tx)) fun b o hb => farCell _ _ _ _ _ _ (by omega)) (w' := ((w5.setCell ⟨wr.heap.size, 0, none⟩ (.int .i64 n.kind)).setCell ⟨wr.heap.size, 1, none⟩ (.int .i64 n.tx)).setCell ⟨wr.heap.size, 2, none⟩ (.slice B1 n.locks.length e1)) fun b o hb => farCell _ _ _ _ _ _ (by omega)) (w' := (((w5.setCell ⟨wr.heap.size, 0, none⟩ (.int .i64 n.kind)).setCell ⟨wr.heap.size, 1, none⟩ (.int .i64 n.tx)).setCell ⟨wr.heap.size, 2, none⟩ (.slice B1 n.locks.length e1)).setCell ⟨wr.heap.size, 3, none⟩ (.slice B2 n.writes.length e2)) fun b o hb => farCell _ _ _ _ _ _ (by omega)), HRd.out, ((((HO5.out.set_ 0 _).set_ 1 _).set_ 2 _).set_ 3 _).toW⟩
            exact AllReadyH.nil
          case rest =>
            clear HO HD HU c0 c1 d0 d1 d2 d3
            obtain ⟨p, n, q, B1, e1, B2, e2, rfl, rfl, hH, hrl, hrd, hO⟩ := hcut
            rcases hrd with ⟨rfl, hrn⟩ | ⟨rfl, hrn⟩
            · have HRn := Lib.hid (comW_some hrn)
              obtain ⟨A0, c0, h1, h2⟩ := hO.sto
              have HO := Lib.hid hO
              have H1 := Lib.hid h1
              have H2 := Lib.hid h2
              have HRl := Lib.hid hrl
              have a3 := hH.of 3 _ rfl
              have s0 := h1.of 0 _ rfl
              clear hO h1 h2 hrl hH hrn
              obtain ⟨_, _, hrf, -, hr2⟩ := note_rel.1 HRl.out
              cases hrf
              have HW := Lib.hid (wrts_row.1 (hr2.more HO.out.bel.size))
              clear hr2
              go_wp2_with fail
              refine (specStoDo_any _ _ _ (foldN (x.notes.take k)) n.writes H2.out.items HW.out).mono ?_
              rintro e w6 ⟨u6, rfl, ho6, hb6⟩
              obtain ⟨A6, c6, hf6⟩ : ∃ A c, u6 = .slice A (stoDo (foldN (x.notes.take k)) n.writes).length c := by
                obtain ⟨A', c', hf, -, -⟩ := ho6.items.form
                exact ⟨A', c', hf⟩
              subst hf6
              have HP := Lib.hid (HO.out.put hb6 ho6)
              have HQ := Lib.hid (H1.out.below hb6 H1.out.1)
              have q0 := HQ.out.of 0 _ rfl
              have qf := HQ.out.2.1 0
              clear hb6 ho6 a3 s0
              go_wp2
              go_roundw
              case rel => exact ⟨k + 1, by omega, by go_num, by rw [HT, HRn.out]; exact HP.out⟩
              case measure => simp [intOf]; omega
            · have HRn := Lib.hid (comW_none hrn)
              have HO := Lib.hid hO
              clear hO hrl hH hrn
              go_wp2
              go_roundw
              case rel => exact ⟨k + 1, by omega, by go_num, by rw [HT, HRn.out, stoDo_none (foldN_sto _)]; exact HO.out⟩
              case measure => simp [intOf]; omega
        · have ek : (y.kind != 2) = true := by simp [hk2]
          have HT' := HT.out
          rw [if_neg hk2] at HT'
          clear hk2
          go_wp2
          go_roundw
          case rel => exact ⟨k + 1, by omega, by go_num, by rw [HT']; exact HO.out⟩
          case measure => simp [intOf]; omega
      · have hks : k = x.notes.length := by omega
        subst hks
        rw [List.take_length] at HO
        obtain ⟨A0, c0', s1, s2⟩ := HO.out.sto
        have s0 := s1.of 0 _ rfl
        have r0 := HO.out.res.of 0 _ rfl
        have rf := HO.out.res.2.1 0
        have HQ := Lib.hid (HO.out.res.set_ (i := 0) (.slice A0 (foldN x.notes).length c0'))
        have q0 := HQ.out.of 0 _ rfl
        have H2 := Lib.hid s2
        clear s1 s2
        go_wp2
        refine bodyPost_ret (v := .agg #[.slice A0 (foldN x.notes).length c0']) (by simp [results, Try.results36, go_sem, q0]) rfl ⟨_, rfl, ?_, HO.out.bel.setCell (by show w.heap.size ≤ w.heap.size + 1; omega) _⟩
        rw [HE.out]
        exact (H2.out.setCell (by show ¬ (w.heap.size + 1 + 1 + 1 ≤ w.heap.size + 1); omega) (by show w.heap.size + 1 < w.heap.size + 1 + 1 + 1; omega) _).weaken (by omega) (fun b hb => by omega)

end Go.Proofs.Ytkamlibfcakblaa
