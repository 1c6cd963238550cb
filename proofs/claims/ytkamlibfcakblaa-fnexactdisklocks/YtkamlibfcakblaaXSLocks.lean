/- Texts that follow each other, merged: SLocks, ILocks. -/
import Derived.Test.YtkamlibfcakblaaXStoMap
import Derived.Test.YtkamlibfcakblaaXNoteOk
import Derived.Test.YtkamlibfcakblaaXIOpen

/- What DiskLocks answers, of the model. -/
namespace Go.Proofs.Ytkamlibfcakblaa
open Go.RowKit

/-- A row that a loop grows, the box of the argument, and one more. -/
structure OutB {α : Type} (A : Sh α) (e : TypeId) (w w0 : World) (cs : List Value) (bx : Nat) (bs : List Value) (v : Value) (xs : List α) (W : World) : Prop where
  row : ∃ S, A.Own e W S v xs ∧ ∀ b, S b → (w.heap.size < b ∧ b < W.heap.size) ∧ b ≠ bx
  box : Held W w.heap.size cs
  two : Held W bx bs
  bel : Below w.heap.size w W
  bel0 : Below w.heap.size w0 W
theorem OutB.base {α : Type} {A : Sh α} {e : TypeId} {w w0 : World} {cs bs : List Value} {bx : Nat} {v : Value} {xs : List α} {W : World} (h : OutB A e w w0 cs bx bs v xs W) : OutW A e w cs v xs W := by
  obtain ⟨S, h1, h2⟩ := h.row
  exact ⟨⟨S, h1, fun b hb => (h2 b hb).1⟩, h.box, h.bel⟩
theorem OutB.grown {α : Type} {A : Sh α} {e : TypeId} {w w0 : World} {cs bs : List Value} {bx : Nat} {v v' : Value} {xs ys : List α} {Z Z1 Z2 : World} {S S' : Nat → Prop} (hown : A.Own e Z S v xs) (hS : ∀ b, S b → (w.heap.size < b ∧ b < Z.heap.size) ∧ b ≠ bx) (hbox : Held Z w.heap.size cs) (htwo : Held Z bx bs) (hbel : Below w.heap.size w Z) (hbel0 : Below w.heap.size w0 Z)
    (hb : Below Z.heap.size Z Z1) (hS' : ∀ b, S' b → Z.heap.size ≤ b ∧ b < Z1.heap.size) (ho : A.Own e Z2 (fun b => S b ∨ S' b ∨ b = Z1.heap.size) v' ys) (hg : Z1.grownBy Z2 v.ownBlock) : OutB A e w w0 cs bx bs v' ys Z2 := by
  have hz1 := hb.size
  have hz2 := hg.size
  have hzb := hbox.1
  have hzt := htwo.1
  have hr : ∀ q, v.ownBlock = some q → w.heap.size < q ∧ q ≠ bx := fun q hq => ⟨(hS _ (hown.blk q hq)).1.1, (hS _ (hown.blk q hq)).2⟩
  refine ⟨⟨_, ho.cap, fun b hb' => ⟨⟨?_, hb'.2⟩, ?_⟩⟩, (hbox.below hb hzb).outs (Outs.of_grown (S := fun b => w.heap.size < b ∧ b ≠ bx) hg hr) (by omega), (htwo.below hb hzt).outs (Outs.of_grown (S := fun b => w.heap.size < b ∧ b ≠ bx) hg hr) (by omega), (belowNext hbel hb).grown hg (by omega) (fun q hq => by have := hr q hq; omega), (hbel0.trans (hb.mono (by omega))).grown hg (by omega) (fun q hq => by have := hr q hq; omega)⟩
  · rcases hb'.1 with h | h | h
    · exact (hS b h).1.1
    · have := (hS' b h).1; omega
    · omega
  · rcases hb'.1 with h | h | h
    · exact (hS b h).2
    · have := (hS' b h).1; omega
    · omega

set_option maxRecDepth 100000 in
set_option maxHeartbeats 4000000 in
theorem specDiskLocks_any (w : World) (cs : List Value) (x : Disk) (h : diskSh.rel w w.heap.size cs x) :
    Calls Try.prog 25 #[.agg cs.toArray] w (CopiedSl strSh 9 (locksD x) w) := by
  have HH := Lib.hid fun W (hb : Below w.heap.size w W) => diskSh.rmore (diskSh.rbelow h hb) hb.size
  obtain ⟨u, rfl, hu⟩ := disk_rel.1 h
  obtain ⟨Au, cu, rfl, hcu, hnu⟩ := hu.form
  unfold maxLen at hcu
  have HU := Lib.hid fun W (hb : Below w.heap.size w W) => hu.below hb
  have HW := Lib.hid (show OutW strSh 9 w [.slice Au x.notes.length cu, .int .i64 x.safe] (.slice (some ⟨w.heap.size + 1, 0, none⟩) 0 0) [] ((w.alloc (.cells #[.slice Au x.notes.length cu, .int .i64 x.safe] 25)).alloc (.cells #[] 9)) from
    ⟨⟨fun b => b = w.heap.size + 1, by have h0 := Sh.Own.lit0 strSh 9 (w.alloc (.cells #[.slice Au x.notes.length cu, .int .i64 x.safe] 25)); rwa [allocSize] at h0, fun b hb => by rw [allocSize, allocSize]; omega⟩, (Held.new w #[.slice Au x.notes.length cu, .int .i64 x.safe] 25).after _, belowTwo _ _ _⟩)
  clear h hu
  go_enter Try.func25, Try.ntmps25
  go_wp2_with fail
  refine (specDiskOk_any _ _ x (HH.out _ HW.out.bel)).mono ?_
  rintro e w1 ⟨rfl, hb⟩
  have HO := Lib.hid (HW.out.below hb)
  clear hb HW
  rcases hd : diskB x
  · have HE := Lib.hid (locksD_no hd)
    go_wp2
    go_ret
    obtain ⟨S, h1, h2⟩ := HO.out.row
    exact ⟨_, rfl, by rw [HE.out]; exact h1.mono (fun b hb => ⟨by have := (h2 b hb).1; omega, (h2 b hb).2⟩), HO.out.bel⟩
  · have HE := Lib.hid (locksD_yes hd)
    have HL := Lib.hid (diskB_small hd).1
    have HL12 := Lib.hid fun y (hy : y ∈ x.notes) => noteB_locks ((diskB_small hd).2 y hy)
    clear hd
    go_wp2
    go_loopw [3, 4] (fun v i wr => ∃ k : Nat, k ≤ x.notes.length ∧ i = .int .i64 k ∧ OutW strSh 9 w [.slice Au x.notes.length cu, .int .i64 x.safe] v (opensKeys (inD x.notes k)) wr) (fun _ i _ => x.notes.length - (intOf i).toNat)
    case atStart => exact ⟨0, Nat.zero_le _, rfl, HO.out⟩
    case round =>
      clear HO
      obtain ⟨k, hk, rfl, hO⟩ := hrel
      have hlen : (opensKeys (inD x.notes k)).length ≤ 12 * 120 := by have h1 := opensKeys_len (m := 12) (ys := inD x.notes k) (fun y hy => HL12.out y (inD_mem hy)); have h2 := inD_len x.notes k; have h3 := HL.out; omega
      obtain ⟨S, h1, h2⟩ := hO.row
      obtain ⟨Av, cv, rfl, -, -⟩ := h1.row.form
      have HR := Lib.hid h1
      have HS := Lib.hid h2
      have HO := Lib.hid hO
      have c0 := hO.box.of 0 _ rfl
      clear hO h1 h2
      by_cases hlt : k < x.notes.length
      · have hrow := HU.out wr HO.out.bel
        obtain ⟨b, off, d, y, A1, c1, A2, c2, e1, hy, hbB, d0, d1, d2, d3, hyr⟩ := notes_at2 hrow hlt
        injection e1 with e1a e1b e1c
        subst e1a
        clear e1b e1c
        have HY := Lib.hid hy
        have HD := Lib.hid (Sh.Row.drop hrow hlt)
        obtain ⟨_, _, hrf, hr1, -⟩ := note_rel.1 hyr
        cases hrf
        have HLr := Lib.hid hr1
        clear hy hyr hrow hr1
        have HN := Lib.hid (Held.new wr #[.int .i64 y.kind, .int .i64 y.tx, .slice A1 y.locks.length c1, .slice A2 y.writes.length c2] 36)
        have HB := Lib.hid (belowOne wr (.cells #[.int .i64 y.kind, .int .i64 y.tx, .slice A1 y.locks.length c1, .slice A2 y.writes.length c2] 36))
        have HO2 := Lib.hid (HO.out.below HB.out)
        have hzr : w.heap.size < wr.heap.size := HO.out.box.1
        by_cases hk1 : y.kind = 1
        · have ek : (y.kind == 1) = true := by simp [hk1]
          have HLk := Lib.hid (last_drop HY.out hk1)
          have k0 : (wr.alloc (.cells #[.int .i64 y.kind, .int .i64 y.tx, .slice A1 y.locks.length c1, .slice A2 y.writes.length c2] 36)).drew.cell? ⟨w.heap.size, 0, none⟩ = some (.slice (some ⟨b, off, none⟩) x.notes.length cu) ∧ (wr.alloc (.cells #[.int .i64 y.kind, .int .i64 y.tx, .slice A1 y.locks.length c1, .slice A2 y.writes.length c2] 36)).drew.cell? ⟨wr.heap.size, 0, none⟩ = some (.int .i64 y.kind) ∧ (wr.alloc (.cells #[.int .i64 y.kind, .int .i64 y.tx, .slice A1 y.locks.length c1, .slice A2 y.writes.length c2] 36)).drew.cell? ⟨wr.heap.size, 1, none⟩ = some (.int .i64 y.tx) := ⟨HO2.out.box.of 0 _ rfl, HN.out.of 0 _ rfl, HN.out.of 1 _ rfl⟩
          have hcw : IntKind.i64.wrap (k : Int) = (k : Int) := IntWalk.i64_in _ (by omega)
          have f0 : (0 : Int) ≤ (k : Int) := by omega
          have f1 : (k : Int) ≤ (x.notes.length : Int) := by omega
          have f3 : (x.notes.length : Int) ≤ (cu : Int) := by omega
          have HDD := Lib.hid (show noteSh.Row (wr.alloc (.cells #[.int .i64 y.kind, .int .i64 y.tx, .slice A1 y.locks.length c1, .slice A2 y.writes.length c2] 36)).drew w.heap.size (.slice (if cu = k then some ⟨b, off, none⟩ else some ⟨b, off + k * 4, none⟩) (x.notes.length - k) (cu - k)) (x.notes.drop k) from by
            rw [if_neg (by omega)]
            exact (Sh.Row.drop (HU.out wr HO.out.bel) hlt).below ((Below.alloc (Below.refl _ _) (by omega) _).drew))
          rcases hl1 : (lastK x.notes y.tx == 1)
          · have HF := Lib.hid (inD_no HY.out (openB_last (by simpa using hl1)))
            clear hk1
            go_wp2
            refine wp_region_held_drew (S := (fun w' => w'.cell? ⟨w.heap.size, 0, none⟩ = some (.slice (some ⟨b, off, none⟩) x.notes.length cu) ∧ w'.cell? ⟨wr.heap.size, 0, none⟩ = some (.int .i64 y.kind) ∧ w'.cell? ⟨wr.heap.size, 1, none⟩ = some (.int .i64 y.tx))) (by kernel_rfl) ?hSax (fun hHeldax => ?stax)
            case hSax => (first | (dsimp only; (exact k0)) | (exact k0))
            refine take_first 0 24 (v := ?vax_1) rfl rfl (by kernel_rfl) (by kernel_rfl) (by kernel_rfl) (fun _ _ _ h => h) (by rfl) ?yax_1 (by assumption) ?rax_1
            case yax_1 => (intro w hSw; (try dsimp only at hSw); go_simp; (try with_reducible rfl))
            simp only [Act.put, List.setIfInBounds_toArray, List.set_cons_zero, List.set_cons_succ]
            refine take_first 1 25 (v := ?vax_2) rfl rfl (by kernel_rfl) (by kernel_rfl) (by kernel_rfl) (fun _ _ _ h => h) (by rfl) ?yax_2 (by assumption) ?rax_2
            case yax_2 => (intro w hSw; (try dsimp only at hSw); go_simp; (try with_reducible rfl))
            simp only [Act.put, List.setIfInBounds_toArray, List.set_cons_zero, List.set_cons_succ]
            refine take_first 2 26 (v := ?vax_3) rfl rfl (by kernel_rfl) (by kernel_rfl) (by kernel_rfl) (fun _ _ _ h => h) (by rfl) ?yax_3 (by assumption) ?rax_3
            case yax_3 => (intro w hSw; (try dsimp only at hSw); go_simp; (try with_reducible rfl))
            simp only [Act.put, List.setIfInBounds_toArray, List.set_cons_zero, List.set_cons_succ]
            refine take_first 3 27 (v := ?vax_4) rfl rfl (by kernel_rfl) (by kernel_rfl) (by kernel_rfl) (fun _ _ _ h => h) (by rfl) ?yax_4 (by assumption) ?rax_4
            case yax_4 => (intro w hSw; (try dsimp only at hSw); go_simp; (try with_reducible rfl))
            simp only [Act.put, List.setIfInBounds_toArray, List.set_cons_zero, List.set_cons_succ]
            refine take_first 4 28 (v := ?vax_5) rfl rfl (by kernel_rfl) (by kernel_rfl) (by kernel_rfl) (fun _ _ _ h => h) (by rfl) ?yax_5 (by assumption) ?rax_5
            case yax_5 => (intro w hSw; (try dsimp only at hSw); go_simp; (try with_reducible rfl))
            simp only [Act.put, List.setIfInBounds_toArray, List.set_cons_zero, List.set_cons_succ]
            refine take_first 5 29 (v := ?vax_6) rfl rfl (by kernel_rfl) (by kernel_rfl) (by kernel_rfl) (fun _ _ _ h => h) (by rfl) ?yax_6 (by assumption) ?rax_6
            case yax_6 => (intro w hSw; (try dsimp only at hSw); go_simp; (try with_reducible rfl))
            simp only [Act.put, List.setIfInBounds_toArray, List.set_cons_zero, List.set_cons_succ]
            refine take_first 6 30 (v := ?vax_7) rfl rfl (by kernel_rfl) (by kernel_rfl) (by kernel_rfl) (fun _ _ _ h => h) (by rfl) ?yax_7 (by assumption) ?rax_7
            case yax_7 => (intro w hSw; (try dsimp only at hSw); go_simp; (try with_reducible rfl))
            simp only [Act.put, List.setIfInBounds_toArray, List.set_cons_zero, List.set_cons_succ]
            refine take_first 7 31 (v := ?vax_8) rfl rfl (by kernel_rfl) (by kernel_rfl) (by kernel_rfl) (fun _ _ _ h => h) (by rfl) ?yax_8 (by assumption) ?rax_8
            case yax_8 => (intro w hSw; (try dsimp only at hSw); go_simp; (try with_reducible rfl))
            simp only [Act.put, List.setIfInBounds_toArray, List.set_cons_zero, List.set_cons_succ]
            refine take_first 8 32 (v := ?vax_9) rfl rfl (by kernel_rfl) (by kernel_rfl) (by kernel_rfl) (fun _ _ _ h => h) (by rfl) ?yax_9 (by assumption) ?rax_9
            case yax_9 => (intro w hSw; (try dsimp only at hSw); go_simp; (try with_reducible rfl))
            simp only [Act.put, List.setIfInBounds_toArray, List.set_cons_zero, List.set_cons_succ]
            refine take_first 9 33 (v := ?vax_10) rfl rfl (by kernel_rfl) (by kernel_rfl) (by kernel_rfl) (fun _ _ _ h => h) (by rfl) ?yax_10 (by assumption) ?rax_10
            case yax_10 => (intro w hSw; (try dsimp only at hSw); go_simp; (try with_reducible rfl))
            simp only [Act.put, List.setIfInBounds_toArray, List.set_cons_zero, List.set_cons_succ]
            refine wpAnyH_ready (rs := [10]) (by kernel_rfl) (by simp) ?_
            refine AllReadyH.cons (o := _) rfl (fun Kax_11 hKax_11 => ?cax_11) ?max_11
            case max_11 => exact AllReadyH.nil
            go_simp
            refine (l2Of_any _ _ _ _ _ HDD.out).mono ?_; rintro e w2 ⟨rfl, rfl⟩; rw [HLk.out]
            go_wp2_with fail
            refine hKax_11.out _ _ ?kax_11 (fun hHeldax_11 => ?dax_11)
            case kax_11 => (first | (dsimp only; (exact k0)) | (exact k0))
            clear hKax_11 Kax_11
            refine take_first 11 35 (v := ?vax_12) rfl rfl (by kernel_rfl) (by kernel_rfl) (by kernel_rfl) (fun _ _ _ h => h) (by rfl) ?yax_12 (by assumption) ?rax_12
            case yax_12 => (intro w hSw; (try dsimp only at hSw); go_simp; (try with_reducible rfl))
            simp only [Act.put, List.setIfInBounds_toArray, List.set_cons_zero, List.set_cons_succ]
            refine take_first 12 36 (v := ?vax_13) rfl rfl (by kernel_rfl) (by kernel_rfl) (by kernel_rfl) (fun _ _ _ h => h) (by rfl) ?yax_13 (by assumption) ?rax_13
            case yax_13 => (intro w hSw; (try dsimp only at hSw); go_simp; (try with_reducible rfl))
            simp only [Act.put, List.setIfInBounds_toArray, List.set_cons_zero, List.set_cons_succ]
            refine wpAnyH_done (by kernel_rfl) ?eax _
            go_wp2
            go_roundw
            case rel => exact ⟨k + 1, by omega, by go_num, by rw [HF.out]; exact HO2.out.below (Below.refl _ _).drew⟩
            case measure => simp [intOf]; omega
          · have HF := Lib.hid (inD_yes HY.out (openB_yes hk1 (by simpa using hl1)))
            have HT := Lib.hid (opensKeys_snoc (inD x.notes k) y)
            have hl12 : y.locks.length ≤ 12 := HL12.out y (List.mem_of_getElem? HY.out)
            have HZ := Lib.hid (show OutB strSh 9 w wr [.slice (some ⟨b, off, none⟩) x.notes.length cu, .int .i64 x.safe] wr.heap.size [.int .i64 y.kind, .int .i64 y.tx, .slice A1 y.locks.length c1, .slice A2 y.writes.length c2] (.slice Av (opensKeys (inD x.notes k)).length cv) (opensKeys (inD x.notes k)) (wr.alloc (.cells #[.int .i64 y.kind, .int .i64 y.tx, .slice A1 y.locks.length c1, .slice A2 y.writes.length c2] 36)).drew from
              ⟨⟨S, HR.out.below ((Below.alloc (Below.refl _ _) (Nat.le_refl _) _).drew), fun b hb => ⟨⟨(HS.out b hb).1, by have := (HS.out b hb).2; have : (wr.alloc (.cells #[.int .i64 y.kind, .int .i64 y.tx, .slice A1 y.locks.length c1, .slice A2 y.writes.length c2] 36)).drew.heap.size = wr.heap.size + 1 := allocSize _ _; omega⟩, by have := (HS.out b hb).2; omega⟩⟩, (HO2.out.below (Below.refl _ _).drew).box, HN.out.below (Below.refl _ _).drew HN.out.1, (HO2.out.below (Below.refl _ _).drew).bel, ((Below.alloc (Below.refl _ _) (by omega) _).drew)⟩)
            clear hk1
            go_wp2
            refine wp_region_held_drew (S := (fun w' => w'.cell? ⟨w.heap.size, 0, none⟩ = some (.slice (some ⟨b, off, none⟩) x.notes.length cu) ∧ w'.cell? ⟨wr.heap.size, 0, none⟩ = some (.int .i64 y.kind) ∧ w'.cell? ⟨wr.heap.size, 1, none⟩ = some (.int .i64 y.tx))) (by kernel_rfl) ?hSbx (fun hHeldbx => ?stbx)
            case hSbx => (first | (dsimp only; (exact k0)) | (exact k0))
            refine take_first 0 24 (v := ?vbx_1) rfl rfl (by kernel_rfl) (by kernel_rfl) (by kernel_rfl) (fun _ _ _ h => h) (by rfl) ?ybx_1 (by assumption) ?rbx_1
            case ybx_1 => (intro w hSw; (try dsimp only at hSw); go_simp; (try with_reducible rfl))
            simp only [Act.put, List.setIfInBounds_toArray, List.set_cons_zero, List.set_cons_succ]
            refine take_first 1 25 (v := ?vbx_2) rfl rfl (by kernel_rfl) (by kernel_rfl) (by kernel_rfl) (fun _ _ _ h => h) (by rfl) ?ybx_2 (by assumption) ?rbx_2
            case ybx_2 => (intro w hSw; (try dsimp only at hSw); go_simp; (try with_reducible rfl))
            simp only [Act.put, List.setIfInBounds_toArray, List.set_cons_zero, List.set_cons_succ]
            refine take_first 2 26 (v := ?vbx_3) rfl rfl (by kernel_rfl) (by kernel_rfl) (by kernel_rfl) (fun _ _ _ h => h) (by rfl) ?ybx_3 (by assumption) ?rbx_3
            case ybx_3 => (intro w hSw; (try dsimp only at hSw); go_simp; (try with_reducible rfl))
            simp only [Act.put, List.setIfInBounds_toArray, List.set_cons_zero, List.set_cons_succ]
            refine take_first 3 27 (v := ?vbx_4) rfl rfl (by kernel_rfl) (by kernel_rfl) (by kernel_rfl) (fun _ _ _ h => h) (by rfl) ?ybx_4 (by assumption) ?rbx_4
            case ybx_4 => (intro w hSw; (try dsimp only at hSw); go_simp; (try with_reducible rfl))
            simp only [Act.put, List.setIfInBounds_toArray, List.set_cons_zero, List.set_cons_succ]
            refine take_first 4 28 (v := ?vbx_5) rfl rfl (by kernel_rfl) (by kernel_rfl) (by kernel_rfl) (fun _ _ _ h => h) (by rfl) ?ybx_5 (by assumption) ?rbx_5
            case ybx_5 => (intro w hSw; (try dsimp only at hSw); go_simp; (try with_reducible rfl))
            simp only [Act.put, List.setIfInBounds_toArray, List.set_cons_zero, List.set_cons_succ]
            refine take_first 5 29 (v := ?vbx_6) rfl rfl (by kernel_rfl) (by kernel_rfl) (by kernel_rfl) (fun _ _ _ h => h) (by rfl) ?ybx_6 (by assumption) ?rbx_6
            case ybx_6 => (intro w hSw; (try dsimp only at hSw); go_simp; (try with_reducible rfl))
            simp only [Act.put, List.setIfInBounds_toArray, List.set_cons_zero, List.set_cons_succ]
            refine take_first 6 30 (v := ?vbx_7) rfl rfl (by kernel_rfl) (by kernel_rfl) (by kernel_rfl) (fun _ _ _ h => h) (by rfl) ?ybx_7 (by assumption) ?rbx_7
            case ybx_7 => (intro w hSw; (try dsimp only at hSw); go_simp; (try with_reducible rfl))
            simp only [Act.put, List.setIfInBounds_toArray, List.set_cons_zero, List.set_cons_succ]
            refine take_first 7 31 (v := ?vbx_8) rfl rfl (by kernel_rfl) (by kernel_rfl) (by kernel_rfl) (fun _ _ _ h => h) (by rfl) ?ybx_8 (by assumption) ?rbx_8
            case ybx_8 => (intro w hSw; (try dsimp only at hSw); go_simp; (try with_reducible rfl))
            simp only [Act.put, List.setIfInBounds_toArray, List.set_cons_zero, List.set_cons_succ]
            refine take_first 8 32 (v := ?vbx_9) rfl rfl (by kernel_rfl) (by kernel_rfl) (by kernel_rfl) (fun _ _ _ h => h) (by rfl) ?ybx_9 (by assumption) ?rbx_9
            case ybx_9 => (intro w hSw; (try dsimp only at hSw); go_simp; (try with_reducible rfl))
            simp only [Act.put, List.setIfInBounds_toArray, List.set_cons_zero, List.set_cons_succ]
            refine take_first 9 33 (v := ?vbx_10) rfl rfl (by kernel_rfl) (by kernel_rfl) (by kernel_rfl) (fun _ _ _ h => h) (by rfl) ?ybx_10 (by assumption) ?rbx_10
            case ybx_10 => (intro w hSw; (try dsimp only at hSw); go_simp; (try with_reducible rfl))
            simp only [Act.put, List.setIfInBounds_toArray, List.set_cons_zero, List.set_cons_succ]
            refine wpAnyH_ready (rs := [10]) (by kernel_rfl) (by simp) ?_
            refine AllReadyH.cons (o := _) rfl (fun Kbx_11 hKbx_11 => ?cbx_11) ?mbx_11
            case mbx_11 => exact AllReadyH.nil
            go_simp
            refine (l2Of_any _ _ _ _ _ HDD.out).mono ?_; rintro e w2 ⟨rfl, rfl⟩; rw [HLk.out]
            go_wp2_with fail
            refine hKbx_11.out _ _ ?kbx_11 (fun hHeldbx_11 => ?dbx_11)
            case kbx_11 => (first | (dsimp only; (exact k0)) | (exact k0))
            clear hKbx_11 Kbx_11
            refine take_first 11 35 (v := ?vbx_12) rfl rfl (by kernel_rfl) (by kernel_rfl) (by kernel_rfl) (fun _ _ _ h => h) (by rfl) ?ybx_12 (by assumption) ?rbx_12
            case ybx_12 => (intro w hSw; (try dsimp only at hSw); go_simp; (try with_reducible rfl))
            simp only [Act.put, List.setIfInBounds_toArray, List.set_cons_zero, List.set_cons_succ]
            refine take_first 12 36 (v := ?vbx_13) rfl rfl (by kernel_rfl) (by kernel_rfl) (by kernel_rfl) (fun _ _ _ h => h) (by rfl) ?ybx_13 (by assumption) ?rbx_13
            case ybx_13 => (intro w hSw; (try dsimp only at hSw); go_simp; (try with_reducible rfl))
            simp only [Act.put, List.setIfInBounds_toArray, List.set_cons_zero, List.set_cons_succ]
            refine wpAnyH_done (by kernel_rfl) ?ebx _
            clear k0 d0 d1 d2 d3 c0
            go_wp2
            go_loopw [3, 6] (fun v i wq => ∃ j : Nat, j ≤ y.locks.length ∧ i = .int .i64 j ∧ OutB strSh 9 w wr [.slice (some ⟨b, off, none⟩) x.notes.length cu, .int .i64 x.safe] wr.heap.size [.int .i64 y.kind, .int .i64 y.tx, .slice A1 y.locks.length c1, .slice A2 y.writes.length c2] v (addAll (opensKeys (inD x.notes k)) (y.locks.take j)) wq) (fun _ i _ => y.locks.length - (intOf i).toNat)
            case atStart => exact ⟨0, Nat.zero_le _, rfl, HZ.out⟩
            case round =>
              clear HZ HN HO2 HB HO HR HS HD HDD
              obtain ⟨j, hj, rfl, hO⟩ := hrel
              obtain ⟨ks, hks⟩ : ∃ ks, addAll (opensKeys (inD x.notes k)) (y.locks.take j) = ks := ⟨_, rfl⟩
              have hkl : ks.length ≤ 12 * 120 + 12 := by rw [← hks]; have h := addAll_len (y.locks.take j) (opensKeys (inD x.notes k)); rw [List.length_take] at h; omega
              rw [hks] at hO
              obtain ⟨S, h1, h2⟩ := hO.row
              obtain ⟨Aq, cq, rfl, -, -⟩ := h1.row.form
              have HR := Lib.hid h1
              have HS := Lib.hid h2
              have HO := Lib.hid hO
              have HKs := Lib.hid hks
              have c2' := hO.two.of 2 _ rfl
              clear hO h1 h2 hks
              by_cases hlj : j < y.locks.length
              · obtain ⟨bk, ok, ck', key, e1, hkx, hbk, hkz, ck⟩ := strs_at (HLr.out.below HO.out.bel0) hlj
                injection e1 with e1a e1b e1c
                subst e1a
                clear e1b e1c
                have HT2 := Lib.hid (addAll_step (xs := opensKeys (inD x.notes k)) hkx)
                clear hkx
                go_wp2_with fail
                go_at_call 75
                refine (l2Has_any _ _ _ _ _ HR.out.row).mono ?_
                rintro e w5 ⟨rfl, rfl⟩
                rcases hm : hasB ks key
                · have HA := Lib.hid (addS_new hm)
                  clear hm
                  have hyZ : strSh.own (wr.alloc (.cells #[.string key] 9)) (fun _ => False) [.string key] key := ⟨rfl, hkz⟩
                  have HB1 := Lib.hid (belowOne wr (.cells #[.string key] 9))
                  have HS1 := Lib.hid (Held.new wr #[.string key] 9)
                  have HOw := Lib.hid (HR.out.below HB1.out)
                  go_wp2_with (at_builtin; refine wpl_one strSh 33 9 (.string ByteArray.empty) 16 Try.underlying33 infoStr rfl (by decide) (by omega) rfl (.tmp 52) (.tmp 58) rfl S (fun _ => False) (.slice Aq ks.length cq) ks rfl HOw.out wr.heap.size rfl _ key hyZ HS1.out (fun _ _ h => h) (by omega) ?_; intro v' Z2 ho2 hg2 _; have HO3 := Lib.hid ho2; have HG3 := Lib.hid hg2; clear ho2 hg2)
                  go_roundw
                  case rel => exact ⟨j + 1, by omega, by go_num, by rw [HT2.out, HKs.out, HA.out]; exact OutB.grown HR.out HS.out HO.out.box HO.out.two HO.out.bel HO.out.bel0 HB1.out (fun b h => h.elim) HO3.out HG3.out⟩
                  case measure => simp [intOf]; omega
                · have HA := Lib.hid (addS_in hm)
                  clear hm
                  go_wp2
                  go_roundw
                  case rel => exact ⟨j + 1, by omega, by go_num, by rw [HT2.out, HKs.out, HA.out]; exact HO.out⟩
                  case measure => simp [intOf]; omega
              · have hjl : j = y.locks.length := by omega
                go_wp2
                go_roundw
                case rel => exact ⟨k + 1, by omega, by go_num, by rw [HF.out, HT.out, ← List.take_length (l := y.locks), ← hjl, HKs.out]; exact HO.out.base⟩
                case measure => simp [intOf]; omega
        · have ek : (y.kind == 1) = false := by simp [hk1]
          have HF := Lib.hid (inD_no HY.out (openB_kind hk1))
          have k0 : (wr.alloc (.cells #[.int .i64 y.kind, .int .i64 y.tx, .slice A1 y.locks.length c1, .slice A2 y.writes.length c2] 36)).drew.cell? ⟨wr.heap.size, 0, none⟩ = some (.int .i64 y.kind) := HN.out.of 0 _ rfl
          clear hk1
          go_wp2
          refine wp_region_held_drew (S := (fun w' => w'.cell? ⟨wr.heap.size, 0, none⟩ = some (.int .i64 y.kind))) (by kernel_rfl) ?hScx (fun hHeldcx => ?stcx)
          case hScx => (first | (dsimp only; (exact k0)) | (exact k0))
          refine take_first 0 24 (v := ?vcx_1) rfl rfl (by kernel_rfl) (by kernel_rfl) (by kernel_rfl) (fun _ _ _ h => h) (by rfl) ?ycx_1 (by assumption) ?rcx_1
          case ycx_1 => (intro w hSw; (try dsimp only at hSw); go_simp; (try with_reducible rfl))
          simp only [Act.put, List.setIfInBounds_toArray, List.set_cons_zero, List.set_cons_succ]
          refine take_first 1 25 (v := ?vcx_2) rfl rfl (by kernel_rfl) (by kernel_rfl) (by kernel_rfl) (fun _ _ _ h => h) (by rfl) ?ycx_2 (by assumption) ?rcx_2
          case ycx_2 => (intro w hSw; (try dsimp only at hSw); go_simp; (try with_reducible rfl))
          simp only [Act.put, List.setIfInBounds_toArray, List.set_cons_zero, List.set_cons_succ]
          refine take_first 2 26 (v := ?vcx_3) rfl rfl (by kernel_rfl) (by kernel_rfl) (by kernel_rfl) (fun _ _ _ h => h) (by rfl) ?ycx_3 (by assumption) ?rcx_3
          case ycx_3 => (intro w hSw; (try dsimp only at hSw); go_simp; (try with_reducible rfl))
          simp only [Act.put, List.setIfInBounds_toArray, List.set_cons_zero, List.set_cons_succ]
          refine take_first 3 27 (v := ?vcx_4) rfl rfl (by kernel_rfl) (by kernel_rfl) (by kernel_rfl) (fun _ _ _ h => h) (by rfl) ?ycx_4 (by assumption) ?rcx_4
          case ycx_4 => (intro w hSw; (try dsimp only at hSw); go_simp; (try with_reducible rfl))
          simp only [Act.put, List.setIfInBounds_toArray, List.set_cons_zero, List.set_cons_succ]
          refine pass_over 4 28 rfl rfl (by kernel_rfl) (by kernel_rfl) (by kernel_rfl) (fun _ _ _ h => h) (by rfl) (by assumption) ?rcx_5
          simp only [Act.put, List.setIfInBounds_toArray, List.set_cons_zero, List.set_cons_succ]
          refine pass_over 5 29 rfl rfl (by kernel_rfl) (by kernel_rfl) (by kernel_rfl) (fun _ _ _ h => h) (by rfl) (by assumption) ?rcx_6
          simp only [Act.put, List.setIfInBounds_toArray, List.set_cons_zero, List.set_cons_succ]
          refine pass_over 6 30 rfl rfl (by kernel_rfl) (by kernel_rfl) (by kernel_rfl) (fun _ _ _ h => h) (by rfl) (by assumption) ?rcx_7
          simp only [Act.put, List.setIfInBounds_toArray, List.set_cons_zero, List.set_cons_succ]
          refine pass_over 7 31 rfl rfl (by kernel_rfl) (by kernel_rfl) (by kernel_rfl) (fun _ _ _ h => h) (by rfl) (by assumption) ?rcx_8
          simp only [Act.put, List.setIfInBounds_toArray, List.set_cons_zero, List.set_cons_succ]
          refine pass_over 8 32 rfl rfl (by kernel_rfl) (by kernel_rfl) (by kernel_rfl) (fun _ _ _ h => h) (by rfl) (by assumption) ?rcx_9
          simp only [Act.put, List.setIfInBounds_toArray, List.set_cons_zero, List.set_cons_succ]
          refine pass_over 9 33 rfl rfl (by kernel_rfl) (by kernel_rfl) (by kernel_rfl) (fun _ _ _ h => h) (by rfl) (by assumption) ?rcx_10
          simp only [Act.put, List.setIfInBounds_toArray, List.set_cons_zero, List.set_cons_succ]
          refine pass_over 10 34 rfl rfl (by kernel_rfl) (by kernel_rfl) (by kernel_rfl) (fun _ _ _ h => h) (by rfl) (by assumption) ?rcx_11
          simp only [Act.put, List.setIfInBounds_toArray, List.set_cons_zero, List.set_cons_succ]
          refine pass_over 11 35 rfl rfl (by kernel_rfl) (by kernel_rfl) (by kernel_rfl) (fun _ _ _ h => h) (by rfl) (by assumption) ?rcx_12
          simp only [Act.put, List.setIfInBounds_toArray, List.set_cons_zero, List.set_cons_succ]
          refine take_first 12 36 (v := ?vcx_13) rfl rfl (by kernel_rfl) (by kernel_rfl) (by kernel_rfl) (fun _ _ _ h => h) (by rfl) ?ycx_13 (by assumption) ?rcx_13
          case ycx_13 => (intro w hSw; (try dsimp only at hSw); go_simp; (try with_reducible rfl))
          simp only [Act.put, List.setIfInBounds_toArray, List.set_cons_zero, List.set_cons_succ]
          refine wpAnyH_done (by kernel_rfl) ?ecx _
          go_wp2
          go_roundw
          case rel => exact ⟨k + 1, by omega, by go_num, by rw [HF.out]; exact HO2.out.below (Below.refl _ _).drew⟩
          case measure => simp [intOf]; omega
      · have hks : k = x.notes.length := by omega
        subst hks
        go_wp2
        go_ret
        exact ⟨_, rfl, by rw [HE.out]; exact HR.out.mono (fun b hb => ⟨by have := (HS.out b hb).1; omega, (HS.out b hb).2⟩), HO.out.bel⟩

end Go.Proofs.Ytkamlibfcakblaa

/- What DiskLocks answers, of the program. -/
namespace Go.Proofs.Ytkamlibfcakblaa
open Go.RowKit Go.Shelf

attribute [local go_sem] Oper.semAt_some

set_option maxRecDepth 100000 in
set_option maxHeartbeats 20000000 in
theorem implDiskLocks_any (w : World) (cs : List Value) (x : Disk) (h : diskSh.rel w w.heap.size cs x) :
    Calls Try.prog 21 #[.agg cs.toArray] w (CopiedSl strSh 9 (locksD x) w) := by
  refine (callsIn_wide (n := 9)).1 ?_
  obtain ⟨F, hF⟩ : ∃ F, F = Fence.wide := ⟨_, rfl⟩
  have hro : F.round = none := by rw [hF]; rfl
  have hfn : ∀ f, F.fn f := by rw [hF]; exact fun _ => trivial
  rw [← hF]
  have HFw := Lib.hid hF
  clear hF
  have HH := Lib.hid fun W (hb : Below w.heap.size w W) => diskSh.rmore (diskSh.rbelow h hb) hb.size
  obtain ⟨u, rfl, hu⟩ := disk_rel.1 h
  obtain ⟨Au, cu, rfl, hcu, hnu⟩ := hu.form
  have HU := Lib.hid fun W (hb : Below w.heap.size w W) => hu.below hb
  have HX := Lib.hid (Held.new w #[.slice Au x.notes.length cu, .int .i64 x.safe] 25)
  have HW := Lib.hid (belowOne w (.cells #[.slice Au x.notes.length cu, .int .i64 x.safe] 25))
  have hd1 : 1 ≤ 9 := by omega
  clear h hu
  refine callsIn_of_wp_marks Try.func21 rfl (hfn _) ?_ hro
  simp only [Try.ntmps21, List.size_toArray, List.length_cons, List.length_nil, Nat.reduceAdd, Nat.reduceSub, Array.replicate_succ, Array.replicate_zero, List.push_toArray, List.append_toArray, List.nil_append, List.cons_append]
  gi_wp2_with fail
  gi_at_call 60
  refine (callsIn_any HFw.out (implDiskOk_any _ _ x (HH.out _ HW.out))).mono ?_
  rintro e w1 ⟨rfl, hb⟩
  replace HX := Lib.hid (HX.out.below hb HX.out.1)
  replace HW := Lib.hid (belowNext HW.out hb)
  clear hb
  have x0 := HX.out.of 0 _ rfl
  rcases hd : diskB x
  · have HO := Lib.hid (locksD_no hd)
    gi_wp2
    refine ⟨.slice none 0 0, ?_, _, rfl, by rw [HO.out]; exact Sh.Own.nil _ _, HW.out⟩
    simp [results, Try.f21, go_sem]
  · have HO := Lib.hid (locksD_yes hd)
    have HN := Lib.hid (diskB_parts hd).1
    have HL12 := Lib.hid fun y (hy : y ∈ x.notes) => noteB_locks (diskB_note hd hy)
    clear hd
    have HX1 := Lib.hid (HX.out.after (.cells #[.slice none 0 0] 33))
    have HO1 := Lib.hid (Held.new w1 #[.slice none 0 0] 33)
    have HW1 := Lib.hid (HW.out.alloc HW.out.size (.cells #[.slice none 0 0] 33))
    have HZ1 := Lib.hid (allocSize w1 (.cells #[.slice none 0 0] 33))
    have y0 := HX1.out.of 0 _ rfl
    gi_wp2_with fail
    gi_at_call 61
    refine (callsIn_any HFw.out (listOf_at _ w.heap.size _ x.notes HW1.out.size (HU.out _ HW1.out))).mono ?_
    rintro e w2 ⟨L, rfl, hR, hLo, hb2⟩
    have HR := Lib.hid hR
    have HLo := Lib.hid hLo
    have HB2 := Lib.hid hb2
    clear hR hLo hb2 y0 x0
    unfold ptr
    gi_wp2_with fail
    gi_at_call 71
    refine (show CallsIn F _ Try.prog 71 #[.agg #[.pointer (some ⟨at_ L 0, 0, none⟩)]] w2 _ from inDoubt_in F _ (hfn _) hro (at_ L 0) w2).mono ?_
    rintro e w3 ⟨rfl, rfl⟩
    unfold ptr
    gi_wp2_with fail
    have hz2 := HB2.out.size
    have hz1 := HZ1.out
    have hzw := HW.out.size
    obtain ⟨W0, hW0⟩ : ∃ W0, w2.alloc (.cells #[.pointer (some ⟨at_ L 0, 0, none⟩)] 79) = W0 := ⟨_, rfl⟩
    have hal := belowOne w2 (.cells #[.pointer (some ⟨at_ L 0, 0, none⟩)] 79)
    have HM := Lib.hid (Held.new w2 #[.pointer (some ⟨at_ L 0, 0, none⟩)] 79)
    have hzW := allocSize w2 (.cells #[.pointer (some ⟨at_ L 0, 0, none⟩)] 79)
    rw [hW0] at hal hzW HM ⊢
    have HOb := Lib.hid ((HO1.out.below HB2.out HO1.out.1).below hal (by omega))
    have HR0 := Lib.hid (HR.out.onward hal)
    have HW0 := Lib.hid (HW1.out.trans ((HB2.out.trans (hal.mono hz2)).mono HW1.out.size))
    have hlt : ∀ i, i < L.length → at_ L i < w2.heap.size := HR.out.lt
    have hlo : ∀ i, i < L.length → w1.heap.size + 1 ≤ at_ L i := fun i hi => by have := HLo.out i hi; omega
    clear hal hW0
    have HGo : Hid (Goes F 8 Try.prog 112 #[.pointer (some ⟨w2.heap.size, 0, none⟩)] (fun y : Spot x.notes.length => #[noteV W0 L y.1]) (fun b => b = w1.heap.size) ((upto x.notes.length x.notes.length (Nat.le_refl _)).filter fun y => openB x.notes (noteAt x.notes y)) x.notes.length W0) := Lib.hid (by
      rw [HFw.out]
      exact inDoubt1_goes 8 (by omega) w2.heap.size w.heap.size (fun b => b = w1.heap.size) L x.notes W0 (by omega) (by omega) (HM.out.of 0 _ rfl) HR0.out (fun i hi => by have := hlo i hi; omega) (fun b hb => by have := HX.out.1; omega) (fun b hb => by omega))
    refine wpIn_goes (f := 112) (lb := #[.pointer (some ⟨w2.heap.size, 0, none⟩)]) hro (by omega) rfl (hfn _) (enters_of Try.func112 (by kernel_rfl) rfl)
      HGo.out (Below.refl _ _) ?hps
      (fun t pre Z => RowW strSh 9 w W0 w1.heap.size t (opensKeys (pre.map (noteAt x.notes))) Z)
      (fun t => fun pre A A' row hA hg hr => hA.turned (tight_str _) (by omega) (by omega) hg (fun r e => by obtain ⟨h1, o, h2⟩ := hr r e; exact ⟨by omega, o, h2⟩))
      (fun X hX => RowW.start HOb.out hX (by omega))
      (fun t y b Z => ∃ k A1 c1 A2 c2, b = { tmps := #[.agg #[.slice Au x.notes.length cu, .int .i64 x.safe], .pointer (some ⟨w.heap.size, 0, none⟩), .slice none 0 0, .pointer (some ⟨w1.heap.size, 0, none⟩), .pointer (some ⟨k, 0, none⟩), undef, undef, .agg #[.slice Au x.notes.length cu, .int .i64 x.safe], .bool true, .bool false, .pointer (some ⟨w.heap.size, 0, none⟩), .slice Au x.notes.length cu, .agg #[.pointer (some ⟨at_ L 0, 0, none⟩)], .func (.func 112) #[] #[.pointer (some ⟨w2.heap.size, 0, none⟩)], .agg #[.int .i64 (noteAt x.notes y).kind, .int .i64 (noteAt x.notes y).tx, .slice A1 (noteAt x.notes y).locks.length c1, .slice A2 (noteAt x.notes y).writes.length c2], undef, undef, undef, undef, undef, undef, undef, undef, undef, undef, undef, undef, undef, undef, undef, undef, undef], defers := [] }
        ∧ strSh.Row W0 w.heap.size (.slice A1 (noteAt x.notes y).locks.length c1) (noteAt x.notes y).locks
        ∧ Held Z k [.int .i64 (noteAt x.notes y).kind, .int .i64 (noteAt x.notes y).tx, .slice A1 (noteAt x.notes y).locks.length c1, .slice A2 (noteAt x.notes y).writes.length c2])
      ?hAx ?assign ?body ?done
    case hps => exact fun _ => rfl
    case hAx =>
      rintro t y b _ A A' row ⟨k, A1, c1, A2, c2, e, hQ, hH⟩ hg hr
      exact ⟨k, A1, c1, A2, c2, e, hQ, hH.turned (by simp) hg (fun r e => (hr r e).2)⟩
    case assign =>
      intro l' t pre y Z ht hI
      obtain ⟨n, A1, c1, A2, c2, hy, q0, q1, q2, q3, hrel⟩ := HR0.out.at_ (k := y.1 - 1) (by have := y.2; omega)
      have hxe : y.1 - 1 + 1 = y.1 := by have := y.2; omega
      rw [hxe] at q0 q1 q2 q3
      have hyn : noteAt x.notes y = n := noteAt_get hy hxe.symm
      have hnv := noteV_at (w := W0) rfl q0 q1 q2 q3
      have HI := Lib.hid hI
      have HYn := Lib.hid hyn
      obtain ⟨_, _, hrf, hr1, -⟩ := note_rel.1 hrel
      cases hrf
      have HQ := Lib.hid hr1
      clear hr1
      clear hI hy hxe hrel hyn q0 q1 q2 q3
      dsimp only
      rw [hnv]
      clear hnv
      gi_wp2
      have hbz := HI.out.bel.size
      refine ⟨Calm.below (belowOne _ _), HI.out.below (by omega) (by omega) (belowOne _ _), Z.heap.size, A1, c1, A2, c2, by rw [HYn.out]; simp, by rw [HYn.out]; exact HQ.out, by rw [HYn.out]; exact Held.new _ _ _⟩
    case body =>
      rintro l' t pre y b Z ht hI hpn ⟨k, A1, c1, A2, c2, rfl, hQ, hH⟩
      have hsn : opensKeys ((pre ++ [y]).map (noteAt x.notes)) = addAll (opensKeys (pre.map (noteAt x.notes))) (noteAt x.notes y).locks := by rw [List.map_append, List.map_cons, List.map_nil, opensKeys_snoc]
      have hlen : (opensKeys (pre.map (noteAt x.notes))).length ≤ 12 * pre.length := by
        have h := opensKeys_len (m := 12) (ys := pre.map (noteAt x.notes)) fun z hz => by
          obtain ⟨q, -, rfl⟩ := List.mem_map.1 hz
          exact HL12.out _ (List.getElem_mem _)
        rwa [List.length_map] at h
      have hl12 : (noteAt x.notes y).locks.length ≤ 12 := HL12.out _ (List.getElem_mem _)
      obtain ⟨os, hos⟩ : ∃ os, opensKeys (pre.map (noteAt x.notes)) = os := ⟨_, rfl⟩
      obtain ⟨n, hn⟩ : ∃ n, noteAt x.notes y = n := ⟨_, rfl⟩
      rw [hos] at hlen hsn
      rw [hn] at hsn hl12 hQ hH
      have hxn := HN.out
      have HSn := Lib.hid hsn
      have HQ := Lib.hid hQ
      have HI := Lib.hid (show RowW strSh 9 w W0 w1.heap.size t os Z from hos ▸ hI)
      have t2 := hH.of 2 _ rfl
      simp only [hn]
      clear hI hsn hos hn hH hQ
      gi_wp2
      gi_loopw [18] (fun i wr => ∃ j : Nat, j ≤ n.locks.length ∧ i = .int .i64 j ∧ Calm (fun b => b = w1.heap.size ∨ t ≤ b) Z wr ∧ RowW strSh 9 w W0 w1.heap.size t (addAll os (n.locks.take j)) wr) (fun i _ => n.locks.length - (intOf i).toNat)
      case atStart => exact ⟨0, Nat.zero_le _, rfl, Calm.refl _ _, HI.out⟩
      case round =>
        clear HI t2
        obtain ⟨j, hj, rfl, hC, hI⟩ := hrel
        obtain ⟨v, S, h1, h2, h3⟩ := hI.row
        obtain ⟨ks, hks⟩ : ∃ ks, addAll os (n.locks.take j) = ks := ⟨_, rfl⟩
        have hkl : ks.length ≤ 12 * pre.length + 12 := by rw [← hks]; have h := addAll_len (n.locks.take j) os; rw [List.length_take] at h; omega
        rw [hks] at h2 hI
        obtain ⟨Av, cv, rfl, hcv, hlv⟩ := h2.row.form
        have HI := Lib.hid hI
        have HC := Lib.hid hC
        have H1 := Lib.hid h1
        have H2 := Lib.hid h2
        have H3 := Lib.hid h3
        have HKs := Lib.hid hks
        have p0 := h1.of 0 _ rfl
        have pf := h1.2.1 0
        clear hI hC h1 h2 h3 hks
        by_cases hlt : j < n.locks.length
        · obtain ⟨b, off, c', key, e1, hkx, hbB, hkz, ck⟩ := strs_at (HQ.out.below (HI.out.bel)) hlt
          injection e1 with e1a e1b e1c
          subst e1a
          clear e1b e1c
          have HT := Lib.hid (addAll_step (xs := os) hkx)
          clear hkx
          gi_wp2_with fail
          gi_at_call 73
          refine (callsIn_anyR HFw.out (contains_any _ _ _ _ _ H2.out.row)).mono ?_
          rintro e w' ⟨rfl, rfl⟩
          rcases hm : hasB ks key
          · have HA := Lib.hid (addS_new hm)
            clear hm
            have hyZ : strSh.own (wr.alloc (.cells #[.string key] 9)) (fun _ => False) [.string key] key := ⟨rfl, hkz⟩
            have HB1 := Lib.hid (belowOne wr (.cells #[.string key] 9))
            have HS1 := Lib.hid (Held.new wr #[.string key] 9)
            have HOw := Lib.hid (H2.out.below HB1.out)
            gi_wp2_with (gi_at_builtin; refine wplIn_of HFw.out rfl (by intro c h; cases h) fun K hK => app_one strSh 33 9 (.string ByteArray.empty) 16 Try.underlying33 infoStr rfl (by decide) (by omega) (.tmp 26) (.tmp 28) rfl S (fun _ => False) (.slice Av ks.length cv) ks rfl HOw.out wr.heap.size rfl _ key hyZ HS1.out (fun _ _ h => h) (by omega) ?_; intro v' Z2 ho2 hg2 _; obtain ⟨A3, c3, hf3, -, -⟩ := ho2.row.form; rw [List.length_append, List.length_singleton] at hf3; subst hf3; have HR2 := Lib.hid ((H1.out.below HB1.out H1.out.1).outs (Outs.of_grown (S := S) hg2 (fun q hq => HOw.out.blk q hq)) (fun h => by have := (H3.out _ h).1; omega)); have f2 := HR2.out.2.1 0; have r2 := HR2.out.of 0 _ rfl; have HO2 := Lib.hid ho2; have HG2 := Lib.hid hg2; clear ho2 hg2; refine hK _ _ ?_; clear hK K)
            obtain ⟨g1, g2⟩ := RowW.grown (t := t) (ys := ks ++ [key]) H2.out H3.out HI.out.bel (by omega) HI.out.size (by omega) HB1.out (fun b h => h.elim) HR2.out HO2.out HG2.out
            go_roundw
            case rel => exact ⟨j + 1, by omega, by go_num, HC.out.trans g1, by rw [HT.out, HKs.out, HA.out]; exact g2⟩
            case measure => simp [intOf]; omega
          · have HA := Lib.hid (addS_in hm)
            clear hm
            gi_wp2
            go_roundw
            case rel => exact ⟨j + 1, by omega, by go_num, HC.out, by rw [HT.out, HKs.out, HA.out]; exact HI.out⟩
            case measure => simp [intOf]; omega
        · have hjl : j = n.locks.length := by omega
          gi_wp2
          exact ⟨HC.out, by dsimp only; rw [HSn.out, ← List.take_length (l := n.locks), ← hjl, HKs.out]; exact HI.out⟩
    case done =>
      rintro D t Z hD ht hI hDf
      obtain ⟨v, S, h1, h2, h3⟩ := hI.row
      have hfn : opensKeys (((upto x.notes.length x.notes.length (Nat.le_refl _)).filter fun y => openB x.notes (noteAt x.notes y)).map (noteAt x.notes)) = locksD x := by
        rw [HO.out, inD_all, spots_filter]
      rw [hfn] at h2
      obtain ⟨Av, cv, rfl, hcv, hlv⟩ := h2.row.form
      have r0 := h1.of 0 _ rfl
      have HI := Lib.hid hI
      have HD := Lib.hid hDf
      have H1 := Lib.hid h1
      have H2 := Lib.hid h2
      have H3 := Lib.hid h3
      clear hI hDf h1 h2 h3 hfn
      gi_wp2
      refine ⟨by simp, .inl ⟨_, _, rfl, run_takeDeferred HD.out, ?_⟩⟩
      refine ⟨.slice Av (locksD x).length cv, ?_, _, rfl, (H2.out.turned (tight_str _) (grownBy_putObj' _ D (.deferred none)) (fun r e => by cases e; exact ⟨_, HD.out, rfl⟩)).mono fun b hb => ⟨by have := (H3.out b hb).1; omega, Nat.lt_of_lt_of_le (H3.out b hb).2 (grownBy_putObj' Z D (.deferred none)).size⟩, ?_⟩
      · simp [results, Try.f21, go_sem]
      · exact (HW0.out.trans HI.out.bel).trans (belowK_b (w := w) (Nat.le_refl _) Z D _ _ (by omega) HD.out rfl rfl)

end Go.Proofs.Ytkamlibfcakblaa
