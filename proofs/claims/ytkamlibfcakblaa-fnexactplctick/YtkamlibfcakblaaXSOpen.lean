/- Texts that follow each other, merged: SOpen, SecSum. -/
import Derived.Test.YtkamlibfcakblaaXListAt
import Derived.Test.YtkamlibfcakblaaXStoMap
import Derived.Test.YtkamlibfcakblaaXKey

/- What DiskOpen answers, of the model. -/
namespace Go.Proofs.Ytkamlibfcakblaa
open Go.RowKit

/-- A row that a loop grows, and the box of the argument. -/
structure OutW {α : Type} (A : Sh α) (e : TypeId) (w : World) (cs : List Value) (v : Value) (xs : List α) (W : World) : Prop where
  row : ∃ S, A.Own e W S v xs ∧ ∀ b, S b → w.heap.size < b ∧ b < W.heap.size
  box : Held W w.heap.size cs
  bel : Below w.heap.size w W
theorem OutW.below {α : Type} {A : Sh α} {e : TypeId} {w : World} {cs : List Value} {v : Value} {xs : List α} {W W' : World} (h : OutW A e w cs v xs W) (hb : Below W.heap.size W W') : OutW A e w cs v xs W' := by
  obtain ⟨S, h1, h2⟩ := h.row
  exact ⟨⟨S, h1.below hb, fun b hb' => ⟨(h2 b hb').1, Nat.lt_of_lt_of_le (h2 b hb').2 hb.size⟩⟩, h.box.below hb h.box.1, belowNext h.bel hb⟩
theorem OutW.grown {α : Type} {A : Sh α} {e : TypeId} {w : World} {cs : List Value} {v v' : Value} {xs ys : List α} {Z Z1 Z2 : World} {S S' : Nat → Prop} (hown : A.Own e Z S v xs) (hS : ∀ b, S b → w.heap.size < b ∧ b < Z.heap.size) (hbox : Held Z w.heap.size cs) (hbel : Below w.heap.size w Z)
    (hb : Below Z.heap.size Z Z1) (hS' : ∀ b, S' b → Z.heap.size ≤ b ∧ b < Z1.heap.size) (ho : A.Own e Z2 (fun b => S b ∨ S' b ∨ b = Z1.heap.size) v' ys) (hg : Z1.grownBy Z2 v.ownBlock) : OutW A e w cs v' ys Z2 := by
  have hz1 := hb.size
  have hz2 := hg.size
  have hzb := hbox.1
  have hr : ∀ q, v.ownBlock = some q → w.heap.size < q := fun q hq => (hS _ (hown.blk q hq)).1
  refine ⟨⟨_, ho.cap, fun b hb' => ⟨?_, hb'.2⟩⟩, (hbox.below hb hzb).outs (Outs.of_grown (S := fun b => w.heap.size < b) hg hr) (by omega), (belowNext hbel hb).grown hg (by omega) (fun q hq => by have := hr q hq; omega)⟩
  rcases hb'.1 with h | h | h
  · exact (hS b h).1
  · have := (hS' b h).1; omega
  · omega

set_option maxRecDepth 100000 in
set_option maxHeartbeats 4000000 in
theorem specDiskOpen_any (w : World) (cs : List Value) (x : Disk) (h : diskSh.rel w w.heap.size cs x) :
    Calls Try.prog 23 #[.agg cs.toArray] w (CopiedSl Sh.int 3 (openD x) w) := by
  have HH := Lib.hid fun W (hb : Below w.heap.size w W) => diskSh.rmore (diskSh.rbelow h hb) hb.size
  obtain ⟨u, rfl, hu⟩ := disk_rel.1 h
  obtain ⟨Au, cu, rfl, hcu, hnu⟩ := hu.form
  unfold maxLen at hcu
  have HU := Lib.hid fun W (hb : Below w.heap.size w W) => hu.below hb
  have HW := Lib.hid (show OutW Sh.int 3 w [.slice Au x.notes.length cu, .int .i64 x.safe] (.slice (some ⟨w.heap.size + 1, 0, none⟩) 0 0) [] ((w.alloc (.cells #[.slice Au x.notes.length cu, .int .i64 x.safe] 25)).alloc (.cells #[] 3)) from
    ⟨⟨fun b => b = w.heap.size + 1, by have h0 := Sh.Own.lit0 Sh.int 3 (w.alloc (.cells #[.slice Au x.notes.length cu, .int .i64 x.safe] 25)); rwa [allocSize] at h0, fun b hb => by rw [allocSize, allocSize]; omega⟩, (Held.new w #[.slice Au x.notes.length cu, .int .i64 x.safe] 25).after _, belowTwo _ _ _⟩)
  clear h hu
  go_enter Try.func23, Try.ntmps23
  go_wp2_with fail
  refine (specDiskOk_any _ _ x (HH.out _ HW.out.bel)).mono ?_
  rintro e w1 ⟨rfl, hb⟩
  have HO := Lib.hid (HW.out.below hb)
  clear hb HW
  rcases hd : diskB x
  · have HE := Lib.hid (openD_no hd)
    go_wp2
    go_ret
    obtain ⟨S, h1, h2⟩ := HO.out.row
    exact ⟨_, rfl, by rw [HE.out]; exact h1.mono (fun b hb => ⟨by have := (h2 b hb).1; omega, (h2 b hb).2⟩), HO.out.bel⟩
  · have HE := Lib.hid (openD_yes hd)
    have HL := Lib.hid (diskB_small hd).1
    clear hd
    go_wp2
    go_loopw [3, 4] (fun v i wr => ∃ k : Nat, k ≤ x.notes.length ∧ i = .int .i64 k ∧ OutW Sh.int 3 w [.slice Au x.notes.length cu, .int .i64 x.safe] v (opensTx (inD x.notes k)) wr) (fun _ i _ => x.notes.length - (intOf i).toNat)
    case atStart => exact ⟨0, Nat.zero_le _, rfl, HO.out⟩
    case round =>
      clear HO
      obtain ⟨k, hk, rfl, hO⟩ := hrel
      have hlen : (opensTx (inD x.notes k)).length ≤ 120 := by have h1 := opensTx_len (inD x.notes k); have h2 := inD_len x.notes k; have h3 := HL.out; omega
      obtain ⟨S, h1, h2⟩ := hO.row
      obtain ⟨Av, cv, rfl, -, -⟩ := h1.row.form
      have HR := Lib.hid h1
      have HS := Lib.hid h2
      have HO := Lib.hid hO
      have c0 := hO.box.of 0 _ rfl
      clear hO h1 h2
      by_cases hlt : k < x.notes.length
      · have hrow := HU.out wr HO.out.bel
        obtain ⟨b, off, d, y, A1, c1, A2, c2, e1, hy, hbB, d0, d1, d2, d3, hyr⟩ := notes_at2 hrow hlt
        injection e1 with e1a e1b e1c
        subst e1a
        clear e1b e1c
        have HY := Lib.hid hy
        have HD := Lib.hid (Sh.Row.drop hrow hlt)
        clear hy hyr hrow
        have HN := Lib.hid (Held.new wr #[.int .i64 y.kind, .int .i64 y.tx, .slice A1 y.locks.length c1, .slice A2 y.writes.length c2] 36)
        have HB := Lib.hid (belowOne wr (.cells #[.int .i64 y.kind, .int .i64 y.tx, .slice A1 y.locks.length c1, .slice A2 y.writes.length c2] 36))
        have HO2 := Lib.hid (HO.out.below HB.out)
        have hzr : w.heap.size < wr.heap.size := HO.out.box.1
        by_cases hk1 : y.kind = 1
        · have ek : (y.kind == 1) = true := by simp [hk1]
          have HLk := Lib.hid (last_drop HY.out hk1)
          have k0 : (wr.alloc (.cells #[.int .i64 y.kind, .int .i64 y.tx, .slice A1 y.locks.length c1, .slice A2 y.writes.length c2] 36)).drew.cell? ⟨w.heap.size, 0, none⟩ = some (.slice (some ⟨b, off, none⟩) x.notes.length cu) ∧ (wr.alloc (.cells #[.int .i64 y.kind, .int .i64 y.tx, .slice A1 y.locks.length c1, .slice A2 y.writes.length c2] 36)).drew.cell? ⟨wr.heap.size, 0, none⟩ = some (.int .i64 y.kind) ∧ (wr.alloc (.cells #[.int .i64 y.kind, .int .i64 y.tx, .slice A1 y.locks.length c1, .slice A2 y.writes.length c2] 36)).drew.cell? ⟨wr.heap.size, 1, none⟩ = some (.int .i64 y.tx) := ⟨HO2.out.box.of 0 _ rfl, HN.out.of 0 _ rfl, HN.out.of 1 _ rfl⟩
          have hcw : IntKind.i64.wrap (k : Int) = (k : Int) := IntWalk.i64_in _ (by omega)
          have f0 : (0 : Int) ≤ (k : Int) := by omega
          have f1 : (k : Int) ≤ (x.notes.length : Int) := by omega
          have f3 : (x.notes.length : Int) ≤ (cu : Int) := by omega
          have HDD := Lib.hid (show noteSh.Row (wr.alloc (.cells #[.int .i64 y.kind, .int .i64 y.tx, .slice A1 y.locks.length c1, .slice A2 y.writes.length c2] 36)).drew w.heap.size (.slice (if cu = k then some ⟨b, off, none⟩ else some ⟨b, off + k * 4, none⟩) (x.notes.length - k) (cu - k)) (x.notes.drop k) from by
            rw [if_neg (by omega)]
            exact (Sh.Row.drop (HU.out wr HO.out.bel) hlt).below ((Below.alloc (Below.refl _ _) (by omega) _).drew))
          rcases hl1 : (lastK x.notes y.tx == 1)
          · have HF := Lib.hid (inD_no HY.out (openB_last (by simpa using hl1)))
            clear hk1
            go_wp2
            refine wp_region_held_drew (S := (fun w' => w'.cell? ⟨w.heap.size, 0, none⟩ = some (.slice (some ⟨b, off, none⟩) x.notes.length cu) ∧ w'.cell? ⟨wr.heap.size, 0, none⟩ = some (.int .i64 y.kind) ∧ w'.cell? ⟨wr.heap.size, 1, none⟩ = some (.int .i64 y.tx))) (by kernel_rfl) ?hSax (fun hHeldax => ?stax)
            case hSax => (first | (dsimp only; (exact k0)) | (exact k0))
            refine take_first 0 23 (v := ?vax_1) rfl rfl (by kernel_rfl) (by kernel_rfl) (by kernel_rfl) (fun _ _ _ h => h) (by rfl) ?yax_1 (by assumption) ?rax_1
            case yax_1 => (intro w hSw; (try dsimp only at hSw); go_simp; (try with_reducible rfl))
            simp only [Act.put, List.setIfInBounds_toArray, List.set_cons_zero, List.set_cons_succ]
            refine take_first 1 24 (v := ?vax_2) rfl rfl (by kernel_rfl) (by kernel_rfl) (by kernel_rfl) (fun _ _ _ h => h) (by rfl) ?yax_2 (by assumption) ?rax_2
            case yax_2 => (intro w hSw; (try dsimp only at hSw); go_simp; (try with_reducible rfl))
            simp only [Act.put, List.setIfInBounds_toArray, List.set_cons_zero, List.set_cons_succ]
            refine take_first 2 25 (v := ?vax_3) rfl rfl (by kernel_rfl) (by kernel_rfl) (by kernel_rfl) (fun _ _ _ h => h) (by rfl) ?yax_3 (by assumption) ?rax_3
            case yax_3 => (intro w hSw; (try dsimp only at hSw); go_simp; (try with_reducible rfl))
            simp only [Act.put, List.setIfInBounds_toArray, List.set_cons_zero, List.set_cons_succ]
            refine take_first 3 26 (v := ?vax_4) rfl rfl (by kernel_rfl) (by kernel_rfl) (by kernel_rfl) (fun _ _ _ h => h) (by rfl) ?yax_4 (by assumption) ?rax_4
            case yax_4 => (intro w hSw; (try dsimp only at hSw); go_simp; (try with_reducible rfl))
            simp only [Act.put, List.setIfInBounds_toArray, List.set_cons_zero, List.set_cons_succ]
            refine take_first 4 27 (v := ?vax_5) rfl rfl (by kernel_rfl) (by kernel_rfl) (by kernel_rfl) (fun _ _ _ h => h) (by rfl) ?yax_5 (by assumption) ?rax_5
            case yax_5 => (intro w hSw; (try dsimp only at hSw); go_simp; (try with_reducible rfl))
            simp only [Act.put, List.setIfInBounds_toArray, List.set_cons_zero, List.set_cons_succ]
            refine take_first 5 28 (v := ?vax_6) rfl rfl (by kernel_rfl) (by kernel_rfl) (by kernel_rfl) (fun _ _ _ h => h) (by rfl) ?yax_6 (by assumption) ?rax_6
            case yax_6 => (intro w hSw; (try dsimp only at hSw); go_simp; (try with_reducible rfl))
            simp only [Act.put, List.setIfInBounds_toArray, List.set_cons_zero, List.set_cons_succ]
            refine take_first 6 29 (v := ?vax_7) rfl rfl (by kernel_rfl) (by kernel_rfl) (by kernel_rfl) (fun _ _ _ h => h) (by rfl) ?yax_7 (by assumption) ?rax_7
            case yax_7 => (intro w hSw; (try dsimp only at hSw); go_simp; (try with_reducible rfl))
            simp only [Act.put, List.setIfInBounds_toArray, List.set_cons_zero, List.set_cons_succ]
            refine take_first 7 30 (v := ?vax_8) rfl rfl (by kernel_rfl) (by kernel_rfl) (by kernel_rfl) (fun _ _ _ h => h) (by rfl) ?yax_8 (by assumption) ?rax_8
            case yax_8 => (intro w hSw; (try dsimp only at hSw); go_simp; (try with_reducible rfl))
            simp only [Act.put, List.setIfInBounds_toArray, List.set_cons_zero, List.set_cons_succ]
            refine take_first 8 31 (v := ?vax_9) rfl rfl (by kernel_rfl) (by kernel_rfl) (by kernel_rfl) (fun _ _ _ h => h) (by rfl) ?yax_9 (by assumption) ?rax_9
            case yax_9 => (intro w hSw; (try dsimp only at hSw); go_simp; (try with_reducible rfl))
            simp only [Act.put, List.setIfInBounds_toArray, List.set_cons_zero, List.set_cons_succ]
            refine take_first 9 32 (v := ?vax_10) rfl rfl (by kernel_rfl) (by kernel_rfl) (by kernel_rfl) (fun _ _ _ h => h) (by rfl) ?yax_10 (by assumption) ?rax_10
            case yax_10 => (intro w hSw; (try dsimp only at hSw); go_simp; (try with_reducible rfl))
            simp only [Act.put, List.setIfInBounds_toArray, List.set_cons_zero, List.set_cons_succ]
            refine wpAnyH_ready (rs := [10]) (by kernel_rfl) (by simp) ?_
            refine AllReadyH.cons (o := _) rfl (fun Kax_11 hKax_11 => ?cax_11) ?max_11
            case max_11 => exact AllReadyH.nil
            go_simp
            refine (l2Of_any _ _ _ _ _ HDD.out).mono ?_; rintro e w2 ⟨rfl, rfl⟩; rw [HLk.out]
            go_wp2_with fail
            refine hKax_11.out _ _ ?kax_11 (fun hHeldax_11 => ?dax_11)
            case kax_11 => (first | (dsimp only; (exact k0)) | (exact k0))
            clear hKax_11 Kax_11
            refine take_first 11 34 (v := ?vax_12) rfl rfl (by kernel_rfl) (by kernel_rfl) (by kernel_rfl) (fun _ _ _ h => h) (by rfl) ?yax_12 (by assumption) ?rax_12
            case yax_12 => (intro w hSw; (try dsimp only at hSw); go_simp; (try with_reducible rfl))
            simp only [Act.put, List.setIfInBounds_toArray, List.set_cons_zero, List.set_cons_succ]
            refine take_first 12 35 (v := ?vax_13) rfl rfl (by kernel_rfl) (by kernel_rfl) (by kernel_rfl) (fun _ _ _ h => h) (by rfl) ?yax_13 (by assumption) ?rax_13
            case yax_13 => (intro w hSw; (try dsimp only at hSw); go_simp; (try with_reducible rfl))
            simp only [Act.put, List.setIfInBounds_toArray, List.set_cons_zero, List.set_cons_succ]
            refine take_first 13 36 (v := ?vax_14) rfl rfl (by kernel_rfl) (by kernel_rfl) (by kernel_rfl) (fun _ _ _ h => h) (by rfl) ?yax_14 (by assumption) ?rax_14
            case yax_14 => (intro w hSw; (try dsimp only at hSw); go_simp; (try with_reducible rfl))
            simp only [Act.put, List.setIfInBounds_toArray, List.set_cons_zero, List.set_cons_succ]
            refine pass_over 14 37 rfl rfl (by kernel_rfl) (by kernel_rfl) (by kernel_rfl) (fun _ _ _ h => h) (by rfl) (by assumption) ?rax_15
            simp only [Act.put, List.setIfInBounds_toArray, List.set_cons_zero, List.set_cons_succ]
            refine pass_over 15 38 rfl rfl (by kernel_rfl) (by kernel_rfl) (by kernel_rfl) (fun _ _ _ h => h) (by rfl) (by assumption) ?rax_16
            simp only [Act.put, List.setIfInBounds_toArray, List.set_cons_zero, List.set_cons_succ]
            refine pass_over 16 39 rfl rfl (by kernel_rfl) (by kernel_rfl) (by kernel_rfl) (fun _ _ _ h => h) (by rfl) (by assumption) ?rax_17
            simp only [Act.put, List.setIfInBounds_toArray, List.set_cons_zero, List.set_cons_succ]
            refine pass_over 17 40 rfl rfl (by kernel_rfl) (by kernel_rfl) (by kernel_rfl) (fun _ _ _ h => h) (by rfl) (by assumption) ?rax_18
            simp only [Act.put, List.setIfInBounds_toArray, List.set_cons_zero, List.set_cons_succ]
            refine pass_over 18 41 rfl rfl (by kernel_rfl) (by kernel_rfl) (by kernel_rfl) (fun _ _ _ h => h) (by rfl) (by assumption) ?rax_19
            simp only [Act.put, List.setIfInBounds_toArray, List.set_cons_zero, List.set_cons_succ]
            refine take_first 19 42 (v := ?vax_20) rfl rfl (by kernel_rfl) (by kernel_rfl) (by kernel_rfl) (fun _ _ _ h => h) (by rfl) ?yax_20 (by assumption) ?rax_20
            case yax_20 => (intro w hSw; (try dsimp only at hSw); go_simp; (try with_reducible rfl))
            simp only [Act.put, List.setIfInBounds_toArray, List.set_cons_zero, List.set_cons_succ]
            refine wpAnyH_done (by kernel_rfl) ?eax _
            go_wp2
            go_roundw
            case rel => exact ⟨k + 1, by omega, by go_num, by rw [HF.out]; exact HO2.out.below (Below.refl _ _).drew⟩
            case measure => simp [intOf]; omega
          · have HF := Lib.hid (inD_yes HY.out (openB_yes hk1 (by simpa using hl1)))
            have HT := Lib.hid (opensTx_snoc (inD x.notes k) y)
            have HI2 := Lib.hid (ints_row.1 ((HR.out.row).below ((Below.alloc (Below.refl _ _) (Nat.le_refl _) (.cells #[.int .i64 y.kind, .int .i64 y.tx, .slice A1 y.locks.length c1, .slice A2 y.writes.length c2] 36)).drew)))
            clear hk1
            rcases hm : memB (opensTx (inD x.notes k)) y.tx
            · have HA := Lib.hid (addI_new hm)
              have HM := Lib.hid hm
              clear hm
              have HZ := Lib.hid (HO2.out.below (Below.refl _ _).drew)
              have HRz := Lib.hid ((HR.out.below ((Below.alloc (Below.refl _ _) (Nat.le_refl _) (.cells #[.int .i64 y.kind, .int .i64 y.tx, .slice A1 y.locks.length c1, .slice A2 y.writes.length c2] 36)).drew)))
              have HSz := Lib.hid (show ∀ b, S b → w.heap.size < b ∧ b < (wr.alloc (.cells #[.int .i64 y.kind, .int .i64 y.tx, .slice A1 y.locks.length c1, .slice A2 y.writes.length c2] 36)).drew.heap.size from fun b hb => ⟨(HS.out b hb).1, by have := (HS.out b hb).2; have : (wr.alloc (.cells #[.int .i64 y.kind, .int .i64 y.tx, .slice A1 y.locks.length c1, .slice A2 y.writes.length c2] 36)).drew.heap.size = wr.heap.size + 1 := allocSize _ _; omega⟩)
              have hyZ : Sh.int.own ((wr.alloc (.cells #[.int .i64 y.kind, .int .i64 y.tx, .slice A1 y.locks.length c1, .slice A2 y.writes.length c2] 36)).alloc (.cells #[.int .i64 y.tx] 3)).drew (fun _ => False) [.int .i64 y.tx] y.tx := rfl
              have HB1 := Lib.hid (show Below (wr.alloc (.cells #[.int .i64 y.kind, .int .i64 y.tx, .slice A1 y.locks.length c1, .slice A2 y.writes.length c2] 36)).drew.heap.size (wr.alloc (.cells #[.int .i64 y.kind, .int .i64 y.tx, .slice A1 y.locks.length c1, .slice A2 y.writes.length c2] 36)).drew ((wr.alloc (.cells #[.int .i64 y.kind, .int .i64 y.tx, .slice A1 y.locks.length c1, .slice A2 y.writes.length c2] 36)).alloc (.cells #[.int .i64 y.tx] 3)).drew from belowOne (wr.alloc (.cells #[.int .i64 y.kind, .int .i64 y.tx, .slice A1 y.locks.length c1, .slice A2 y.writes.length c2] 36)).drew (.cells #[.int .i64 y.tx] 3))
              have HS1 := Lib.hid (show Held ((wr.alloc (.cells #[.int .i64 y.kind, .int .i64 y.tx, .slice A1 y.locks.length c1, .slice A2 y.writes.length c2] 36)).alloc (.cells #[.int .i64 y.tx] 3)).drew (wr.heap.size + 1) [.int .i64 y.tx] from by have h := Held.new (wr.alloc (.cells #[.int .i64 y.kind, .int .i64 y.tx, .slice A1 y.locks.length c1, .slice A2 y.writes.length c2] 36)).drew #[.int .i64 y.tx] 3; rwa [show (wr.alloc (.cells #[.int .i64 y.kind, .int .i64 y.tx, .slice A1 y.locks.length c1, .slice A2 y.writes.length c2] 36)).drew.heap.size = wr.heap.size + 1 from allocSize _ _] at h)
              have HOw := Lib.hid (HRz.out.below HB1.out)
              have HN2 := Lib.hid (HN.out.of 1 _ rfl)
              go_wp2
              refine wp_region_held_drew (S := (fun w' => w'.cell? ⟨w.heap.size, 0, none⟩ = some (.slice (some ⟨b, off, none⟩) x.notes.length cu) ∧ w'.cell? ⟨wr.heap.size, 0, none⟩ = some (.int .i64 y.kind) ∧ w'.cell? ⟨wr.heap.size, 1, none⟩ = some (.int .i64 y.tx))) (by kernel_rfl) ?hSbx (fun hHeldbx => ?stbx)
              case hSbx => (first | (dsimp only; (exact k0)) | (exact k0))
              refine take_first 0 23 (v := ?vbx_1) rfl rfl (by kernel_rfl) (by kernel_rfl) (by kernel_rfl) (fun _ _ _ h => h) (by rfl) ?ybx_1 (by assumption) ?rbx_1
              case ybx_1 => (intro w hSw; (try dsimp only at hSw); go_simp; (try with_reducible rfl))
              simp only [Act.put, List.setIfInBounds_toArray, List.set_cons_zero, List.set_cons_succ]
              refine take_first 1 24 (v := ?vbx_2) rfl rfl (by kernel_rfl) (by kernel_rfl) (by kernel_rfl) (fun _ _ _ h => h) (by rfl) ?ybx_2 (by assumption) ?rbx_2
              case ybx_2 => (intro w hSw; (try dsimp only at hSw); go_simp; (try with_reducible rfl))
              simp only [Act.put, List.setIfInBounds_toArray, List.set_cons_zero, List.set_cons_succ]
              refine take_first 2 25 (v := ?vbx_3) rfl rfl (by kernel_rfl) (by kernel_rfl) (by kernel_rfl) (fun _ _ _ h => h) (by rfl) ?ybx_3 (by assumption) ?rbx_3
              case ybx_3 => (intro w hSw; (try dsimp only at hSw); go_simp; (try with_reducible rfl))
              simp only [Act.put, List.setIfInBounds_toArray, List.set_cons_zero, List.set_cons_succ]
              refine take_first 3 26 (v := ?vbx_4) rfl rfl (by kernel_rfl) (by kernel_rfl) (by kernel_rfl) (fun _ _ _ h => h) (by rfl) ?ybx_4 (by assumption) ?rbx_4
              case ybx_4 => (intro w hSw; (try dsimp only at hSw); go_simp; (try with_reducible rfl))
              simp only [Act.put, List.setIfInBounds_toArray, List.set_cons_zero, List.set_cons_succ]
              refine take_first 4 27 (v := ?vbx_5) rfl rfl (by kernel_rfl) (by kernel_rfl) (by kernel_rfl) (fun _ _ _ h => h) (by rfl) ?ybx_5 (by assumption) ?rbx_5
              case ybx_5 => (intro w hSw; (try dsimp only at hSw); go_simp; (try with_reducible rfl))
              simp only [Act.put, List.setIfInBounds_toArray, List.set_cons_zero, List.set_cons_succ]
              refine take_first 5 28 (v := ?vbx_6) rfl rfl (by kernel_rfl) (by kernel_rfl) (by kernel_rfl) (fun _ _ _ h => h) (by rfl) ?ybx_6 (by assumption) ?rbx_6
              case ybx_6 => (intro w hSw; (try dsimp only at hSw); go_simp; (try with_reducible rfl))
              simp only [Act.put, List.setIfInBounds_toArray, List.set_cons_zero, List.set_cons_succ]
              refine take_first 6 29 (v := ?vbx_7) rfl rfl (by kernel_rfl) (by kernel_rfl) (by kernel_rfl) (fun _ _ _ h => h) (by rfl) ?ybx_7 (by assumption) ?rbx_7
              case ybx_7 => (intro w hSw; (try dsimp only at hSw); go_simp; (try with_reducible rfl))
              simp only [Act.put, List.setIfInBounds_toArray, List.set_cons_zero, List.set_cons_succ]
              refine take_first 7 30 (v := ?vbx_8) rfl rfl (by kernel_rfl) (by kernel_rfl) (by kernel_rfl) (fun _ _ _ h => h) (by rfl) ?ybx_8 (by assumption) ?rbx_8
              case ybx_8 => (intro w hSw; (try dsimp only at hSw); go_simp; (try with_reducible rfl))
              simp only [Act.put, List.setIfInBounds_toArray, List.set_cons_zero, List.set_cons_succ]
              refine take_first 8 31 (v := ?vbx_9) rfl rfl (by kernel_rfl) (by kernel_rfl) (by kernel_rfl) (fun _ _ _ h => h) (by rfl) ?ybx_9 (by assumption) ?rbx_9
              case ybx_9 => (intro w hSw; (try dsimp only at hSw); go_simp; (try with_reducible rfl))
              simp only [Act.put, List.setIfInBounds_toArray, List.set_cons_zero, List.set_cons_succ]
              refine take_first 9 32 (v := ?vbx_10) rfl rfl (by kernel_rfl) (by kernel_rfl) (by kernel_rfl) (fun _ _ _ h => h) (by rfl) ?ybx_10 (by assumption) ?rbx_10
              case ybx_10 => (intro w hSw; (try dsimp only at hSw); go_simp; (try with_reducible rfl))
              simp only [Act.put, List.setIfInBounds_toArray, List.set_cons_zero, List.set_cons_succ]
              refine wpAnyH_ready (rs := [10]) (by kernel_rfl) (by simp) ?_
              refine AllReadyH.cons (o := _) rfl (fun Kbx_11 hKbx_11 => ?cbx_11) ?mbx_11
              case mbx_11 => exact AllReadyH.nil
              go_simp
              refine (l2Of_any _ _ _ _ _ HDD.out).mono ?_; rintro e w2 ⟨rfl, rfl⟩; rw [HLk.out]
              go_wp2_with fail
              refine hKbx_11.out _ _ ?kbx_11 (fun hHeldbx_11 => ?dbx_11)
              case kbx_11 => (first | (dsimp only; (exact k0)) | (exact k0))
              clear hKbx_11 Kbx_11
              refine take_first 11 34 (v := ?vbx_12) rfl rfl (by kernel_rfl) (by kernel_rfl) (by kernel_rfl) (fun _ _ _ h => h) (by rfl) ?ybx_12 (by assumption) ?rbx_12
              case ybx_12 => (intro w hSw; (try dsimp only at hSw); go_simp; (try with_reducible rfl))
              simp only [Act.put, List.setIfInBounds_toArray, List.set_cons_zero, List.set_cons_succ]
              refine take_first 12 35 (v := ?vbx_13) rfl rfl (by kernel_rfl) (by kernel_rfl) (by kernel_rfl) (fun _ _ _ h => h) (by rfl) ?ybx_13 (by assumption) ?rbx_13
              case ybx_13 => (intro w hSw; (try dsimp only at hSw); go_simp; (try with_reducible rfl))
              simp only [Act.put, List.setIfInBounds_toArray, List.set_cons_zero, List.set_cons_succ]
              refine take_first 13 36 (v := ?vbx_14) rfl rfl (by kernel_rfl) (by kernel_rfl) (by kernel_rfl) (fun _ _ _ h => h) (by rfl) ?ybx_14 (by assumption) ?rbx_14
              case ybx_14 => (intro w hSw; (try dsimp only at hSw); go_simp; (try with_reducible rfl))
              simp only [Act.put, List.setIfInBounds_toArray, List.set_cons_zero, List.set_cons_succ]
              refine take_first 14 37 (v := ?vbx_15) rfl rfl (by kernel_rfl) (by kernel_rfl) (by kernel_rfl) (fun _ _ _ h => h) (by rfl) ?ybx_15 (by assumption) ?rbx_15
              case ybx_15 => (intro w hSw; (try dsimp only at hSw); go_simp; (try with_reducible rfl))
              simp only [Act.put, List.setIfInBounds_toArray, List.set_cons_zero, List.set_cons_succ]
              refine take_first 15 38 (v := ?vbx_16) rfl rfl (by kernel_rfl) (by kernel_rfl) (by kernel_rfl) (fun _ _ _ h => h) (by rfl) ?ybx_16 (by assumption) ?rbx_16
              case ybx_16 => (intro w hSw; (try dsimp only at hSw); go_simp; (try with_reducible rfl))
              simp only [Act.put, List.setIfInBounds_toArray, List.set_cons_zero, List.set_cons_succ]
              refine take_first 16 39 (v := ?vbx_17) rfl rfl (by kernel_rfl) (by kernel_rfl) (by kernel_rfl) (fun _ _ _ h => h) (by rfl) ?ybx_17 (by assumption) ?rbx_17
              case ybx_17 => (intro w hSw; (try dsimp only at hSw); go_simp; (try with_reducible rfl))
              simp only [Act.put, List.setIfInBounds_toArray, List.set_cons_zero, List.set_cons_succ]
              refine wpAnyH_ready (rs := [17]) (by kernel_rfl) (by simp) ?_
              refine AllReadyH.cons (o := _) rfl (fun Kbx_18 hKbx_18 => ?cbx_18) ?mbx_18
              case mbx_18 => exact AllReadyH.nil
              go_simp
              refine (l2Is_any _ _ _ _ _ HI2.out).mono ?_; rintro e w3 ⟨rfl, rfl⟩; rw [HM.out]
              go_wp2_with fail
              refine hKbx_18.out _ _ ?kbx_18 (fun hHeldbx_18 => ?dbx_18)
              case kbx_18 => (first | (dsimp only; (exact k0)) | (exact k0))
              clear hKbx_18 Kbx_18
              refine take_first 18 41 (v := ?vbx_19) rfl rfl (by kernel_rfl) (by kernel_rfl) (by kernel_rfl) (fun _ _ _ h => h) (by rfl) ?ybx_19 (by assumption) ?rbx_19
              case ybx_19 => (intro w hSw; (try dsimp only at hSw); go_simp; (try with_reducible rfl))
              simp only [Act.put, List.setIfInBounds_toArray, List.set_cons_zero, List.set_cons_succ]
              refine take_first 19 42 (v := ?vbx_20) rfl rfl (by kernel_rfl) (by kernel_rfl) (by kernel_rfl) (fun _ _ _ h => h) (by rfl) ?ybx_20 (by assumption) ?rbx_20
              case ybx_20 => (intro w hSw; (try dsimp only at hSw); go_simp; (try with_reducible rfl))
              simp only [Act.put, List.setIfInBounds_toArray, List.set_cons_zero, List.set_cons_succ]
              refine wpAnyH_done (by kernel_rfl) ?ebx _
              have d1' : (wr.alloc (.cells #[.int .i64 y.kind, .int .i64 y.tx, .slice A1 y.locks.length c1, .slice A2 y.writes.length c2] 36)).drew.cell? ⟨wr.heap.size, 1, none⟩ = some (.int .i64 y.tx) := k0.2.2
              go_wp2_with (at_builtin; refine wpl_one Sh.int 39 3 (.int .i64 0) 8 Try.underlying39 infoInt rfl (by decide) (by omega) rfl (.tmp 43) (.tmp 46) rfl S (fun _ => False) (.slice Av (opensTx (inD x.notes k)).length cv) (opensTx (inD x.notes k)) rfl HOw.out (wr.heap.size + 1) rfl _ y.tx hyZ HS1.out (fun _ _ h => h) (by omega) ?_; intro v' Z2 ho2 hg2 _; have HO3 := Lib.hid ho2; have HG3 := Lib.hid hg2; clear ho2 hg2)
              go_roundw
              case rel => exact ⟨k + 1, by omega, by go_num, by rw [HF.out, HT.out, HA.out]; exact OutW.grown HRz.out HSz.out HZ.out.box HZ.out.bel HB1.out (fun b h => h.elim) HO3.out HG3.out⟩
              case measure => simp [intOf]; omega
            · have HA := Lib.hid (addI_in hm)
              have HM := Lib.hid hm
              clear hm
              go_wp2
              refine wp_region_held_drew (S := (fun w' => w'.cell? ⟨w.heap.size, 0, none⟩ = some (.slice (some ⟨b, off, none⟩) x.notes.length cu) ∧ w'.cell? ⟨wr.heap.size, 0, none⟩ = some (.int .i64 y.kind) ∧ w'.cell? ⟨wr.heap.size, 1, none⟩ = some (.int .i64 y.tx))) (by kernel_rfl) ?hScx (fun hHeldcx => ?stcx)
              case hScx => (first | (dsimp only; (exact k0)) | (exact k0))
              refine take_first 0 23 (v := ?vcx_1) rfl rfl (by kernel_rfl) (by kernel_rfl) (by kernel_rfl) (fun _ _ _ h => h) (by rfl) ?ycx_1 (by assumption) ?rcx_1
              case ycx_1 => (intro w hSw; (try dsimp only at hSw); go_simp; (try with_reducible rfl))
              simp only [Act.put, List.setIfInBounds_toArray, List.set_cons_zero, List.set_cons_succ]
              refine take_first 1 24 (v := ?vcx_2) rfl rfl (by kernel_rfl) (by kernel_rfl) (by kernel_rfl) (fun _ _ _ h => h) (by rfl) ?ycx_2 (by assumption) ?rcx_2
              case ycx_2 => (intro w hSw; (try dsimp only at hSw); go_simp; (try with_reducible rfl))
              simp only [Act.put, List.setIfInBounds_toArray, List.set_cons_zero, List.set_cons_succ]
              refine take_first 2 25 (v := ?vcx_3) rfl rfl (by kernel_rfl) (by kernel_rfl) (by kernel_rfl) (fun _ _ _ h => h) (by rfl) ?ycx_3 (by assumption) ?rcx_3
              case ycx_3 => (intro w hSw; (try dsimp only at hSw); go_simp; (try with_reducible rfl))
              simp only [Act.put, List.setIfInBounds_toArray, List.set_cons_zero, List.set_cons_succ]
              refine take_first 3 26 (v := ?vcx_4) rfl rfl (by kernel_rfl) (by kernel_rfl) (by kernel_rfl) (fun _ _ _ h => h) (by rfl) ?ycx_4 (by assumption) ?rcx_4
              case ycx_4 => (intro w hSw; (try dsimp only at hSw); go_simp; (try with_reducible rfl))
              simp only [Act.put, List.setIfInBounds_toArray, List.set_cons_zero, List.set_cons_succ]
              refine take_first 4 27 (v := ?vcx_5) rfl rfl (by kernel_rfl) (by kernel_rfl) (by kernel_rfl) (fun _ _ _ h => h) (by rfl) ?ycx_5 (by assumption) ?rcx_5
              case ycx_5 => (intro w hSw; (try dsimp only at hSw); go_simp; (try with_reducible rfl))
              simp only [Act.put, List.setIfInBounds_toArray, List.set_cons_zero, List.set_cons_succ]
              refine take_first 5 28 (v := ?vcx_6) rfl rfl (by kernel_rfl) (by kernel_rfl) (by kernel_rfl) (fun _ _ _ h => h) (by rfl) ?ycx_6 (by assumption) ?rcx_6
              case ycx_6 => (intro w hSw; (try dsimp only at hSw); go_simp; (try with_reducible rfl))
              simp only [Act.put, List.setIfInBounds_toArray, List.set_cons_zero, List.set_cons_succ]
              refine take_first 6 29 (v := ?vcx_7) rfl rfl (by kernel_rfl) (by kernel_rfl) (by kernel_rfl) (fun _ _ _ h => h) (by rfl) ?ycx_7 (by assumption) ?rcx_7
              case ycx_7 => (intro w hSw; (try dsimp only at hSw); go_simp; (try with_reducible rfl))
              simp only [Act.put, List.setIfInBounds_toArray, List.set_cons_zero, List.set_cons_succ]
              refine take_first 7 30 (v := ?vcx_8) rfl rfl (by kernel_rfl) (by kernel_rfl) (by kernel_rfl) (fun _ _ _ h => h) (by rfl) ?ycx_8 (by assumption) ?rcx_8
              case ycx_8 => (intro w hSw; (try dsimp only at hSw); go_simp; (try with_reducible rfl))
              simp only [Act.put, List.setIfInBounds_toArray, List.set_cons_zero, List.set_cons_succ]
              refine take_first 8 31 (v := ?vcx_9) rfl rfl (by kernel_rfl) (by kernel_rfl) (by kernel_rfl) (fun _ _ _ h => h) (by rfl) ?ycx_9 (by assumption) ?rcx_9
              case ycx_9 => (intro w hSw; (try dsimp only at hSw); go_simp; (try with_reducible rfl))
              simp only [Act.put, List.setIfInBounds_toArray, List.set_cons_zero, List.set_cons_succ]
              refine take_first 9 32 (v := ?vcx_10) rfl rfl (by kernel_rfl) (by kernel_rfl) (by kernel_rfl) (fun _ _ _ h => h) (by rfl) ?ycx_10 (by assumption) ?rcx_10
              case ycx_10 => (intro w hSw; (try dsimp only at hSw); go_simp; (try with_reducible rfl))
              simp only [Act.put, List.setIfInBounds_toArray, List.set_cons_zero, List.set_cons_succ]
              refine wpAnyH_ready (rs := [10]) (by kernel_rfl) (by simp) ?_
              refine AllReadyH.cons (o := _) rfl (fun Kcx_11 hKcx_11 => ?ccx_11) ?mcx_11
              case mcx_11 => exact AllReadyH.nil
              go_simp
              refine (l2Of_any _ _ _ _ _ HDD.out).mono ?_; rintro e w2 ⟨rfl, rfl⟩; rw [HLk.out]
              go_wp2_with fail
              refine hKcx_11.out _ _ ?kcx_11 (fun hHeldcx_11 => ?dcx_11)
              case kcx_11 => (first | (dsimp only; (exact k0)) | (exact k0))
              clear hKcx_11 Kcx_11
              refine take_first 11 34 (v := ?vcx_12) rfl rfl (by kernel_rfl) (by kernel_rfl) (by kernel_rfl) (fun _ _ _ h => h) (by rfl) ?ycx_12 (by assumption) ?rcx_12
              case ycx_12 => (intro w hSw; (try dsimp only at hSw); go_simp; (try with_reducible rfl))
              simp only [Act.put, List.setIfInBounds_toArray, List.set_cons_zero, List.set_cons_succ]
              refine take_first 12 35 (v := ?vcx_13) rfl rfl (by kernel_rfl) (by kernel_rfl) (by kernel_rfl) (fun _ _ _ h => h) (by rfl) ?ycx_13 (by assumption) ?rcx_13
              case ycx_13 => (intro w hSw; (try dsimp only at hSw); go_simp; (try with_reducible rfl))
              simp only [Act.put, List.setIfInBounds_toArray, List.set_cons_zero, List.set_cons_succ]
              refine take_first 13 36 (v := ?vcx_14) rfl rfl (by kernel_rfl) (by kernel_rfl) (by kernel_rfl) (fun _ _ _ h => h) (by rfl) ?ycx_14 (by assumption) ?rcx_14
              case ycx_14 => (intro w hSw; (try dsimp only at hSw); go_simp; (try with_reducible rfl))
              simp only [Act.put, List.setIfInBounds_toArray, List.set_cons_zero, List.set_cons_succ]
              refine take_first 14 37 (v := ?vcx_15) rfl rfl (by kernel_rfl) (by kernel_rfl) (by kernel_rfl) (fun _ _ _ h => h) (by rfl) ?ycx_15 (by assumption) ?rcx_15
              case ycx_15 => (intro w hSw; (try dsimp only at hSw); go_simp; (try with_reducible rfl))
              simp only [Act.put, List.setIfInBounds_toArray, List.set_cons_zero, List.set_cons_succ]
              refine take_first 15 38 (v := ?vcx_16) rfl rfl (by kernel_rfl) (by kernel_rfl) (by kernel_rfl) (fun _ _ _ h => h) (by rfl) ?ycx_16 (by assumption) ?rcx_16
              case ycx_16 => (intro w hSw; (try dsimp only at hSw); go_simp; (try with_reducible rfl))
              simp only [Act.put, List.setIfInBounds_toArray, List.set_cons_zero, List.set_cons_succ]
              refine take_first 16 39 (v := ?vcx_17) rfl rfl (by kernel_rfl) (by kernel_rfl) (by kernel_rfl) (fun _ _ _ h => h) (by rfl) ?ycx_17 (by assumption) ?rcx_17
              case ycx_17 => (intro w hSw; (try dsimp only at hSw); go_simp; (try with_reducible rfl))
              simp only [Act.put, List.setIfInBounds_toArray, List.set_cons_zero, List.set_cons_succ]
              refine wpAnyH_ready (rs := [17]) (by kernel_rfl) (by simp) ?_
              refine AllReadyH.cons (o := _) rfl (fun Kcx_18 hKcx_18 => ?ccx_18) ?mcx_18
              case mcx_18 => exact AllReadyH.nil
              go_simp
              refine (l2Is_any _ _ _ _ _ HI2.out).mono ?_; rintro e w3 ⟨rfl, rfl⟩; rw [HM.out]
              go_wp2_with fail
              refine hKcx_18.out _ _ ?kcx_18 (fun hHeldcx_18 => ?dcx_18)
              case kcx_18 => (first | (dsimp only; (exact k0)) | (exact k0))
              clear hKcx_18 Kcx_18
              refine take_first 18 41 (v := ?vcx_19) rfl rfl (by kernel_rfl) (by kernel_rfl) (by kernel_rfl) (fun _ _ _ h => h) (by rfl) ?ycx_19 (by assumption) ?rcx_19
              case ycx_19 => (intro w hSw; (try dsimp only at hSw); go_simp; (try with_reducible rfl))
              simp only [Act.put, List.setIfInBounds_toArray, List.set_cons_zero, List.set_cons_succ]
              refine take_first 19 42 (v := ?vcx_20) rfl rfl (by kernel_rfl) (by kernel_rfl) (by kernel_rfl) (fun _ _ _ h => h) (by rfl) ?ycx_20 (by assumption) ?rcx_20
              case ycx_20 => (intro w hSw; (try dsimp only at hSw); go_simp; (try with_reducible rfl))
              simp only [Act.put, List.setIfInBounds_toArray, List.set_cons_zero, List.set_cons_succ]
              refine wpAnyH_done (by kernel_rfl) ?ecx _
              go_wp2
              go_roundw
              case rel => exact ⟨k + 1, by omega, by go_num, by rw [HF.out, HT.out, HA.out]; exact HO2.out.below (Below.refl _ _).drew⟩
              case measure => simp [intOf]; omega
        · have ek : (y.kind == 1) = false := by simp [hk1]
          have HF := Lib.hid (inD_no HY.out (openB_kind hk1))
          have k0 : (wr.alloc (.cells #[.int .i64 y.kind, .int .i64 y.tx, .slice A1 y.locks.length c1, .slice A2 y.writes.length c2] 36)).drew.cell? ⟨wr.heap.size, 0, none⟩ = some (.int .i64 y.kind) := HN.out.of 0 _ rfl
          clear hk1
          go_wp2
          refine wp_region_held_drew (S := (fun w' => w'.cell? ⟨wr.heap.size, 0, none⟩ = some (.int .i64 y.kind))) (by kernel_rfl) ?hSdx (fun hHelddx => ?stdx)
          case hSdx => (first | (dsimp only; (exact k0)) | (exact k0))
          refine take_first 0 23 (v := ?vdx_1) rfl rfl (by kernel_rfl) (by kernel_rfl) (by kernel_rfl) (fun _ _ _ h => h) (by rfl) ?ydx_1 (by assumption) ?rdx_1
          case ydx_1 => (intro w hSw; (try dsimp only at hSw); go_simp; (try with_reducible rfl))
          simp only [Act.put, List.setIfInBounds_toArray, List.set_cons_zero, List.set_cons_succ]
          refine take_first 1 24 (v := ?vdx_2) rfl rfl (by kernel_rfl) (by kernel_rfl) (by kernel_rfl) (fun _ _ _ h => h) (by rfl) ?ydx_2 (by assumption) ?rdx_2
          case ydx_2 => (intro w hSw; (try dsimp only at hSw); go_simp; (try with_reducible rfl))
          simp only [Act.put, List.setIfInBounds_toArray, List.set_cons_zero, List.set_cons_succ]
          refine take_first 2 25 (v := ?vdx_3) rfl rfl (by kernel_rfl) (by kernel_rfl) (by kernel_rfl) (fun _ _ _ h => h) (by rfl) ?ydx_3 (by assumption) ?rdx_3
          case ydx_3 => (intro w hSw; (try dsimp only at hSw); go_simp; (try with_reducible rfl))
          simp only [Act.put, List.setIfInBounds_toArray, List.set_cons_zero, List.set_cons_succ]
          refine take_first 3 26 (v := ?vdx_4) rfl rfl (by kernel_rfl) (by kernel_rfl) (by kernel_rfl) (fun _ _ _ h => h) (by rfl) ?ydx_4 (by assumption) ?rdx_4
          case ydx_4 => (intro w hSw; (try dsimp only at hSw); go_simp; (try with_reducible rfl))
          simp only [Act.put, List.setIfInBounds_toArray, List.set_cons_zero, List.set_cons_succ]
          refine pass_over 4 27 rfl rfl (by kernel_rfl) (by kernel_rfl) (by kernel_rfl) (fun _ _ _ h => h) (by rfl) (by assumption) ?rdx_5
          simp only [Act.put, List.setIfInBounds_toArray, List.set_cons_zero, List.set_cons_succ]
          refine pass_over 5 28 rfl rfl (by kernel_rfl) (by kernel_rfl) (by kernel_rfl) (fun _ _ _ h => h) (by rfl) (by assumption) ?rdx_6
          simp only [Act.put, List.setIfInBounds_toArray, List.set_cons_zero, List.set_cons_succ]
          refine pass_over 6 29 rfl rfl (by kernel_rfl) (by kernel_rfl) (by kernel_rfl) (fun _ _ _ h => h) (by rfl) (by assumption) ?rdx_7
          simp only [Act.put, List.setIfInBounds_toArray, List.set_cons_zero, List.set_cons_succ]
          refine pass_over 7 30 rfl rfl (by kernel_rfl) (by kernel_rfl) (by kernel_rfl) (fun _ _ _ h => h) (by rfl) (by assumption) ?rdx_8
          simp only [Act.put, List.setIfInBounds_toArray, List.set_cons_zero, List.set_cons_succ]
          refine pass_over 8 31 rfl rfl (by kernel_rfl) (by kernel_rfl) (by kernel_rfl) (fun _ _ _ h => h) (by rfl) (by assumption) ?rdx_9
          simp only [Act.put, List.setIfInBounds_toArray, List.set_cons_zero, List.set_cons_succ]
          refine pass_over 9 32 rfl rfl (by kernel_rfl) (by kernel_rfl) (by kernel_rfl) (fun _ _ _ h => h) (by rfl) (by assumption) ?rdx_10
          simp only [Act.put, List.setIfInBounds_toArray, List.set_cons_zero, List.set_cons_succ]
          refine pass_over 10 33 rfl rfl (by kernel_rfl) (by kernel_rfl) (by kernel_rfl) (fun _ _ _ h => h) (by rfl) (by assumption) ?rdx_11
          simp only [Act.put, List.setIfInBounds_toArray, List.set_cons_zero, List.set_cons_succ]
          refine pass_over 11 34 rfl rfl (by kernel_rfl) (by kernel_rfl) (by kernel_rfl) (fun _ _ _ h => h) (by rfl) (by assumption) ?rdx_12
          simp only [Act.put, List.setIfInBounds_toArray, List.set_cons_zero, List.set_cons_succ]
          refine take_first 12 35 (v := ?vdx_13) rfl rfl (by kernel_rfl) (by kernel_rfl) (by kernel_rfl) (fun _ _ _ h => h) (by rfl) ?ydx_13 (by assumption) ?rdx_13
          case ydx_13 => (intro w hSw; (try dsimp only at hSw); go_simp; (try with_reducible rfl))
          simp only [Act.put, List.setIfInBounds_toArray, List.set_cons_zero, List.set_cons_succ]
          refine take_first 13 36 (v := ?vdx_14) rfl rfl (by kernel_rfl) (by kernel_rfl) (by kernel_rfl) (fun _ _ _ h => h) (by rfl) ?ydx_14 (by assumption) ?rdx_14
          case ydx_14 => (intro w hSw; (try dsimp only at hSw); go_simp; (try with_reducible rfl))
          simp only [Act.put, List.setIfInBounds_toArray, List.set_cons_zero, List.set_cons_succ]
          refine pass_over 14 37 rfl rfl (by kernel_rfl) (by kernel_rfl) (by kernel_rfl) (fun _ _ _ h => h) (by rfl) (by assumption) ?rdx_15
          simp only [Act.put, List.setIfInBounds_toArray, List.set_cons_zero, List.set_cons_succ]
          refine pass_over 15 38 rfl rfl (by kernel_rfl) (by kernel_rfl) (by kernel_rfl) (fun _ _ _ h => h) (by rfl) (by assumption) ?rdx_16
          simp only [Act.put, List.setIfInBounds_toArray, List.set_cons_zero, List.set_cons_succ]
          refine pass_over 16 39 rfl rfl (by kernel_rfl) (by kernel_rfl) (by kernel_rfl) (fun _ _ _ h => h) (by rfl) (by assumption) ?rdx_17
          simp only [Act.put, List.setIfInBounds_toArray, List.set_cons_zero, List.set_cons_succ]
          refine pass_over 17 40 rfl rfl (by kernel_rfl) (by kernel_rfl) (by kernel_rfl) (fun _ _ _ h => h) (by rfl) (by assumption) ?rdx_18
          simp only [Act.put, List.setIfInBounds_toArray, List.set_cons_zero, List.set_cons_succ]
          refine pass_over 18 41 rfl rfl (by kernel_rfl) (by kernel_rfl) (by kernel_rfl) (fun _ _ _ h => h) (by rfl) (by assumption) ?rdx_19
          simp only [Act.put, List.setIfInBounds_toArray, List.set_cons_zero, List.set_cons_succ]
          refine take_first 19 42 (v := ?vdx_20) rfl rfl (by kernel_rfl) (by kernel_rfl) (by kernel_rfl) (fun _ _ _ h => h) (by rfl) ?ydx_20 (by assumption) ?rdx_20
          case ydx_20 => (intro w hSw; (try dsimp only at hSw); go_simp; (try with_reducible rfl))
          simp only [Act.put, List.setIfInBounds_toArray, List.set_cons_zero, List.set_cons_succ]
          refine wpAnyH_done (by kernel_rfl) ?edx _
          go_wp2
          go_roundw
          case rel => exact ⟨k + 1, by omega, by go_num, by rw [HF.out]; exact HO2.out.below (Below.refl _ _).drew⟩
          case measure => simp [intOf]; omega
      · have hks : k = x.notes.length := by omega
        subst hks
        go_wp2
        go_ret
        exact ⟨_, rfl, by rw [HE.out]; exact HR.out.mono (fun b hb => ⟨by have := (HS.out b hb).1; omega, (HS.out b hb).2⟩), HO.out.bel⟩

end Go.Proofs.Ytkamlibfcakblaa

/- What SecSum answers, of the program and of the model: the same number of every number. -/
namespace Go.Proofs.Ytkamlibfcakblaa
open Go.RowKit

/-- The sum of a secret; -1 of what is none. -/
def secS (n : Int) : Int := if 0 ≤ n ∧ n ≤ 99 then (7919 * n + 104) % 9973 else -1
theorem secS_yes {n : Int} (h : 0 ≤ n) (h' : n ≤ 99) : secS n = (7919 * n + 104) % 9973 := by unfold secS; rw [if_pos ⟨h, h'⟩]
theorem secS_no {n : Int} (h : n < 0 ∨ 99 < n) : secS n = -1 := by unfold secS; rw [if_neg (by omega)]

theorem within_any (n lo hi : Int) (w : World) :
    Calls Try.prog 131 #[.int .i64 n, .int .i64 lo, .int .i64 hi] w fun e w' => e = .returned (.bool (inB n lo hi)) ∧ w = w' := by
  by_cases h1 : lo ≤ n
  · by_cases h2 : n ≤ hi
    · go_enter Try.func131, Try.ntmps131
      go_wp2
      go_ret
      exact ⟨ret_bool (by unfold inB; simp [h1, h2]), rfl⟩
    · go_enter Try.func131, Try.ntmps131
      go_wp2
      go_ret
      exact ⟨ret_bool (by unfold inB; simp [h1, h2]), rfl⟩
  · go_enter Try.func131, Try.ntmps131
    go_wp2
    go_ret
    exact ⟨ret_bool (by rw [inB_no (by omega)]), rfl⟩

end Go.Proofs.Ytkamlibfcakblaa
