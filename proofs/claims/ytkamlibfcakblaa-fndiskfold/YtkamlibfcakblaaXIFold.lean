/- Texts that follow each other, merged: IFold, JaSto, ShapesSto, FoldRel, ShalAt. -/
import Derived.Test.YtkamlibfcakblaaXInDoubt
import Derived.Test.YtkamlibfcakblaaXCommitted
import Derived.Test.YtkamlibfcakblaaXStoDoI
import Derived.Test.YtkamlibfcakblaaXDiskOf
import Derived.Test.YtkamlibfcakblaaXWrts
import Derived.Test.YtkamlibfcakblaaXVal
import Derived.Test.YtkamlibfcakblaaXExItems
import Derived.Test.YtkamlibfcakblaaXSFold
import Derived.Test.YtkamlibfcakblaaXTree
import Derived.Test.YtkamlibfcakblaaXStoMap
import Derived.Test.YtkamlibfcakblaaXShalW
import Derived.Test.YtkamlibfcakblaaXDiskList

/- What DiskFold answers, of the program. -/
namespace Go.Proofs.Ytkamlibfcakblaa
open Go.RowKit Go.Shelf

attribute [local go_sem] Oper.semAt_some

theorem cellBelow {w w' : World} {b o : Nat} {u : Value} (hb : Below w.heap.size w w') (h : w.cell? ⟨b, o, none⟩ = some u) : w'.cell? ⟨b, o, none⟩ = some u := by
  have hlt : b < w.heap.size := by
    rcases Nat.lt_or_ge b w.heap.size with h' | h'
    · exact h'
    · simp [World.cell?, Array.getElem?_eq_none h'] at h
  exact (World.cell?_of_block (a := ⟨b, o, none⟩) (hb.block b hlt)).trans h
theorem tight_item : itSh.Tight := ((tight_str _).pair (tight_int.sl _ _)).conv _ _ _
/-- What holds while all is folded: the result's box, the store, the list, the ring. -/
structure FdW (w w2 : World) (n0 B : Nat) (L : List Nat) (ns : List Note) (its : List Item) (W : World) : Prop where
  res : Held W (w.heap.size + 1) [.slice none 0 0]
  lst : Held W w2.heap.size [.pointer (some ⟨at_ L 0, 0, none⟩)]
  sto : ∃ v S, Held W (w2.heap.size + 1) [v] ∧ itSh.Own 104 W S v its ∧ ∀ b, S b → n0 ≤ b ∧ b < W.heap.size
  ring : Ring W B L ns
  bel : Below w.heap.size w W
  size : n0 ≤ W.heap.size
theorem FdW.turned {w w2 : World} {n0 B : Nat} {L : List Nat} {ns : List Note} {its : List Item} {W W' : World} {row : Option Nat} (h : FdW w w2 n0 B L ns its W) (h1 : w.heap.size + 1 < w2.heap.size) (hn : w2.heap.size + 1 < n0) (hR : ∀ i, i < L.length → at_ L i < w2.heap.size) (hB : B ≤ w.heap.size) (hg : W.grownBy W' row) (hr : ∀ r, row = some r → n0 ≤ r ∧ ∃ o : Obj, W.heap[r]? = some o ∧ o.isCells = false) : FdW w w2 n0 B L ns its W' := by
  have hb : Below n0 W W' := (Below.refl n0 W).grown hg h.size (fun k e => (hr k e).1)
  obtain ⟨v, S, q1, q2, q3⟩ := h.sto
  exact ⟨h.res.below hb (by omega), h.lst.below hb (by omega), ⟨v, S, q1.below hb (by omega), q2.turned tight_item hg (fun r e => (hr r e).2), fun b hb' => ⟨(q3 b hb').1, Nat.lt_of_lt_of_le (q3 b hb').2 hg.size⟩⟩, h.ring.below hb (by omega) (fun i hi => by have := hR i hi; omega), h.bel.trans (hb.mono (by omega)), Nat.le_trans h.size hb.size⟩
theorem FdW.put {w w2 : World} {n0 B : Nat} {L : List Nat} {ns : List Note} {its its' : List Item} {W W' : World} {u : Value} (h : FdW w w2 n0 B L ns its W) (h1 : w.heap.size + 1 < w2.heap.size) (hn : w2.heap.size + 1 < n0) (hR : ∀ i, i < L.length → at_ L i < w2.heap.size) (hB : B ≤ w.heap.size) (hb : Below W.heap.size W W')
    (hu : itSh.Own 104 W' (fun b => W.heap.size ≤ b ∧ b < W'.heap.size) u its') : FdW w w2 n0 B L ns its' (W'.setCell ⟨w2.heap.size + 1, 0, none⟩ u) := by
  obtain ⟨v, S, q1, q2, q3⟩ := h.sto
  have hz := h.size
  have hz2 := hb.size
  have hs : (W'.setCell ⟨w2.heap.size + 1, 0, none⟩ u).heap.size = W'.heap.size := by simp [World.setCell]
  exact ⟨(h.res.below hb h.res.1).farS (by show _ ≠ w2.heap.size + 1; omega) _, (h.lst.below hb h.lst.1).farS (by show _ ≠ w2.heap.size + 1; omega) _,
    ⟨u, _, (q1.below hb q1.1).set_ (i := 0) _, hu.keep fun b hb' _ => Below.heap_setCell _ _ _ _ (by have := hb'.1; show b ≠ w2.heap.size + 1; omega), fun b hb' => ⟨by have := hb'.1; omega, by rw [hs]; exact hb'.2⟩⟩,
    h.ring.below (n := w2.heap.size) ((hb.mono (by omega)).setCell (p := ⟨w2.heap.size + 1, 0, none⟩) (by show w2.heap.size ≤ w2.heap.size + 1; omega) _) (by omega) hR,
    (belowNext h.bel hb).setCell (p := ⟨w2.heap.size + 1, 0, none⟩) (by show w.heap.size ≤ w2.heap.size + 1; omega) _, by omega⟩

set_option maxRecDepth 100000 in
set_option maxHeartbeats 8000000 in
theorem implDiskFold_any (w : World) (cs : List Value) (x : Disk) (h : diskSh.rel w w.heap.size cs x) :
    Calls Try.prog 34 #[.agg cs.toArray] w (StoMade (foldD x) w) := by
  refine (callsIn_wide (n := 9)).1 ?_
  obtain ⟨F, hF⟩ : ∃ F, F = Fence.wide := ⟨_, rfl⟩
  have hro : F.round = none := by rw [hF]; rfl
  have hfn : ∀ f, F.fn f := by rw [hF]; exact fun _ => trivial
  rw [← hF]
  have HFw := Lib.hid hF
  clear hF
  have HH := Lib.hid fun W (hb : Below w.heap.size w W) => diskSh.rmore (diskSh.rbelow h hb) hb.size
  obtain ⟨u, rfl, hu⟩ := disk_rel.1 h
  obtain ⟨Au, cu, rfl, hcu, hnu⟩ := hu.form
  have HU := Lib.hid fun W (hb : Below w.heap.size w W) => hu.below hb
  have HX := Lib.hid ((Held.new w #[.slice Au x.notes.length cu, .int .i64 x.safe] 25).after (.cells #[.slice none 0 0] 54))
  have HRs := Lib.hid (show Held ((w.alloc (.cells #[.slice Au x.notes.length cu, .int .i64 x.safe] 25)).alloc (.cells #[.slice none 0 0] 54)) (w.heap.size + 1) [.slice none 0 0] from by have h0 := Held.new (w.alloc (.cells #[.slice Au x.notes.length cu, .int .i64 x.safe] 25)) #[.slice none 0 0] 54; rwa [allocSize] at h0)
  have HW := Lib.hid (belowTwo w (.cells #[.slice Au x.notes.length cu, .int .i64 x.safe] 25) (.cells #[.slice none 0 0] 54))
  have hd1 : 1 ≤ 9 := by omega
  clear h hu
  refine callsIn_of_wp_marks Try.func34 rfl (hfn _) ?_ hro
  simp only [Try.ntmps34, List.size_toArray, List.length_cons, List.length_nil, Nat.reduceAdd, Nat.reduceSub, Array.replicate_succ, Array.replicate_zero, List.push_toArray, List.append_toArray, List.nil_append, List.cons_append]
  gi_wp2_with fail
  gi_at_call 60
  refine (callsIn_any HFw.out (implDiskOk_any _ _ x (HH.out _ HW.out))).mono ?_
  rintro e w1 ⟨rfl, hb⟩
  replace HX := Lib.hid (HX.out.below hb HX.out.1)
  replace HRs := Lib.hid (HRs.out.below hb HRs.out.1)
  replace HW := Lib.hid (belowNext HW.out hb)
  clear hb
  have x0 := HX.out.of 0 _ rfl
  have r0 := HRs.out.of 0 _ rfl
  have rf := HRs.out.2.1 0
  rcases hd : diskB x
  · have HO := Lib.hid (foldD_no hd)
    have hP := Lib.hid (HRs.out.set_ (i := 0) (.slice none 0 0))
    have hc := hP.out.of 0 _ rfl
    gi_wp2
    refine ⟨.agg #[.slice none 0 0], ?_, _, rfl, by rw [HO.out]; exact Sh.Own.nil _ _, HW.out.setCell (by show w.heap.size ≤ w.heap.size + 1; omega) _⟩
    simp [results, Try.f34, go_sem, hc]
  · have HO := Lib.hid (foldD_yes hd)
    have HN := Lib.hid (diskB_parts hd).1
    clear hd
    gi_wp2_with fail
    gi_at_call 61
    refine (callsIn_any HFw.out (listOf_at _ w.heap.size _ x.notes HW.out.size (HU.out _ HW.out))).mono ?_
    rintro e w2 ⟨L, rfl, hR, hLo, hb2⟩
    have HR := Lib.hid hR
    have HLo := Lib.hid hLo
    have HB2 := Lib.hid hb2
    have HRs2 := Lib.hid (HRs.out.below hb2 HRs.out.1)
    have HW2 := Lib.hid (belowNext HW.out hb2)
    have HD2 := Lib.hid (HX.out.below hb2 HX.out.1)
    clear hR hLo hb2 r0 rf x0
    have HBi := Lib.hid (after_in F 8 (hfn _) hro (at_ L 0) (at_ L 0))
    have hz1 : w.heap.size + 1 < w1.heap.size := HRs.out.1
    have hz2 : w1.heap.size ≤ w2.heap.size := HB2.out.size
    have hlt : ∀ i, i < L.length → at_ L i < w2.heap.size := HR.out.lt
    have hlo : ∀ i, i < L.length → w1.heap.size ≤ at_ L i := HLo.out
    have hB4 : Below w2.heap.size w2 ((((w2.alloc (.cells #[.pointer (some ⟨at_ L 0, 0, none⟩)] 79)).alloc (.cells #[.slice none 0 0] 54)).alloc (.cells #[.pointer (some ⟨at_ L 0, 0, none⟩)] 79)).alloc (.cells #[.pointer (some ⟨at_ L 0, 0, none⟩)] 77)) := (belowThree _ _ _ _).alloc (by simp; omega) _
    have HK : Hid (FdW w w2 (w2.heap.size + 1 + 1 + 1 + 1) w.heap.size L x.notes (foldS x.notes []) ((((w2.alloc (.cells #[.pointer (some ⟨at_ L 0, 0, none⟩)] 79)).alloc (.cells #[.slice none 0 0] 54)).alloc (.cells #[.pointer (some ⟨at_ L 0, 0, none⟩)] 79)).alloc (.cells #[.pointer (some ⟨at_ L 0, 0, none⟩)] 77)) ∧ Held ((((w2.alloc (.cells #[.pointer (some ⟨at_ L 0, 0, none⟩)] 79)).alloc (.cells #[.slice none 0 0] 54)).alloc (.cells #[.pointer (some ⟨at_ L 0, 0, none⟩)] 79)).alloc (.cells #[.pointer (some ⟨at_ L 0, 0, none⟩)] 77)) (w2.heap.size + 1 + 1) [.pointer (some ⟨at_ L 0, 0, none⟩)] ∧ Held ((((w2.alloc (.cells #[.pointer (some ⟨at_ L 0, 0, none⟩)] 79)).alloc (.cells #[.slice none 0 0] 54)).alloc (.cells #[.pointer (some ⟨at_ L 0, 0, none⟩)] 79)).alloc (.cells #[.pointer (some ⟨at_ L 0, 0, none⟩)] 77)) (w2.heap.size + 1 + 1 + 1) [.pointer (some ⟨at_ L 0, 0, none⟩)]) := Lib.hid
      ⟨⟨HRs2.out.below hB4 HRs2.out.1, ((((Held.new w2 #[.pointer (some ⟨at_ L 0, 0, none⟩)] 79).after _).after _).after _),
        ⟨_, fun _ => False, (((Held.new (w2.alloc (.cells #[.pointer (some ⟨at_ L 0, 0, none⟩)] 79)) #[.slice none 0 0] 54).after _).after _).lit (by simp), Sh.Own.nil _ _, fun _ h => h.elim⟩, HR.out.onward hB4, belowNext HW2.out hB4, by simp⟩,
        ((Held.new ((w2.alloc (.cells #[.pointer (some ⟨at_ L 0, 0, none⟩)] 79)).alloc (.cells #[.slice none 0 0] 54)) #[.pointer (some ⟨at_ L 0, 0, none⟩)] 79).after _).lit (by simp),
        (Held.new (((w2.alloc (.cells #[.pointer (some ⟨at_ L 0, 0, none⟩)] 79)).alloc (.cells #[.slice none 0 0] 54)).alloc (.cells #[.pointer (some ⟨at_ L 0, 0, none⟩)] 79)) #[.pointer (some ⟨at_ L 0, 0, none⟩)] 77).lit (by simp)⟩
    have HZ := Lib.hid (show ((((w2.alloc (.cells #[.pointer (some ⟨at_ L 0, 0, none⟩)] 79)).alloc (.cells #[.slice none 0 0] 54)).alloc (.cells #[.pointer (some ⟨at_ L 0, 0, none⟩)] 79)).alloc (.cells #[.pointer (some ⟨at_ L 0, 0, none⟩)] 77)).heap.size = w2.heap.size + 1 + 1 + 1 + 1 from by simp)
    clear hB4
    unfold ptr at HBi ⊢
    gi_wp2_with (gi_at_call 81; refine (HBi.out _).mono ?_; rintro e w' ⟨rfl, rfl⟩)
    generalize ((((w2.alloc (.cells #[.pointer (some ⟨at_ L 0, 0, none⟩)] 79)).alloc (.cells #[.slice none 0 0] 54)).alloc (.cells #[.pointer (some ⟨at_ L 0, 0, none⟩)] 79)).alloc (.cells #[.pointer (some ⟨at_ L 0, 0, none⟩)] 77)) = W0 at *
    have hz0 : w2.heap.size + 1 + 1 + 1 + 1 = W0.heap.size := HZ.out.symm
    refine wpIn_rangeFunc_ownF hro (by omega) (gf := 119) (lb := #[.pointer (some ⟨w2.heap.size + 1 + 1 + 1, 0, none⟩), .pointer (some ⟨w2.heap.size + 1 + 1, 0, none⟩)]) rfl (hfn _) (enters_of Try.func119 (by kernel_rfl) rfl)
      (after_out F 8 (hfn _) hro (by omega) (w2.heap.size + 1 + 1 + 1) (w2.heap.size + 1 + 1) w.heap.size (fun b => W0.heap.size ≤ b ∨ b = w2.heap.size + 1) L x.notes W0 (by omega) (by omega) (by omega) (HK.out.2.2.of 0 _ rfl) (HK.out.2.1.of 0 _ rfl) HK.out.1.ring (fun i hi => by have := hlt i hi; omega) (fun b hb => by omega)) Outs.trans (outsK_b (fun b hb => .inl hb)) (Below.refl _ _) (fun _ => rfl)
      (fun pre W => FdW w w2 W0.heap.size w.heap.size L x.notes (foldS x.notes pre) W)
      (fun _ _ _ => False)
      (fun _ _ _ _ hs hg hr => hs.turned (by omega) (by omega) hlt (Nat.le_refl _) hg hr)
      (fun c _ _ _ _ h _ _ => h)
      (hz0 ▸ HK.out.1)
      (fun y => { tmps := #[.agg #[.slice Au x.notes.length cu, .int .i64 x.safe], .pointer (some ⟨w.heap.size, 0, none⟩), .pointer (some ⟨w.heap.size + 1, 0, none⟩), .pointer (some ⟨w2.heap.size, 0, none⟩), .pointer (some ⟨w2.heap.size + 1, 0, none⟩), .pointer (some ⟨at_ L y.1, 0, none⟩), .agg #[.slice Au x.notes.length cu, .int .i64 x.safe], .bool true, .bool false, undef, .pointer (some ⟨w.heap.size, 0, none⟩), .slice Au x.notes.length cu, .agg #[.pointer (some ⟨at_ L 0, 0, none⟩)], .agg #[.pointer (some ⟨at_ L 0, 0, none⟩)], .pointer (some ⟨w2.heap.size, 0, none⟩), .pointer (some ⟨at_ L 0, 0, none⟩),
        .func (.func 119) #[] #[.pointer (some ⟨w2.heap.size + 1 + 1 + 1, 0, none⟩), .pointer (some ⟨w2.heap.size + 1 + 1, 0, none⟩)], .pointer (some ⟨at_ L y.1, 0, none⟩), undef, undef, undef, undef, undef, undef, undef, undef, undef, undef, undef, undef], defers := [] }) ?assign ?body ?done ?stop
    case assign =>
      intro l y W K hK
      unfold ptr
      gi_wp2
      exact hK
    case body =>
      rintro l pre y W hK hpn
      obtain ⟨n, A1, c1, A2, c2, hy, q0, q1, q2, q3, -⟩ := hK.ring.at_ (k := y.1 - 1) (by have := y.2; omega)
      have hxe : y.1 - 1 + 1 = y.1 := by have := y.2; omega
      rw [hxe] at q0 q1 q2 q3
      have hyn : noteAt x.notes y = n := noteAt_get hy hxe.symm
      obtain ⟨its, hits⟩ : ∃ its, foldS x.notes pre = its := ⟨_, rfl⟩
      have hfi := foldS_fine x.notes pre
      rw [hits] at hK hfi
      obtain ⟨v, S, hrow, hown, hS⟩ := hK.sto
      obtain ⟨Av, cv, rfl, -, -⟩ := hown.row.form
      have HK := Lib.hid hK
      have HY := Lib.hid hyn
      have HNy := Lib.hid hy
      have HRow := Lib.hid hrow
      have HOwn := Lib.hid hown
      have HIt := Lib.hid hits
      have HRg := Lib.hid (hK.ring.onward ((Below.refl _ W).drew))
      have k0 : W.drew.cell? ⟨w2.heap.size + 1, 0, none⟩ = some (.slice Av its.length cv) ∧ W.drew.cell? ⟨w2.heap.size, 0, none⟩ = some (.pointer (some ⟨at_ L 0, 0, none⟩)) := ⟨hrow.of 0 _ rfl, hK.lst.of 0 _ rfl⟩
      have hwW : w.heap.size ≤ W.heap.size := hK.bel.size
      have hzW : W0.heap.size ≤ W.heap.size := hK.size
      clear hK hyn hy hxe hrow hown hS hits q1 q2 q3
      by_cases hk2 : n.kind = 2
      · have ek : (n.kind == 2) = true := by simp [hk2]
        have HS := Lib.hid (spotF_yes (s := its) HY.out hk2)
        clear hk2
        gi_wp2
        refine region_l_in HFw.out (S := (fun w' => w'.cell? ⟨w2.heap.size + 1, 0, none⟩ = some (.slice Av its.length cv) ∧ w'.cell? ⟨w2.heap.size, 0, none⟩ = some (.pointer (some ⟨at_ L 0, 0, none⟩)))) 5 (by kernel_rfl) (by kernel_rfl) (by rintro ⟨_, _, h⟩; exact h) ?hSfx (fun hHeldfx => ?stfx)
        case hSfx => (first | (dsimp only; (first | with_reducible exact k2 | with_reducible exact k1 | exact k0)) | (first | with_reducible exact k2 | with_reducible exact k1 | exact k0))
        refine take_l 0 24 (v := ?vfx_1) rfl rfl (by kernel_rfl) (by kernel_rfl) (by kernel_rfl) (by kernel_rfl) (fun _ _ _ h => h) (by rfl) ?yfx_1 (by assumption) ?rfx_1
        case yfx_1 => (intro w hSw; (try dsimp only at hSw); go_simp; (try with_reducible rfl))
        simp only [Act.put, List.setIfInBounds_toArray, List.set_cons_zero, List.set_cons_succ]
        refine take_l 1 25 (v := ?vfx_2) rfl rfl (by kernel_rfl) (by kernel_rfl) (by kernel_rfl) (by kernel_rfl) (fun _ _ _ h => h) (by rfl) ?yfx_2 (by assumption) ?rfx_2
        case yfx_2 => (intro w hSw; (try dsimp only at hSw); go_simp; (try with_reducible rfl))
        simp only [Act.put, List.setIfInBounds_toArray, List.set_cons_zero, List.set_cons_succ]
        refine take_l 2 26 (v := ?vfx_3) rfl rfl (by kernel_rfl) (by kernel_rfl) (by kernel_rfl) (by kernel_rfl) (fun _ _ _ h => h) (by rfl) ?yfx_3 (by assumption) ?rfx_3
        case yfx_3 => (intro w hSw; (try dsimp only at hSw); go_simp; (try with_reducible rfl))
        simp only [Act.put, List.setIfInBounds_toArray, List.set_cons_zero, List.set_cons_succ]
        refine one_l 3 rfl (by kernel_rfl) (fun Kfx_4 hKfx_4 => ?cfx_4)
        go_simp
        refine (committed_any W.drew w.heap.size L x.notes y.1 y.2.1 y.2.2 n HNy.out HRg.out).mono ?_; rintro e w5 ⟨vc, rfl, hrc, hb5⟩; obtain ⟨Ac, cc, rfl, -, -⟩ := hrc.form; have HB5 := Lib.hid (show Below W.heap.size W w5 from ((Below.refl _ W).drew).trans hb5); have HRc := Lib.hid hrc; have k1 := And.intro (cellBelow hb5 k0.1) (cellBelow hb5 k0.2); have HOwn5 := Lib.hid (HOwn.out.below HB5.out); have HKo := Lib.hid ((KeepsOthers.drew W).trans (keepsOthers_below hb5)); have HRow5 := Lib.hid (HRow.out.below HB5.out HRow.out.1); clear hb5 hrc
        go_wp2_with fail
        refine hKfx_4.out _ _ ?kfx_4 (fun hHoldfx_4 => ?dfx_4)
        case kfx_4 => (intro _; (first | (dsimp only; (first | with_reducible exact k2 | with_reducible exact k1 | exact k0)) | (first | with_reducible exact k2 | with_reducible exact k1 | exact k0)))
        clear hKfx_4 Kfx_4
        have hHeldfx_4 := hHoldfx_4 (by decide)
        clear hHoldfx_4
        refine one_l 4 rfl (by kernel_rfl) (fun Kfx_5 hKfx_5 => ?cfx_5)
        go_simp
        refine (implStoDo_any w5 _ _ its _ (items_row.1 HOwn5.out.row) (wrts_row.1 (HRc.out.more (Nat.le_trans hwW HB5.out.size)))).mono ?_; rintro e w6 ⟨u6, rfl, ho6, hb6⟩; obtain ⟨A6, c6, rfl, -, -⟩ := ho6.row.form; have HB6 := Lib.hid (belowNext HB5.out hb6); have HKo6 := Lib.hid (HKo.out.trans (keepsOthers_below hb6)); have k2 := And.intro (cellBelow hb6 k1.1) (cellBelow hb6 k1.2); have HRow6 := Lib.hid (HRow5.out.below hb6 HRow5.out.1); have f6 := HRow6.out.2.1 0; have HO6 := Lib.hid ho6; clear hb6 ho6
        go_wp2_with fail
        refine hKfx_5.out _ _ ?kfx_5 (fun hHoldfx_5 => ?dfx_5)
        case kfx_5 => (intro _; (first | (dsimp only; (first | with_reducible exact k2 | with_reducible exact k1 | exact k0)) | (first | with_reducible exact k2 | with_reducible exact k1 | exact k0)))
        clear hKfx_5 Kfx_5
        have hHeldfx_5 := hHoldfx_5 (by decide)
        clear hHoldfx_5
        refine one_l 5 rfl (by kernel_rfl) (fun Kfx_6 hKfx_6 => ?cfx_6)
        go_simp
        skip
        go_wp2_with fail
        refine hKfx_6.out _ _ ?kfx_6 (fun hHoldfx_6 => ?dfx_6)
        case kfx_6 => exact fun h => absurd rfl h
        clear hKfx_6 Kfx_6
        clear hHoldfx_6
        refine done_l (by kernel_rfl) ?efx _
        gi_wp2
        have hFd := HK.out.put (by omega) (by omega) hlt (Nat.le_refl _) HB6.out (HO6.out.mono fun b hb => ⟨by have := HB5.out.size; omega, hb.2⟩)
        refine ⟨HKo6.out.trans (KeepsOthers.setCell _ _ _), (Outs.of_below HB6.out).trans (Outs.of_set _ ⟨w2.heap.size + 1, 0, none⟩ _ (.inr rfl)), ?_⟩
        dsimp only
        rw [foldS_snoc, HIt.out, HS.out]
        exact hFd
      · have ek : (n.kind == 2) = false := by simp [hk2]
        have HS := Lib.hid (spotF_no (s := its) HY.out hk2)
        clear hk2
        gi_wp2
        exact ⟨KeepsOthers.refl _, Outs.refl _ _, by dsimp only; rw [foldS_snoc, HIt.out, HS.out]; exact HK.out⟩
    case done =>
      rintro D ys W hD rfl hK hDf
      rw [foldS_all] at hK
      obtain ⟨v, S, hrow, hown, hS⟩ := hK.sto
      obtain ⟨Av, cv, rfl, -, -⟩ := hown.row.form
      have s0 := hrow.of 0 _ rfl
      have r0 := hK.res.of 0 _ rfl
      have rf := hK.res.2.1 0
      have HK := Lib.hid hK
      have HD := Lib.hid hDf
      have HOwn := Lib.hid hown
      have HS := Lib.hid hS
      clear hK hDf hown hS hrow
      gi_wp2
      have hD' := (KeepsOthers.setCell W ⟨w.heap.size + 1, 0, none⟩ (.slice Av (foldN x.notes).length cv)).same D _ HD.out rfl
      refine ⟨by simp, .inl ⟨_, _, rfl, run_takeDeferred hD', ?_⟩⟩
      have hc0 := cell_kept ((HK.out.res.set_ (i := 0) (.slice Av (foldN x.notes).length cv)).of 0 _ rfl) (grownBy_putObj' _ D (.deferred none)) (fun r e => by cases e; exact ⟨_, hD', rfl⟩)
      have hbel : Below w.heap.size w (W.setCell ⟨w.heap.size + 1, 0, none⟩ (.slice Av (foldN x.notes).length cv)) := HK.out.bel.setCell (p := ⟨w.heap.size + 1, 0, none⟩) (by show w.heap.size ≤ w.heap.size + 1; omega) _
      refine ⟨.agg #[.slice Av (foldN x.notes).length cv], ?_, _, rfl, ?_, hbel.trans (belowK_b (w := w) (Nat.le_refl _) _ D _ _ (by omega) hD' rfl rfl)⟩
      · simp [results, Try.f34, go_sem, hc0]
      · rw [HO.out]
        have h1 := (HOwn.out.keep (w' := W.setCell ⟨w.heap.size + 1, 0, none⟩ (.slice Av (foldN x.notes).length cv)) fun b hb _ => Below.heap_setCell _ _ _ _ (by have := (HS.out b hb).1; show b ≠ w.heap.size + 1; omega))
        have h2 := h1.turned tight_item (grownBy_putObj' _ D (.deferred none)) (fun r e => by cases e; exact ⟨_, hD', rfl⟩)
        refine h2.mono fun b hb => ⟨by have := (HS.out b hb).1; omega, ?_⟩
        have := (HS.out b hb).2
        refine Nat.lt_of_lt_of_le this (Nat.le_trans ?_ (grownBy_putObj' _ D (.deferred none)).size)
        simp [World.setCell]
    case stop =>
      rintro D c pre W _ _ hF _
      exact hF.elim

end Go.Proofs.Ytkamlibfcakblaa

/- jaSto of what is the same. -/
namespace Go.Proofs.Ytkamlibfcakblaa
open Go.RowKit

set_option maxRecDepth 100000 in
set_option maxHeartbeats 4000000 in
theorem jaSto_same (w : World) (v u : Value) (its : List Item) (hv : Items w w.heap.size v its) (hu : Items w w.heap.size u its) :
    Calls Try.prog 35 #[.agg #[v], .agg #[u]] w fun e w' => e = .returned (.bool true) ∧ Below w.heap.size w w' := by
  obtain ⟨A, c, rfl, hc2, hc1⟩ := hv.form
  obtain ⟨A', c', rfl, hc2', hc1'⟩ := hu.form
  unfold maxLen at hc2 hc2'
  have HB := Lib.hid (belowTwo w (.cells #[.slice A its.length c] 54) (.cells #[.slice A' its.length c'] 54))
  have HX := Lib.hid ((Held.new w #[.slice A its.length c] 54).after (.cells #[.slice A' its.length c'] 54))
  have HY := Lib.hid (show Held ((w.alloc (.cells #[.slice A its.length c] 54)).alloc (.cells #[.slice A' its.length c'] 54)) (w.heap.size + 1) [.slice A' its.length c'] from by have h := Held.new (w.alloc (.cells #[.slice A its.length c] 54)) #[.slice A' its.length c'] 54; rwa [show (w.alloc (.cells #[.slice A its.length c] 54)).heap.size = w.heap.size + 1 by simp] at h)
  go_enter Try.func35, Try.ntmps35
  go_wp2
  go_loopw [5] (fun i wr => ∃ k : Nat, k ≤ its.length ∧ i = .int .i64 k ∧ Below w.heap.size w wr ∧ Held wr w.heap.size [.slice A its.length c] ∧ Held wr (w.heap.size + 1) [.slice A' its.length c']) (fun i _ => its.length - (intOf i).toNat)
  case atStart => exact ⟨0, Nat.zero_le _, rfl, HB.out, HX.out, HY.out⟩
  case round =>
    clear HB HX HY
    obtain ⟨k, hk, rfl, hb, hx, hy⟩ := hrel
    have HX := Lib.hid hx
    have HY := Lib.hid hy
    have x0 := hx.of 0 _ rfl
    have y0 := hy.of 0 _ rfl
    clear hx hy
    by_cases hlt : k < its.length
    · obtain ⟨b, off, d, it, p, e1, hit, hB, hs, ck, cu, hp⟩ := (hv.below hb).at_ (k := k) hlt
      obtain ⟨b2, off2, d2, it2, p2, e2, hit2, hB2, hs2, ck2, cu2, hp2⟩ := (hu.below hb).at_ (k := k) hlt
      rw [hit] at hit2
      injection hit2 with hit2
      subst hit2
      obtain ⟨Ap, cp, rfl, -, -⟩ := hp.form
      obtain ⟨Ap2, cp2, rfl, -, -⟩ := hp2.form
      injection e1 with e1a e1b e1c
      injection e2 with e2a e2b e2c
      subst e1a e2a
      have HP := Lib.hid (show Ints wr.drew wr.drew.heap.size _ it.val from hp.more hb.size)
      have HP2 := Lib.hid (show Ints wr.drew wr.drew.heap.size _ it.val from hp2.more hb.size)
      have HB := Lib.hid hb
      have k0 := And.intro x0 (And.intro y0 (And.intro ck (And.intro cu (And.intro ck2 cu2))))
      have f3 : (0 : Int) ≤ (k : Int) := by omega
      have f4 : (k : Int) < (its.length : Int) := by omega
      clear e1b e1c e2b e2c hv hu hit hp hp2 hb ck cu ck2 cu2
      go_wp2
      refine wp_region_held_drew (S := (fun w' => w'.cell? ⟨w.heap.size, 0, none⟩ = some (.slice (some ⟨b, off, none⟩) its.length c) ∧ w'.cell? ⟨w.heap.size + 1, 0, none⟩ = some (.slice (some ⟨b2, off2, none⟩) its.length c') ∧ w'.cell? ⟨b, off + k * 2, none⟩ = some (.string it.key) ∧ w'.cell? ⟨b, off + k * 2 + 1, none⟩ = some (.slice Ap it.val.length cp) ∧ w'.cell? ⟨b2, off2 + k * 2, none⟩ = some (.string it.key) ∧ w'.cell? ⟨b2, off2 + k * 2 + 1, none⟩ = some (.slice Ap2 it.val.length cp2))) (by kernel_rfl) ?hSr (fun hHeldr => ?str)
      case hSr => (first | (dsimp only; (exact k0)) | (exact k0))
      refine take_first 0 20 (v := ?vr_1) rfl rfl (by kernel_rfl) (by kernel_rfl) (by kernel_rfl) (fun _ _ _ h => h) (by rfl) ?yr_1 (by assumption) ?rr_1
      case yr_1 => (intro w hSw; (try dsimp only at hSw); go_simp; (try with_reducible rfl))
      simp only [Act.put, List.setIfInBounds_toArray, List.set_cons_zero, List.set_cons_succ]
      refine take_first 1 21 (v := ?vr_2) rfl rfl (by kernel_rfl) (by kernel_rfl) (by kernel_rfl) (fun _ _ _ h => h) (by rfl) ?yr_2 (by assumption) ?rr_2
      case yr_2 => (intro w hSw; (try dsimp only at hSw); go_simp; (try with_reducible rfl))
      simp only [Act.put, List.setIfInBounds_toArray, List.set_cons_zero, List.set_cons_succ]
      refine take_first 2 22 (v := ?vr_3) rfl rfl (by kernel_rfl) (by kernel_rfl) (by kernel_rfl) (fun _ _ _ h => h) (by rfl) ?yr_3 (by assumption) ?rr_3
      case yr_3 => (intro w hSw; (try dsimp only at hSw); go_simp; (try with_reducible rfl))
      simp only [Act.put, List.setIfInBounds_toArray, List.set_cons_zero, List.set_cons_succ]
      refine take_first 3 23 (v := ?vr_4) rfl rfl (by kernel_rfl) (by kernel_rfl) (by kernel_rfl) (fun _ _ _ h => h) (by rfl) ?yr_4 (by assumption) ?rr_4
      case yr_4 => (intro w hSw; (try dsimp only at hSw); go_simp; (try with_reducible rfl))
      simp only [Act.put, List.setIfInBounds_toArray, List.set_cons_zero, List.set_cons_succ]
      refine take_first 4 24 (v := ?vr_5) rfl rfl (by kernel_rfl) (by kernel_rfl) (by kernel_rfl) (fun _ _ _ h => h) (by rfl) ?yr_5 (by assumption) ?rr_5
      case yr_5 => (intro w hSw; (try dsimp only at hSw); go_simp; (try with_reducible rfl))
      simp only [Act.put, List.setIfInBounds_toArray, List.set_cons_zero, List.set_cons_succ]
      refine take_first 5 25 (v := ?vr_6) rfl rfl (by kernel_rfl) (by kernel_rfl) (by kernel_rfl) (fun _ _ _ h => h) (by rfl) ?yr_6 (by assumption) ?rr_6
      case yr_6 => (intro w hSw; (try dsimp only at hSw); go_simp; (try with_reducible rfl))
      simp only [Act.put, List.setIfInBounds_toArray, List.set_cons_zero, List.set_cons_succ]
      refine take_first 6 26 (v := ?vr_7) rfl rfl (by kernel_rfl) (by kernel_rfl) (by kernel_rfl) (fun _ _ _ h => h) (by rfl) ?yr_7 (by assumption) ?rr_7
      case yr_7 => (intro w hSw; (try dsimp only at hSw); go_simp; (try with_reducible rfl))
      simp only [Act.put, List.setIfInBounds_toArray, List.set_cons_zero, List.set_cons_succ]
      refine take_first 7 27 (v := ?vr_8) rfl rfl (by kernel_rfl) (by kernel_rfl) (by kernel_rfl) (fun _ _ _ h => h) (by rfl) ?yr_8 (by assumption) ?rr_8
      case yr_8 => (intro w hSw; (try dsimp only at hSw); go_simp; (try with_reducible rfl))
      simp only [Act.put, List.setIfInBounds_toArray, List.set_cons_zero, List.set_cons_succ]
      refine take_first 8 28 (v := ?vr_9) rfl rfl (by kernel_rfl) (by kernel_rfl) (by kernel_rfl) (fun _ _ _ h => h) (by rfl) ?yr_9 (by assumption) ?rr_9
      case yr_9 => (intro w hSw; (try dsimp only at hSw); go_simp; (try with_reducible rfl))
      simp only [Act.put, List.setIfInBounds_toArray, List.set_cons_zero, List.set_cons_succ]
      refine take_first 9 29 (v := ?vr_10) rfl rfl (by kernel_rfl) (by kernel_rfl) (by kernel_rfl) (fun _ _ _ h => h) (by rfl) ?yr_10 (by assumption) ?rr_10
      case yr_10 => (intro w hSw; (try dsimp only at hSw); go_simp; (try with_reducible rfl))
      simp only [Act.put, List.setIfInBounds_toArray, List.set_cons_zero, List.set_cons_succ]
      refine take_first 10 30 (v := ?vr_11) rfl rfl (by kernel_rfl) (by kernel_rfl) (by kernel_rfl) (fun _ _ _ h => h) (by rfl) ?yr_11 (by assumption) ?rr_11
      case yr_11 => (intro w hSw; (try dsimp only at hSw); go_simp; (try with_reducible rfl))
      simp only [Act.put, List.setIfInBounds_toArray, List.set_cons_zero, List.set_cons_succ]
      refine take_first 11 31 (v := ?vr_12) rfl rfl (by kernel_rfl) (by kernel_rfl) (by kernel_rfl) (fun _ _ _ h => h) (by rfl) ?yr_12 (by assumption) ?rr_12
      case yr_12 => (intro w hSw; (try dsimp only at hSw); go_simp; (try with_reducible rfl))
      simp only [Act.put, List.setIfInBounds_toArray, List.set_cons_zero, List.set_cons_succ]
      refine take_first 12 32 (v := ?vr_13) rfl rfl (by kernel_rfl) (by kernel_rfl) (by kernel_rfl) (fun _ _ _ h => h) (by rfl) ?yr_13 (by assumption) ?rr_13
      case yr_13 => (intro w hSw; (try dsimp only at hSw); go_simp; (try with_reducible rfl))
      simp only [Act.put, List.setIfInBounds_toArray, List.set_cons_zero, List.set_cons_succ]
      refine take_first 13 33 (v := ?vr_14) rfl rfl (by kernel_rfl) (by kernel_rfl) (by kernel_rfl) (fun _ _ _ h => h) (by rfl) ?yr_14 (by assumption) ?rr_14
      case yr_14 => (intro w hSw; (try dsimp only at hSw); go_simp; (try with_reducible rfl))
      simp only [Act.put, List.setIfInBounds_toArray, List.set_cons_zero, List.set_cons_succ]
      refine take_first 14 34 (v := ?vr_15) rfl rfl (by kernel_rfl) (by kernel_rfl) (by kernel_rfl) (fun _ _ _ h => h) (by rfl) ?yr_15 (by assumption) ?rr_15
      case yr_15 => (intro w hSw; (try dsimp only at hSw); go_simp; (try with_reducible rfl))
      simp only [Act.put, List.setIfInBounds_toArray, List.set_cons_zero, List.set_cons_succ]
      refine take_first 15 35 (v := ?vr_16) rfl rfl (by kernel_rfl) (by kernel_rfl) (by kernel_rfl) (fun _ _ _ h => h) (by rfl) ?yr_16 (by assumption) ?rr_16
      case yr_16 => (intro w hSw; (try dsimp only at hSw); go_simp; (try with_reducible rfl))
      simp only [Act.put, List.setIfInBounds_toArray, List.set_cons_zero, List.set_cons_succ]
      refine take_first 16 36 (v := ?vr_17) rfl rfl (by kernel_rfl) (by kernel_rfl) (by kernel_rfl) (fun _ _ _ h => h) (by rfl) ?yr_17 (by assumption) ?rr_17
      case yr_17 => (intro w hSw; (try dsimp only at hSw); go_simp; (try with_reducible rfl))
      simp only [Act.put, List.setIfInBounds_toArray, List.set_cons_zero, List.set_cons_succ]
      refine take_first 17 37 (v := ?vr_18) rfl rfl (by kernel_rfl) (by kernel_rfl) (by kernel_rfl) (fun _ _ _ h => h) (by rfl) ?yr_18 (by assumption) ?rr_18
      case yr_18 => (intro w hSw; (try dsimp only at hSw); go_simp; (try with_reducible rfl))
      simp only [Act.put, List.setIfInBounds_toArray, List.set_cons_zero, List.set_cons_succ]
      refine take_first 18 38 (v := ?vr_19) rfl rfl (by kernel_rfl) (by kernel_rfl) (by kernel_rfl) (fun _ _ _ h => h) (by rfl) ?yr_19 (by assumption) ?rr_19
      case yr_19 => (intro w hSw; (try dsimp only at hSw); go_simp; (try with_reducible rfl))
      simp only [Act.put, List.setIfInBounds_toArray, List.set_cons_zero, List.set_cons_succ]
      refine take_first 19 39 (v := ?vr_20) rfl rfl (by kernel_rfl) (by kernel_rfl) (by kernel_rfl) (fun _ _ _ h => h) (by rfl) ?yr_20 (by assumption) ?rr_20
      case yr_20 => (intro w hSw; (try dsimp only at hSw); go_simp; (try with_reducible rfl))
      simp only [Act.put, List.setIfInBounds_toArray, List.set_cons_zero, List.set_cons_succ]
      refine take_first 20 40 (v := ?vr_21) rfl rfl (by kernel_rfl) (by kernel_rfl) (by kernel_rfl) (fun _ _ _ h => h) (by rfl) ?yr_21 (by assumption) ?rr_21
      case yr_21 => (intro w hSw; (try dsimp only at hSw); go_simp; (try with_reducible rfl))
      simp only [Act.put, List.setIfInBounds_toArray, List.set_cons_zero, List.set_cons_succ]
      refine take_first 21 41 (v := ?vr_22) rfl rfl (by kernel_rfl) (by kernel_rfl) (by kernel_rfl) (fun _ _ _ h => h) (by rfl) ?yr_22 (by assumption) ?rr_22
      case yr_22 => (intro w hSw; (try dsimp only at hSw); go_simp; (try with_reducible rfl))
      simp only [Act.put, List.setIfInBounds_toArray, List.set_cons_zero, List.set_cons_succ]
      refine take_first 22 42 (v := ?vr_23) rfl rfl (by kernel_rfl) (by kernel_rfl) (by kernel_rfl) (fun _ _ _ h => h) (by rfl) ?yr_23 (by assumption) ?rr_23
      case yr_23 => (intro w hSw; (try dsimp only at hSw); go_simp; (try with_reducible rfl))
      simp only [Act.put, List.setIfInBounds_toArray, List.set_cons_zero, List.set_cons_succ]
      refine take_first 23 43 (v := ?vr_24) rfl rfl (by kernel_rfl) (by kernel_rfl) (by kernel_rfl) (fun _ _ _ h => h) (by rfl) ?yr_24 (by assumption) ?rr_24
      case yr_24 => (intro w hSw; (try dsimp only at hSw); go_simp; (try with_reducible rfl))
      simp only [Act.put, List.setIfInBounds_toArray, List.set_cons_zero, List.set_cons_succ]
      refine take_first 24 44 (v := ?vr_25) rfl rfl (by kernel_rfl) (by kernel_rfl) (by kernel_rfl) (fun _ _ _ h => h) (by rfl) ?yr_25 (by assumption) ?rr_25
      case yr_25 => (intro w hSw; (try dsimp only at hSw); go_simp; (try with_reducible rfl))
      simp only [Act.put, List.setIfInBounds_toArray, List.set_cons_zero, List.set_cons_succ]
      refine take_first 25 45 (v := ?vr_26) rfl rfl (by kernel_rfl) (by kernel_rfl) (by kernel_rfl) (fun _ _ _ h => h) (by rfl) ?yr_26 (by assumption) ?rr_26
      case yr_26 => (intro w hSw; (try dsimp only at hSw); go_simp; (try with_reducible rfl))
      simp only [Act.put, List.setIfInBounds_toArray, List.set_cons_zero, List.set_cons_succ]
      refine wpAnyH_ready (rs := [26]) (by kernel_rfl) (by simp) ?_
      refine AllReadyH.cons (o := _) rfl (fun Kr_27 hKr_27 => ?cr_27) ?mr_27
      case mr_27 => exact AllReadyH.nil
      go_simp
      refine (jaInts_any _ _ _ _ it.val it.val HP.out HP2.out).mono ?_; rintro e w1 ⟨rfl, n, rfl⟩; rw [show decide (it.val = it.val) = true from decide_eq_true rfl]
      go_wp2_with fail
      refine hKr_27.out _ _ ?kr_27 (fun hHeldr_27 => ?dr_27)
      case kr_27 => (first | (dsimp only; (exact k0)) | (exact k0))
      clear hKr_27 Kr_27
      refine take_first 27 47 (v := ?vr_28) rfl rfl (by kernel_rfl) (by kernel_rfl) (by kernel_rfl) (fun _ _ _ h => h) (by rfl) ?yr_28 (by assumption) ?rr_28
      case yr_28 => (intro w hSw; (try dsimp only at hSw); go_simp; (try with_reducible rfl))
      simp only [Act.put, List.setIfInBounds_toArray, List.set_cons_zero, List.set_cons_succ]
      refine take_first 28 48 (v := ?vr_29) rfl rfl (by kernel_rfl) (by kernel_rfl) (by kernel_rfl) (fun _ _ _ h => h) (by rfl) ?yr_29 (by assumption) ?rr_29
      case yr_29 => (intro w hSw; (try dsimp only at hSw); go_simp; (try with_reducible rfl))
      simp only [Act.put, List.setIfInBounds_toArray, List.set_cons_zero, List.set_cons_succ]
      refine wpAnyH_done (by kernel_rfl) ?er _
      clear k0 x0 y0
      go_wp2
      go_roundw
      case rel => exact ⟨k + 1, by omega, by go_num, belowDraws HB.out (1 + n), HX.out, HY.out⟩
      case measure => simp [intOf]; omega
    · clear hv hu
      go_wp2
      go_ret
      exact ⟨rfl, hb⟩

end Go.Proofs.Ytkamlibfcakblaa

/- The shape of what a place keeps, and of what some places keep. -/
namespace Go.Proofs.Ytkamlibfcakblaa
open Go.RowKit

/-- What a place keeps. -/
structure Sto where
  items : List Item
def stoSh : Sh Sto := itsSh.conv (fun x => x.items) (fun p => ⟨p⟩) rfl
abbrev stosSh : Sh (List Sto) := stoSh.sl 54 (by decide)
section
variable {w : World} {B : Nat} {S : Nat → Prop} {v : Value}
theorem sto_rel {cs : List Value} {x : Sto} : stoSh.rel w B cs x ↔ ∃ u, cs = [u] ∧ itSh.Row w B u x.items := Iff.rfl
theorem sto_own {cs : List Value} {x : Sto} : stoSh.own w S cs x ↔ ∃ u, cs = [u] ∧ itSh.Own 104 w S u x.items := Iff.rfl
/-- What one of some places keeps. -/
theorem stos_at {xs : List Sto} (h : stoSh.Row w B v xs) {k : Nat} (hk : k < xs.length) : ∃ b off c x u, v = .slice (some ⟨b, off, none⟩) xs.length c ∧ xs[k]? = some x ∧ b < B ∧ w.cell? ⟨b, off + k, none⟩ = some u ∧ itSh.Row w B u x.items := by
  obtain ⟨b, off, c, x, cs, hv, hx, hb, ⟨u, rfl, hu⟩, hc⟩ := h.at_ hk
  have := hc 0 _ rfl
  have hwd : stoSh.wd = 1 := rfl
  rw [hwd] at this
  exact ⟨b, off, c, x, u, hv, hx, hb, by simpa using this, hu⟩
end

end Go.Proofs.Ytkamlibfcakblaa

/- What DiskFold answers, as a store that is only read. -/
namespace Go.Proofs.Ytkamlibfcakblaa
open Go.RowKit

/-- A store, as an answer. -/
def StoGot (R : Sto) (w : World) (e : Ending) (w' : World) : Prop :=
  ∃ A c, e = .returned (.agg #[.slice A R.items.length c]) ∧ stoSh.rel w' w'.heap.size [.slice A R.items.length c] R ∧ Below w.heap.size w w'
theorem implFold_got (w : World) (cs : List Value) (x : Disk) (h : diskSh.rel w w.heap.size cs x) {R : Sto} (hR : foldD x = R.items) : Calls Try.prog 34 #[.agg cs.toArray] w (StoGot R w) :=
  (implDiskFold_any w cs x h).mono fun e w' ⟨u, h1, h2, h3⟩ => by
    rw [hR] at h2
    obtain ⟨A, c, rfl, -, -⟩ := h2.row.form
    exact ⟨A, c, h1, sto_rel.2 ⟨_, rfl, h2.row⟩, h3⟩
theorem specFold_got (w : World) (cs : List Value) (x : Disk) (h : diskSh.rel w w.heap.size cs x) {R : Sto} (hR : foldD x = R.items) : Calls Try.prog 36 #[.agg cs.toArray] w (StoGot R w) :=
  (specDiskFold_any w cs x h).mono fun e w' ⟨u, h1, h2, h3⟩ => by
    rw [hR] at h2
    have h4 := items_row.2 h2.items
    obtain ⟨A, c, rfl, -, -⟩ := h4.form
    exact ⟨A, c, h1, sto_rel.2 ⟨_, rfl, h4⟩, h3⟩
theorem jaSto_got (w : World) (A A' : Option Addr) (c c' : Nat) (R : Sto) (h1 : stoSh.rel w w.heap.size [.slice A R.items.length c] R) (h2 : stoSh.rel w w.heap.size [.slice A' R.items.length c'] R) :
    Calls Try.prog 35 #[.agg #[.slice A R.items.length c], .agg #[.slice A' R.items.length c']] w (Alike w) := by
  obtain ⟨u, e1, q1⟩ := sto_rel.1 h1
  obtain ⟨u', e2, q2⟩ := sto_rel.1 h2
  cases e1
  cases e2
  exact jaSto_same w _ _ R.items (items_row.1 q1) (items_row.1 q2)
theorem stoOk_got (w : World) (A : Option Addr) (c : Nat) (R : Sto) (h1 : stoSh.rel w w.heap.size [.slice A R.items.length c] R) :
    Calls Try.prog 37 #[.agg #[.slice A R.items.length c]] w fun e w' => e = .returned (.bool (stoB R.items)) ∧ Below w.heap.size w w' := by
  obtain ⟨u, e1, q1⟩ := sto_rel.1 h1
  cases e1
  exact implStoOk_any w _ R.items (items_row.1 q1)
/-- A store of the law's own. -/
def StoHad (R : Sto) (w : World) (e : Ending) (w' : World) : Prop :=
  ∃ A c, e = .returned (.agg #[.slice A R.items.length c]) ∧ stoSh.own w' (fun b => w.heap.size ≤ b ∧ b < w'.heap.size) [.slice A R.items.length c] R ∧ Below w.heap.size w w'
theorem implDo_had (w : World) (A : Option Addr) (c : Nat) (lv : Value) (R V : Sto) (ws : List Wr) (h1 : stoSh.rel w w.heap.size [.slice A R.items.length c] R) (h2 : wrSh.Row w w.heap.size lv ws) (hV : stoDo R.items ws = V.items) :
    Calls Try.prog 38 #[.agg #[.slice A R.items.length c], lv] w (StoHad V w) := by
  obtain ⟨u, e1, q1⟩ := sto_rel.1 h1
  cases e1
  refine (implStoDo_any w _ lv R.items ws (items_row.1 q1) (wrts_row.1 h2)).mono fun e w' ⟨u, h1, h2, h3⟩ => ?_
  rw [hV] at h2
  obtain ⟨A', c', rfl, -, -⟩ := h2.row.form
  exact ⟨A', c', h1, sto_own.2 ⟨_, rfl, h2⟩, h3⟩
/-- What one more note adds. -/
theorem foldD_add {x : Disk} {k t : Int} (h : diskB x = true) (hl : x.notes.length < 120) (hn : noteB ⟨k, t, [], []⟩ = true) :
    foldD (addD x ⟨k, t, [], []⟩ true) = if k = 2 then stoDo (foldD x) (comW x.notes t) else foldD x := by
  have hd := diskB_add (x := x) (n := ⟨k, t, [], []⟩) (b := true)
  rw [foldD_yes hd, (addD_yes h hn hl).1, foldD_yes h]
  show foldN (x.notes ++ [⟨k, t, [], []⟩]) = _
  rw [foldN_snoc]

end Go.Proofs.Ytkamlibfcakblaa

/- append of one thing that is laid out beside, to a row whose elements are only read: where the row lies. -/
namespace Go.Proofs.Ytkamlibfcakblaa
open Go.RowKit

section
variable {α : Type} (Q0 : Sh α) (t e : TypeId) (z : Value) (bytes : Nat) (ht : Try.prog.underlying t = some (.slice e)) (hinfo : (Try.prog.info? e).map (fun i => (i.zero, i.size, i.bytes)) = some (some z, Q0.wd, bytes)) (hzs : z.cells.size = Q0.wd) (hsz : 0 < Q0.wd) (hbl : bytes ≤ 65536)
include ht hinfo hzs hsz hbl
theorem shal1_at {o : Oper} {a : Act} {w : World} {K : Act → World → Prop} {Q : Exit → Act → World → Prop} (s x : Operand)
    (ho : o.op = .call { callee := .builtin .append, args := #[s, x], argTypes := #[t, t] }) (B : Nat) (v : Value) (xs : List α) (hs : a.eval s = v) (hv : Q0.Shal e w B v xs) (hB : B ≤ w.heap.size)
    (L c : Nat) (hx : a.eval x = .slice (some ⟨L, 0, none⟩) 1 c) (y : α) (cs : List Value) (hrel : Q0.rel w B cs y) (hsrc : ∀ j u, cs[j]? = some u → w.cell? ⟨L, j, none⟩ = some u) (hl : xs.length + 1 ≤ 2097152)
    (h : ∀ v' w', Q0.Shal e w' B v' (xs ++ [y]) → w.grownBy w' v.ownBlock → (v'.ownBlock = v.ownBlock ∨ v'.ownBlock = some w.heap.size) → K (a.put o.dst v') w') :
    Oper.wp Try.prog o a w K Q := by
  obtain ⟨i, hi, hz, hsi, hb⟩ := info_parts hinfo
  obtain ⟨C, h1, h2, h3⟩ := hv
  have hcl : cs.length = Q0.wd := Q0.rlen hrel
  have hb2 : (xs.length + 1) * bytes ≤ 140737488355328 := by
    have h := Nat.mul_le_mul hl hbl
    omega
  obtain ⟨v', w', hr, q2, hg, _, q5⟩ := run_append_own_at (P := Try.prog) w 0 t o.type e i _ Q0.wd bytes ht hi hz hsi hb hzs hsz v xs.length _ h1 ⟨L, 0, none⟩ 1 c cs (by rw [hcl, Nat.one_mul]) (fun j u hu => by rw [add_none, Nat.zero_add]; exact hsrc j u hu) (Q0.rone hrel) (by unfold maxLen; omega) hb2 (Nat.zero_le _)
  have hbel : Below B w w' := (Below.refl B w).grown hg hB h2
  unfold Oper.wp execOp
  simp only [ho, resolve, invoke, builtin, Sem.run_bind, Sem.run_pure, Result.andThen_ok, List.map_toArray, List.map_cons, List.map_nil, hs, hx, hr]
  refine h v' w' ⟨fun j => if j < xs.length then C j else cs, ?_, fun g hg' => ?_, fun j z hz' => ?_⟩ hg q5
  · have hf : flat (fun j => if j < xs.length then C j else cs) (xs.length + 1) = flat C xs.length ++ cs := by
      have h := flat_app C (fun _ => cs) xs.length 1
      rw [h]; simp [flat]
    rw [List.length_append, List.length_singleton, hf]
    exact q2
  · rcases q5 with h | h
    · exact h2 g (h ▸ hg')
    · rw [h] at hg'; rw [← Option.some.inj hg']; exact hB
  · by_cases hj : j < xs.length
    · rw [List.getElem?_append_left hj] at hz'
      simp only [hj, if_true]
      exact Q0.rbelow (h3 j z hz') hbel
    · rw [List.getElem?_append_right (by omega)] at hz'
      have hj0 : j - xs.length = 0 := by have := (List.getElem?_eq_some_iff.1 hz').1; simp at this; omega
      rw [hj0] at hz'
      obtain rfl : y = z := by simpa using hz'
      simp only [hj, if_false]
      exact Q0.rbelow hrel hbel
end

theorem relUnder {α : Type} {A : Sh α} {n : Nat} {w w' : World} {B : Nat} {cs : List Value} {x : α} (h : A.rel w B cs x) (hb : Below n w w') (hB : B ≤ n) : A.rel w' B cs x := A.rbelow h (hb.mono hB)
theorem shalForm {α : Type} {A : Sh α} {e : TypeId} {w : World} {B : Nat} {v : Value} {xs : List α} (h : A.Shal e w B v xs) : ∃ Ad c, v = .slice Ad xs.length c := by
  rcases h.form with ⟨rfl, rfl⟩ | ⟨g, cap, rfl, -⟩
  · exact ⟨none, 0, rfl⟩
  · exact ⟨_, _, rfl⟩
/-- The notes that count, so far, in a record of the law's own. -/
structure FlW (W0 : World) (q : Nat) (ys : List Note) (A : Option Addr) (c : Nat) (W : World) : Prop where
  box : Held W q [.slice A ys.length c, .int .i64 0]
  row : noteSh.Shal 36 W q (.slice A ys.length c) ys
  far : ∀ g, Value.ownBlock (.slice A ys.length c) = some g → q < g
  bel : Below q W0 W
  size : q < W.heap.size
theorem FlW.start {W0 : World} : FlW W0 W0.heap.size [] none 0 (W0.alloc (.cells #[.slice none 0 0, .int .i64 0] 25)) :=
  ⟨Held.new _ _ _, Sh.Shal.nil _, (fun g h => by cases h), belowOne _ _, by rw [allocSize]; omega⟩
theorem FlW.put {W0 : World} {q : Nat} {ys zs : List Note} {A A' : Option Addr} {c c' : Nat} {W W1 W2 : World} (h : FlW W0 q ys A c W) (hb : Below W.heap.size W W1) (hs : noteSh.Shal 36 W2 q (.slice A' zs.length c') zs) (hg : W1.grownBy W2 (Value.ownBlock (.slice A ys.length c)))
    (ho : Value.ownBlock (.slice A' zs.length c') = Value.ownBlock (.slice A ys.length c) ∨ Value.ownBlock (.slice A' zs.length c') = some W1.heap.size) : Held W2 q [.slice A ys.length c, .int .i64 0] ∧ Below q W W2 ∧ FlW W0 q zs A' c' (W2.setCell ⟨q, 0, none⟩ (.slice A' zs.length c')) := by
  have hz := hb.size
  have hq := h.size
  have hz2 := hg.size
  have hfar : ∀ g, Value.ownBlock (.slice A' zs.length c') = some g → q < g := fun g hg' => by
    rcases ho with e | e
    · exact h.far g (e ▸ hg')
    · rw [e] at hg'; cases hg'; omega
  have h1 : Held W2 q [.slice A ys.length c, .int .i64 0] := (h.box.below hb hq).outs (Outs.of_grown (S := fun b => q < b) hg h.far) (by omega)
  have hbw : Below q W W2 := (hb.mono (by omega)).grown hg (by omega) (fun g hg' => by have := h.far g hg'; omega)
  refine ⟨h1, hbw, h1.set_ (i := 0) _, hs.set (p := ⟨q, 0, none⟩) (Nat.le_refl _) (fun e => by have := hfar q e; omega) _, hfar, ?_, by simp [World.setCell]; omega⟩
  exact (h.bel.trans hbw).setCell (p := ⟨q, 0, none⟩) (Nat.le_refl _) _
theorem filter_yes {ns : List Note} {k : Nat} {y : Note} (h : ns[k]? = some y) (hy : countsB y = true) : (ns.take (k + 1)).filter countsB = (ns.take k).filter countsB ++ [y] := by
  rw [take_snoc h, List.filter_append]; simp [hy]
theorem filter_no {ns : List Note} {k : Nat} {y : Note} (h : ns[k]? = some y) (hy : countsB y = false) : (ns.take (k + 1)).filter countsB = (ns.take k).filter countsB := by
  rw [take_snoc h, List.filter_append]; simp [hy]
theorem foldD_counts {x : Disk} (h : diskB x = true) : foldD ⟨x.notes.filter countsB, 0⟩ = foldD x := by
  have h1 : diskB ⟨x.notes.filter countsB, 0⟩ = true := by
    obtain ⟨a, b, c, d⟩ := diskB_parts h
    have hl := List.length_filter_le countsB x.notes
    unfold diskB inB
    simp only [Bool.and_eq_true, decide_eq_true_eq, List.all_eq_true]
    exact ⟨by omega, ⟨by omega, by omega⟩, fun n hn => List.all_eq_true.1 d n (List.mem_filter.1 hn).1⟩
  rw [foldD_yes h1, foldD_yes h]
  exact foldN_counts _

end Go.Proofs.Ytkamlibfcakblaa
