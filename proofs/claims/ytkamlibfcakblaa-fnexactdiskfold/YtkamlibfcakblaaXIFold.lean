/- What DiskFold answers, of the program. -/
import Derived.Test.YtkamlibfcakblaaXInDoubt
import Derived.Test.YtkamlibfcakblaaXCommitted
import Derived.Test.YtkamlibfcakblaaXFoldP
namespace Go.Proofs.Ytkamlibfcakblaa
open Go.RowKit Go.Shelf

attribute [local go_sem] Oper.semAt_some

theorem cellBelow {w w' : World} {b o : Nat} {u : Value} (hb : Below w.heap.size w w') (h : w.cell? ⟨b, o, none⟩ = some u) : w'.cell? ⟨b, o, none⟩ = some u := by
  have hlt : b < w.heap.size := by
    rcases Nat.lt_or_ge b w.heap.size with h' | h'
    · exact h'
    · simp [World.cell?, Array.getElem?_eq_none h'] at h
  exact (World.cell?_of_block (a := ⟨b, o, none⟩) (hb.block b hlt)).trans h
theorem tight_item : itSh.Tight := ((tight_str _).pair (tight_int.sl _ _)).conv _ _ _
/-- What holds while all is folded: the result's box, the store, the list, the ring. -/
structure FdW (w w2 : World) (n0 B : Nat) (L : List Nat) (ns : List Note) (its : List Item) (W : World) : Prop where
  res : Held W (w.heap.size + 1) [.slice none 0 0]
  lst : Held W w2.heap.size [.pointer (some ⟨at_ L 0, 0, none⟩)]
  sto : ∃ v S, Held W (w2.heap.size + 1) [v] ∧ itSh.Own 104 W S v its ∧ ∀ b, S b → n0 ≤ b ∧ b < W.heap.size
  ring : Ring W B L ns
  bel : Below w.heap.size w W
  size : n0 ≤ W.heap.size
theorem FdW.turned {w w2 : World} {n0 B : Nat} {L : List Nat} {ns : List Note} {its : List Item} {W W' : World} {row : Option Nat} (h : FdW w w2 n0 B L ns its W) (h1 : w.heap.size + 1 < w2.heap.size) (hn : w2.heap.size + 1 < n0) (hR : ∀ i, i < L.length → at_ L i < w2.heap.size) (hB : B ≤ w.heap.size) (hg : W.grownBy W' row) (hr : ∀ r, row = some r → n0 ≤ r ∧ ∃ o : Obj, W.heap[r]? = some o ∧ o.isCells = false) : FdW w w2 n0 B L ns its W' := by
  have hb : Below n0 W W' := (Below.refl n0 W).grown hg h.size (fun k e => (hr k e).1)
  obtain ⟨v, S, q1, q2, q3⟩ := h.sto
  exact ⟨h.res.below hb (by omega), h.lst.below hb (by omega), ⟨v, S, q1.below hb (by omega), q2.turned tight_item hg (fun r e => (hr r e).2), fun b hb' => ⟨(q3 b hb').1, Nat.lt_of_lt_of_le (q3 b hb').2 hg.size⟩⟩, h.ring.below hb (by omega) (fun i hi => by have := hR i hi; omega), h.bel.trans (hb.mono (by omega)), Nat.le_trans h.size hb.size⟩
theorem FdW.put {w w2 : World} {n0 B : Nat} {L : List Nat} {ns : List Note} {its its' : List Item} {W W' : World} {u : Value} (h : FdW w w2 n0 B L ns its W) (h1 : w.heap.size + 1 < w2.heap.size) (hn : w2.heap.size + 1 < n0) (hR : ∀ i, i < L.length → at_ L i < w2.heap.size) (hB : B ≤ w.heap.size) (hb : Below W.heap.size W W')
    (hu : itSh.Own 104 W' (fun b => W.heap.size ≤ b ∧ b < W'.heap.size) u its') : FdW w w2 n0 B L ns its' (W'.setCell ⟨w2.heap.size + 1, 0, none⟩ u) := by
  obtain ⟨v, S, q1, q2, q3⟩ := h.sto
  have hz := h.size
  have hz2 := hb.size
  have hs : (W'.setCell ⟨w2.heap.size + 1, 0, none⟩ u).heap.size = W'.heap.size := by simp [World.setCell]
  exact ⟨(h.res.below hb h.res.1).farS (by show _ ≠ w2.heap.size + 1; omega) _, (h.lst.below hb h.lst.1).farS (by show _ ≠ w2.heap.size + 1; omega) _,
    ⟨u, _, (q1.below hb q1.1).set_ (i := 0) _, hu.keep fun b hb' _ => Below.heap_setCell _ _ _ _ (by have := hb'.1; show b ≠ w2.heap.size + 1; omega), fun b hb' => ⟨by have := hb'.1; omega, by rw [hs]; exact hb'.2⟩⟩,
    h.ring.below (n := w2.heap.size) ((hb.mono (by omega)).setCell (p := ⟨w2.heap.size + 1, 0, none⟩) (by show w2.heap.size ≤ w2.heap.size + 1; omega) _) (by omega) hR,
    (belowNext h.bel hb).setCell (p := ⟨w2.heap.size + 1, 0, none⟩) (by show w.heap.size ≤ w2.heap.size + 1; omega) _, by omega⟩

set_option maxRecDepth 100000 in
set_option maxHeartbeats 8000000 in
theorem implDiskFold_any (w : World) (cs : List Value) (x : Disk) (h : diskSh.rel w w.heap.size cs x) :
    Calls Try.prog 34 #[.agg cs.toArray] w (StoMade (foldD x) w) := by
  refine (callsIn_wide (n := 9)).1 ?_
  obtain ⟨F, hF⟩ : ∃ F, F = Fence.wide := ⟨_, rfl⟩
  have hro : F.round = none := by rw [hF]; rfl
  have hfn : ∀ f, F.fn f := by rw [hF]; exact fun _ => trivial
  rw [← hF]
  have HFw := Lib.hid hF
  clear hF
  have HH := Lib.hid fun W (hb : Below w.heap.size w W) => diskSh.rmore (diskSh.rbelow h hb) hb.size
  obtain ⟨u, rfl, hu⟩ := disk_rel.1 h
  obtain ⟨Au, cu, rfl, hcu, hnu⟩ := hu.form
  have HU := Lib.hid fun W (hb : Below w.heap.size w W) => hu.below hb
  have HX := Lib.hid ((Held.new w #[.slice Au x.notes.length cu, .int .i64 x.safe] 25).after (.cells #[.slice none 0 0] 54))
  have HRs := Lib.hid (show Held ((w.alloc (.cells #[.slice Au x.notes.length cu, .int .i64 x.safe] 25)).alloc (.cells #[.slice none 0 0] 54)) (w.heap.size + 1) [.slice none 0 0] from by have h0 := Held.new (w.alloc (.cells #[.slice Au x.notes.length cu, .int .i64 x.safe] 25)) #[.slice none 0 0] 54; rwa [allocSize] at h0)
  have HW := Lib.hid (belowTwo w (.cells #[.slice Au x.notes.length cu, .int .i64 x.safe] 25) (.cells #[.slice none 0 0] 54))
  have hd1 : 1 ≤ 9 := by omega
  clear h hu
  refine callsIn_of_wp_marks Try.func34 rfl (hfn _) ?_ hro
  simp only [Try.ntmps34, List.size_toArray, List.length_cons, List.length_nil, Nat.reduceAdd, Nat.reduceSub, Array.replicate_succ, Array.replicate_zero, List.push_toArray, List.append_toArray, List.nil_append, List.cons_append]
  gi_wp2_with fail
  gi_at_call 60
  refine (callsIn_any HFw.out (implDiskOk_any _ _ x (HH.out _ HW.out))).mono ?_
  rintro e w1 ⟨rfl, hb⟩
  replace HX := Lib.hid (HX.out.below hb HX.out.1)
  replace HRs := Lib.hid (HRs.out.below hb HRs.out.1)
  replace HW := Lib.hid (belowNext HW.out hb)
  clear hb
  have x0 := HX.out.of 0 _ rfl
  have r0 := HRs.out.of 0 _ rfl
  have rf := HRs.out.2.1 0
  rcases hd : diskB x
  · have HO := Lib.hid (foldD_no hd)
    have hP := Lib.hid (HRs.out.set_ (i := 0) (.slice none 0 0))
    have hc := hP.out.of 0 _ rfl
    gi_wp2
    refine ⟨.agg #[.slice none 0 0], ?_, _, rfl, by rw [HO.out]; exact Sh.Own.nil _ _, HW.out.setCell (by show w.heap.size ≤ w.heap.size + 1; omega) _⟩
    simp [results, Try.f34, go_sem, hc]
  · have HO := Lib.hid (foldD_yes hd)
    have HN := Lib.hid (diskB_parts hd).1
    clear hd
    gi_wp2_with fail
    gi_at_call 61
    refine (callsIn_any HFw.out (listOf_at _ w.heap.size _ x.notes HW.out.size (HU.out _ HW.out))).mono ?_
    rintro e w2 ⟨L, rfl, hR, hLo, hb2⟩
    have HR := Lib.hid hR
    have HLo := Lib.hid hLo
    have HB2 := Lib.hid hb2
    have HRs2 := Lib.hid (HRs.out.below hb2 HRs.out.1)
    have HW2 := Lib.hid (belowNext HW.out hb2)
    have HD2 := Lib.hid (HX.out.below hb2 HX.out.1)
    clear hR hLo hb2 r0 rf x0
    have HBi := Lib.hid (after_in F 8 (hfn _) hro (at_ L 0) (at_ L 0))
    have hz1 : w.heap.size + 1 < w1.heap.size := HRs.out.1
    have hz2 : w1.heap.size ≤ w2.heap.size := HB2.out.size
    have hlt : ∀ i, i < L.length → at_ L i < w2.heap.size := HR.out.lt
    have hlo : ∀ i, i < L.length → w1.heap.size ≤ at_ L i := HLo.out
    have hB4 : Below w2.heap.size w2 ((((w2.alloc (.cells #[.pointer (some ⟨at_ L 0, 0, none⟩)] 79)).alloc (.cells #[.slice none 0 0] 54)).alloc (.cells #[.pointer (some ⟨at_ L 0, 0, none⟩)] 79)).alloc (.cells #[.pointer (some ⟨at_ L 0, 0, none⟩)] 77)) := (belowThree _ _ _ _).alloc (by simp; omega) _
    have HK : Hid (FdW w w2 (w2.heap.size + 1 + 1 + 1 + 1) w.heap.size L x.notes (foldS x.notes []) ((((w2.alloc (.cells #[.pointer (some ⟨at_ L 0, 0, none⟩)] 79)).alloc (.cells #[.slice none 0 0] 54)).alloc (.cells #[.pointer (some ⟨at_ L 0, 0, none⟩)] 79)).alloc (.cells #[.pointer (some ⟨at_ L 0, 0, none⟩)] 77)) ∧ Held ((((w2.alloc (.cells #[.pointer (some ⟨at_ L 0, 0, none⟩)] 79)).alloc (.cells #[.slice none 0 0] 54)).alloc (.cells #[.pointer (some ⟨at_ L 0, 0, none⟩)] 79)).alloc (.cells #[.pointer (some ⟨at_ L 0, 0, none⟩)] 77)) (w2.heap.size + 1 + 1) [.pointer (some ⟨at_ L 0, 0, none⟩)] ∧ Held ((((w2.alloc (.cells #[.pointer (some ⟨at_ L 0, 0, none⟩)] 79)).alloc (.cells #[.slice none 0 0] 54)).alloc (.cells #[.pointer (some ⟨at_ L 0, 0, none⟩)] 79)).alloc (.cells #[.pointer (some ⟨at_ L 0, 0, none⟩)] 77)) (w2.heap.size + 1 + 1 + 1) [.pointer (some ⟨at_ L 0, 0, none⟩)]) := Lib.hid
      ⟨⟨HRs2.out.below hB4 HRs2.out.1, ((((Held.new w2 #[.pointer (some ⟨at_ L 0, 0, none⟩)] 79).after _).after _).after _),
        ⟨_, fun _ => False, (((Held.new (w2.alloc (.cells #[.pointer (some ⟨at_ L 0, 0, none⟩)] 79)) #[.slice none 0 0] 54).after _).after _).lit (by simp), Sh.Own.nil _ _, fun _ h => h.elim⟩, HR.out.onward hB4, belowNext HW2.out hB4, by simp⟩,
        ((Held.new ((w2.alloc (.cells #[.pointer (some ⟨at_ L 0, 0, none⟩)] 79)).alloc (.cells #[.slice none 0 0] 54)) #[.pointer (some ⟨at_ L 0, 0, none⟩)] 79).after _).lit (by simp),
        (Held.new (((w2.alloc (.cells #[.pointer (some ⟨at_ L 0, 0, none⟩)] 79)).alloc (.cells #[.slice none 0 0] 54)).alloc (.cells #[.pointer (some ⟨at_ L 0, 0, none⟩)] 79)) #[.pointer (some ⟨at_ L 0, 0, none⟩)] 77).lit (by simp)⟩
    have HZ := Lib.hid (show ((((w2.alloc (.cells #[.pointer (some ⟨at_ L 0, 0, none⟩)] 79)).alloc (.cells #[.slice none 0 0] 54)).alloc (.cells #[.pointer (some ⟨at_ L 0, 0, none⟩)] 79)).alloc (.cells #[.pointer (some ⟨at_ L 0, 0, none⟩)] 77)).heap.size = w2.heap.size + 1 + 1 + 1 + 1 from by simp)
    clear hB4
    unfold ptr at HBi ⊢
    gi_wp2_with (gi_at_call 81; refine (HBi.out _).mono ?_; rintro e w' ⟨rfl, rfl⟩)
    generalize ((((w2.alloc (.cells #[.pointer (some ⟨at_ L 0, 0, none⟩)] 79)).alloc (.cells #[.slice none 0 0] 54)).alloc (.cells #[.pointer (some ⟨at_ L 0, 0, none⟩)] 79)).alloc (.cells #[.pointer (some ⟨at_ L 0, 0, none⟩)] 77)) = W0 at *
    have hz0 : w2.heap.size + 1 + 1 + 1 + 1 = W0.heap.size := HZ.out.symm
    refine wpIn_rangeFunc_ownF hro (by omega) (gf := 119) (lb := #[.pointer (some ⟨w2.heap.size + 1 + 1 + 1, 0, none⟩), .pointer (some ⟨w2.heap.size + 1 + 1, 0, none⟩)]) rfl (hfn _) (enters_of Try.func119 (by kernel_rfl) rfl)
      (after_out F 8 (hfn _) hro (by omega) (w2.heap.size + 1 + 1 + 1) (w2.heap.size + 1 + 1) w.heap.size (fun b => W0.heap.size ≤ b ∨ b = w2.heap.size + 1) L x.notes W0 (by omega) (by omega) (by omega) (HK.out.2.2.of 0 _ rfl) (HK.out.2.1.of 0 _ rfl) HK.out.1.ring (fun i hi => by have := hlt i hi; omega) (fun b hb => by omega)) Outs.trans (outsK_b (fun b hb => .inl hb)) (Below.refl _ _) (fun _ => rfl)
      (fun pre W => FdW w w2 W0.heap.size w.heap.size L x.notes (foldS x.notes pre) W)
      (fun _ _ _ => False)
      (fun _ _ _ _ hs hg hr => hs.turned (by omega) (by omega) hlt (Nat.le_refl _) hg hr)
      (fun c _ _ _ _ h _ _ => h)
      (hz0 ▸ HK.out.1)
      (fun y => { tmps := #[.agg #[.slice Au x.notes.length cu, .int .i64 x.safe], .pointer (some ⟨w.heap.size, 0, none⟩), .pointer (some ⟨w.heap.size + 1, 0, none⟩), .pointer (some ⟨w2.heap.size, 0, none⟩), .pointer (some ⟨w2.heap.size + 1, 0, none⟩), .pointer (some ⟨at_ L y.1, 0, none⟩), .agg #[.slice Au x.notes.length cu, .int .i64 x.safe], .bool true, .bool false, undef, .pointer (some ⟨w.heap.size, 0, none⟩), .slice Au x.notes.length cu, .agg #[.pointer (some ⟨at_ L 0, 0, none⟩)], .agg #[.pointer (some ⟨at_ L 0, 0, none⟩)], .pointer (some ⟨w2.heap.size, 0, none⟩), .pointer (some ⟨at_ L 0, 0, none⟩),
        .func (.func 119) #[] #[.pointer (some ⟨w2.heap.size + 1 + 1 + 1, 0, none⟩), .pointer (some ⟨w2.heap.size + 1 + 1, 0, none⟩)], .pointer (some ⟨at_ L y.1, 0, none⟩), undef, undef, undef, undef, undef, undef, undef, undef, undef, undef, undef, undef], defers := [] }) ?assign ?body ?done ?stop
    case assign =>
      intro l y W K hK
      unfold ptr
      gi_wp2
      exact hK
    case body =>
      rintro l pre y W hK hpn
      obtain ⟨n, A1, c1, A2, c2, hy, q0, q1, q2, q3, -⟩ := hK.ring.at_ (k := y.1 - 1) (by have := y.2; omega)
      have hxe : y.1 - 1 + 1 = y.1 := by have := y.2; omega
      rw [hxe] at q0 q1 q2 q3
      have hyn : noteAt x.notes y = n := noteAt_get hy hxe.symm
      obtain ⟨its, hits⟩ : ∃ its, foldS x.notes pre = its := ⟨_, rfl⟩
      have hfi := foldS_fine x.notes pre
      rw [hits] at hK hfi
      obtain ⟨v, S, hrow, hown, hS⟩ := hK.sto
      obtain ⟨Av, cv, rfl, -, -⟩ := hown.row.form
      have HK := Lib.hid hK
      have HY := Lib.hid hyn
      have HNy := Lib.hid hy
      have HRow := Lib.hid hrow
      have HOwn := Lib.hid hown
      have HIt := Lib.hid hits
      have HRg := Lib.hid (hK.ring.onward ((Below.refl _ W).drew))
      have k0 : W.drew.cell? ⟨w2.heap.size + 1, 0, none⟩ = some (.slice Av its.length cv) ∧ W.drew.cell? ⟨w2.heap.size, 0, none⟩ = some (.pointer (some ⟨at_ L 0, 0, none⟩)) := ⟨hrow.of 0 _ rfl, hK.lst.of 0 _ rfl⟩
      have hwW : w.heap.size ≤ W.heap.size := hK.bel.size
      have hzW : W0.heap.size ≤ W.heap.size := hK.size
      clear hK hyn hy hxe hrow hown hS hits q1 q2 q3
      by_cases hk2 : n.kind = 2
      · have ek : (n.kind == 2) = true := by simp [hk2]
        have HS := Lib.hid (spotF_yes (s := its) HY.out hk2)
        clear hk2
        gi_wp2
        refine region_l_in HFw.out (S := (fun w' => w'.cell? ⟨w2.heap.size + 1, 0, none⟩ = some (.slice Av its.length cv) ∧ w'.cell? ⟨w2.heap.size, 0, none⟩ = some (.pointer (some ⟨at_ L 0, 0, none⟩)))) 5 (by kernel_rfl) (by kernel_rfl) (by rintro ⟨_, _, h⟩; exact h) ?hSfx (fun hHeldfx => ?stfx)
        case hSfx => (first | (dsimp only; (first | with_reducible exact k2 | with_reducible exact k1 | exact k0)) | (first | with_reducible exact k2 | with_reducible exact k1 | exact k0))
        refine take_l 0 24 (v := ?vfx_1) rfl rfl (by kernel_rfl) (by kernel_rfl) (by kernel_rfl) (by kernel_rfl) (fun _ _ _ h => h) (by rfl) ?yfx_1 (by assumption) ?rfx_1
        case yfx_1 => (intro w hSw; (try dsimp only at hSw); go_simp; (try with_reducible rfl))
        simp only [Act.put, List.setIfInBounds_toArray, List.set_cons_zero, List.set_cons_succ]
        refine take_l 1 25 (v := ?vfx_2) rfl rfl (by kernel_rfl) (by kernel_rfl) (by kernel_rfl) (by kernel_rfl) (fun _ _ _ h => h) (by rfl) ?yfx_2 (by assumption) ?rfx_2
        case yfx_2 => (intro w hSw; (try dsimp only at hSw); go_simp; (try with_reducible rfl))
        simp only [Act.put, List.setIfInBounds_toArray, List.set_cons_zero, List.set_cons_succ]
        refine take_l 2 26 (v := ?vfx_3) rfl rfl (by kernel_rfl) (by kernel_rfl) (by kernel_rfl) (by kernel_rfl) (fun _ _ _ h => h) (by rfl) ?yfx_3 (by assumption) ?rfx_3
        case yfx_3 => (intro w hSw; (try dsimp only at hSw); go_simp; (try with_reducible rfl))
        simp only [Act.put, List.setIfInBounds_toArray, List.set_cons_zero, List.set_cons_succ]
        refine one_l 3 rfl (by kernel_rfl) (fun Kfx_4 hKfx_4 => ?cfx_4)
        go_simp
        refine (committed_any W.drew w.heap.size L x.notes y.1 y.2.1 y.2.2 n HNy.out HRg.out).mono ?_; rintro e w5 ⟨vc, rfl, hrc, hb5⟩; obtain ⟨Ac, cc, rfl, -, -⟩ := hrc.form; have HB5 := Lib.hid (show Below W.heap.size W w5 from ((Below.refl _ W).drew).trans hb5); have HRc := Lib.hid hrc; have k1 := And.intro (cellBelow hb5 k0.1) (cellBelow hb5 k0.2); have HOwn5 := Lib.hid (HOwn.out.below HB5.out); have HKo := Lib.hid ((KeepsOthers.drew W).trans (keepsOthers_below hb5)); have HRow5 := Lib.hid (HRow.out.below HB5.out HRow.out.1); clear hb5 hrc
        go_wp2_with fail
        refine hKfx_4.out _ _ ?kfx_4 (fun hHoldfx_4 => ?dfx_4)
        case kfx_4 => (intro _; (first | (dsimp only; (first | with_reducible exact k2 | with_reducible exact k1 | exact k0)) | (first | with_reducible exact k2 | with_reducible exact k1 | exact k0)))
        clear hKfx_4 Kfx_4
        have hHeldfx_4 := hHoldfx_4 (by decide)
        clear hHoldfx_4
        refine one_l 4 rfl (by kernel_rfl) (fun Kfx_5 hKfx_5 => ?cfx_5)
        go_simp
        refine (implStoDo_any w5 _ _ its _ (items_row.1 HOwn5.out.row) (wrts_row.1 (HRc.out.more (Nat.le_trans hwW HB5.out.size)))).mono ?_; rintro e w6 ⟨u6, rfl, ho6, hb6⟩; obtain ⟨A6, c6, rfl, -, -⟩ := ho6.row.form; have HB6 := Lib.hid (belowNext HB5.out hb6); have HKo6 := Lib.hid (HKo.out.trans (keepsOthers_below hb6)); have k2 := And.intro (cellBelow hb6 k1.1) (cellBelow hb6 k1.2); have HRow6 := Lib.hid (HRow5.out.below hb6 HRow5.out.1); have f6 := HRow6.out.2.1 0; have HO6 := Lib.hid ho6; clear hb6 ho6
        go_wp2_with fail
        refine hKfx_5.out _ _ ?kfx_5 (fun hHoldfx_5 => ?dfx_5)
        case kfx_5 => (intro _; (first | (dsimp only; (first | with_reducible exact k2 | with_reducible exact k1 | exact k0)) | (first | with_reducible exact k2 | with_reducible exact k1 | exact k0)))
        clear hKfx_5 Kfx_5
        have hHeldfx_5 := hHoldfx_5 (by decide)
        clear hHoldfx_5
        refine one_l 5 rfl (by kernel_rfl) (fun Kfx_6 hKfx_6 => ?cfx_6)
        go_simp
        skip
        go_wp2_with fail
        refine hKfx_6.out _ _ ?kfx_6 (fun hHoldfx_6 => ?dfx_6)
        case kfx_6 => exact fun h => absurd rfl h
        clear hKfx_6 Kfx_6
        clear hHoldfx_6
        refine done_l (by kernel_rfl) ?efx _
        gi_wp2
        have hFd := HK.out.put (by omega) (by omega) hlt (Nat.le_refl _) HB6.out (HO6.out.mono fun b hb => ⟨by have := HB5.out.size; omega, hb.2⟩)
        refine ⟨HKo6.out.trans (KeepsOthers.setCell _ _ _), (Outs.of_below HB6.out).trans (Outs.of_set _ ⟨w2.heap.size + 1, 0, none⟩ _ (.inr rfl)), ?_⟩
        dsimp only
        rw [foldS_snoc, HIt.out, HS.out]
        exact hFd
      · have ek : (n.kind == 2) = false := by simp [hk2]
        have HS := Lib.hid (spotF_no (s := its) HY.out hk2)
        clear hk2
        gi_wp2
        exact ⟨KeepsOthers.refl _, Outs.refl _ _, by dsimp only; rw [foldS_snoc, HIt.out, HS.out]; exact HK.out⟩
    case done =>
      rintro D ys W hD rfl hK hDf
      rw [foldS_all] at hK
      obtain ⟨v, S, hrow, hown, hS⟩ := hK.sto
      obtain ⟨Av, cv, rfl, -, -⟩ := hown.row.form
      have s0 := hrow.of 0 _ rfl
      have r0 := hK.res.of 0 _ rfl
      have rf := hK.res.2.1 0
      have HK := Lib.hid hK
      have HD := Lib.hid hDf
      have HOwn := Lib.hid hown
      have HS := Lib.hid hS
      clear hK hDf hown hS hrow
      gi_wp2
      have hD' := (KeepsOthers.setCell W ⟨w.heap.size + 1, 0, none⟩ (.slice Av (foldN x.notes).length cv)).same D _ HD.out rfl
      refine ⟨by simp, .inl ⟨_, _, rfl, run_takeDeferred hD', ?_⟩⟩
      have hc0 := cell_kept ((HK.out.res.set_ (i := 0) (.slice Av (foldN x.notes).length cv)).of 0 _ rfl) (grownBy_putObj' _ D (.deferred none)) (fun r e => by cases e; exact ⟨_, hD', rfl⟩)
      have hbel : Below w.heap.size w (W.setCell ⟨w.heap.size + 1, 0, none⟩ (.slice Av (foldN x.notes).length cv)) := HK.out.bel.setCell (p := ⟨w.heap.size + 1, 0, none⟩) (by show w.heap.size ≤ w.heap.size + 1; omega) _
      refine ⟨.agg #[.slice Av (foldN x.notes).length cv], ?_, _, rfl, ?_, hbel.trans (belowK_b (w := w) (Nat.le_refl _) _ D _ _ (by omega) hD' rfl rfl)⟩
      · simp [results, Try.f34, go_sem, hc0]
      · rw [HO.out]
        have h1 := (HOwn.out.keep (w' := W.setCell ⟨w.heap.size + 1, 0, none⟩ (.slice Av (foldN x.notes).length cv)) fun b hb _ => Below.heap_setCell _ _ _ _ (by have := (HS.out b hb).1; show b ≠ w.heap.size + 1; omega))
        have h2 := h1.turned tight_item (grownBy_putObj' _ D (.deferred none)) (fun r e => by cases e; exact ⟨_, hD', rfl⟩)
        refine h2.mono fun b hb => ⟨by have := (HS.out b hb).1; omega, ?_⟩
        have := (HS.out b hb).2
        refine Nat.lt_of_lt_of_le this (Nat.le_trans ?_ (grownBy_putObj' _ D (.deferred none)).size)
        simp [World.setCell]
    case stop =>
      rintro D c pre W _ _ hF _
      exact hF.elim

end Go.Proofs.Ytkamlibfcakblaa
