/- Texts that follow each other, merged: IOpen, ILocks. -/
import Derived.Test.YtkamlibfcakblaaXInDoubt
import Derived.Test.YtkamlibfcakblaaXNoteOk

/- What DiskOpen answers, of the program. -/
namespace Go.Proofs.Ytkamlibfcakblaa
open Go.RowKit Go.Shelf

attribute [local go_sem] Oper.semAt_some

theorem spots_filter (ns : List Note) (p : Note → Bool) : ((upto ns.length ns.length (Nat.le_refl _)).filter fun y => p (noteAt ns y)).map (noteAt ns) = ns.filter p := by
  have h : ((upto ns.length ns.length (Nat.le_refl _)).filter fun y => p (noteAt ns y)).map (noteAt ns) = ((upto ns.length ns.length (Nat.le_refl _)).map (noteAt ns)).filter p := by rw [List.filter_map]; rfl
  rw [h, upto_notes]

set_option maxRecDepth 100000 in
set_option maxHeartbeats 20000000 in
theorem implDiskOpen_any (w : World) (cs : List Value) (x : Disk) (h : diskSh.rel w w.heap.size cs x) :
    Calls Try.prog 20 #[.agg cs.toArray] w (CopiedSl Sh.int 3 (openD x) w) := by
  refine (callsIn_wide (n := 9)).1 ?_
  obtain ⟨F, hF⟩ : ∃ F, F = Fence.wide := ⟨_, rfl⟩
  have hro : F.round = none := by rw [hF]; rfl
  have hfn : ∀ f, F.fn f := by rw [hF]; exact fun _ => trivial
  rw [← hF]
  have HFw := Lib.hid hF
  clear hF
  have HH := Lib.hid fun W (hb : Below w.heap.size w W) => diskSh.rmore (diskSh.rbelow h hb) hb.size
  obtain ⟨u, rfl, hu⟩ := disk_rel.1 h
  obtain ⟨Au, cu, rfl, hcu, hnu⟩ := hu.form
  have HU := Lib.hid fun W (hb : Below w.heap.size w W) => hu.below hb
  have HX := Lib.hid (Held.new w #[.slice Au x.notes.length cu, .int .i64 x.safe] 25)
  have HW := Lib.hid (belowOne w (.cells #[.slice Au x.notes.length cu, .int .i64 x.safe] 25))
  have hd1 : 1 ≤ 9 := by omega
  clear h hu
  refine callsIn_of_wp_marks Try.func20 rfl (hfn _) ?_ hro
  simp only [Try.ntmps20, List.size_toArray, List.length_cons, List.length_nil, Nat.reduceAdd, Nat.reduceSub, Array.replicate_succ, Array.replicate_zero, List.push_toArray, List.append_toArray, List.nil_append, List.cons_append]
  gi_wp2_with fail
  gi_at_call 60
  refine (callsIn_any HFw.out (implDiskOk_any _ _ x (HH.out _ HW.out))).mono ?_
  rintro e w1 ⟨rfl, hb⟩
  replace HX := Lib.hid (HX.out.below hb HX.out.1)
  replace HW := Lib.hid (belowNext HW.out hb)
  clear hb
  have x0 := HX.out.of 0 _ rfl
  rcases hd : diskB x
  · have HO := Lib.hid (openD_no hd)
    gi_wp2
    refine ⟨.slice none 0 0, ?_, _, rfl, by rw [HO.out]; exact Sh.Own.nil _ _, HW.out⟩
    simp [results, Try.f20, go_sem]
  · have HO := Lib.hid (openD_yes hd)
    have HN := Lib.hid (diskB_parts hd).1
    clear hd
    have HX1 := Lib.hid (HX.out.after (.cells #[.slice none 0 0] 39))
    have HO1 := Lib.hid (Held.new w1 #[.slice none 0 0] 39)
    have HW1 := Lib.hid (HW.out.alloc HW.out.size (.cells #[.slice none 0 0] 39))
    have HZ1 := Lib.hid (allocSize w1 (.cells #[.slice none 0 0] 39))
    have y0 := HX1.out.of 0 _ rfl
    gi_wp2_with fail
    gi_at_call 61
    refine (callsIn_any HFw.out (listOf_at _ w.heap.size _ x.notes HW1.out.size (HU.out _ HW1.out))).mono ?_
    rintro e w2 ⟨L, rfl, hR, hLo, hb2⟩
    have HR := Lib.hid hR
    have HLo := Lib.hid hLo
    have HB2 := Lib.hid hb2
    clear hR hLo hb2 y0 x0
    unfold ptr
    gi_wp2_with fail
    gi_at_call 71
    refine (show CallsIn F _ Try.prog 71 #[.agg #[.pointer (some ⟨at_ L 0, 0, none⟩)]] w2 _ from inDoubt_in F _ (hfn _) hro (at_ L 0) w2).mono ?_
    rintro e w3 ⟨rfl, rfl⟩
    unfold ptr
    gi_wp2_with fail
    have hz2 := HB2.out.size
    have hz1 := HZ1.out
    have hzw := HW.out.size
    obtain ⟨W0, hW0⟩ : ∃ W0, w2.alloc (.cells #[.pointer (some ⟨at_ L 0, 0, none⟩)] 79) = W0 := ⟨_, rfl⟩
    have hal := belowOne w2 (.cells #[.pointer (some ⟨at_ L 0, 0, none⟩)] 79)
    have HM := Lib.hid (Held.new w2 #[.pointer (some ⟨at_ L 0, 0, none⟩)] 79)
    have hzW := allocSize w2 (.cells #[.pointer (some ⟨at_ L 0, 0, none⟩)] 79)
    rw [hW0] at hal hzW HM ⊢
    have HOb := Lib.hid ((HO1.out.below HB2.out HO1.out.1).below hal (by omega))
    have HR0 := Lib.hid (HR.out.onward hal)
    have HW0 := Lib.hid (HW1.out.trans ((HB2.out.trans (hal.mono hz2)).mono HW1.out.size))
    have hlt : ∀ i, i < L.length → at_ L i < w2.heap.size := HR.out.lt
    have hlo : ∀ i, i < L.length → w1.heap.size + 1 ≤ at_ L i := fun i hi => by have := HLo.out i hi; omega
    clear hal hW0
    have HGo : Hid (Goes F 8 Try.prog 112 #[.pointer (some ⟨w2.heap.size, 0, none⟩)] (fun y : Spot x.notes.length => #[noteV W0 L y.1]) (fun b => b = w1.heap.size) ((upto x.notes.length x.notes.length (Nat.le_refl _)).filter fun y => openB x.notes (noteAt x.notes y)) x.notes.length W0) := Lib.hid (by
      rw [HFw.out]
      exact inDoubt1_goes 8 (by omega) w2.heap.size w.heap.size (fun b => b = w1.heap.size) L x.notes W0 (by omega) (by omega) (HM.out.of 0 _ rfl) HR0.out (fun i hi => by have := hlo i hi; omega) (fun b hb => by have := HX.out.1; omega) (fun b hb => by omega))
    refine wpIn_goes (f := 112) (lb := #[.pointer (some ⟨w2.heap.size, 0, none⟩)]) hro (by omega) rfl (hfn _) (enters_of Try.func112 (by kernel_rfl) rfl)
      HGo.out (Below.refl _ _) ?hps
      (fun t pre Z => RowW Sh.int 3 w W0 w1.heap.size t (opensTx (pre.map (noteAt x.notes))) Z)
      (fun t => fun pre A A' row hA hg hr => hA.turned tight_int (by omega) (by omega) hg (fun r e => by obtain ⟨h1, o, h2⟩ := hr r e; exact ⟨by omega, o, h2⟩))
      (fun X hX => RowW.start HOb.out hX (by omega))
      (fun t y b Z => ∃ k A1 c1 A2 c2, b = { tmps := #[.agg #[.slice Au x.notes.length cu, .int .i64 x.safe], .pointer (some ⟨w.heap.size, 0, none⟩), .slice none 0 0, .pointer (some ⟨w1.heap.size, 0, none⟩), .pointer (some ⟨k, 0, none⟩), .agg #[.slice Au x.notes.length cu, .int .i64 x.safe], .bool true, .bool false, .pointer (some ⟨w.heap.size, 0, none⟩), .slice Au x.notes.length cu, .agg #[.pointer (some ⟨at_ L 0, 0, none⟩)], .func (.func 112) #[] #[.pointer (some ⟨w2.heap.size, 0, none⟩)], .agg #[.int .i64 (noteAt x.notes y).kind, .int .i64 (noteAt x.notes y).tx, .slice A1 (noteAt x.notes y).locks.length c1, .slice A2 (noteAt x.notes y).writes.length c2], undef, undef, undef, undef, undef, undef, undef, undef, undef, undef, undef], defers := [] }
        ∧ Held Z k [.int .i64 (noteAt x.notes y).kind, .int .i64 (noteAt x.notes y).tx, .slice A1 (noteAt x.notes y).locks.length c1, .slice A2 (noteAt x.notes y).writes.length c2])
      ?hAx ?assign ?body ?done
    case hps => exact fun _ => rfl
    case hAx =>
      rintro t y b _ A A' row ⟨k, A1, c1, A2, c2, e, hH⟩ hg hr
      exact ⟨k, A1, c1, A2, c2, e, hH.turned (by simp) hg (fun r e => (hr r e).2)⟩
    case assign =>
      intro l' t pre y Z ht hI
      obtain ⟨n, A1, c1, A2, c2, hy, q0, q1, q2, q3, hrel⟩ := HR0.out.at_ (k := y.1 - 1) (by have := y.2; omega)
      have hxe : y.1 - 1 + 1 = y.1 := by have := y.2; omega
      rw [hxe] at q0 q1 q2 q3
      have hyn : noteAt x.notes y = n := noteAt_get hy hxe.symm
      have hnv := noteV_at (w := W0) rfl q0 q1 q2 q3
      have HI := Lib.hid hI
      have HYn := Lib.hid hyn
      clear hI hy hxe hrel hyn q0 q1 q2 q3
      dsimp only
      rw [hnv]
      clear hnv
      gi_wp2
      have hbz := HI.out.bel.size
      refine ⟨Calm.below (belowOne _ _), HI.out.below (by omega) (by omega) (belowOne _ _), Z.heap.size, A1, c1, A2, c2, by rw [HYn.out]; simp, by rw [HYn.out]; exact Held.new _ _ _⟩
    case body =>
      rintro l' t pre y b Z ht hI hpn ⟨k, A1, c1, A2, c2, rfl, hH⟩
      obtain ⟨v, S, h1, h2, h3⟩ := hI.row
      obtain ⟨Av, cv, rfl, hcv, hlv⟩ := h2.row.form
      have hlen : (opensTx (pre.map (noteAt x.notes))).length ≤ pre.length := by have := opensTx_len (pre.map (noteAt x.notes)); rwa [List.length_map] at this
      have hxn := HN.out
      have hsn : opensTx ((pre ++ [y]).map (noteAt x.notes)) = addI (opensTx (pre.map (noteAt x.notes))) (noteAt x.notes y).tx := by rw [List.map_append, List.map_cons, List.map_nil, opensTx_snoc]
      obtain ⟨os, hos⟩ : ∃ os, opensTx (pre.map (noteAt x.notes)) = os := ⟨_, rfl⟩
      obtain ⟨n, hn⟩ : ∃ n, noteAt x.notes y = n := ⟨_, rfl⟩
      rw [hos] at h1 h2 hlen hsn hlv
      rw [hn] at hsn
      have HI := Lib.hid hI
      have HSn := Lib.hid hsn
      have H2 := Lib.hid h2
      have H3 := Lib.hid h3
      have HNn := Lib.hid hn
      have HOs := Lib.hid hos
      rw [hn] at hH
      simp only [hn]
      have p0 := h1.of 0 _ rfl
      have pf := h1.2.1 0
      have t1 := hH.of 1 _ rfl
      have H1 := Lib.hid h1
      clear hI hsn h2 h3 hn hos h1 hH
      gi_wp2_with fail
      gi_at_call 72
      refine (callsIn_anyR HFw.out (containsI_any _ _ _ _ _ (ints_row.1 H2.out.row))).mono ?_
      rintro e w' ⟨rfl, rfl⟩
      rcases hm : memB os n.tx
      · have HA := Lib.hid (addI_new hm)
        clear hm
        have hyZ : Sh.int.own (Z.alloc (.cells #[.int .i64 n.tx] 3)) (fun _ => False) [.int .i64 n.tx] n.tx := rfl
        have HB1 := Lib.hid (belowOne Z (.cells #[.int .i64 n.tx] 3))
        have HS1 := Lib.hid (Held.new Z #[.int .i64 n.tx] 3)
        have HOw := Lib.hid (H2.out.below HB1.out)
        gi_wp2_with (gi_at_builtin; refine wplIn_of HFw.out rfl (by intro c h; cases h) fun K hK => app_one Sh.int 39 3 (.int .i64 0) 8 Try.underlying39 infoInt rfl (by decide) (by omega) (.tmp 18) (.tmp 21) rfl S (fun _ => False) (.slice Av os.length cv) os rfl HOw.out Z.heap.size rfl _ n.tx hyZ HS1.out (fun _ _ h => h) (by omega) ?_; intro v' Z2 ho2 hg2 _; obtain ⟨A3, c3, hf3, -, -⟩ := ho2.row.form; rw [List.length_append, List.length_singleton] at hf3; subst hf3; have HR2 := Lib.hid ((H1.out.below HB1.out H1.out.1).outs (Outs.of_grown (S := S) hg2 (fun q hq => HOw.out.blk q hq)) (fun h => by have := (H3.out _ h).1; omega)); have f2 := HR2.out.2.1 0; have r2 := HR2.out.of 0 _ rfl; have HO2 := Lib.hid ho2; have HG2 := Lib.hid hg2; clear ho2 hg2; refine hK _ _ ?_; clear hK K)
        obtain ⟨g1, g2⟩ := RowW.grown (t := t) (ys := os ++ [n.tx]) H2.out H3.out HI.out.bel (by omega) HI.out.size (by omega) HB1.out (fun b h => h.elim) HR2.out HO2.out HG2.out
        exact ⟨g1, by dsimp only; rw [HSn.out, HA.out]; exact g2⟩
      · have HA := Lib.hid (addI_in hm)
        clear hm
        gi_wp2
        exact ⟨Calm.refl _ _, by dsimp only; rw [HSn.out, HA.out, ← HOs.out]; exact HI.out⟩
    case done =>
      rintro D t Z hD ht hI hDf
      obtain ⟨v, S, h1, h2, h3⟩ := hI.row
      have hfn : opensTx (((upto x.notes.length x.notes.length (Nat.le_refl _)).filter fun y => openB x.notes (noteAt x.notes y)).map (noteAt x.notes)) = openD x := by
        rw [HO.out, inD_all, spots_filter]
      rw [hfn] at h2
      obtain ⟨Av, cv, rfl, hcv, hlv⟩ := h2.row.form
      have r0 := h1.of 0 _ rfl
      have HI := Lib.hid hI
      have HD := Lib.hid hDf
      have H1 := Lib.hid h1
      have H2 := Lib.hid h2
      have H3 := Lib.hid h3
      clear hI hDf h1 h2 h3 hfn
      gi_wp2
      refine ⟨by simp, .inl ⟨_, _, rfl, run_takeDeferred HD.out, ?_⟩⟩
      refine ⟨.slice Av (openD x).length cv, ?_, _, rfl, (H2.out.turned tight_int (grownBy_putObj' _ D (.deferred none)) (fun r e => by cases e; exact ⟨_, HD.out, rfl⟩)).mono fun b hb => ⟨by have := (H3.out b hb).1; omega, Nat.lt_of_lt_of_le (H3.out b hb).2 (grownBy_putObj' Z D (.deferred none)).size⟩, ?_⟩
      · simp [results, Try.f20, go_sem]
      · exact (HW0.out.trans HI.out.bel).trans (belowK_b (w := w) (Nat.le_refl _) Z D _ _ (by omega) HD.out rfl rfl)

end Go.Proofs.Ytkamlibfcakblaa

/- What DiskLocks answers, of the program. -/
namespace Go.Proofs.Ytkamlibfcakblaa
open Go.RowKit Go.Shelf

attribute [local go_sem] Oper.semAt_some

set_option maxRecDepth 100000 in
set_option maxHeartbeats 20000000 in
theorem implDiskLocks_any (w : World) (cs : List Value) (x : Disk) (h : diskSh.rel w w.heap.size cs x) :
    Calls Try.prog 21 #[.agg cs.toArray] w (CopiedSl strSh 9 (locksD x) w) := by
  refine (callsIn_wide (n := 9)).1 ?_
  obtain ⟨F, hF⟩ : ∃ F, F = Fence.wide := ⟨_, rfl⟩
  have hro : F.round = none := by rw [hF]; rfl
  have hfn : ∀ f, F.fn f := by rw [hF]; exact fun _ => trivial
  rw [← hF]
  have HFw := Lib.hid hF
  clear hF
  have HH := Lib.hid fun W (hb : Below w.heap.size w W) => diskSh.rmore (diskSh.rbelow h hb) hb.size
  obtain ⟨u, rfl, hu⟩ := disk_rel.1 h
  obtain ⟨Au, cu, rfl, hcu, hnu⟩ := hu.form
  have HU := Lib.hid fun W (hb : Below w.heap.size w W) => hu.below hb
  have HX := Lib.hid (Held.new w #[.slice Au x.notes.length cu, .int .i64 x.safe] 25)
  have HW := Lib.hid (belowOne w (.cells #[.slice Au x.notes.length cu, .int .i64 x.safe] 25))
  have hd1 : 1 ≤ 9 := by omega
  clear h hu
  refine callsIn_of_wp_marks Try.func21 rfl (hfn _) ?_ hro
  simp only [Try.ntmps21, List.size_toArray, List.length_cons, List.length_nil, Nat.reduceAdd, Nat.reduceSub, Array.replicate_succ, Array.replicate_zero, List.push_toArray, List.append_toArray, List.nil_append, List.cons_append]
  gi_wp2_with fail
  gi_at_call 60
  refine (callsIn_any HFw.out (implDiskOk_any _ _ x (HH.out _ HW.out))).mono ?_
  rintro e w1 ⟨rfl, hb⟩
  replace HX := Lib.hid (HX.out.below hb HX.out.1)
  replace HW := Lib.hid (belowNext HW.out hb)
  clear hb
  have x0 := HX.out.of 0 _ rfl
  rcases hd : diskB x
  · have HO := Lib.hid (locksD_no hd)
    gi_wp2
    refine ⟨.slice none 0 0, ?_, _, rfl, by rw [HO.out]; exact Sh.Own.nil _ _, HW.out⟩
    simp [results, Try.f21, go_sem]
  · have HO := Lib.hid (locksD_yes hd)
    have HN := Lib.hid (diskB_parts hd).1
    have HL12 := Lib.hid fun y (hy : y ∈ x.notes) => noteB_locks (diskB_note hd hy)
    clear hd
    have HX1 := Lib.hid (HX.out.after (.cells #[.slice none 0 0] 33))
    have HO1 := Lib.hid (Held.new w1 #[.slice none 0 0] 33)
    have HW1 := Lib.hid (HW.out.alloc HW.out.size (.cells #[.slice none 0 0] 33))
    have HZ1 := Lib.hid (allocSize w1 (.cells #[.slice none 0 0] 33))
    have y0 := HX1.out.of 0 _ rfl
    gi_wp2_with fail
    gi_at_call 61
    refine (callsIn_any HFw.out (listOf_at _ w.heap.size _ x.notes HW1.out.size (HU.out _ HW1.out))).mono ?_
    rintro e w2 ⟨L, rfl, hR, hLo, hb2⟩
    have HR := Lib.hid hR
    have HLo := Lib.hid hLo
    have HB2 := Lib.hid hb2
    clear hR hLo hb2 y0 x0
    unfold ptr
    gi_wp2_with fail
    gi_at_call 71
    refine (show CallsIn F _ Try.prog 71 #[.agg #[.pointer (some ⟨at_ L 0, 0, none⟩)]] w2 _ from inDoubt_in F _ (hfn _) hro (at_ L 0) w2).mono ?_
    rintro e w3 ⟨rfl, rfl⟩
    unfold ptr
    gi_wp2_with fail
    have hz2 := HB2.out.size
    have hz1 := HZ1.out
    have hzw := HW.out.size
    obtain ⟨W0, hW0⟩ : ∃ W0, w2.alloc (.cells #[.pointer (some ⟨at_ L 0, 0, none⟩)] 79) = W0 := ⟨_, rfl⟩
    have hal := belowOne w2 (.cells #[.pointer (some ⟨at_ L 0, 0, none⟩)] 79)
    have HM := Lib.hid (Held.new w2 #[.pointer (some ⟨at_ L 0, 0, none⟩)] 79)
    have hzW := allocSize w2 (.cells #[.pointer (some ⟨at_ L 0, 0, none⟩)] 79)
    rw [hW0] at hal hzW HM ⊢
    have HOb := Lib.hid ((HO1.out.below HB2.out HO1.out.1).below hal (by omega))
    have HR0 := Lib.hid (HR.out.onward hal)
    have HW0 := Lib.hid (HW1.out.trans ((HB2.out.trans (hal.mono hz2)).mono HW1.out.size))
    have hlt : ∀ i, i < L.length → at_ L i < w2.heap.size := HR.out.lt
    have hlo : ∀ i, i < L.length → w1.heap.size + 1 ≤ at_ L i := fun i hi => by have := HLo.out i hi; omega
    clear hal hW0
    have HGo : Hid (Goes F 8 Try.prog 112 #[.pointer (some ⟨w2.heap.size, 0, none⟩)] (fun y : Spot x.notes.length => #[noteV W0 L y.1]) (fun b => b = w1.heap.size) ((upto x.notes.length x.notes.length (Nat.le_refl _)).filter fun y => openB x.notes (noteAt x.notes y)) x.notes.length W0) := Lib.hid (by
      rw [HFw.out]
      exact inDoubt1_goes 8 (by omega) w2.heap.size w.heap.size (fun b => b = w1.heap.size) L x.notes W0 (by omega) (by omega) (HM.out.of 0 _ rfl) HR0.out (fun i hi => by have := hlo i hi; omega) (fun b hb => by have := HX.out.1; omega) (fun b hb => by omega))
    refine wpIn_goes (f := 112) (lb := #[.pointer (some ⟨w2.heap.size, 0, none⟩)]) hro (by omega) rfl (hfn _) (enters_of Try.func112 (by kernel_rfl) rfl)
      HGo.out (Below.refl _ _) ?hps
      (fun t pre Z => RowW strSh 9 w W0 w1.heap.size t (opensKeys (pre.map (noteAt x.notes))) Z)
      (fun t => fun pre A A' row hA hg hr => hA.turned (tight_str _) (by omega) (by omega) hg (fun r e => by obtain ⟨h1, o, h2⟩ := hr r e; exact ⟨by omega, o, h2⟩))
      (fun X hX => RowW.start HOb.out hX (by omega))
      (fun t y b Z => ∃ k A1 c1 A2 c2, b = { tmps := #[.agg #[.slice Au x.notes.length cu, .int .i64 x.safe], .pointer (some ⟨w.heap.size, 0, none⟩), .slice none 0 0, .pointer (some ⟨w1.heap.size, 0, none⟩), .pointer (some ⟨k, 0, none⟩), undef, undef, .agg #[.slice Au x.notes.length cu, .int .i64 x.safe], .bool true, .bool false, .pointer (some ⟨w.heap.size, 0, none⟩), .slice Au x.notes.length cu, .agg #[.pointer (some ⟨at_ L 0, 0, none⟩)], .func (.func 112) #[] #[.pointer (some ⟨w2.heap.size, 0, none⟩)], .agg #[.int .i64 (noteAt x.notes y).kind, .int .i64 (noteAt x.notes y).tx, .slice A1 (noteAt x.notes y).locks.length c1, .slice A2 (noteAt x.notes y).writes.length c2], undef, undef, undef, undef, undef, undef, undef, undef, undef, undef, undef, undef, undef, undef, undef, undef, undef], defers := [] }
        ∧ strSh.Row W0 w.heap.size (.slice A1 (noteAt x.notes y).locks.length c1) (noteAt x.notes y).locks
        ∧ Held Z k [.int .i64 (noteAt x.notes y).kind, .int .i64 (noteAt x.notes y).tx, .slice A1 (noteAt x.notes y).locks.length c1, .slice A2 (noteAt x.notes y).writes.length c2])
      ?hAx ?assign ?body ?done
    case hps => exact fun _ => rfl
    case hAx =>
      rintro t y b _ A A' row ⟨k, A1, c1, A2, c2, e, hQ, hH⟩ hg hr
      exact ⟨k, A1, c1, A2, c2, e, hQ, hH.turned (by simp) hg (fun r e => (hr r e).2)⟩
    case assign =>
      intro l' t pre y Z ht hI
      obtain ⟨n, A1, c1, A2, c2, hy, q0, q1, q2, q3, hrel⟩ := HR0.out.at_ (k := y.1 - 1) (by have := y.2; omega)
      have hxe : y.1 - 1 + 1 = y.1 := by have := y.2; omega
      rw [hxe] at q0 q1 q2 q3
      have hyn : noteAt x.notes y = n := noteAt_get hy hxe.symm
      have hnv := noteV_at (w := W0) rfl q0 q1 q2 q3
      have HI := Lib.hid hI
      have HYn := Lib.hid hyn
      obtain ⟨_, _, hrf, hr1, -⟩ := note_rel.1 hrel
      cases hrf
      have HQ := Lib.hid hr1
      clear hr1
      clear hI hy hxe hrel hyn q0 q1 q2 q3
      dsimp only
      rw [hnv]
      clear hnv
      gi_wp2
      have hbz := HI.out.bel.size
      refine ⟨Calm.below (belowOne _ _), HI.out.below (by omega) (by omega) (belowOne _ _), Z.heap.size, A1, c1, A2, c2, by rw [HYn.out]; simp, by rw [HYn.out]; exact HQ.out, by rw [HYn.out]; exact Held.new _ _ _⟩
    case body =>
      rintro l' t pre y b Z ht hI hpn ⟨k, A1, c1, A2, c2, rfl, hQ, hH⟩
      have hsn : opensKeys ((pre ++ [y]).map (noteAt x.notes)) = addAll (opensKeys (pre.map (noteAt x.notes))) (noteAt x.notes y).locks := by rw [List.map_append, List.map_cons, List.map_nil, opensKeys_snoc]
      have hlen : (opensKeys (pre.map (noteAt x.notes))).length ≤ 12 * pre.length := by
        have h := opensKeys_len (m := 12) (ys := pre.map (noteAt x.notes)) fun z hz => by
          obtain ⟨q, -, rfl⟩ := List.mem_map.1 hz
          exact HL12.out _ (List.getElem_mem _)
        rwa [List.length_map] at h
      have hl12 : (noteAt x.notes y).locks.length ≤ 12 := HL12.out _ (List.getElem_mem _)
      obtain ⟨os, hos⟩ : ∃ os, opensKeys (pre.map (noteAt x.notes)) = os := ⟨_, rfl⟩
      obtain ⟨n, hn⟩ : ∃ n, noteAt x.notes y = n := ⟨_, rfl⟩
      rw [hos] at hlen hsn
      rw [hn] at hsn hl12 hQ hH
      have hxn := HN.out
      have HSn := Lib.hid hsn
      have HQ := Lib.hid hQ
      have HI := Lib.hid (show RowW strSh 9 w W0 w1.heap.size t os Z from hos ▸ hI)
      have t2 := hH.of 2 _ rfl
      simp only [hn]
      clear hI hsn hos hn hH hQ
      gi_wp2
      gi_loopw [18] (fun i wr => ∃ j : Nat, j ≤ n.locks.length ∧ i = .int .i64 j ∧ Calm (fun b => b = w1.heap.size ∨ t ≤ b) Z wr ∧ RowW strSh 9 w W0 w1.heap.size t (addAll os (n.locks.take j)) wr) (fun i _ => n.locks.length - (intOf i).toNat)
      case atStart => exact ⟨0, Nat.zero_le _, rfl, Calm.refl _ _, HI.out⟩
      case round =>
        clear HI t2
        obtain ⟨j, hj, rfl, hC, hI⟩ := hrel
        obtain ⟨v, S, h1, h2, h3⟩ := hI.row
        obtain ⟨ks, hks⟩ : ∃ ks, addAll os (n.locks.take j) = ks := ⟨_, rfl⟩
        have hkl : ks.length ≤ 12 * pre.length + 12 := by rw [← hks]; have h := addAll_len (n.locks.take j) os; rw [List.length_take] at h; omega
        rw [hks] at h2 hI
        obtain ⟨Av, cv, rfl, hcv, hlv⟩ := h2.row.form
        have HI := Lib.hid hI
        have HC := Lib.hid hC
        have H1 := Lib.hid h1
        have H2 := Lib.hid h2
        have H3 := Lib.hid h3
        have HKs := Lib.hid hks
        have p0 := h1.of 0 _ rfl
        have pf := h1.2.1 0
        clear hI hC h1 h2 h3 hks
        by_cases hlt : j < n.locks.length
        · obtain ⟨b, off, c', key, e1, hkx, hbB, hkz, ck⟩ := strs_at (HQ.out.below (HI.out.bel)) hlt
          injection e1 with e1a e1b e1c
          subst e1a
          clear e1b e1c
          have HT := Lib.hid (addAll_step (xs := os) hkx)
          clear hkx
          gi_wp2_with fail
          gi_at_call 73
          refine (callsIn_anyR HFw.out (contains_any _ _ _ _ _ H2.out.row)).mono ?_
          rintro e w' ⟨rfl, rfl⟩
          rcases hm : hasB ks key
          · have HA := Lib.hid (addS_new hm)
            clear hm
            have hyZ : strSh.own (wr.alloc (.cells #[.string key] 9)) (fun _ => False) [.string key] key := ⟨rfl, hkz⟩
            have HB1 := Lib.hid (belowOne wr (.cells #[.string key] 9))
            have HS1 := Lib.hid (Held.new wr #[.string key] 9)
            have HOw := Lib.hid (H2.out.below HB1.out)
            gi_wp2_with (gi_at_builtin; refine wplIn_of HFw.out rfl (by intro c h; cases h) fun K hK => app_one strSh 33 9 (.string ByteArray.empty) 16 Try.underlying33 infoStr rfl (by decide) (by omega) (.tmp 26) (.tmp 28) rfl S (fun _ => False) (.slice Av ks.length cv) ks rfl HOw.out wr.heap.size rfl _ key hyZ HS1.out (fun _ _ h => h) (by omega) ?_; intro v' Z2 ho2 hg2 _; obtain ⟨A3, c3, hf3, -, -⟩ := ho2.row.form; rw [List.length_append, List.length_singleton] at hf3; subst hf3; have HR2 := Lib.hid ((H1.out.below HB1.out H1.out.1).outs (Outs.of_grown (S := S) hg2 (fun q hq => HOw.out.blk q hq)) (fun h => by have := (H3.out _ h).1; omega)); have f2 := HR2.out.2.1 0; have r2 := HR2.out.of 0 _ rfl; have HO2 := Lib.hid ho2; have HG2 := Lib.hid hg2; clear ho2 hg2; refine hK _ _ ?_; clear hK K)
            obtain ⟨g1, g2⟩ := RowW.grown (t := t) (ys := ks ++ [key]) H2.out H3.out HI.out.bel (by omega) HI.out.size (by omega) HB1.out (fun b h => h.elim) HR2.out HO2.out HG2.out
            go_roundw
            case rel => exact ⟨j + 1, by omega, by go_num, HC.out.trans g1, by rw [HT.out, HKs.out, HA.out]; exact g2⟩
            case measure => simp [intOf]; omega
          · have HA := Lib.hid (addS_in hm)
            clear hm
            gi_wp2
            go_roundw
            case rel => exact ⟨j + 1, by omega, by go_num, HC.out, by rw [HT.out, HKs.out, HA.out]; exact HI.out⟩
            case measure => simp [intOf]; omega
        · have hjl : j = n.locks.length := by omega
          gi_wp2
          exact ⟨HC.out, by dsimp only; rw [HSn.out, ← List.take_length (l := n.locks), ← hjl, HKs.out]; exact HI.out⟩
    case done =>
      rintro D t Z hD ht hI hDf
      obtain ⟨v, S, h1, h2, h3⟩ := hI.row
      have hfn : opensKeys (((upto x.notes.length x.notes.length (Nat.le_refl _)).filter fun y => openB x.notes (noteAt x.notes y)).map (noteAt x.notes)) = locksD x := by
        rw [HO.out, inD_all, spots_filter]
      rw [hfn] at h2
      obtain ⟨Av, cv, rfl, hcv, hlv⟩ := h2.row.form
      have r0 := h1.of 0 _ rfl
      have HI := Lib.hid hI
      have HD := Lib.hid hDf
      have H1 := Lib.hid h1
      have H2 := Lib.hid h2
      have H3 := Lib.hid h3
      clear hI hDf h1 h2 h3 hfn
      gi_wp2
      refine ⟨by simp, .inl ⟨_, _, rfl, run_takeDeferred HD.out, ?_⟩⟩
      refine ⟨.slice Av (locksD x).length cv, ?_, _, rfl, (H2.out.turned (tight_str _) (grownBy_putObj' _ D (.deferred none)) (fun r e => by cases e; exact ⟨_, HD.out, rfl⟩)).mono fun b hb => ⟨by have := (H3.out b hb).1; omega, Nat.lt_of_lt_of_le (H3.out b hb).2 (grownBy_putObj' Z D (.deferred none)).size⟩, ?_⟩
      · simp [results, Try.f21, go_sem]
      · exact (HW0.out.trans HI.out.bel).trans (belowK_b (w := w) (Nat.le_refl _) Z D _ _ (by omega) HD.out rfl rfl)

end Go.Proofs.Ytkamlibfcakblaa
