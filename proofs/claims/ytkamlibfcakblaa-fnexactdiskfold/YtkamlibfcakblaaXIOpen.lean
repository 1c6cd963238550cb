/- Texts that follow each other, merged: IOpen, MarkSize, MarkWt, MarkWt2. -/
import Derived.Test.YtkamlibfcakblaaXInDoubt
import Derived.Test.YtkamlibfcakblaaXExItems
import Derived.Test.YtkamlibfcakblaaXFrameRow
import Derived.Test.YtkamlibfcakblaaXStoMap

/- What DiskOpen answers, of the program. -/
namespace Go.Proofs.Ytkamlibfcakblaa
open Go.RowKit Go.Shelf

attribute [local go_sem] Oper.semAt_some

theorem spots_filter (ns : List Note) (p : Note → Bool) : ((upto ns.length ns.length (Nat.le_refl _)).filter fun y => p (noteAt ns y)).map (noteAt ns) = ns.filter p := by
  have h : ((upto ns.length ns.length (Nat.le_refl _)).filter fun y => p (noteAt ns y)).map (noteAt ns) = ((upto ns.length ns.length (Nat.le_refl _)).map (noteAt ns)).filter p := by rw [List.filter_map]; rfl
  rw [h, upto_notes]

set_option maxRecDepth 100000 in
set_option maxHeartbeats 20000000 in
theorem implDiskOpen_any (w : World) (cs : List Value) (x : Disk) (h : diskSh.rel w w.heap.size cs x) :
    Calls Try.prog 20 #[.agg cs.toArray] w (CopiedSl Sh.int 3 (openD x) w) := by
  refine (callsIn_wide (n := 9)).1 ?_
  obtain ⟨F, hF⟩ : ∃ F, F = Fence.wide := ⟨_, rfl⟩
  have hro : F.round = none := by rw [hF]; rfl
  have hfn : ∀ f, F.fn f := by rw [hF]; exact fun _ => trivial
  rw [← hF]
  have HFw := Lib.hid hF
  clear hF
  have HH := Lib.hid fun W (hb : Below w.heap.size w W) => diskSh.rmore (diskSh.rbelow h hb) hb.size
  obtain ⟨u, rfl, hu⟩ := disk_rel.1 h
  obtain ⟨Au, cu, rfl, hcu, hnu⟩ := hu.form
  have HU := Lib.hid fun W (hb : Below w.heap.size w W) => hu.below hb
  have HX := Lib.hid (Held.new w #[.slice Au x.notes.length cu, .int .i64 x.safe] 25)
  have HW := Lib.hid (belowOne w (.cells #[.slice Au x.notes.length cu, .int .i64 x.safe] 25))
  have hd1 : 1 ≤ 9 := by omega
  clear h hu
  refine callsIn_of_wp_marks Try.func20 rfl (hfn _) ?_ hro
  simp only [Try.ntmps20, List.size_toArray, List.length_cons, List.length_nil, Nat.reduceAdd, Nat.reduceSub, Array.replicate_succ, Array.replicate_zero, List.push_toArray, List.append_toArray, List.nil_append, List.cons_append]
  gi_wp2_with fail
  gi_at_call 60
  refine (callsIn_any HFw.out (implDiskOk_any _ _ x (HH.out _ HW.out))).mono ?_
  rintro e w1 ⟨rfl, hb⟩
  replace HX := Lib.hid (HX.out.below hb HX.out.1)
  replace HW := Lib.hid (belowNext HW.out hb)
  clear hb
  have x0 := HX.out.of 0 _ rfl
  rcases hd : diskB x
  · have HO := Lib.hid (openD_no hd)
    gi_wp2
    refine ⟨.slice none 0 0, ?_, _, rfl, by rw [HO.out]; exact Sh.Own.nil _ _, HW.out⟩
    simp [results, Try.f20, go_sem]
  · have HO := Lib.hid (openD_yes hd)
    have HN := Lib.hid (diskB_parts hd).1
    clear hd
    have HX1 := Lib.hid (HX.out.after (.cells #[.slice none 0 0] 39))
    have HO1 := Lib.hid (Held.new w1 #[.slice none 0 0] 39)
    have HW1 := Lib.hid (HW.out.alloc HW.out.size (.cells #[.slice none 0 0] 39))
    have HZ1 := Lib.hid (allocSize w1 (.cells #[.slice none 0 0] 39))
    have y0 := HX1.out.of 0 _ rfl
    gi_wp2_with fail
    gi_at_call 61
    refine (callsIn_any HFw.out (listOf_at _ w.heap.size _ x.notes HW1.out.size (HU.out _ HW1.out))).mono ?_
    rintro e w2 ⟨L, rfl, hR, hLo, hb2⟩
    have HR := Lib.hid hR
    have HLo := Lib.hid hLo
    have HB2 := Lib.hid hb2
    clear hR hLo hb2 y0 x0
    unfold ptr
    gi_wp2_with fail
    gi_at_call 71
    refine (show CallsIn F _ Try.prog 71 #[.agg #[.pointer (some ⟨at_ L 0, 0, none⟩)]] w2 _ from inDoubt_in F _ (hfn _) hro (at_ L 0) w2).mono ?_
    rintro e w3 ⟨rfl, rfl⟩
    unfold ptr
    gi_wp2_with fail
    have hz2 := HB2.out.size
    have hz1 := HZ1.out
    have hzw := HW.out.size
    obtain ⟨W0, hW0⟩ : ∃ W0, w2.alloc (.cells #[.pointer (some ⟨at_ L 0, 0, none⟩)] 79) = W0 := ⟨_, rfl⟩
    have hal := belowOne w2 (.cells #[.pointer (some ⟨at_ L 0, 0, none⟩)] 79)
    have HM := Lib.hid (Held.new w2 #[.pointer (some ⟨at_ L 0, 0, none⟩)] 79)
    have hzW := allocSize w2 (.cells #[.pointer (some ⟨at_ L 0, 0, none⟩)] 79)
    rw [hW0] at hal hzW HM ⊢
    have HOb := Lib.hid ((HO1.out.below HB2.out HO1.out.1).below hal (by omega))
    have HR0 := Lib.hid (HR.out.onward hal)
    have HW0 := Lib.hid (HW1.out.trans ((HB2.out.trans (hal.mono hz2)).mono HW1.out.size))
    have hlt : ∀ i, i < L.length → at_ L i < w2.heap.size := HR.out.lt
    have hlo : ∀ i, i < L.length → w1.heap.size + 1 ≤ at_ L i := fun i hi => by have := HLo.out i hi; omega
    clear hal hW0
    have HGo : Hid (Goes F 8 Try.prog 112 #[.pointer (some ⟨w2.heap.size, 0, none⟩)] (fun y : Spot x.notes.length => #[noteV W0 L y.1]) (fun b => b = w1.heap.size) ((upto x.notes.length x.notes.length (Nat.le_refl _)).filter fun y => openB x.notes (noteAt x.notes y)) x.notes.length W0) := Lib.hid (by
      rw [HFw.out]
      exact inDoubt1_goes 8 (by omega) w2.heap.size w.heap.size (fun b => b = w1.heap.size) L x.notes W0 (by omega) (by omega) (HM.out.of 0 _ rfl) HR0.out (fun i hi => by have := hlo i hi; omega) (fun b hb => by have := HX.out.1; omega) (fun b hb => by omega))
    refine wpIn_goes (f := 112) (lb := #[.pointer (some ⟨w2.heap.size, 0, none⟩)]) hro (by omega) rfl (hfn _) (enters_of Try.func112 (by kernel_rfl) rfl)
      HGo.out (Below.refl _ _) ?hps
      (fun t pre Z => RowW Sh.int 3 w W0 w1.heap.size t (opensTx (pre.map (noteAt x.notes))) Z)
      (fun t => fun pre A A' row hA hg hr => hA.turned tight_int (by omega) (by omega) hg (fun r e => by obtain ⟨h1, o, h2⟩ := hr r e; exact ⟨by omega, o, h2⟩))
      (fun X hX => RowW.start HOb.out hX (by omega))
      (fun t y b Z => ∃ k A1 c1 A2 c2, b = { tmps := #[.agg #[.slice Au x.notes.length cu, .int .i64 x.safe], .pointer (some ⟨w.heap.size, 0, none⟩), .slice none 0 0, .pointer (some ⟨w1.heap.size, 0, none⟩), .pointer (some ⟨k, 0, none⟩), .agg #[.slice Au x.notes.length cu, .int .i64 x.safe], .bool true, .bool false, .pointer (some ⟨w.heap.size, 0, none⟩), .slice Au x.notes.length cu, .agg #[.pointer (some ⟨at_ L 0, 0, none⟩)], .func (.func 112) #[] #[.pointer (some ⟨w2.heap.size, 0, none⟩)], .agg #[.int .i64 (noteAt x.notes y).kind, .int .i64 (noteAt x.notes y).tx, .slice A1 (noteAt x.notes y).locks.length c1, .slice A2 (noteAt x.notes y).writes.length c2], undef, undef, undef, undef, undef, undef, undef, undef, undef, undef, undef], defers := [] }
        ∧ Held Z k [.int .i64 (noteAt x.notes y).kind, .int .i64 (noteAt x.notes y).tx, .slice A1 (noteAt x.notes y).locks.length c1, .slice A2 (noteAt x.notes y).writes.length c2])
      ?hAx ?assign ?body ?done
    case hps => exact fun _ => rfl
    case hAx =>
      rintro t y b _ A A' row ⟨k, A1, c1, A2, c2, e, hH⟩ hg hr
      exact ⟨k, A1, c1, A2, c2, e, hH.turned (by simp) hg (fun r e => (hr r e).2)⟩
    case assign =>
      intro l' t pre y Z ht hI
      obtain ⟨n, A1, c1, A2, c2, hy, q0, q1, q2, q3, hrel⟩ := HR0.out.at_ (k := y.1 - 1) (by have := y.2; omega)
      have hxe : y.1 - 1 + 1 = y.1 := by have := y.2; omega
      rw [hxe] at q0 q1 q2 q3
      have hyn : noteAt x.notes y = n := noteAt_get hy hxe.symm
      have hnv := noteV_at (w := W0) rfl q0 q1 q2 q3
      have HI := Lib.hid hI
      have HYn := Lib.hid hyn
      clear hI hy hxe hrel hyn q0 q1 q2 q3
      dsimp only
      rw [hnv]
      clear hnv
      gi_wp2
      have hbz := HI.out.bel.size
      refine ⟨Calm.below (belowOne _ _), HI.out.below (by omega) (by omega) (belowOne _ _), Z.heap.size, A1, c1, A2, c2, by rw [HYn.out]; simp, by rw [HYn.out]; exact Held.new _ _ _⟩
    case body =>
      rintro l' t pre y b Z ht hI hpn ⟨k, A1, c1, A2, c2, rfl, hH⟩
      obtain ⟨v, S, h1, h2, h3⟩ := hI.row
      obtain ⟨Av, cv, rfl, hcv, hlv⟩ := h2.row.form
      have hlen : (opensTx (pre.map (noteAt x.notes))).length ≤ pre.length := by have := opensTx_len (pre.map (noteAt x.notes)); rwa [List.length_map] at this
      have hxn := HN.out
      have hsn : opensTx ((pre ++ [y]).map (noteAt x.notes)) = addI (opensTx (pre.map (noteAt x.notes))) (noteAt x.notes y).tx := by rw [List.map_append, List.map_cons, List.map_nil, opensTx_snoc]
      obtain ⟨os, hos⟩ : ∃ os, opensTx (pre.map (noteAt x.notes)) = os := ⟨_, rfl⟩
      obtain ⟨n, hn⟩ : ∃ n, noteAt x.notes y = n := ⟨_, rfl⟩
      rw [hos] at h1 h2 hlen hsn hlv
      rw [hn] at hsn
      have HI := Lib.hid hI
      have HSn := Lib.hid hsn
      have H2 := Lib.hid h2
      have H3 := Lib.hid h3
      have HNn := Lib.hid hn
      have HOs := Lib.hid hos
      rw [hn] at hH
      simp only [hn]
      have p0 := h1.of 0 _ rfl
      have pf := h1.2.1 0
      have t1 := hH.of 1 _ rfl
      have H1 := Lib.hid h1
      clear hI hsn h2 h3 hn hos h1 hH
      gi_wp2_with fail
      gi_at_call 72
      refine (callsIn_anyR HFw.out (containsI_any _ _ _ _ _ (ints_row.1 H2.out.row))).mono ?_
      rintro e w' ⟨rfl, rfl⟩
      rcases hm : memB os n.tx
      · have HA := Lib.hid (addI_new hm)
        clear hm
        have hyZ : Sh.int.own (Z.alloc (.cells #[.int .i64 n.tx] 3)) (fun _ => False) [.int .i64 n.tx] n.tx := rfl
        have HB1 := Lib.hid (belowOne Z (.cells #[.int .i64 n.tx] 3))
        have HS1 := Lib.hid (Held.new Z #[.int .i64 n.tx] 3)
        have HOw := Lib.hid (H2.out.below HB1.out)
        gi_wp2_with (gi_at_builtin; refine wplIn_of HFw.out rfl (by intro c h; cases h) fun K hK => app_one Sh.int 39 3 (.int .i64 0) 8 Try.underlying39 infoInt rfl (by decide) (by omega) (.tmp 18) (.tmp 21) rfl S (fun _ => False) (.slice Av os.length cv) os rfl HOw.out Z.heap.size rfl _ n.tx hyZ HS1.out (fun _ _ h => h) (by omega) ?_; intro v' Z2 ho2 hg2 _; obtain ⟨A3, c3, hf3, -, -⟩ := ho2.row.form; rw [List.length_append, List.length_singleton] at hf3; subst hf3; have HR2 := Lib.hid ((H1.out.below HB1.out H1.out.1).outs (Outs.of_grown (S := S) hg2 (fun q hq => HOw.out.blk q hq)) (fun h => by have := (H3.out _ h).1; omega)); have f2 := HR2.out.2.1 0; have r2 := HR2.out.of 0 _ rfl; have HO2 := Lib.hid ho2; have HG2 := Lib.hid hg2; clear ho2 hg2; refine hK _ _ ?_; clear hK K)
        obtain ⟨g1, g2⟩ := RowW.grown (t := t) (ys := os ++ [n.tx]) H2.out H3.out HI.out.bel (by omega) HI.out.size (by omega) HB1.out (fun b h => h.elim) HR2.out HO2.out HG2.out
        exact ⟨g1, by dsimp only; rw [HSn.out, HA.out]; exact g2⟩
      · have HA := Lib.hid (addI_in hm)
        clear hm
        gi_wp2
        exact ⟨Calm.refl _ _, by dsimp only; rw [HSn.out, HA.out, ← HOs.out]; exact HI.out⟩
    case done =>
      rintro D t Z hD ht hI hDf
      obtain ⟨v, S, h1, h2, h3⟩ := hI.row
      have hfn : opensTx (((upto x.notes.length x.notes.length (Nat.le_refl _)).filter fun y => openB x.notes (noteAt x.notes y)).map (noteAt x.notes)) = openD x := by
        rw [HO.out, inD_all, spots_filter]
      rw [hfn] at h2
      obtain ⟨Av, cv, rfl, hcv, hlv⟩ := h2.row.form
      have r0 := h1.of 0 _ rfl
      have HI := Lib.hid hI
      have HD := Lib.hid hDf
      have H1 := Lib.hid h1
      have H2 := Lib.hid h2
      have H3 := Lib.hid h3
      clear hI hDf h1 h2 h3 hfn
      gi_wp2
      refine ⟨by simp, .inl ⟨_, _, rfl, run_takeDeferred HD.out, ?_⟩⟩
      refine ⟨.slice Av (openD x).length cv, ?_, _, rfl, (H2.out.turned tight_int (grownBy_putObj' _ D (.deferred none)) (fun r e => by cases e; exact ⟨_, HD.out, rfl⟩)).mono fun b hb => ⟨by have := (H3.out b hb).1; omega, Nat.lt_of_lt_of_le (H3.out b hb).2 (grownBy_putObj' Z D (.deferred none)).size⟩, ?_⟩
      · simp [results, Try.f20, go_sem]
      · exact (HW0.out.trans HI.out.bel).trans (belowK_b (w := w) (Nat.le_refl _) Z D _ _ (by omega) HD.out rfl rfl)

end Go.Proofs.Ytkamlibfcakblaa

/- How long a mark's text is. -/
namespace Go.Proofs.Ytkamlibfcakblaa
open Go.RowKit

theorem decs_size : ∀ (n : Nat) (k : Int) (s : ByteArray), k.toNat ≤ n → (decs k s).size ≤ n + s.size
  | n, k, s, h => by
    by_cases hk : 0 < k
    · cases n with
      | zero => omega
      | succ n =>
        rw [← decs_step s hk]
        have := decs_size n (k / 10) (digT (k % 10) ++ s) (by omega)
        rw [ByteArray.size_append, digT_size] at this
        omega
    · rw [decs_end s (by omega)]; omega
theorem markS_size {k : Int} (h : k ≤ 1000000000000000) : (markS k).size ≤ maxLen := by
  unfold markS maxLen
  rw [ByteArray.size_append]
  have h1 := decs_size k.toNat k ⟨#[]⟩ (Nat.le_refl _)
  have h2 : (⟨#[]⟩ : ByteArray).size = 0 := rfl
  have h3 : (⟨#[109]⟩ : ByteArray).size = 1 := rfl
  omega

end Go.Proofs.Ytkamlibfcakblaa

/- How much weighs what bears marks. -/
namespace Go.Proofs.Ytkamlibfcakblaa
open Go.RowKit

theorem markS_small {k : Int} : (markS k).size ≤ k.toNat + 1 := by
  unfold markS
  rw [ByteArray.size_append]
  have h1 := decs_size k.toNat k ⟨#[]⟩ (Nat.le_refl _)
  have h2 : (⟨#[]⟩ : ByteArray).size = 0 := rfl
  have h3 : (⟨#[109]⟩ : ByteArray).size = 1 := rfl
  omega
/-- What bears marks up to M weighs at most so much a mark. -/
def WtLe {α : Type} (A : Sh α) (M c : Nat) : Prop := ∀ (k : Int) (x : α), A.mkd k x → 0 ≤ k → k + A.cnt x ≤ M → A.wt x ≤ A.cnt x * c
section
variable {α β : Type} {A : Sh α} {B : Sh β} {M c : Nat}
theorem WtLe.int : WtLe Sh.int M c := fun _ _ _ _ _ => Nat.zero_le _
theorem WtLe.bool : WtLe Sh.bool M c := fun _ _ _ _ _ => Nat.zero_le _
theorem WtLe.str (hMc : M + 2 ≤ c) : WtLe strSh M c := fun k x h h0 hM => by
  have e : x = markS k := h
  have hc : strSh.cnt x = 1 := rfl
  rw [hc] at hM ⊢
  have hw : strSh.wt x = x.size := rfl
  rw [hw, e]
  have := markS_small (k := k)
  omega
theorem WtLe.pair (hA : WtLe A M c) (hB : WtLe B M c) : WtLe (A.pair B) M c := fun k x h h0 hM => by
  obtain ⟨h1, h2⟩ := h
  have hc : (A.pair B).cnt x = A.cnt x.1 + B.cnt x.2 := rfl
  have hw : (A.pair B).wt x = A.wt x.1 + B.wt x.2 := rfl
  rw [hc] at hM ⊢
  rw [hw, Nat.add_mul]
  have a := hA k x.1 h1 h0 (by omega)
  have b := hB _ x.2 h2 (by omega) (by omega)
  omega
theorem WtLe.conv {f : β → α} {g : α → β} {hg : f (g A.z) = A.z} (hA : WtLe A M c) : WtLe (A.conv f g hg) M c := fun k x h h0 hM => hA k (f x) h h0 hM
theorem WtLe.rows (hA : WtLe A M c) : ∀ (l : List α) (k : Int), mkdL A.cnt A.mkd k l → 0 ≤ k → k + cntL A.cnt l ≤ M → wtL A.wt l ≤ l.length + cntL A.cnt l * c
  | [], _, _, _, _ => by simp [wtL, cntL]
  | x :: l, k, h, h0, hM => by
    obtain ⟨h1, h2⟩ := h
    have hc : cntL A.cnt (x :: l) = A.cnt x + cntL A.cnt l := rfl
    have hw : wtL A.wt (x :: l) = 1 + A.wt x + wtL A.wt l := rfl
    rw [hc] at hM ⊢
    rw [hw, Nat.add_mul, List.length_cons]
    have a := hA k x h1 h0 (by omega)
    have b := WtLe.rows hA l _ h2 (by omega) (by omega)
    omega
theorem ints_wt (x : List Int) : intsSh.wt x = x.length := by
  show wtL (fun _ => 0) x = x.length
  induction x with
  | nil => rfl
  | cons a l ih => simp only [wtL, List.length_cons]; omega
theorem ints_cnt (x : List Int) : intsSh.cnt x = x.length := by
  show cntL (fun _ => 1) x = x.length
  induction x with
  | nil => rfl
  | cons a l ih => simp only [cntL, List.length_cons]; omega
theorem WtLe.ints (hc : 1 ≤ c) : WtLe intsSh M c := fun k x _ _ _ => by
  rw [ints_wt, ints_cnt]
  exact Nat.le_mul_of_pos_right _ (by omega)
theorem WtLe.it (h : M + 2 ≤ c) : WtLe itSh M c := WtLe.conv (WtLe.pair (WtLe.str h) (WtLe.ints (by omega)))
theorem WtLe.wr (h : M + 2 ≤ c) : WtLe wrSh M c := WtLe.conv (WtLe.pair (WtLe.str h) (WtLe.pair WtLe.bool (WtLe.ints (by omega))))
/-- Things, as many as they are: each bears a mark. -/
theorem its_len (l : List Item) : l.length ≤ cntL itSh.cnt l := by
  induction l with
  | nil => simp
  | cons a l ih =>
    have : itSh.cnt a = 1 + intsSh.cnt a.val := rfl
    simp only [cntL, List.length_cons]; omega
theorem its_wt {M : Nat} {l : List Item} {k : Int} (h : mkdL itSh.cnt itSh.mkd k l) (h0 : 0 ≤ k) (hM : k + cntL itSh.cnt l ≤ M) : wtL itSh.wt l ≤ cntL itSh.cnt l * (M + 3) := by
  have h1 := WtLe.rows (WtLe.it (Nat.le_refl (M + 2))) l k h h0 hM
  have h2 := its_len l
  have h3 : cntL itSh.cnt l * (M + 3) = cntL itSh.cnt l * (M + 2) + cntL itSh.cnt l := by rw [show M + 3 = M + 2 + 1 by omega, Nat.mul_succ]
  omega
end
/-- How many marks things bear that are short. -/
theorem its_cnt {its : List Item} (h : ∀ it ∈ its, it.val.length ≤ 3) : cntL itSh.cnt its ≤ 4 * its.length := by
  induction its with
  | nil => simp [cntL]
  | cons x l ih =>
    have h1 := h x (List.mem_cons_self ..)
    have h2 := ih fun y hy => h y (List.mem_cons_of_mem _ hy)
    have hc : itSh.cnt x = 1 + intsSh.cnt x.val := rfl
    have hc2 := ints_cnt x.val
    simp only [cntL, List.length_cons]
    omega

end Go.Proofs.Ytkamlibfcakblaa

/- How much weighs what bears marks, by the digits of the marks. -/
namespace Go.Proofs.Ytkamlibfcakblaa
open Go.RowKit

theorem decs_digits : ∀ (d : Nat) (k : Int) (s : ByteArray), k < (10 : Int) ^ d → (decs k s).size ≤ d + s.size
  | 0, k, s, h => by rw [decs_end s (by simp at h; omega)]; omega
  | d + 1, k, s, h => by
    by_cases hk : 0 < k
    · rw [← decs_step s hk]
      have hd : k / 10 < (10 : Int) ^ d := by
        rw [Int.pow_succ] at h
        omega
      have := decs_digits d (k / 10) (digT (k % 10) ++ s) hd
      rw [ByteArray.size_append, digT_size] at this
      omega
    · rw [decs_end s (by omega)]; omega
theorem markS_digits {k : Int} (h : k ≤ 99999) : (markS k).size ≤ 6 := by
  unfold markS
  rw [ByteArray.size_append]
  have h1 := decs_digits 5 k ⟨#[]⟩ (by omega)
  have h2 : (⟨#[]⟩ : ByteArray).size = 0 := rfl
  have h3 : (⟨#[109]⟩ : ByteArray).size = 1 := rfl
  omega
section
variable {α : Type} {A : Sh α} {M c : Nat}
theorem WtLe.strD : WtLe strSh 99999 6 := fun k x h h0 hM => by
  have e : x = markS k := h
  have hc : strSh.cnt x = 1 := rfl
  rw [hc] at hM ⊢
  have hw : strSh.wt x = x.size := rfl
  rw [hw, e]
  have := markS_digits (k := k) (by omega)
  omega
theorem WtLe.more {c' : Nat} (h : WtLe A M c) (hc : c ≤ c') : WtLe A M c' := fun k x hm h0 hM => Nat.le_trans (h k x hm h0 hM) (Nat.mul_le_mul_left _ hc)
theorem len_cnt (hA : ∀ x, 1 ≤ A.cnt x) : ∀ l : List α, l.length ≤ cntL A.cnt l
  | [] => Nat.zero_le _
  | x :: l => by
    have h1 := hA x
    have h2 := len_cnt hA l
    simp only [cntL, List.length_cons]; omega
theorem WtLe.sl (h : WtLe A M c) (hA : ∀ x, 1 ≤ A.cnt x) (e : TypeId) (hb : A.base ≤ 16) : WtLe (A.sl e hb) M (c + 1) := fun k l hm h0 hM => by
  have h1 := WtLe.rows h l k hm h0 hM
  have h2 := len_cnt hA l
  show wtL A.wt l ≤ cntL A.cnt l * (c + 1)
  rw [Nat.mul_succ]; omega
end
theorem wtNoteM : WtLe noteSh 99999 7 := WtLe.conv (WtLe.pair (WtLe.int) (WtLe.pair (WtLe.int) (WtLe.pair ((WtLe.strD.sl (fun _ => Nat.le_refl _) _ _)) (WtLe.sl (A := wrSh) (WtLe.conv (WtLe.pair WtLe.strD (WtLe.pair WtLe.bool (WtLe.ints (by omega))))) (fun x => by show 1 ≤ 1 + _; omega) _ _))))
theorem wtNotesM : WtLe notesSh 99999 8 := wtNoteM.sl (fun x => by show 1 ≤ 1 + _; omega) _ _
/-- How many marks a place's notes bear, and a note. -/
def dCnt (x : Disk) : Nat := cntL noteSh.cnt x.notes
def dMk (k : Int) (x : Disk) : Prop := mkdL noteSh.cnt noteSh.mkd k x.notes
def nCnt (x : Note) : Nat := cntL strSh.cnt x.locks + cntL wrSh.cnt x.writes
def nMk (k : Int) (x : Note) : Prop := mkdL strSh.cnt strSh.mkd k x.locks ∧ mkdL wrSh.cnt wrSh.mkd (k + cntL strSh.cnt x.locks) x.writes
theorem strs_cntE : ∀ (l : List ByteArray), cntL strSh.cnt l = l.length
  | [] => rfl
  | x :: l => by
    have e : cntL strSh.cnt (x :: l) = 1 + cntL strSh.cnt l := rfl
    rw [e, strs_cntE l, List.length_cons]; omega
theorem wrs_cntE : ∀ {l : List Wr}, (∀ x ∈ l, x.val.length ≤ 3 ∧ x.key.size ≤ 3) → cntL wrSh.cnt l ≤ 5 * l.length ∧ wtL wrSh.wt l ≤ 7 * l.length
  | [], _ => ⟨Nat.zero_le _, Nat.zero_le _⟩
  | x :: l, h => by
    have h1 := h x (List.mem_cons_self ..)
    obtain ⟨h2, h3⟩ := wrs_cntE (l := l) fun y hy => h y (List.mem_cons_of_mem _ hy)
    have e2 : cntL wrSh.cnt (x :: l) = (1 + (1 + intsSh.cnt x.val)) + cntL wrSh.cnt l := rfl
    have e3 : wtL wrSh.wt (x :: l) = 1 + (x.key.size + (0 + intsSh.wt x.val)) + wtL wrSh.wt l := rfl
    have e4 := ints_cnt x.val
    have e5 := ints_wt x.val
    rw [e2, e3, List.length_cons]; omega
theorem strs_wtE : ∀ {l : List ByteArray}, (∀ k ∈ l, k.size ≤ 3) → wtL strSh.wt l ≤ 4 * l.length
  | [], _ => Nat.zero_le _
  | x :: l, h => by
    have h1 := h x (List.mem_cons_self ..)
    have h2 := strs_wtE (l := l) fun y hy => h y (List.mem_cons_of_mem _ hy)
    have e : wtL strSh.wt (x :: l) = 1 + x.size + wtL strSh.wt l := rfl
    rw [e, List.length_cons]; omega
theorem note_cnt {n : Note} (h : noteB n = true) : noteSh.cnt n ≤ 74 ∧ noteSh.wt n ≤ 132 := by
  obtain ⟨h1, h2, h3, h4⟩ := noteB_small h
  have e1 := strs_cntE n.locks
  obtain ⟨e2, e3⟩ := wrs_cntE h3
  have e4 := strs_wtE h4
  have e5 : noteSh.cnt n = 1 + (1 + (cntL strSh.cnt n.locks + cntL wrSh.cnt n.writes)) := rfl
  have e6 : noteSh.wt n = 0 + (0 + (wtL strSh.wt n.locks + wtL wrSh.wt n.writes)) := rfl
  omega
theorem notes_cnt : ∀ {l : List Note}, (∀ n ∈ l, noteB n = true) → cntL noteSh.cnt l ≤ 74 * l.length ∧ wtL noteSh.wt l ≤ 133 * l.length
  | [], _ => ⟨Nat.zero_le _, Nat.zero_le _⟩
  | x :: l, h => by
    have h1 := note_cnt (h x (List.mem_cons_self ..))
    have h2 := notes_cnt (l := l) fun y hy => h y (List.mem_cons_of_mem _ hy)
    simp only [cntL, wtL, List.length_cons]; omega
/-- How much is what is ok, and how much when it bears marks. -/
theorem disk_small {x : Disk} (h : diskB x = true) : dCnt x ≤ 8880 ∧ diskSh.wt x ≤ 16000 := by
  obtain ⟨h1, h2⟩ := diskB_small h
  obtain ⟨h3, h4⟩ := notes_cnt h2
  have e : diskSh.wt x = wtL noteSh.wt x.notes + 0 := rfl
  unfold dCnt
  omega
theorem disk_marked {y : Disk} {k : Int} {c : Nat} (h : dMk k y) (h0 : 0 ≤ k) (hc : dCnt y = c) (hk : k + c ≤ 99999) : diskSh.wt y ≤ 1048576 := by
  have h1 := wtNotesM k y.notes h h0 (by show k + (cntL noteSh.cnt y.notes : Int) ≤ _; unfold dCnt at hc; omega)
  have e : diskSh.wt y = notesSh.wt y.notes + 0 := rfl
  have e2 : notesSh.cnt y.notes = c := hc
  rw [e2] at h1
  have : c ≤ 99999 := by omega
  omega

end Go.Proofs.Ytkamlibfcakblaa
