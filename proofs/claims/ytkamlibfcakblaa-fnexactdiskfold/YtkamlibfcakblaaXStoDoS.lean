/- The model's StoDo. -/
import Derived.Test.YtkamlibfcakblaaXWrts
namespace Go.Proofs.Ytkamlibfcakblaa
open Go.RowKit

structure DoW (w : World) (xb : Nat) (vx : Value) (cur : List Item) (W : World) : Prop where
  hr : Held W (w.heap.size + 1) [.slice none 0 0]
  hx : Held W xb [vx]
  its : ItemsIn W (· ≠ xb) vx cur
  low : Below w.heap.size w W
section
variable {w W W' : World} {xb : Nat} {vx vn : Value} {cur nxt : List Item}
theorem DoW.next (h : DoW w xb vx cur W) (hn : Below W.heap.size W W') : DoW w xb vx cur W' :=
  ⟨h.hr.below hn h.hr.1, h.hx.below hn h.hx.1, h.its.keep (fun b hb _ => hn.block b hb) hn.size (fun _ _ h => h), h.low.trans (hn.mono h.low.size)⟩
theorem DoW.drew (h : DoW w xb vx cur W) : DoW w xb vx cur W.drew := h.next (Below.refl _ _).drew
theorem DoW.put (h : DoW w xb vx cur W) (hx : w.heap.size + 1 < xb) (hi : ItemsIn W (· ≠ xb) vn nxt) : DoW w xb vn nxt (W.setCell ⟨xb, 0, none⟩ vn) :=
  ⟨h.hr.far (by show _ ≠ xb; omega) _, h.hx.set_ (i := 0) vn, hi.keep (fun b _ hb => Below.heap_setCell W ⟨xb, 0, none⟩ vn b hb) (by simp [World.setCell]) (fun _ _ h => h), h.low.setCell (by show _ ≤ xb; omega) _⟩
end
theorem doBad {its cur : List Item} {ws : List Wr} {k : Nat} {x : Wr} (hs : stoB its = true) (hx : ws[k]? = some x) (hc : (ws.take k).foldl doStep (some its) = some cur) (h : x.ok = false ∨ 40 < (wAll x.key x.del x.val cur).length) : stoDo its ws = [] := by
  have h1 : (ws.take (k + 1)).foldl doStep (some its) = none := by
    rw [doTake hx, hc]
    unfold doStep
    rcases h with h | h
    · simp [h]
    · simp [h]
  unfold stoDo doAll
  rw [if_pos hs, doStop h1]; rfl
theorem doGood {its cur : List Item} {ws : List Wr} {k : Nat} {x : Wr} (hx : ws[k]? = some x) (hc : (ws.take k).foldl doStep (some its) = some cur) (h1 : x.ok = true) (h2 : ¬ 40 < (wAll x.key x.del x.val cur).length) :
    (ws.take (k + 1)).foldl doStep (some its) = some (wAll x.key x.del x.val cur) := by
  rw [doTake hx, hc]
  unfold doStep
  simp only [Option.bind_some]
  rw [if_pos h1, if_neg h2]
theorem doEnd {its cur : List Item} {ws : List Wr} (hs : stoB its = true) (hc : (ws.take ws.length).foldl doStep (some its) = some cur) : stoDo its ws = cur := by
  rw [List.take_length] at hc
  unfold stoDo doAll
  rw [if_pos hs, hc]; rfl
theorem doNot {its : List Item} (ws : List Wr) (hs : stoB its = false) : stoDo its ws = [] := by
  unfold stoDo doAll
  rw [if_neg (by simp [hs])]; rfl

def doGd (vx : Value) (b off k : Nat) (lv arg : Value) (j : Nat) (u : Value) : Prop :=
  match j with
  | 0 => u = .agg #[vx]
  | 1 => u = lv
  | 2 => u = .int .i64 k
  | 3 => u = .pointer (some ⟨b, off + k * 3, none⟩)
  | 4 => u = arg
  | _ => True
def doInv (w : World) (xb : Nat) (vx : Value) (cur nxt : List Item) (b off k : Nat) (lv arg : Value) (w4 : World) (L : Nat → Bool) (U : Nat → Value) (W : World) : Prop :=
  (L 5 = false → (∀ j, L j = true → doGd vx b off k lv arg j (U j)) ∧ W = w4.drew) ∧ (L 5 = true → L 6 = false → ∃ u, U 5 = .agg #[u] ∧ ItemsIn W (· ≠ xb) u nxt ∧ DoW w xb vx cur W) ∧ (L 6 = true → ∃ u, DoW w xb u nxt W)
theorem doStepInv {w : World} {xb : Nat} {vx : Value} {cur nxt : List Item} {b off k : Nat} {lv arg : Value} {w4 : World} {L : Nat → Bool} {U : Nat → Value} {i : Nat} {u : Value} (hi : i < 5) (h5 : L 5 = false) (h6 : L 6 = false) (hG : ∀ j, L j = true → doGd vx b off k lv arg j (U j))
    (hu : doGd vx b off k lv arg i u) : doInv w xb vx cur nxt b off k lv arg w4 (upd L i true) (upd U i u) w4.drew := by
  have e5 : upd L i true 5 = false := by rw [upd_other _ _ (by omega)]; exact h5
  have e6 : upd L i true 6 = false := by rw [upd_other _ _ (by omega)]; exact h6
  refine ⟨fun _ => ⟨RInv.next (Good := fun j (_ : World) u => doGd vx b off k lv arg j u) (w := w4) (w' := w4) hG (fun _ _ h => h) hu, rfl⟩, fun h => ?_, fun h => ?_⟩
  · rw [e5] at h; cases h
  · rw [e6] at h; cases h

set_option maxRecDepth 100000 in
set_option maxHeartbeats 4000000 in
theorem specStoDo_any (w : World) (v lv : Value) (its : List Item) (ws : List Wr) (hv : Items w w.heap.size v its) (hl : Wrts w w.heap.size lv ws) :
    Calls Try.prog 84 #[.agg #[v], lv] w fun e w' => ∃ u, e = .returned (.agg #[u]) ∧ OwnIt w' w.heap.size (w.heap.size ≤ ·) u (stoDo its ws) ∧ Below w.heap.size w w' := by
  obtain ⟨A, c, rfl, hc2, hc1⟩ := hv.form
  obtain ⟨Al, cl, rfl, hcl2, hcl1⟩ := hl.form
  unfold maxLen at hc2 hcl2
  have HV := Lib.hid hv
  have HL := Lib.hid hl
  have HB0 := Lib.hid (belowTwo w (.cells #[.slice A its.length c] 54) (.cells #[.slice none 0 0] 54))
  have HS0 := Lib.hid ((Held.new w #[.slice A its.length c] 54).after (.cells #[.slice none 0 0] 54))
  have hr0 := Held.new (w.alloc (.cells #[.slice A its.length c] 54)) #[.slice none 0 0] 54
  have z1 : (w.alloc (.cells #[.slice A its.length c] 54)).heap.size = w.heap.size + 1 := by simp
  rw [z1] at hr0
  have HR0 := Lib.hid hr0
  clear hv hl hr0 z1
  go_enter Try.func84, Try.ntmps84
  rcases hsb : stoB its
  · go_wp2_with (go_at_call 120; refine (specStoOk_any _ _ its ((HV.out.below HB0.out).more HB0.out.size)).mono ?_; rintro e w1 ⟨rfl, hb1⟩; rw [hsb]; have HR1 := Lib.hid (HR0.out.below hb1 HR0.out.1); have HB1 := Lib.hid (HB0.out.trans (hb1.mono HB0.out.size)); have r1 := HR1.out.of 0 _ rfl; have rf := HR1.out.2.1 0; clear hb1)
    have q0 := (HR1.out.set_ (i := 0) (.slice none 0 0)).of 0 _ rfl
    exact bodyPost_ret (v := .agg #[.slice none 0 0]) (by simp [results, Try.results84, go_sem, q0]) rfl ⟨_, rfl, by rw [doNot ws hsb]; exact OwnIt.nil _ _ _, HB1.out.setCell (by show _ ≤ w.heap.size + 1; omega) _⟩
  · have hfine := stoB_fine hsb
    have h40 := hfine.1
    have HF := Lib.hid hfine.2
    clear hfine
    go_wp2_with (first
      | (go_at_call 120; refine (specStoOk_any _ _ its ((HV.out.below HB0.out).more HB0.out.size)).mono ?_; rintro e w1 ⟨rfl, hb1⟩; rw [hsb]; have HR1 := Lib.hid (HR0.out.below hb1 HR0.out.1); have HB1 := Lib.hid (HB0.out.trans (hb1.mono HB0.out.size)); have HS1 := Lib.hid (HS0.out.below hb1 HS0.out.1); have s1 := HS1.out.of 0 _ rfl; clear hb1 HR0 HB0 HS0)
      | (go_at_call 121; refine (l1Copy_any _ _ its ((HV.out.below HB1.out).more HB1.out.size) HF.out.short (by omega)).mono ?_; rintro e w2 ⟨u2, rfl, ho2, hb2⟩; have HO2 := Lib.hid ho2; have HR2 := Lib.hid (HR1.out.below hb2 HR1.out.1); have HB2 := Lib.hid (HB1.out.trans (hb2.mono HB1.out.size)); have hz2 : w.heap.size + 1 < w2.heap.size := HR2.out.1; obtain ⟨A2, n2, c2, e2⟩ := ownSlice ho2; subst e2; clear ho2 hb2 HR1 HB1 HS1 s1))
    have H0 := Lib.hid (show DoW w w2.heap.size (.slice A2 n2 c2) its (w2.alloc (.cells #[.slice A2 n2 c2] 54)) from
      ⟨HR2.out.after _, Held.new w2 #[.slice A2 n2 c2] 54, (HO2.out.toIn (S' := fun _ => True) (fun _ _ => trivial) (fun _ _ => trivial)).keep (fun b hb _ => Below.heap_alloc w2 _ b hb) (by simp) (fun b hb _ => by omega), HB2.out.alloc (by omega) _⟩)
    clear HR2 HO2 HB2
    go_loopw [6] (fun i wr => ∃ (k : Nat) (vx : Value) (cur : List Item), k ≤ ws.length ∧ i = .int .i64 k ∧ (ws.take k).foldl doStep (some its) = some cur ∧ cur.length ≤ 40 ∧ Fine cur ∧ DoW w w2.heap.size vx cur wr) (fun i _ => ws.length - (intOf i).toNat)
    case atStart => exact ⟨0, _, its, Nat.zero_le _, rfl, rfl, h40, HF.out, H0.out⟩
    case round =>
      clear H0 HF
      obtain ⟨k, vx, cur, hk, rfl, hcur, hc40, hfc, hdo⟩ := hrel
      have HCur := Lib.hid hcur
      have HFc := Lib.hid hfc
      have HD := Lib.hid hdo
      have hzx : w2.heap.size < wr.heap.size := hdo.hx.1
      obtain ⟨Av, cv, hvf, -, -⟩ := hdo.its.form
      subst hvf
      clear hcur hfc hdo
      by_cases hlt : k < ws.length
      · obtain ⟨b, off, d, x, ux, e1, hx, hbB, hks, ck, cd, cu, hu⟩ := (HL.out.below HD.out.low).at_ (k := k) hlt
        obtain ⟨Ax, cx, hxf, -, -⟩ := hu.form
        subst hxf
        injection e1 with e1a e1b e1c
        subst e1a
        clear e1b e1c
        have HX := Lib.hid hx
        have HU := Lib.hid (hu.more HD.out.low.size)
        clear hx hu
        rcases hok : x.ok
        · have HZ := Lib.hid (doBad hsb HX.out HCur.out (.inl hok))
          go_wp2_with (go_at_call 107; refine (specWrtOk_any _ x.key x.del _ x.val hks HU.out).mono ?_; rintro e w4 ⟨rfl, hb4⟩; rw [show wrtB x.key x.del x.val = false from hok]; have HD4 := Lib.hid (HD.out.next hb4); have r1 := HD4.out.hr.of 0 _ rfl; have rf := HD4.out.hr.2.1 0; clear hb4)
          have q0 := (HD4.out.hr.set_ (i := 0) (.slice none 0 0)).of 0 _ rfl
          exact bodyPost_ret (v := .agg #[.slice none 0 0]) (by simp [results, Try.results84, go_sem, q0]) rfl ⟨_, rfl, by rw [HZ.out]; exact OwnIt.nil _ _ _, HD4.out.low.setCell (by show _ ≤ w.heap.size + 1; omega) _⟩
        · go_wp2_with (go_at_call 107; refine (specWrtOk_any _ x.key x.del _ x.val hks HU.out).mono ?_; rintro e w4 ⟨rfl, hb4⟩; rw [show wrtB x.key x.del x.val = true from hok]; have HB4 := Lib.hid hb4; have HD4 := Lib.hid (HD.out.next hb4); clear hb4)
          have hfx := Wr.fine hok
          have HNx := Lib.hid (HFc.out.wAll (del := x.del) hfx)
          have HU4 := Lib.hid ((HU.out.below HB4.out).more HB4.out.size)
          have hz4 : w2.heap.size < w4.heap.size := HD4.out.hx.1
          have hbw : b < wr.heap.size := Nat.lt_of_lt_of_le hbB HD.out.low.size
          have ck4 := (HB4.out.cell (p := ⟨b, off + k * 3, none⟩) hbw).trans ck
          have cd4 := (HB4.out.cell (p := ⟨b, off + k * 3 + 1, none⟩) hbw).trans cd
          have cu4 := (HB4.out.cell (p := ⟨b, off + k * 3 + 2, none⟩) hbw).trans cu
          have cx4 := HD4.out.hx.of 0 _ rfl
          clear HU HD HB4 ck cd cu
          refine wp_region_inv2 (by kernel_rfl) (fun L a W => ∃ U : Nat → Value, a = { tmps := #[.agg #[.slice A its.length c], .slice (some ⟨b, off, none⟩) ws.length cl, .pointer (some ⟨w.heap.size, 0, none⟩), undef, .pointer (some ⟨w.heap.size + 1, 0, none⟩), .pointer (some ⟨w2.heap.size, 0, none⟩), .int .i64 k, .agg #[.slice A its.length c], .bool true, .bool false, undef, .agg #[.slice A its.length c], .agg #[.slice A2 n2 c2], .int .i64 k, .slice (some ⟨b, off, none⟩) ws.length cl, .int .i64 ws.length, .bool true, u17, u18, .slice (some ⟨b, off, none⟩) ws.length cl, .int .i64 k, .pointer (some ⟨b, off + k * 3, none⟩), .agg #[.string x.key, .bool x.del, .slice Ax x.val.length cx], .bool true, .bool false, u25, U 0, U 1, U 2, U 3, U 4, U 5, u32, u33, u34, u35, u36, undef, undef], defers := [] } ∧ doInv w w2.heap.size (.slice Av cur.length cv) cur (wAll x.key x.del x.val cur) b off k (.slice (some ⟨b, off, none⟩) ws.length cl) (.agg #[.string x.key, .bool x.del, .slice Ax x.val.length cx]) w4 L U W) (fun i o ho e he => (backB_at (by kernel_rfl) i o ho e he).1) (fun i o ho e he => (backB_at (by kernel_rfl) i o ho e he).2) ?h0 ?hstep ?hend
          case h0 =>
            exact ⟨fun j => #[u26, u27, u28, u29, u30, u31].getD j undef, rfl, fun _ => ⟨fun j h => absurd h (by simp), rfl⟩, fun h => absurd h (by simp), fun h => absurd h (by simp)⟩
          case hstep =>
            rintro L a W i o ho hLi hpre hdn ⟨U, rfl, h1, h2, -⟩ K hK
            have hi : i < 7 := (Array.getElem?_eq_some_iff.1 ho).1
            have hd5 : ∀ j, j < 5 → L j = false → L 5 = false := fun j hj hL => hdn.notYet 5 5 5 (by kernel_rfl) hj hL
            have hd6 : ∀ j, j < 6 → L j = false → L 6 = false := fun j hj hL => hdn.notYet 1 6 6 (by kernel_rfl) hj hL
            clear hdn
            have HK := Lib.hid hK
            clear hK
            by_cases hi5 : i < 5
            · have h5 := hd5 i hi5 hLi
              have h6 := hd6 i (by omega) hLi
              obtain ⟨hG, rfl⟩ := h1 h5
              have HG := Lib.hid hG
              clear hG h1 h2 hd5 hd6
              rcases (by omega : i = 0 ∨ i = 1 ∨ i = 2 ∨ i = 3 ∨ i = 4) with rfl | rfl | rfl | rfl | rfl
              all_goals (simp at ho; subst ho; simp at hpre)
              · go_simp
                exact HK.out _ _ ⟨upd U 0 (.agg #[(.slice Av cur.length cv)]), by simp [upd], doStepInv (by decide) h5 h6 HG.out (by rfl)⟩
              · go_simp
                exact HK.out _ _ ⟨upd U 1 (.slice (some ⟨b, off, none⟩) ws.length cl), by simp [upd], doStepInv (by decide) h5 h6 HG.out (by rfl)⟩
              · go_simp
                exact HK.out _ _ ⟨upd U 2 (.int .i64 k), by simp [upd], doStepInv (by decide) h5 h6 HG.out (by rfl)⟩
              · have e0 : U 1 = (.slice (some ⟨b, off, none⟩) ws.length cl) := HG.out 1 (by simp [hpre])
                have e1 : U 2 = .int .i64 k := HG.out 2 (by simp [hpre])
                go_simp
                exact HK.out _ _ ⟨upd U 3 (.pointer (some ⟨b, off + k * 3, none⟩)), by simp [upd, e0, e1], doStepInv (by decide) h5 h6 HG.out (by rfl)⟩
              · have e0 : U 3 = (.pointer (some ⟨b, off + k * 3, none⟩)) := HG.out 3 (by simp [hpre])
                go_simp
                exact HK.out _ _ ⟨upd U 4 (.agg #[.string x.key, .bool x.del, .slice Ax x.val.length cx]), by simp [upd, e0], doStepInv (by decide) h5 h6 HG.out (by rfl)⟩
            · rcases (by omega : i = 5 ∨ i = 6) with rfl | rfl
              · have h6 := hd6 5 (by omega) hLi
                obtain ⟨hG, rfl⟩ := h1 hLi
                have HG := Lib.hid hG
                clear hG h1 h2 hd5 hd6
                simp at ho; subst ho; simp at hpre
                have e0 : U 0 = .agg #[(.slice Av cur.length cv)] := HG.out 0 (by simp [hpre])
                have e4 : U 4 = (.agg #[.string x.key, .bool x.del, .slice Ax x.val.length cx]) := HG.out 4 (by simp [hpre])
                go_simp
                go_wp2_with (go_at_call 122; refine (l1Write_any (· ≠ w2.heap.size) w4.drew _ cur HD4.out.drew.its x.key x.del Ax cx x.val HU4.out hks (by omega) (by omega)).mono ?_; rintro e W5 ⟨u5, rfl, hi5, hb5⟩)
                exact HK.out _ _ ⟨upd U 5 (.agg #[u5]), by simp [upd, e0, e4], fun h => absurd h (by simp [upd]), fun _ _ => ⟨u5, by simp [upd], hi5.keep (fun _ _ _ => rfl) (Nat.le_refl _) (fun q _ hq => hq.elim id (fun h => by have : w4.heap.size ≤ q := h; omega)), HD4.out.drew.next hb5⟩, fun h => absurd h (by simp [upd, h6])⟩
              · clear h1 hd5 hd6
                simp at ho; subst ho; simp at hpre
                obtain ⟨u5, e5, hi5', hd5⟩ := h2 (by simp [hpre]) hLi
                have h5 : L 5 = true := by simp [hpre]
                obtain ⟨A5, n5, c5, e6⟩ : ∃ A n c, u5 = .slice A n c := by
                  obtain ⟨A5, c5, e6, -, -⟩ := hi5'.form
                  exact ⟨A5, _, c5, e6⟩
                subst e6
                have cb := hd5.hx.of 0 _ rfl
                have fb := hd5.hx.2.1 0
                have HP := Lib.hid (hd5.put hz2 hi5')
                clear hd5 hi5' h2
                go_simp
                exact HK.out _ _ ⟨U, by simp [e5], fun h => absurd h (by simp [upd, h5]), fun _ h => absurd h (by simp [upd]), fun _ => ⟨_, HP.out⟩⟩
          case hend =>
            rintro L a W hL ⟨U, rfl, -, -, h6⟩
            obtain ⟨u5, hd⟩ := h6 (hL 6 (by decide))
            obtain ⟨A5, c5, e6, hm5, -⟩ := hd.its.form
            subst e6
            have HD := Lib.hid hd
            have cx6 := hd.hx.of 0 _ rfl
            have r1 := hd.hr.of 0 _ rfl
            have rf := hd.hr.2.1 0
            clear hd HD4 HU4 cx4 ck4 cd4 cu4
            unfold maxLen at hm5
            by_cases hgt : 40 < (wAll x.key x.del x.val cur).length
            · have HZ := Lib.hid (doBad hsb HX.out HCur.out (.inr hgt))
              go_wp2
              have q0 := (HD.out.hr.set_ (i := 0) (.slice none 0 0)).of 0 _ rfl
              exact bodyPost_ret (v := .agg #[.slice none 0 0]) (by simp [results, Try.results84, go_sem, q0]) rfl ⟨_, rfl, by rw [HZ.out]; exact OwnIt.nil _ _ _, HD.out.low.setCell (by show _ ≤ w.heap.size + 1; omega) _⟩
            · have HZ := Lib.hid (doGood HX.out HCur.out hok hgt)
              go_wp2
              exact ⟨⟨k + 1, _, _, by omega, by simp, HZ.out, by omega, HNx.out, HD.out⟩, by simp [intOf]; omega⟩
      · have hke : k = ws.length := by omega
        subst hke
        have HZ := Lib.hid (doEnd hsb HCur.out)
        have cx := HD.out.hx.of 0 _ rfl
        go_wp2_with (go_at_call 121; refine (l1Copy_any _ _ cur HD.out.its.items HFc.out.short (by omega)).mono ?_; rintro e w5 ⟨u5, rfl, ho5, hb5⟩; obtain ⟨A5, n5, c5, e5⟩ := ownSlice ho5; subst e5; have HO5 := Lib.hid ho5; have HD5 := Lib.hid (HD.out.next hb5); have r1 := HD5.out.hr.of 0 _ rfl; have rf := HD5.out.hr.2.1 0; clear hb5 ho5)
        have q0 := (HD5.out.hr.set_ (i := 0) (.slice A5 n5 c5)).of 0 _ rfl
        exact bodyPost_ret (v := .agg #[.slice A5 n5 c5]) (by simp [results, Try.results84, go_sem, q0]) rfl ⟨_, rfl, by rw [HZ.out]; exact (HO5.out.setCell (by show ¬ _ ≤ w.heap.size + 1; omega) (by show w.heap.size + 1 < _; omega) _).weaken (by omega) (fun q hq => by omega), HD5.out.low.setCell (by show _ ≤ w.heap.size + 1; omega) _⟩

end Go.Proofs.Ytkamlibfcakblaa
