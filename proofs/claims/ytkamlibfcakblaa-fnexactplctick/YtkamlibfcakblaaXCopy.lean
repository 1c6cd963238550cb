/- The model's copy of a store. -/
import Derived.Test.YtkamlibfcakblaaXFresh
import Derived.Test.YtkamlibfcakblaaXIntsOne
import Derived.Test.YtkamlibfcakblaaXCloneStr
namespace Go.Proofs.Ytkamlibfcakblaa
open Go.RowKit

/-- What holds of the world while a thing is copied. -/
structure CpW (w0 : World) (v vx : Value) (its : List Item) (k : Nat) (it : Item) (b off : Nat) (ux : Value) (W : World) : Prop where
  box1 : Held W w0.heap.size [v]
  box2 : Held W (w0.heap.size + 1) [.slice none 0 0]
  box3 : Held W (w0.heap.size + 1 + 1) [vx]
  own : OwnIt W (w0.heap.size + 1 + 1 + 1) (w0.heap.size + 1 + 1 + 1 ≤ ·) vx (its.take k)
  low : Below w0.heap.size w0 W
  key : W.cell? ⟨b, off + k * 2, none⟩ = some (.string it.key)
  val : W.cell? ⟨b, off + k * 2 + 1, none⟩ = some ux
  ints : Ints W w0.heap.size ux it.val
theorem CpW.next {w0 : World} {v vx : Value} {its : List Item} {k : Nat} {it : Item} {b off : Nat} {ux : Value} {W W' : World} (h : CpW w0 v vx its k it b off ux W) (hb : b < w0.heap.size) (hn : Below W.heap.size W W') : CpW w0 v vx its k it b off ux W' := by
  have hz := h.box1.1
  exact ⟨h.box1.below hn h.box1.1, h.box2.below hn h.box2.1, h.box3.below hn h.box3.1, h.own.below hn, h.low.trans (hn.mono (by omega)), (hn.cell (p := ⟨b, off + k * 2, none⟩) (by show b < _; omega)).trans h.key, (hn.cell (p := ⟨b, off + k * 2 + 1, none⟩) (by show b < _; omega)).trans h.val, h.ints.below (hn.mono (by omega))⟩

/-- What each operation's slot is good for. -/
def cpGood (w0 : World) (v vx : Value) (k : Nat) (it : Item) (b off : Nat) (ux : Value) (i : Nat) (W : World) (u : Value) : Prop :=
  match i with
  | 0 => u = .pointer (some ⟨w0.heap.size + 1 + 1, 0, none⟩)
  | 1 => u = vx
  | 2 => u = .pointer (some ⟨w0.heap.size, 0, none⟩)
  | 3 => u = v
  | 4 => u = .int .i64 k
  | 5 => u = .pointer (some ⟨b, off + k * 2, none⟩)
  | 6 => u = .pointer (some ⟨b, off + k * 2, none⟩)
  | 7 => u = .string it.key
  | 8 => ∃ B, u = .slice (some ⟨B, 0, none⟩) 0 0 ∧ OwnInts W B u [] ∧ B ≤ W.heap.size ∧ w0.heap.size + 1 + 1 + 1 ≤ B ∧ ∀ g, vx.ownBlock = some g → g < B
  | 9 => u = .pointer (some ⟨w0.heap.size, 0, none⟩)
  | 10 => u = v
  | 11 => u = .int .i64 k
  | 12 => u = .pointer (some ⟨b, off + k * 2, none⟩)
  | 13 => u = .pointer (some ⟨b, off + k * 2 + 1, none⟩)
  | 14 => u = ux
  | 15 => ∃ B, OwnInts W B u it.val ∧ w0.heap.size + 1 + 1 + 1 ≤ B ∧ ∀ g, vx.ownBlock = some g → g < B
  | 16 => ∃ u' B, u = .agg #[.string it.key, u'] ∧ OwnInts W B u' it.val ∧ w0.heap.size + 1 + 1 + 1 ≤ B ∧ ∀ g, vx.ownBlock = some g → g < B
  | 17 => ∃ u' B D, u = .slice (some ⟨D, 0, none⟩) 1 1 ∧ Held W D [.string it.key, u'] ∧ OwnInts W B u' it.val ∧ w0.heap.size + 1 + 1 + 1 ≤ B ∧ ∀ g, vx.ownBlock = some g → g < B
  | _ => True
theorem cpGood_next {w0 : World} {v vx : Value} {k : Nat} {it : Item} {b off : Nat} {ux : Value} {W W' : World} (hn : Below W.heap.size W W') (j : Nat) (u : Value) (h : cpGood w0 v vx k it b off ux j W u) : cpGood w0 v vx k it b off ux j W' u := by
  match j, h with
  | 0, h => exact h
  | 1, h => exact h
  | 2, h => exact h
  | 3, h => exact h
  | 4, h => exact h
  | 5, h => exact h
  | 6, h => exact h
  | 7, h => exact h
  | 8, ⟨B, h1, h2, h3, h4, h5⟩ => exact ⟨B, h1, h2.below hn, Nat.le_trans h3 hn.size, h4, h5⟩
  | 9, h => exact h
  | 10, h => exact h
  | 11, h => exact h
  | 12, h => exact h
  | 13, h => exact h
  | 14, h => exact h
  | 15, ⟨B, h1, h2, h3⟩ => exact ⟨B, h1.below hn, h2, h3⟩
  | 16, ⟨u', B, h0, h1, h2, h3⟩ => exact ⟨u', B, h0, h1.below hn, h2, h3⟩
  | 17, ⟨u', B, D, h0, h1, h2, h3, h4⟩ => exact ⟨u', B, D, h0, h1.below hn h1.1, h2.below hn, h3, h4⟩
  | n + 18, h => exact h

/-- What holds behind the last append, and behind the store. -/
structure CpZ (w0 : World) (v vx : Value) (its : List Item) (k : Nat) (vn : Value) (W : World) : Prop where
  box1 : Held W w0.heap.size [v]
  box2 : Held W (w0.heap.size + 1) [.slice none 0 0]
  box3 : Held W (w0.heap.size + 1 + 1) [vx]
  own : OwnIt W (w0.heap.size + 1 + 1 + 1) (w0.heap.size + 1 + 1 + 1 ≤ ·) vn (its.take (k + 1))
  low : Below w0.heap.size w0 W

def cpFrame (w0 : World) (v : Value) (k : Nat) (u6 u7 u8 u9 u10 u11 u12 u33 : Value) (U : Nat → Value) : Array Value :=
  #[.agg #[v], .pointer (some ⟨w0.heap.size, 0, none⟩), .pointer (some ⟨w0.heap.size + 1, 0, none⟩), .pointer (some ⟨w0.heap.size + 1 + 1, 0, none⟩), .int .i64 k, .agg #[.slice none 0 0], u6, u7, u8, u9, u10, u11, u12,
    U 0, U 1, U 2, U 3, U 4, U 5, U 6, U 7, U 8, U 9, U 10, U 11, U 12, U 13, U 14, U 15, U 16, U 17, U 18, U 19, u33]

def cpInv (w0 : World) (v vx : Value) (its : List Item) (k : Nat) (it : Item) (b off : Nat) (ux : Value) (u6 u7 u8 u9 u10 u11 u12 u33 : Value) (L : Nat → Bool) (a : Act) (W : World) : Prop :=
  ∃ U : Nat → Value, a = { tmps := cpFrame w0 v k u6 u7 u8 u9 u10 u11 u12 u33 U, defers := [] } ∧ (L 18 = false → (∀ j, L j = true → cpGood w0 v vx k it b off ux j W (U j)) ∧ CpW w0 v vx its k it b off ux W) ∧
    (L 18 = true → L 20 = false → CpZ w0 v vx its k (U 18) W) ∧ (L 19 = true → U 19 = .pointer (some ⟨w0.heap.size + 1 + 1, 0, none⟩)) ∧ (L 20 = true → ∃ vn, CpZ w0 v vn its k vn W)

theorem cpInv_step {w0 : World} {v vx : Value} {its : List Item} {k : Nat} {it : Item} {b off : Nat} {ux u6 u7 u8 u9 u10 u11 u12 u33 : Value} {L : Nat → Bool} {U : Nat → Value} {W W' : World} {a : Act} {i : Nat} {u : Value} (hi : i < 18) (hb : b < w0.heap.size)
    (h18 : L 18 = false) (h19 : L 19 = false) (h20 : L 20 = false) (hG : ∀ j, L j = true → cpGood w0 v vx k it b off ux j W (U j)) (hW : CpW w0 v vx its k it b off ux W) (hn : Below W.heap.size W W') (hu : cpGood w0 v vx k it b off ux i W' u)
    (ha : a = { tmps := cpFrame w0 v k u6 u7 u8 u9 u10 u11 u12 u33 (upd U i u), defers := [] }) : cpInv w0 v vx its k it b off ux u6 u7 u8 u9 u10 u11 u12 u33 (upd L i true) a W' := by
  have e18 : upd L i true 18 = false := by rw [upd_other _ _ (by omega)]; exact h18
  have e19 : upd L i true 19 = false := by rw [upd_other _ _ (by omega)]; exact h19
  have e20 : upd L i true 20 = false := by rw [upd_other _ _ (by omega)]; exact h20
  refine ⟨upd U i u, ha, fun _ => ⟨RInv.next (Good := cpGood w0 v vx k it b off ux) hG (fun j x h => cpGood_next hn j x h) hu, hW.next hb hn⟩, fun h => ?_, fun h => ?_, fun h => ?_⟩
  · rw [e18] at h; cases h
  · rw [e19] at h; cases h
  · rw [e20] at h; cases h

theorem ownItLt {w : World} {lo : Nat} {S : Nat → Prop} {v : Value} {its : List Item} (h : OwnIt w lo S v its) : ∀ g, v.ownBlock = some g → lo ≤ g ∧ g < w.heap.size := by
  obtain ⟨U, h1, _⟩ := h
  exact h1.lt
theorem takeNext {its : List Item} {k : Nat} {it : Item} (h : its[k]? = some it) : its.take k ++ [it] = its.take (k + 1) := by
  rw [List.take_add_one, h]; rfl

set_option maxRecDepth 100000 in
set_option maxHeartbeats 2000000 in
theorem l1Copy_any (w : World) (v : Value) (its : List Item) (hv : Items w w.heap.size v its) (hs : Short its its.length) (hl : its.length ≤ 2097152) :
    Calls Try.prog 121 #[.agg #[v]] w fun e w' => ∃ u, e = .returned (.agg #[u]) ∧ OwnIt w' w.heap.size (w.heap.size ≤ ·) u its ∧ Below w.heap.size w w' := by
  obtain ⟨A, c, rfl, hc2, hc1⟩ := hv.form
  unfold maxLen at hc2
  have H1 := Lib.hid (((Held.new w #[.slice A its.length c] 54).after (.cells #[.slice none 0 0] 54)).after (.cells #[.slice none 0 0] 54))
  have H2 := Lib.hid ((Held.new (w.alloc (.cells #[.slice A its.length c] 54)) #[.slice none 0 0] 54).after (.cells #[.slice none 0 0] 54))
  have H3 := Lib.hid (Held.new ((w.alloc (.cells #[.slice A its.length c] 54)).alloc (.cells #[.slice none 0 0] 54)) #[.slice none 0 0] 54)
  have HB := Lib.hid (belowThree w (.cells #[.slice A its.length c] 54) (.cells #[.slice none 0 0] 54) (.cells #[.slice none 0 0] 54))
  have z1 : (w.alloc (.cells #[.slice A its.length c] 54)).heap.size = w.heap.size + 1 := by simp
  have z2 : ((w.alloc (.cells #[.slice A its.length c] 54)).alloc (.cells #[.slice none 0 0] 54)).heap.size = w.heap.size + 1 + 1 := by simp
  rw [z1] at H2
  rw [z2] at H3
  clear z1 z2
  have HS := Lib.hid hs
  have HV := Lib.hid hv
  clear hs hv
  go_enter Try.func121, Try.ntmps121
  go_wp2
  go_loopw [4] (fun i wr => ∃ (k : Nat) (vx : Value), k ≤ its.length ∧ i = .int .i64 k ∧ Held wr w.heap.size [.slice A its.length c] ∧ Held wr (w.heap.size + 1) [.slice none 0 0] ∧ Held wr (w.heap.size + 1 + 1) [vx] ∧ OwnIt wr (w.heap.size + 1 + 1 + 1) (w.heap.size + 1 + 1 + 1 ≤ ·) vx (its.take k) ∧ Below w.heap.size w wr) (fun i _ => its.length - (intOf i).toNat)
  case atStart => exact ⟨0, _, Nat.zero_le _, rfl, H1.out, H2.out, H3.out, OwnIt.nil _ _ _, HB.out⟩
  case round =>
    clear H1 H2 H3 HB
    obtain ⟨k, vx, hk, rfl, hb1, hb2, hb3, hown, hlow⟩ := hrel
    have HB1 := Lib.hid hb1
    have HB2 := Lib.hid hb2
    have HB3 := Lib.hid hb3
    have HO := Lib.hid hown
    have HL := Lib.hid hlow
    clear hb1 hb2 hb3 hown hlow
    have hz : w.heap.size + 1 + 1 < wr.heap.size := HB3.out.1
    have c1 := HB1.out.of 0 _ rfl
    by_cases hlt : k < its.length
    · obtain ⟨b, off, d, it, ux, e1, hit, hbB, hks, ck, cu, hx⟩ := (HV.out.below HL.out).at_ (k := k) hlt
      obtain ⟨-, hsv⟩ := HS.out k it hlt hit
      obtain ⟨Ax, cx, hxf, -, -⟩ := hx.form
      subst hxf
      injection e1 with e1a e1b e1c
      subst e1a
      clear e1b e1c
      have HIt := Lib.hid hit
      have HW : Hid (CpW w (.slice (some ⟨b, off, none⟩) its.length c) vx its k it b off (.slice Ax it.val.length cx) wr) := ⟨HB1.out, HB2.out, HB3.out, HO.out, HL.out, ck, cu, hx⟩
      clear hx HV HB1 HB2 HB3 HO HL hit ck cu
      go_wp2
      refine wp_region_inv2 (by kernel_rfl) (cpInv w (.slice (some ⟨b, off, none⟩) its.length c) vx its k it b off (.slice Ax it.val.length cx) (.int .i64 k) (.pointer (some ⟨w.heap.size, 0, none⟩)) (.slice (some ⟨b, off, none⟩) its.length c) (.int .i64 its.length) (.bool true) u11 u12 undef) (fun i o ho e he => (backB_at (by kernel_rfl) i o ho e he).1) (fun i o ho e he => (backB_at (by kernel_rfl) i o ho e he).2) ?h0 ?hstep ?hend
      case h0 =>
        refine ⟨fun j => #[u13, u14, u15, u16, u17, u18, u19, u20, u21, u22, u23, u24, u25, u26, u27, u28, u29, u30, u31, u32].getD j undef, rfl, fun _ => ⟨fun j h => absurd h (by simp), HW.out.next hbB (Below.refl _ _).drew⟩, fun h => absurd h (by simp), fun h => absurd h (by simp), fun h => absurd h (by simp)⟩
      case hstep =>
        clear HW
        rintro L a W i o ho hLi hpre hdn ⟨U, rfl, h1, h2, h19', -⟩ K hK
        have hi : i < 21 := (Array.getElem?_eq_some_iff.1 ho).1
        have hd18 : ∀ j, j < 18 → L j = false → L 18 = false := fun j hj hL => hdn.notYet 10 18 18 (by kernel_rfl) hj hL
        have hd19 : ∀ j, j < 19 → L j = false → L 19 = false := fun j hj hL => hdn.notYet 1 19 19 (by kernel_rfl) hj hL
        have hd20 : ∀ j, j < 20 → L j = false → L 20 = false := fun j hj hL => hdn.notYet 1 20 20 (by kernel_rfl) hj hL
        clear hdn
        have HK := Lib.hid hK
        have HZ := Lib.hid h2
        clear hK h2
        by_cases hi18 : i < 18
        · have h18 := hd18 i hi18 hLi
          have h19 := hd19 i (by omega) hLi
          have h20 := hd20 i (by omega) hLi
          obtain ⟨hG, hW⟩ := h1 h18
          have HG := Lib.hid hG
          have HW := Lib.hid hW
          clear hG hW h1 hd18 hd19 hd20 h19' HZ
          unfold cpFrame at *
          rcases (by omega : i = 0 ∨ i = 1 ∨ i = 2 ∨ i = 3 ∨ i = 4 ∨ i = 5 ∨ i = 6 ∨ i = 7 ∨ i = 8 ∨ i = 9 ∨ i = 10 ∨ i = 11 ∨ i = 12 ∨ i = 13 ∨ i = 14 ∨ i = 15 ∨ i = 16 ∨ i = 17) with rfl | rfl | rfl | rfl | rfl | rfl | rfl | rfl | rfl | rfl | rfl | rfl | rfl | rfl | rfl | rfl | rfl | rfl
          all_goals (simp at ho; subst ho; simp at hpre)
          · go_simp
            exact HK.out _ _ (cpInv_step (u := (.pointer (some ⟨w.heap.size + 1 + 1, 0, none⟩))) (by decide) hbB h18 h19 h20 HG.out HW.out (Below.refl _ _) (rfl) (by simp [cpFrame, upd]))
          · have e0 : U 0 = (.pointer (some ⟨w.heap.size + 1 + 1, 0, none⟩)) := HG.out 0 (by simp [hpre])
            have cb := HW.out.box3.of 0 _ rfl
            go_simp
            exact HK.out _ _ (cpInv_step (u := vx) (by decide) hbB h18 h19 h20 HG.out HW.out (Below.refl _ _) (rfl) (by simp [cpFrame, upd, e0]))
          · go_simp
            exact HK.out _ _ (cpInv_step (u := (.pointer (some ⟨w.heap.size, 0, none⟩))) (by decide) hbB h18 h19 h20 HG.out HW.out (Below.refl _ _) (rfl) (by simp [cpFrame, upd]))
          · have e0 : U 2 = (.pointer (some ⟨w.heap.size, 0, none⟩)) := HG.out 2 (by simp [hpre])
            have cb := HW.out.box1.of 0 _ rfl
            go_simp
            exact HK.out _ _ (cpInv_step (u := (.slice (some ⟨b, off, none⟩) its.length c)) (by decide) hbB h18 h19 h20 HG.out HW.out (Below.refl _ _) (rfl) (by simp [cpFrame, upd, e0]))
          · go_simp
            exact HK.out _ _ (cpInv_step (u := (.int .i64 k)) (by decide) hbB h18 h19 h20 HG.out HW.out (Below.refl _ _) (rfl) (by simp [cpFrame, upd]))
          · have e0 : U 3 = (.slice (some ⟨b, off, none⟩) its.length c) := HG.out 3 (by simp [hpre])
            have e1 : U 4 = .int .i64 k := HG.out 4 (by simp [hpre])
            go_simp
            exact HK.out _ _ (cpInv_step (u := (.pointer (some ⟨b, off + k * 2, none⟩))) (by decide) hbB h18 h19 h20 HG.out HW.out (Below.refl _ _) (rfl) (by simp [cpFrame, upd, e0, e1]))
          · have e0 : U 5 = (.pointer (some ⟨b, off + k * 2, none⟩)) := HG.out 5 (by simp [hpre])
            go_simp
            exact HK.out _ _ (cpInv_step (u := (.pointer (some ⟨b, off + k * 2, none⟩))) (by decide) hbB h18 h19 h20 HG.out HW.out (Below.refl _ _) (rfl) (by simp [cpFrame, upd, e0]))
          · have e0 : U 6 = (.pointer (some ⟨b, off + k * 2, none⟩)) := HG.out 6 (by simp [hpre])
            have cb := HW.out.key
            go_simp
            exact HK.out _ _ (cpInv_step (u := (.string it.key)) (by decide) hbB h18 h19 h20 HG.out HW.out (Below.refl _ _) (rfl) (by simp [cpFrame, upd, e0]))
          · have hz8 : w.heap.size + 1 + 1 < W.heap.size := HW.out.box3.1
            go_simp
            exact HK.out _ _ (cpInv_step (u := (.slice (some ⟨W.heap.size, 0, none⟩) 0 0)) (by decide) hbB h18 h19 h20 HG.out HW.out (belowOne W _) (⟨W.heap.size, rfl, OwnInts.empty W W.heap.size (Nat.le_refl _), by simp, by omega, fun g hg => (ownItLt HW.out.own g hg).2⟩) (by simp [cpFrame, upd]))
          · go_simp
            exact HK.out _ _ (cpInv_step (u := (.pointer (some ⟨w.heap.size, 0, none⟩))) (by decide) hbB h18 h19 h20 HG.out HW.out (Below.refl _ _) (rfl) (by simp [cpFrame, upd]))
          · have e0 : U 9 = (.pointer (some ⟨w.heap.size, 0, none⟩)) := HG.out 9 (by simp [hpre])
            have cb := HW.out.box1.of 0 _ rfl
            go_simp
            exact HK.out _ _ (cpInv_step (u := (.slice (some ⟨b, off, none⟩) its.length c)) (by decide) hbB h18 h19 h20 HG.out HW.out (Below.refl _ _) (rfl) (by simp [cpFrame, upd, e0]))
          · go_simp
            exact HK.out _ _ (cpInv_step (u := (.int .i64 k)) (by decide) hbB h18 h19 h20 HG.out HW.out (Below.refl _ _) (rfl) (by simp [cpFrame, upd]))
          · have e0 : U 10 = (.slice (some ⟨b, off, none⟩) its.length c) := HG.out 10 (by simp [hpre])
            have e1 : U 11 = .int .i64 k := HG.out 11 (by simp [hpre])
            go_simp
            exact HK.out _ _ (cpInv_step (u := (.pointer (some ⟨b, off + k * 2, none⟩))) (by decide) hbB h18 h19 h20 HG.out HW.out (Below.refl _ _) (rfl) (by simp [cpFrame, upd, e0, e1]))
          · have e0 : U 12 = (.pointer (some ⟨b, off + k * 2, none⟩)) := HG.out 12 (by simp [hpre])
            go_simp
            exact HK.out _ _ (cpInv_step (u := (.pointer (some ⟨b, off + k * 2 + 1, none⟩))) (by decide) hbB h18 h19 h20 HG.out HW.out (Below.refl _ _) (rfl) (by simp [cpFrame, upd, e0]))
          · have e0 : U 13 = (.pointer (some ⟨b, off + k * 2 + 1, none⟩)) := HG.out 13 (by simp [hpre])
            have cb := HW.out.val
            go_simp
            exact HK.out _ _ (cpInv_step (u := (.slice Ax it.val.length cx)) (by decide) hbB h18 h19 h20 HG.out HW.out (Below.refl _ _) (rfl) (by simp [cpFrame, upd, e0]))
          · obtain ⟨B, e0, hown, hB1, hB2, hB3⟩ := HG.out 8 (by simp [hpre])
            have e1 : U 14 = (.slice Ax it.val.length cx) := HG.out 14 (by simp [hpre])
            rw [e0] at hown
            refine step_append_fresh rfl (.tmp 21) (.tmp 27) rfl B (by simp [Act.eval, e0]) hown w.heap.size Ax cx it.val (by simp [Act.eval, e1]) HW.out.ints (by omega) hB1 fun v' W' ho hn => ?_
            exact HK.out _ _ (cpInv_step (u := v') (by decide) hbB h18 h19 h20 HG.out HW.out (hn) (⟨B, ho, hB2, hB3⟩) (by simp [cpFrame, upd, Act.put]))
          · have e0 : U 7 = .string it.key := HG.out 7 (by simp [hpre])
            obtain ⟨B, hown, hB2, hB3⟩ := HG.out 15 (by simp [hpre])
            obtain ⟨A', c', e1, -, -⟩ := hown.ints.form
            have HOwn := Lib.hid hown
            clear hown
            go_simp
            exact HK.out _ _ (cpInv_step (u := (.agg #[.string it.key, U 15])) (by decide) hbB h18 h19 h20 HG.out HW.out (Below.refl _ _) (⟨_, B, rfl, HOwn.out, hB2, hB3⟩) (by simp [cpFrame, upd, e0, e1]))
          · obtain ⟨u', B, e0, hown, hB2, hB3⟩ := HG.out 16 (by simp [hpre])
            obtain ⟨A', c', rfl, -, -⟩ := hown.ints.form
            have HOwn := Lib.hid hown
            clear hown
            go_simp
            exact HK.out _ _ (cpInv_step (u := (.slice (some ⟨W.heap.size, 0, none⟩) 1 1)) (by decide) hbB h18 h19 h20 HG.out HW.out (belowOne W _) (⟨_, B, W.heap.size, rfl, Held.new W #[.string it.key, .slice A' it.val.length c'] 104, HOwn.out.alloc _, hB2, hB3⟩) (by simp [cpFrame, upd, e0]))
        · rcases (by omega : i = 18 ∨ i = 19 ∨ i = 20) with rfl | rfl | rfl
          · have h19 := hd19 18 (by omega) hLi
            have h20 := hd20 18 (by omega) hLi
            obtain ⟨hG, hW⟩ := h1 hLi
            have HG := Lib.hid hG
            have HW := Lib.hid hW
            clear hG hW h1 hd18 hd19 hd20 h19' HZ
            unfold cpFrame at *
            simp at ho; subst ho; simp at hpre
            have e0 : U 1 = vx := HG.out 1 (by simp [hpre])
            obtain ⟨u', B, D, e1, hheld, hown, hB2, hB3⟩ := HG.out 17 (by simp [hpre])
            obtain ⟨A', c', rfl, -, -⟩ := hown.ints.form
            have hlt' : (its.take k).length ≤ 2097152 := by rw [List.length_take]; omega
            have hzW : w.heap.size + 1 + 1 < W.heap.size := HW.out.box3.1
            refine step_append_item rfl (.tmp 14) (.tmp 30) rfl (w.heap.size + 1 + 1 + 1) (w.heap.size + 1 + 1 + 1 ≤ ·) vx (its.take k) (by simp [Act.eval, e0]) HW.out.own it A' it.val.length c' D (by simp [Act.eval, e1]) hks
              (hown.toIn.keep (fun _ _ _ => rfl) (Nat.le_refl _) fun q _ hq => ⟨Nat.le_trans hB2 hq, fun hh => by have := hB3 q hh; omega⟩) hheld hlt' (by omega) fun v' W' ho hg => ?_
            rw [takeNext HIt.out] at ho
            have hrow : ∀ g, vx.ownBlock = some g → w.heap.size + 1 + 1 + 1 ≤ g := fun g hh => (ownItLt HW.out.own g hh).1
            refine HK.out _ _ ⟨upd U 18 v', by simp [cpFrame, upd, Act.put], fun h => absurd h (by simp [upd]), fun _ _ => ?_, fun h => absurd h (by simp [upd, h19]), fun h => absurd h (by simp [upd, h20])⟩
            have hbl : Below (w.heap.size + 1 + 1 + 1) W W' := (Below.refl _ W).grown hg (by omega) hrow
            exact ⟨HW.out.box1.below hbl (by omega), HW.out.box2.below hbl (by omega), HW.out.box3.below hbl (by omega), by rw [upd_same]; exact ho, HW.out.low.trans (hbl.mono (by omega))⟩
          · have h20 := hd20 19 (by omega) hLi
            clear h1 hd18 hd19 hd20 h19'
            unfold cpFrame at *
            simp at ho; subst ho; simp at hpre
            have h18 : L 18 = true := by simp [hpre]
            go_simp
            exact HK.out _ _ ⟨upd U 19 (.pointer (some ⟨w.heap.size + 1 + 1, 0, none⟩)), by simp [cpFrame, upd], fun h => absurd h (by simp [upd, h18]), fun _ _ => by have := HZ.out h18 h20; simpa [upd] using this, fun _ => by simp [upd], fun h => absurd h (by simp [upd, h20])⟩
          · clear h1 hd18 hd19 hd20
            unfold cpFrame at *
            simp at ho; subst ho; simp at hpre
            have h18 : L 18 = true := by simp [hpre]
            have e0 : U 19 = (.pointer (some ⟨w.heap.size + 1 + 1, 0, none⟩)) := h19' (by simp [hpre])
            have hz := HZ.out h18 hLi
            have cb := hz.box3.of 0 _ rfl
            have fb := hz.box3.2.1 0
            obtain ⟨A8, n8, c8, e8⟩ : ∃ A n c, U 18 = .slice A n c := by
              obtain ⟨A8, c8, e8, -, -⟩ := hz.own.items.form
              exact ⟨A8, _, c8, e8⟩
            have HZ' := Lib.hid hz
            clear hz
            go_simp
            rw [← e8]
            refine HK.out _ _ ⟨U, by simp [cpFrame, e0], fun h => absurd h (by simp [upd, h18]), fun _ h => absurd h (by simp [upd]), fun _ => e0, fun _ => ⟨U 18, ?_⟩⟩
            exact ⟨HZ'.out.box1.far (by simp; omega) _, HZ'.out.box2.far (by simp) _, HZ'.out.box3.set_ (i := 0) (U 18), HZ'.out.own.setCell (by simp) (by simp) _, HZ'.out.low.setCell (by show _ ≤ w.heap.size + 1 + 1; omega) _⟩
      case hend =>
        rintro L a W hL ⟨U, rfl, -, -, -, h20⟩
        obtain ⟨vn, hz⟩ := h20 (hL 20 (by decide))
        have HZ := Lib.hid hz
        clear hz HW
        unfold cpFrame
        go_wp2
        exact ⟨⟨k + 1, vn, by omega, by simp, HZ.out.box1, HZ.out.box2, HZ.out.box3, HZ.out.own, HZ.out.low⟩, by simp [intOf]; omega⟩
    · have hke : k = its.length := by omega
      subst hke
      have cb2 := HB2.out.of 0 _ rfl
      have cb3 := HB3.out.of 0 _ rfl
      have fb2 := HB2.out.2.1 0
      have HQ := Lib.hid (HB2.out.set_ (i := 0) vx)
      have ho := HO.out
      rw [List.take_length] at ho
      have HOQ := Lib.hid (ho.setCell (p := ⟨w.heap.size + 1, 0, none⟩) (by simp; omega) (by show w.heap.size + 1 < _; omega) vx)
      have HLQ := Lib.hid (HL.out.setCell (p := ⟨w.heap.size + 1, 0, none⟩) (by simp) vx)
      obtain ⟨A8, c8, e8, -, -⟩ := ho.items.form
      subst e8
      clear ho
      go_wp2
      have q0 := HQ.out.of 0 _ rfl
      exact bodyPost_ret (v := .agg #[.slice A8 its.length c8]) (by simp [results, Try.results121, go_sem, q0]) rfl ⟨_, rfl, HOQ.out.weaken (by omega) (fun q hq => by omega), HLQ.out⟩

end Go.Proofs.Ytkamlibfcakblaa
