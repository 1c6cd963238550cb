/- The walk of FnStoGet. -/
import Derived.Test.YtgapjkcjnlbgaaaDrawGet
import Derived.Test.YtgapjkcjnlbgaaaRegInv3
import Derived.Test.YtgapjkcjnlbgaaaLWrtOk
namespace Go.Proofs.Ytgapjkcjnlbgaaa
open Go.RowKit

structure GW (w : World) (xb : Nat) (u : Value) (its : List Item) (W : World) : Prop where
  hx : Held W xb [u]
  its : Items W xb u its
  low : Below w.heap.size w W
section
variable {w W W' : World} {xb : Nat} {u : Value} {its : List Item}
theorem GW.next (h : GW w xb u its W) (hn : Below W.heap.size W W') : GW w xb u its W' :=
  ⟨h.hx.below hn h.hx.1, h.its.below (hn.mono (Nat.le_of_lt h.hx.1)), h.low.trans (hn.mono h.low.size)⟩
theorem GW.all (h : GW w xb u its W) : Items W W.heap.size u its := h.its.more (Nat.le_of_lt h.hx.1)
end
/-- Whether one of the first k has the name. -/
def fnd (its : List Item) (key : ByteArray) (k : Nat) : Bool := (its.take k).any fun it => decide (it.key = key)
theorem fnd_next {its : List Item} {k : Nat} {it : Item} (h : its[k]? = some it) (key : ByteArray) : fnd its key (k + 1) = (fnd its key k || decide (it.key = key)) := by
  unfold fnd
  rw [← takeNext h, List.any_append]; simp
theorem fnd_all (its : List Item) (key : ByteArray) : fnd its key its.length = lookOk its key := by
  unfold fnd lookOk look
  rw [List.take_length]
  induction its with
  | nil => rfl
  | cons x l ih =>
    rw [List.any_cons, List.find?_cons]
    cases decide (x.key = key) <;> simp [ih]
def sgGood (xb : Nat) (v : Value) (b off k : Nat) (it : Item) (i : Nat) (u : Value) : Prop :=
  match i with
  | 0 => u = .agg #[v]
  | 1 => u = .pointer (some ⟨xb, 0, none⟩)
  | 2 => u = v
  | 3 => u = .int .i64 k
  | 4 => u = .pointer (some ⟨b, off + k * 2, none⟩)
  | 5 => u = .pointer (some ⟨b, off + k * 2, none⟩)
  | 6 => u = .string it.key
  | _ => True
def sgInv (xb : Nat) (v : Value) (b off k : Nat) (it : Item) (w0 : World) (L : Nat → Bool) (U : Nat → Value) (W : World) : Prop :=
  (L 7 = false → (∀ j, L j = true → sgGood xb v b off k it j (U j)) ∧ W = w0.drew) ∧
    (L 7 = true → ∃ u, Below w0.heap.size w0.drew W ∧ OwnInts W w0.heap.size u it.val ∧ U 7 = .tuple #[u, .bool true] ∧ (L 8 = true → U 8 = .tuple #[u, .bool true]) ∧ (L 9 = true → U 9 = u) ∧ (L 10 = true → U 10 = .bool true) ∧ (L 11 = true → U 11 = u) ∧ (L 12 = true → U 12 = .bool true))
theorem sgStep {xb : Nat} {v : Value} {b off k : Nat} {it : Item} {w0 : World} {L : Nat → Bool} {U : Nat → Value} {i : Nat} {u : Value} (hi : i < 7) (hn : ∀ m, 7 ≤ m → m < 13 → L m = false) (hG : ∀ j, L j = true → sgGood xb v b off k it j (U j)) (hu : sgGood xb v b off k it i u) :
    sgInv xb v b off k it w0 (upd L i true) (upd U i u) w0.drew := by
  have e7 : upd L i true 7 = false := by rw [upd_other _ _ (by omega)]; exact hn 7 (by omega) (by omega)
  refine ⟨fun _ => ⟨RInv.next (Good := fun j (_ : World) u => sgGood xb v b off k it j u) (w := w0) (w' := w0) hG (fun _ _ h => h) hu, rfl⟩, fun h => ?_⟩
  rw [e7] at h; cases h
theorem Fine4.short {its : List Item} (h : Fine4 its) : Short its its.length := fun _ it _ hx => by
  have := h it (List.mem_of_getElem? hx)
  omega

set_option maxRecDepth 100000 in
set_option maxHeartbeats 2000000 in
theorem lawStoGet_any (w : World) (v : Value) (n : Nat) (hv : Code8 w v n) :
    Calls Try.prog 4 #[v] w fun e w' => e = .returned (.bool true) ∧ Below w.heap.size w w' := by
  have HV := Lib.hid hv
  obtain ⟨A, c, f, rfl, h1, h2, -, -⟩ := hv
  unfold maxLen at h2
  by_cases hn : 1048576 < n
  · clear HV
    go_enter Try.func4, Try.ntmps4
    go_wp2
    go_ret
    exact ⟨rfl, Below.refl _ _⟩
  · have hn' : n ≤ 1048576 := by omega
    clear hn
    go_enter Try.func4, Try.ntmps4
    go_wp2_with fail
    refine (drawStoGet_any _ _ _ HV.out).mono ?_
    rintro e w1 ⟨u, its, key, rfl, hl, hf, hks, hit, hb1⟩
    obtain ⟨Au, cu, huf, hcm, -⟩ := hit.form
    subst huf
    unfold maxLen at hcm
    have H1 := Lib.hid (show GW w w1.heap.size (.slice Au its.length cu) its (w1.alloc (.cells #[.slice Au its.length cu] 25)) from ⟨Held.new w1 #[.slice Au its.length cu] 25, hit.alloc (Nat.le_refl _) _, hb1.alloc hb1.size _⟩)
    have HF := Lib.hid hf.short
    clear hit hb1 hf HV
    go_wp2_with fail
    refine (implStoGet_any _ _ its key H1.out.all).mono ?_
    rintro e w2 ⟨u2, rfl, ho2, hb2⟩
    have H2 := Lib.hid (H1.out.next hb2)
    obtain ⟨A2, c2, e2, hm2, -⟩ := ho2.ints.form
    subst e2
    unfold maxLen at hm2
    have HO2 := Lib.hid ho2
    have d2 := H2.out.hx.of 0 _ rfl
    clear ho2 hb2 H1
    go_wp2_with fail
    refine (specStoGet_any _ _ its key H2.out.all HF.out).mono ?_
    rintro e w3 ⟨u3, rfl, ho3, hb3⟩
    have H3 := Lib.hid (H2.out.next hb3)
    obtain ⟨A3, c3, e3, -, -⟩ := ho3.ints.form
    subst e3
    have HO3 := Lib.hid ho3
    have HO2' := Lib.hid (HO2.out.below hb3)
    have d3 := H3.out.hx.of 0 _ rfl
    clear ho3 hb3 H2 d2 HO2
    go_wp2_with fail
    refine (jaInts_any _ _ _ _ _ _ HO2'.out.ints HO3.out.ints).mono ?_
    rintro e w4 ⟨rfl, m, rfl⟩
    rw [show decide (getV its key = getV its key) = true by simp]
    have H4 := Lib.hid (show GW w w1.heap.size (.slice Au its.length cu) its (w3.drewN m) from H3.out.next (belowDraws (Below.refl _ _) m))
    have HO4 := Lib.hid (show OwnInts (w3.drewN m) _ _ (getV its key) from HO2'.out.below (belowDraws (Below.refl _ _) m))
    have d4 := H4.out.hx.of 0 _ rfl
    clear H3 d3 HO2' HO3
    go_wp2_with fail
    refine (specStoOk_any _ _ its H4.out.all).mono ?_
    rintro e w5 ⟨rfl, hb5⟩
    have H5 := Lib.hid (H4.out.next hb5)
    have HO5 := Lib.hid (HO4.out.below hb5)
    have d5 := H5.out.hx.of 0 _ rfl
    clear hb5 H4 d4 HO4
    rcases hsb : stoB its
    · have g1 := getV_no (key := key) hsb
      have g2 := getOk_no (key := key) hsb
      rw [g1, g2]
      clear g1 g2
      go_wp2_with (go_at_call 16; refine (jaOk_any _).mono ?_; rintro e w6 ⟨rfl, hb6⟩; have H6 := Lib.hid (H5.out.next hb6); clear hb6)
      go_ret
      exact ⟨rfl, H6.out.low⟩
    · have hpt := stoB_parts hsb
      have HRise := Lib.hid hpt.2.2
      have HEach := Lib.hid hpt.2.1
      have h40 := hpt.1
      have HOk := Lib.hid (getOk_yes (key := key) hsb)
      clear hpt
      generalize hxs : getV its key = xs at *
      generalize hok : getOk its key = ok at *
      clear hxs hok
      go_wp2
      go_loopw [9, 10] (fun fd i wr => ∃ k : Nat, k ≤ its.length ∧ i = .int .i64 k ∧ fd = .bool (fnd its key k) ∧ GW w w1.heap.size (.slice Au its.length cu) its wr) (fun _ i _ => its.length - (intOf i).toNat)
      case atStart => exact ⟨0, Nat.zero_le _, rfl, by simp [fnd], H5.out⟩
      case round =>
        clear H5 HO5 d5
        obtain ⟨k, hk, rfl, rfl, hgw⟩ := hrel
        have H6 := Lib.hid hgw
        have d6 := hgw.hx.of 0 _ rfl
        have hzr : w1.heap.size < wr.heap.size := hgw.hx.1
        clear hgw
        by_cases hlt : k < its.length
        · obtain ⟨b, off, d, it, ux, e1, hit, hbB, hki, ck, cu', hx⟩ := H6.out.its.at_ (k := k) hlt
          obtain ⟨Ax, cx, hxf, hcx, -⟩ := hx.form
          subst hxf
          injection e1 with e1a e1b e1c
          subst e1a
          clear e1b e1c
          have HLook := Lib.hid (look_at HRise.out hit rfl)
          have HX := Lib.hid hx
          have HFn := Lib.hid (fnd_next hit key)
          clear hit hx
          go_wp2
          have HGet := Lib.hid (And.intro ((getV_yes (key := it.key) hsb).trans (lookV_some HLook.out)) ((getOk_yes (key := it.key) hsb).trans (lookOk_some HLook.out)))
          refine wp_region_inv4 (by kernel_rfl) (fun L a W => ∃ U : Nat → Value, a = { tmps := #[Value.slice A n c, undef, u2, Value.pointer (some { block := w1.heap.size, off := 0 }), Value.string key, Value.slice A2 xs.length c2, Value.bool ok, Value.slice A3 xs.length c3, Value.bool ok, Value.bool (fnd its key k), Value.int IntKind.i64 ↑k, U 11, U 12, Value.slice A n c, Value.int IntKind.i64 ↑n, Value.bool (decide (1048576 < (n : Int))), Value.tuple #[Value.agg #[Value.slice (some { block := b, off := off }) its.length cu], Value.string key], Value.slice A n c, Value.tuple #[Value.agg #[Value.slice (some { block := b, off := off }) its.length cu], Value.string key], Value.agg #[Value.slice (some { block := b, off := off }) its.length cu], Value.string key, Value.tuple #[Value.slice A2 xs.length c2, Value.bool ok], Value.agg #[Value.slice (some { block := b, off := off }) its.length cu], Value.string key, Value.tuple #[Value.slice A2 xs.length c2, Value.bool ok], Value.slice A2 xs.length c2, Value.bool ok, Value.tuple #[Value.slice A3 xs.length c3, Value.bool ok], Value.agg #[Value.slice (some { block := b, off := off }) its.length cu], Value.string key, Value.tuple #[Value.slice A3 xs.length c3, Value.bool ok], Value.slice A3 xs.length c3, Value.bool ok, Value.slice A2 xs.length c2, Value.slice A3 xs.length c3, Value.bool true, Value.bool false, Value.bool false, Value.bool ok, Value.bool ok, Value.bool false, Value.bool false, Value.agg #[Value.slice (some { block := b, off := off }) its.length cu], Value.bool true, Value.bool false, undef, undef, undef, undef, undef, undef, undef, undef, undef, undef, Value.int IntKind.i64 ↑k, Value.pointer (some { block := w1.heap.size, off := 0 }), Value.slice (some { block := b, off := off }) its.length cu, Value.int IntKind.i64 ↑its.length, Value.bool true, u60, u61, U 8, U 0, U 1, U 2, U 3, U 4, U 5, U 6, U 7, U 9, U 10, u73, u74, u75, u76, u77, u78, u79, u80, u81, u82, u83, u84, u85, u86, u87, u88, u89, u90, u91, u92, u93, u94, u95, u96, undef, undef, undef, undef, undef, undef], defers := [] } ∧ sgInv w1.heap.size (.slice (some ⟨b, off, none⟩) its.length cu) b off k it wr L U W) (by kernel_rfl) ?h0 ?hstep ?hend
          case h0 =>
            exact ⟨fun j => (#[u63, u64, u65, u66, u67, u68, u69, u70, u62, u71, u72, u11, u12] : Array Value).getD j undef, rfl, fun _ => ⟨fun j h => absurd h (by simp), rfl⟩, fun h => absurd h (by simp)⟩
          case hstep =>
            rintro L a W i o ho hLi hpre hdn ⟨U, rfl, h1, h2⟩ K hK
            have hi : i < 13 := (Array.getElem?_eq_some_iff.1 ho).1
            have HK := Lib.hid hK
            clear hK
            by_cases hi7 : i < 7
            · have hn7 : ∀ m, 7 ≤ m → m < 13 → L m = false := by
                intro m hm1 hm2
                rcases (by omega : m = 7 ∨ m = 8 ∨ m = 9 ∨ m = 10 ∨ m = 11 ∨ m = 12) with rfl | rfl | rfl | rfl | rfl | rfl
                · exact hdn.notYet 9 7 7 (by kernel_rfl) hi7 hLi
                · exact hdn.notYet 9 7 8 (by kernel_rfl) hi7 hLi
                · exact hdn.notYet 9 7 9 (by kernel_rfl) hi7 hLi
                · exact hdn.notYet 9 7 10 (by kernel_rfl) hi7 hLi
                · exact hdn.notYet 9 7 11 (by kernel_rfl) hi7 hLi
                · exact hdn.notYet 9 7 12 (by kernel_rfl) hi7 hLi
              obtain ⟨hG, rfl⟩ := h1 (hn7 7 (by omega) (by omega))
              have HG := Lib.hid hG
              clear hG h1 h2 hdn
              rcases (by omega : i = 0 ∨ i = 1 ∨ i = 2 ∨ i = 3 ∨ i = 4 ∨ i = 5 ∨ i = 6) with rfl | rfl | rfl | rfl | rfl | rfl | rfl
              all_goals (simp at ho; subst ho; simp [Region.binds] at hpre)
              · go_simp
                exact HK.out _ _ ⟨upd U 0 (.agg #[(.slice (some ⟨b, off, none⟩) its.length cu)]), by simp [upd], sgStep (by decide) hn7 HG.out (by rfl)⟩
              · go_simp
                exact HK.out _ _ ⟨upd U 1 (.pointer (some ⟨w1.heap.size, 0, none⟩)), by simp [upd], sgStep (by decide) hn7 HG.out (by rfl)⟩
              · have e0 : U 1 = (.pointer (some ⟨w1.heap.size, 0, none⟩)) := HG.out 1 (by simp [hpre])
                go_simp
                exact HK.out _ _ ⟨upd U 2 (.slice (some ⟨b, off, none⟩) its.length cu), by simp [upd, e0], sgStep (by decide) hn7 HG.out (by rfl)⟩
              · go_simp
                exact HK.out _ _ ⟨upd U 3 (.int .i64 k), by simp [upd], sgStep (by decide) hn7 HG.out (by rfl)⟩
              · have e0 : U 2 = (.slice (some ⟨b, off, none⟩) its.length cu) := HG.out 2 (by simp [hpre])
                have e1 : U 3 = .int .i64 k := HG.out 3 (by simp [hpre])
                go_simp
                exact HK.out _ _ ⟨upd U 4 (.pointer (some ⟨b, off + k * 2, none⟩)), by simp [upd, e0, e1], sgStep (by decide) hn7 HG.out (by rfl)⟩
              · have e0 : U 4 = (.pointer (some ⟨b, off + k * 2, none⟩)) := HG.out 4 (by simp [hpre])
                go_simp
                exact HK.out _ _ ⟨upd U 5 (.pointer (some ⟨b, off + k * 2, none⟩)), by simp [upd, e0], sgStep (by decide) hn7 HG.out (by rfl)⟩
              · have e0 : U 5 = (.pointer (some ⟨b, off + k * 2, none⟩)) := HG.out 5 (by simp [hpre])
                go_simp
                exact HK.out _ _ ⟨upd U 6 (.string it.key), by simp [upd, e0], sgStep (by decide) hn7 HG.out (by rfl)⟩
            · have hdn7 : L 8 = true → L 7 = true := fun h => hdn.reach 2 8 7 (by kernel_rfl) h
              rcases (by omega : i = 7 ∨ i = 8 ∨ i = 9 ∨ i = 10 ∨ i = 11 ∨ i = 12) with rfl | rfl | rfl | rfl | rfl | rfl
              · have n8 := hdn.not 9 8 7 (by kernel_rfl) hLi
                have n9 := hdn.not 9 9 7 (by kernel_rfl) hLi
                have n10 := hdn.not 9 10 7 (by kernel_rfl) hLi
                have n11 := hdn.not 9 11 7 (by kernel_rfl) hLi
                have n12 := hdn.not 9 12 7 (by kernel_rfl) hLi
                obtain ⟨hG, rfl⟩ := h1 hLi
                have HG := Lib.hid hG
                clear hG h1 h2 hdn
                simp at ho; subst ho; simp [Region.binds] at hpre
                have e0 : U 0 = .agg #[(.slice (some ⟨b, off, none⟩) its.length cu)] := HG.out 0 (by simp [hpre])
                have e1 : U 6 = .string it.key := HG.out 6 (by simp [hpre])
                go_simp
                go_wp2_with (go_at_call 18; refine (implStoGet_any _ _ its it.key (show Items wr.drew wr.drew.heap.size (.slice (some ⟨b, off, none⟩) its.length cu) its from (H6.out.next (Below.refl _ _).drew).all)).mono ?_; rintro e W5 ⟨u5, rfl, ho5, hb5⟩; rw [HGet.out.1] at ho5; rw [HGet.out.2])
                exact HK.out _ _ ⟨upd U 7 (.tuple #[u5, .bool true]), by simp [upd, e0, e1], fun h => absurd h (by simp [upd]), fun _ => ⟨u5, hb5, ho5, by simp [upd], fun h => absurd h (by simp [upd, n8]), fun h => absurd h (by simp [upd, n9]), fun h => absurd h (by simp [upd, n10]), fun h => absurd h (by simp [upd, n11]), fun h => absurd h (by simp [upd, n12])⟩⟩
              · clear h1 hdn
                simp at ho; subst ho; simp [Region.binds] at hpre
                have h7 : L 7 = true := (by simp [hpre])
                obtain ⟨u5, hb5, ho5, q7, q8, q9, q10, q11, q12⟩ := h2 h7
                obtain ⟨A5, c5, e5, -, -⟩ := ho5.ints.form
                have d8 := q7
                have HO5 := Lib.hid ho5
                have HB5 := Lib.hid hb5
                clear ho5 hb5
                go_simp
                exact HK.out _ _ ⟨upd U 8 (.tuple #[u5, .bool true]), by simp [upd, d8, e5], fun h => absurd h (by simp [upd, h7]), fun _ => ⟨u5, HB5.out, HO5.out, by simpa [upd] using q7, fun _ => by simp [upd], fun h => by have := q9 (by simpa [upd] using h); simpa [upd] using this, fun h => by have := q10 (by simpa [upd] using h); simpa [upd] using this, fun h => by have := q11 (by simpa [upd] using h); simpa [upd] using this, fun h => by have := q12 (by simpa [upd] using h); simpa [upd] using this⟩⟩
              · clear h1 hdn
                simp at ho; subst ho; simp [Region.binds] at hpre
                have h7 : L 7 = true := (hdn7 (by simp [hpre]))
                obtain ⟨u5, hb5, ho5, q7, q8, q9, q10, q11, q12⟩ := h2 h7
                obtain ⟨A5, c5, e5, -, -⟩ := ho5.ints.form
                have d9 := q8 (by simp [hpre])
                have HO5 := Lib.hid ho5
                have HB5 := Lib.hid hb5
                clear ho5 hb5
                go_simp
                exact HK.out _ _ ⟨upd U 9 u5, by simp [upd, d9, e5, q7], fun h => absurd h (by simp [upd, h7]), fun _ => ⟨u5, HB5.out, HO5.out, by simpa [upd] using q7, fun h => by have := q8 (by simpa [upd] using h); simpa [upd] using this, fun _ => by simp [upd], fun h => by have := q10 (by simpa [upd] using h); simpa [upd] using this, fun h => by have := q11 (by simpa [upd] using h); simpa [upd] using this, fun h => by have := q12 (by simpa [upd] using h); simpa [upd] using this⟩⟩
              · clear h1 hdn
                simp at ho; subst ho; simp [Region.binds] at hpre
                have h7 : L 7 = true := (hdn7 (by simp [hpre]))
                obtain ⟨u5, hb5, ho5, q7, q8, q9, q10, q11, q12⟩ := h2 h7
                obtain ⟨A5, c5, e5, -, -⟩ := ho5.ints.form
                have d10 := q8 (by simp [hpre])
                have HO5 := Lib.hid ho5
                have HB5 := Lib.hid hb5
                clear ho5 hb5
                go_simp
                exact HK.out _ _ ⟨upd U 10 (.bool true), by simp [upd, d10, e5, q7], fun h => absurd h (by simp [upd, h7]), fun _ => ⟨u5, HB5.out, HO5.out, by simpa [upd] using q7, fun h => by have := q8 (by simpa [upd] using h); simpa [upd] using this, fun h => by have := q9 (by simpa [upd] using h); simpa [upd] using this, fun _ => by simp [upd], fun h => by have := q11 (by simpa [upd] using h); simpa [upd] using this, fun h => by have := q12 (by simpa [upd] using h); simpa [upd] using this⟩⟩
              · clear h1 hdn
                simp at ho; subst ho; simp [Region.binds] at hpre
                have h7 : L 7 = true := (by simp [hpre])
                obtain ⟨u5, hb5, ho5, q7, q8, q9, q10, q11, q12⟩ := h2 h7
                obtain ⟨A5, c5, e5, -, -⟩ := ho5.ints.form
                have d11 := q9 (by simp [hpre])
                have HO5 := Lib.hid ho5
                have HB5 := Lib.hid hb5
                clear ho5 hb5
                go_simp
                exact HK.out _ _ ⟨upd U 11 u5, by simp [upd, d11, e5, q7, q8, hpre], fun h => absurd h (by simp [upd, h7]), fun _ => ⟨u5, HB5.out, HO5.out, by simpa [upd] using q7, fun h => by have := q8 (by simpa [upd] using h); simpa [upd] using this, fun h => by have := q9 (by simpa [upd] using h); simpa [upd] using this, fun h => by have := q10 (by simpa [upd] using h); simpa [upd] using this, fun _ => by simp [upd], fun h => by have := q12 (by simpa [upd] using h); simpa [upd] using this⟩⟩
              · clear h1 hdn
                simp at ho; subst ho; simp [Region.binds] at hpre
                have h7 : L 7 = true := (by simp [hpre])
                obtain ⟨u5, hb5, ho5, q7, q8, q9, q10, q11, q12⟩ := h2 h7
                obtain ⟨A5, c5, e5, -, -⟩ := ho5.ints.form
                have d12 := q10 (by simp [hpre])
                have HO5 := Lib.hid ho5
                have HB5 := Lib.hid hb5
                clear ho5 hb5
                go_simp
                exact HK.out _ _ ⟨upd U 12 (.bool true), by simp [upd, d12, e5, q7, q8, q9, q11, hpre], fun h => absurd h (by simp [upd, h7]), fun _ => ⟨u5, HB5.out, HO5.out, by simpa [upd] using q7, fun h => by have := q8 (by simpa [upd] using h); simpa [upd] using this, fun h => by have := q9 (by simpa [upd] using h); simpa [upd] using this, fun h => by have := q10 (by simpa [upd] using h); simpa [upd] using this, fun h => by have := q11 (by simpa [upd] using h); simpa [upd] using this, fun _ => by simp [upd]⟩⟩
          case hend =>
            rintro L a W hL ⟨U, rfl, -, h2⟩
            obtain ⟨u5, hb5, ho5, -, -, -, -, q11, q12⟩ := h2 (hL 7 (by decide))
            have e11 := q11 (hL 11 (by decide))
            have e12 := q12 (hL 12 (by decide))
            clear h2 hL q11 q12
            have hbW : Below wr.heap.size wr W := (Below.refl _ wr).drew.trans hb5
            have hbw : b < wr.heap.size := by omega
            have H8 := Lib.hid (H6.out.next hbW)
            have ck8 := (hbW.cell (p := ⟨b, off + k * 2, none⟩) hbw).trans ck
            have cu8 := (hbW.cell (p := ⟨b, off + k * 2 + 1, none⟩) hbw).trans cu'
            have d8 := H8.out.hx.of 0 _ rfl
            have HX8 := Lib.hid ((HX.out.below (hbW.mono (Nat.le_of_lt hzr))).more (Nat.le_trans (Nat.le_of_lt hzr) hbW.size))
            have HU8 := Lib.hid ho5.ints
            obtain ⟨A5, c5, e5, -, -⟩ := ho5.ints.form
            subst e5
            clear ho5 hb5 hbW H6 ck cu' d6 HX
            dsimp only
            rw [e11, e12]
            generalize hfd : fnd its key k = fd at *
            clear hfd
            cases fd
            · by_cases hkey : it.key = key
              · have hq : (it.key.toList == key.toList) = true := by rw [eq_toList]; simpa using hkey
                have HKey := Lib.hid hkey
                clear hkey
                go_wp2_with (go_at_call 20; refine (jaInts_any _ _ _ _ _ _ HU8.out HX8.out).mono ?_; rintro e w9 ⟨rfl, m9, rfl⟩; rw [show decide (it.val = it.val) = true by simp]; have H9 := Lib.hid (show GW w w1.heap.size (.slice (some ⟨b, off, none⟩) its.length cu) its (W.drewN m9) from H8.out.next (belowDraws (Below.refl _ _) m9)); have d9 := H9.out.hx.of 0 _ rfl)
                exact ⟨⟨k + 1, by omega, by simp, by rw [HFn.out]; simp [HKey.out], H9.out⟩, by simp [intOf]; omega⟩
              · have hq : (it.key.toList == key.toList) = false := by rw [eq_toList]; simpa using hkey
                have HKey := Lib.hid hkey
                clear hkey
                go_wp2_with (go_at_call 20; refine (jaInts_any _ _ _ _ _ _ HU8.out HX8.out).mono ?_; rintro e w9 ⟨rfl, m9, rfl⟩; rw [show decide (it.val = it.val) = true by simp]; have H9 := Lib.hid (show GW w w1.heap.size (.slice (some ⟨b, off, none⟩) its.length cu) its (W.drewN m9) from H8.out.next (belowDraws (Below.refl _ _) m9)); have d9 := H9.out.hx.of 0 _ rfl)
                exact ⟨⟨k + 1, by omega, by simp, by rw [HFn.out]; simp [HKey.out], H9.out⟩, by simp [intOf]; omega⟩
            · go_wp2_with (go_at_call 20; refine (jaInts_any _ _ _ _ _ _ HU8.out HX8.out).mono ?_; rintro e w9 ⟨rfl, m9, rfl⟩; rw [show decide (it.val = it.val) = true by simp]; have H9 := Lib.hid (show GW w w1.heap.size (.slice (some ⟨b, off, none⟩) its.length cu) its (W.drewN m9) from H8.out.next (belowDraws (Below.refl _ _) m9)); have d9 := H9.out.hx.of 0 _ rfl)
              exact ⟨⟨k + 1, by omega, by simp, by rw [HFn.out]; simp, H9.out⟩, by simp [intOf]; omega⟩
        · have hke : k = its.length := by omega
          subst hke
          have HFd := Lib.hid ((fnd_all its key).trans HOk.out.symm)
          generalize fnd its key its.length = fd at *
          obtain rfl : fd = ok := HFd.out
          go_wp2_with (go_at_call 16; refine (jaOk_any _).mono ?_; rintro e w7 ⟨rfl, hb7⟩; have H7 := Lib.hid (H6.out.next hb7); clear hb7)
          go_ret
          exact ⟨rfl, H7.out.low⟩

end Go.Proofs.Ytgapjkcjnlbgaaa
