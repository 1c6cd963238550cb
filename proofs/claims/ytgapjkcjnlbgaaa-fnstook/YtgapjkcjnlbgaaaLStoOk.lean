/- The walk of FnStoOk. -/
import Derived.Test.YtgapjkcjnlbgaaaLStoGet
import Derived.Test.YtgapjkcjnlbgaaaShapes
import Derived.Test.YtgapjkcjnlbgaaaTwoApp
import Derived.Deep.CutRange
import Derived.Deep.DeepCutAuto
namespace Go.Proofs.Ytgapjkcjnlbgaaa
open Go.RowKit

theorem asc_pair {its : List Item} : ascB its = true ↔ its.Pairwise fun a b => ltB a.key b.key = true := by
  constructor
  · intro h
    have hr := asc_rise h
    rw [List.pairwise_iff_getElem]
    intro i j hi hj hij
    exact rise_lt hr hij (List.getElem?_eq_getElem hi) (List.getElem?_eq_getElem hj)
  · intro h
    rw [List.pairwise_iff_getElem] at h
    refine rise_asc fun j a b hj ha hb => ?_
    obtain ⟨h1, rfl⟩ := List.getElem?_eq_some_iff.1 ha
    obtain ⟨h2, rfl⟩ := List.getElem?_eq_some_iff.1 hb
    exact h j (j + 1) h1 h2 (by omega)
/-- Without one. -/
theorem sto_less {its : List Item} {k : Nat} (h : stoB its = true) : stoB (its.take k ++ its.drop (k + 1)) = true := by
  have hs : (its.take k ++ its.drop (k + 1)).Sublist its := by
    rw [← List.eraseIdx_eq_take_drop_succ]; exact List.eraseIdx_sublist _ _
  unfold stoB at *
  simp only [Bool.and_eq_true, decide_eq_true_eq] at *
  refine ⟨Nat.le_trans hs.length_le h.1, ?_, ?_⟩
  · rw [List.all_eq_true] at *
    exact fun x hx => h.2.1 x (hs.subset hx)
  · exact asc_pair.2 (List.Pairwise.sublist hs (asc_pair.1 h.2.2))
/-- With one twice. -/
theorem sto_twice {its : List Item} {k : Nat} (hk : k < its.length) : stoB (its.take (k + 1) ++ its.drop k) = false := by
  have hl : (its.take (k + 1)).length = k + 1 := by simp; omega
  refine stoB_fall (k := k) (a := its[k]) (b := its[k]) ?_ ?_ (ltB_irrefl _)
  · rw [List.getElem?_append_left (by omega), List.getElem?_take, if_pos (by omega)]; exact List.getElem?_eq_getElem hk
  · rw [List.getElem?_append_right (by omega), hl, List.getElem?_drop, Nat.sub_self]; exact List.getElem?_eq_getElem hk

set_option maxRecDepth 100000 in
theorem drawStoOk_any (w : World) (v : Value) (n : Nat) (hv : Code8 w v n) :
    Calls Try.prog 13 #[v] w fun e w' => ∃ u its, e = .returned (.agg #[u]) ∧ its.length ≤ 41 ∧ Items w' w'.heap.size u its ∧ Below w.heap.size w w' := by
  have HV := Lib.hid (hv.below (belowOne w (.cells #[.slice none 0 0] 25)))
  have HH := Lib.hid (Held.new w #[.slice none 0 0] 25)
  clear hv
  go_enter Try.func13, Try.ntmps13
  go_wp2_with fail
  refine (l20Open_any _ _ _ HV.out).mono ?_
  rintro e w1 ⟨rfl, hr, hb1⟩
  have HH1 := Lib.hid (HH.out.below hb1 HH.out.1)
  have HB1 := Lib.hid (belowNext (belowOne _ _) hb1)
  have hsz : (w.alloc (.cells #[.slice none 0 0] 25)).heap.size = w.heap.size + 1 := by simp
  rw [hsz] at hr
  have HR := Lib.hid (show Rds w1 (w.heap.size + 1) 0 from ⟨0, by omega, by omega, hr⟩)
  have hz1 : w.heap.size + 1 < w1.heap.size := HR.out.lt
  clear hsz
  clear hr hb1 HH HV
  go_wp2_with fail
  refine (l20Sto_any _ _ _ _ HR.out (by omega) (by omega) (by omega)).mono ?_
  rintro e w2 ⟨u, its, rfl, hl, hf, hown, hd⟩
  obtain ⟨Au, nu, cu, huf⟩ := ownSlice hown
  subst huf
  have HH3 := Lib.hid (HH1.out.drew hd (by omega))
  have HB3 := Lib.hid (HB1.out.trans (hd.below (by omega) HB1.out.size))
  have HO3 := Lib.hid hown
  clear hown hd HH1 HB1 HR hf
  have r0 := HH3.out.of 0 _ rfl
  have rf := HH3.out.2.1 0
  go_wp2
  have q0 := (HH3.out.set_ (i := 0) (.slice Au nu cu)).of 0 _ rfl
  exact bodyPost_ret (v := .agg #[.slice Au nu cu]) (by simp [results, Try.results13, go_sem, q0]) rfl ⟨_, its, rfl, hl, (HO3.out.setCell (p := ⟨w.heap.size, 0, none⟩) (fun h => by have : w1.heap.size ≤ w.heap.size := h; omega) (by show w.heap.size < _; omega) _).items, HB3.out.setCell (by show _ ≤ w.heap.size; omega) _⟩

theorem stoB_nil : stoB [] = true := rfl
theorem itemInfo : ∃ i z, Try.prog.info? 37 = some i ∧ i.zero = some z ∧ i.size = 2 ∧ i.bytes = 40 ∧ z.cells.size = 2 := by
  obtain ⟨i, hi, hz, hs, hb⟩ := info_parts infoItem
  exact ⟨i, _, hi, hz, hs, hb, rfl⟩

theorem heap1 (w : World) (o : Obj) : (w.alloc o).drew.heap[w.heap.size]? = some o := Go.Deep.blk_alloc_new w o
theorem heap2a (w : World) (o1 o2 : Obj) : ((w.alloc o1).alloc o2).drew.heap[w.heap.size]? = some o1 := (Below.heap_alloc (w.alloc o1) o2 _ (by simp)).trans (Go.Deep.blk_alloc_new w o1)
theorem heap2b (w : World) (o1 o2 : Obj) : ((w.alloc o1).alloc o2).drew.heap[w.heap.size + 1]? = some o2 := by
  have h := Go.Deep.blk_alloc_new (w.alloc o1) o2
  have e : (w.alloc o1).heap.size = w.heap.size + 1 := by simp
  rw [e] at h; exact h
theorem belowAlloc {w W : World} (h : Below w.heap.size w W) (o : Obj) : Below w.heap.size w (W.alloc o) := h.alloc h.size o
theorem belowSet {w W : World} (h : Below w.heap.size w W) {p : Addr} (hp : w.heap.size ≤ p.block) (u : Value) : Below w.heap.size w (W.setCell p u) := h.setCell hp u
/-- What lies behind a region that lays a store of parts. -/
def Laid (wr : World) (ls : List Item) (u : Value) (wc : World) : Prop :=
  ∃ p A n c, u = .pointer (some ⟨p, 0, none⟩) ∧ Held wc p [.slice A n c] ∧ Items wc wc.heap.size (.slice A n c) ls ∧ Below wr.heap.size wr wc

/-- The rest of a slice, also an empty one. -/
theorem row_rest {α : Type} {A : Sh α} {w : World} {B b off c k : Nat} {xs : List α} (h : A.Row w B (.slice (some ⟨b, off, none⟩) xs.length c) xs) (hk : k ≤ xs.length) : A.Row w B (.slice (some ⟨b, off + k * A.wd, none⟩) (xs.length - k) (c - k)) (xs.drop k) := by
  by_cases hl : k < xs.length
  · exact Sh.Row.drop h hl
  · have e : k = xs.length := by omega
    obtain ⟨_, c', e1, _, h2, _⟩ := h
    injection e1 with _ _ e3
    subst e3
    rw [List.drop_eq_nil_of_le (by omega), show xs.length - k = 0 by omega]
    exact Sh.Row.zero A w B _ _ (by omega)
theorem row_rest2 {α : Type} {A : Sh α} {w : World} {B b off c k o : Nat} {xs : List α} (h : A.Row w B (.slice (some ⟨b, off, none⟩) xs.length c) xs) (hk : k ≤ xs.length) (ho : o = if c = k then off else off + k * A.wd) : A.Row w B (.slice (some ⟨b, o, none⟩) (xs.length - k) (c - k)) (xs.drop k) := by
  by_cases hl : c = k
  · obtain ⟨_, c', e1, h1, h2, _⟩ := h
    injection e1 with _ _ e3
    subst e3
    rw [List.drop_eq_nil_of_le (by omega), show xs.length - k = 0 by omega]
    exact Sh.Row.zero A w B _ _ (by omega)
  · rw [if_neg hl] at ho; subst ho; exact row_rest h hk

set_option maxRecDepth 100000 in
set_option maxHeartbeats 2000000 in
theorem lawStoOk_any (w : World) (v : Value) (n : Nat) (hv : Code8 w v n) :
    Calls Try.prog 3 #[v] w fun e w' => e = .returned (.bool true) ∧ Below w.heap.size w w' := by
  have HV := Lib.hid hv
  obtain ⟨A, c, f, rfl, h1, h2, -, -⟩ := hv
  unfold maxLen at h2
  by_cases hn : 1048576 < n
  · clear HV
    go_enter Try.func3, Try.ntmps3
    go_wp2
    go_ret
    exact ⟨rfl, Below.refl _ _⟩
  · have hn' : n ≤ 1048576 := by omega
    clear hn
    go_enter Try.func3, Try.ntmps3
    go_wp2_with fail
    refine (drawStoOk_any _ _ _ HV.out).mono ?_
    rintro e w1 ⟨u, its, rfl, hl, hit, hb1⟩
    obtain ⟨Au, cu, huf, hcm, hcl⟩ := hit.form
    subst huf
    unfold maxLen at hcm
    have H1 := Lib.hid (show GW w w1.heap.size (.slice Au its.length cu) its (w1.alloc (.cells #[.slice Au its.length cu] 25)) from ⟨Held.new w1 #[.slice Au its.length cu] 25, hit.alloc (Nat.le_refl _) _, hb1.alloc hb1.size _⟩)
    clear hit hb1 HV
    go_wp2_with fail
    refine (implStoOk_any _ _ its H1.out.all).mono ?_
    rintro e w2 ⟨rfl, hb⟩
    have H2 := Lib.hid (H1.out.next hb)
    have d2 := H2.out.hx.of 0 _ rfl
    clear hb H1
    go_wp2_with fail
    refine (specStoOk_any _ _ its H2.out.all).mono ?_
    rintro e w3 ⟨rfl, hb⟩
    have H3 := Lib.hid (H2.out.next hb)
    have d3 := H3.out.hx.of 0 _ rfl
    clear hb H2 d2
    have hnn : (stoB its != stoB its) = false := by simp
    go_wp2_with fail
    refine (implStoOk_any _ _ [] ⟨none, 0, rfl, Nat.le_refl _, Nat.zero_le _, fun h => absurd h (by simp)⟩).mono ?_
    rintro e w4 ⟨rfl, hb⟩
    rw [stoB_nil]
    have H4 := Lib.hid (H3.out.next hb)
    have d4 := H4.out.hx.of 0 _ rfl
    clear hb H3 d3 hnn
    rcases hsb : stoB its
    · go_wp2_with (go_at_call 16; refine (jaOk_any _).mono ?_; rintro e w6 ⟨rfl, hb6⟩; have H6 := Lib.hid (H4.out.next hb6); clear hb6)
      go_ret
      exact ⟨rfl, H6.out.low⟩
    · have HSb := Lib.hid hsb
      have h40 := (stoB_parts hsb).1
      clear hsb
      obtain ⟨inf, zz, hi, hz, hs, hby, hzs⟩ := itemInfo
      have HIn := Lib.hid (And.intro hi (And.intro hz (And.intro hs (And.intro hby hzs))))
      clear hi hz hs hby hzs
      go_wp2
      go_loopw [5] (fun i wr => ∃ k : Nat, k ≤ its.length ∧ i = .int .i64 k ∧ GW w w1.heap.size (.slice Au its.length cu) its wr) (fun i _ => its.length - (intOf i).toNat)
      case atStart => exact ⟨0, Nat.zero_le _, rfl, H4.out⟩
      case round =>
        clear H4 d4
        obtain ⟨k, hk, rfl, hgw⟩ := hrel
        have H6 := Lib.hid hgw
        have d6 := hgw.hx.of 0 _ rfl
        have hzr : w1.heap.size < wr.heap.size := hgw.hx.1
        clear hgw
        by_cases hlt : k < its.length
        · obtain ⟨b, off, cc, it, ux, e1, -, hbB, -, -, -, -⟩ := H6.out.its.at_ (k := k) hlt
          injection e1 with e1a e1b e1c
          subst e1a
          clear e1b e1c
          have HS := Lib.hid fun (y : World) (hy : Below wr.heap.size wr y) => And.intro hy ((hy.cell (p := ⟨w1.heap.size, 0, none⟩) hzr).trans d6)
          have HRow := Lib.hid fun (y : World) (hy : Below wr.heap.size wr y) => items_row.2 ((H6.out.all).below hy)
          have f0 : (0 : Int) ≤ (k : Int) := by omega
          have f1 : (k : Int) ≤ (cu : Int) := by omega
          have f2 : (k : Int) + 1 ≤ (its.length : Int) := by omega
          have f3 : (its.length : Int) ≤ (cu : Int) := by omega
          have f4 : IntKind.i64.wrap ((k : Int) + 1) = (k : Int) + 1 := IntWalk.i64_in _ (by omega)
          have f5 : ((k : Int) + 1).toNat = k + 1 := by omega
          have f6 : (0 : Int) ≤ (k : Int) + 1 := by omega
          obtain ⟨off2, ho2⟩ : ∃ o, o = if cu = k + 1 then off else off + (k + 1) * 2 := ⟨_, rfl⟩
          have HDr := Lib.hid fun (y : World) (hy : Below wr.heap.size wr y) => show itSh.Row y wr.heap.size (.slice (some ⟨b, off2, none⟩) (its.length - (k + 1)) (cu - (k + 1))) (its.drop (k + 1)) from row_rest2 (HRow.out y hy) (by omega) ho2
          go_upto_region 12 with fail
          go_cut [6] (fun u wc => Laid wr (its.take k ++ its.drop (k + 1)) u wc)
          case first =>
            refine wp_region_inv2 (by kernel_rfl) (twoInv itSh 37 (fun U => #[.slice A n c, undef, u2, .pointer (some ⟨w1.heap.size, 0, none⟩), .bool true, .int .i64 k, U 13, u7, .slice A n c, .int .i64 n, .bool (decide (1048576 < (n : Int))), .slice A n c, .agg #[.slice (some ⟨b, off, none⟩) its.length cu], .agg #[.slice (some ⟨b, off, none⟩) its.length cu], .bool true, .bool true, .agg #[.slice (some ⟨b, off, none⟩) its.length cu], .bool true, .bool false, .bool false, .agg #[.slice none 0 0], .bool true, .bool false, .bool false, .bool true, .bool false, undef, .int .i64 k, .pointer (some ⟨w1.heap.size, 0, none⟩), .slice (some ⟨b, off, none⟩) its.length cu, .int .i64 its.length, .bool true, u32, u33, U 0, U 1, U 2, U 3, U 4, U 5, U 6, U 7, U 8, U 9, U 10, U 11, U 12, u47, u48, u49, u50, u51, u52, u53, u54, u55, u56, u57, u58, u59, u60, u61, u62, u63, u64, u65, u66]) wr (its.take k) (its.drop (k + 1)) 5 (fun j => match j with | 1 => some (.pointer (some ⟨w1.heap.size, 0, none⟩)) | 2 => some (.slice (some ⟨b, off, none⟩) its.length cu) | 3 => some (.int .i64 k) | 4 => some (.slice (some ⟨b, off, none⟩) k cu) | 6 => some (.pointer (some ⟨w1.heap.size, 0, none⟩)) | 7 => some (.slice (some ⟨b, off, none⟩) its.length cu) | 8 => some (.int .i64 k) | 9 => some (.int .i64 ((k : Int) + 1)) | 10 => some (.slice (some ⟨b, off2, none⟩) (its.length - (k + 1)) (cu - (k + 1))) | _ => none)) (fun i o ho e he => (backB_at (by kernel_rfl) i o ho e he).1) (fun i o ho e he => (backB_at (by kernel_rfl) i o ho e he).2) ?h0A ?hstepA ?hendA
            case h0A =>
              exact ⟨fun j => #[u34, u35, u36, u37, u38, u39, u40, u41, u42, u43, u44, u45, u46, u6].getD j undef, rfl, (Below.refl _ _).drew, fun _ _ _ h => absurd h (by simp), fun h => absurd h (by simp), fun h => absurd h (by simp), fun h => absurd h (by simp), fun h => absurd h (by simp), fun h => absurd h (by simp)⟩
            case hstepA =>
              rintro L a W i o ho hLi hpre hdn ⟨U, rfl, hI⟩ K hK
              have hi : i < 15 := (Array.getElem?_eq_some_iff.1 ho).1
              have hd14 : i < 14 → L 14 = false := fun hj => hdn.notYet 1 14 14 (by kernel_rfl) hj hLi
              have n11 : L 5 = false → L 11 = false := fun h => by cases h1 : L 11 with | false => rfl | true => (have := hdn.reach 1 11 5 (by kernel_rfl) h1; rw [h] at this; cases this)
              have np : L 0 = false → L 5 = false := fun h => by cases h1 : L 5 with | false => rfl | true => (have := hdn.reach 1 5 0 (by kernel_rfl) h1; rw [h] at this; cases this)
              have n12 : L 11 = false → L 12 = false := fun h => by cases h1 : L 12 with | false => rfl | true => (have := hdn.reach 1 12 11 (by kernel_rfl) h1; rw [h] at this; cases this)
              clear hdn
              have HK := Lib.hid hK
              have HI := Lib.hid hI
              have cb := (HS.out W hI.low).2
              have hzW := hI.low.size
              clear hK hI
              rcases (by omega : i = 0 ∨ i = 1 ∨ i = 2 ∨ i = 3 ∨ i = 4 ∨ i = 5 ∨ i = 6 ∨ i = 7 ∨ i = 8 ∨ i = 9 ∨ i = 10 ∨ i = 11 ∨ i = 12 ∨ i = 13 ∨ i = 14) with rfl | rfl | rfl | rfl | rfl | rfl | rfl | rfl | rfl | rfl | rfl | rfl | rfl | rfl | rfl
              all_goals (simp at ho; subst ho; simp at hpre)
              · go_simp
                exact HK.out _ _ ⟨upd U 0 (.slice (some ⟨W.heap.size, 0, none⟩) 0 0), by simp [upd], HI.out.litStep (by decide) rfl (np hLi) (n11 (np hLi)) (hd14 (by decide))⟩
              · go_simp
                exact HK.out _ _ ⟨upd U 1 (.pointer (some ⟨w1.heap.size, 0, none⟩)), by simp [upd], HI.out.pureStep rfl (by decide) (by decide) (by decide) (by decide) (by decide) (by decide)⟩
              · have e0 : U 1 = .pointer (some ⟨w1.heap.size, 0, none⟩) := HI.out.pure 1 _ rfl (by simp [hpre])
                go_simp
                exact HK.out _ _ ⟨upd U 2 (.slice (some ⟨b, off, none⟩) its.length cu), by simp [upd, e0], HI.out.pureStep rfl (by decide) (by decide) (by decide) (by decide) (by decide) (by decide)⟩
              · go_simp
                exact HK.out _ _ ⟨upd U 3 (.int .i64 k), by simp [upd], HI.out.pureStep rfl (by decide) (by decide) (by decide) (by decide) (by decide) (by decide)⟩
              · have e0 : U 2 = .slice (some ⟨b, off, none⟩) its.length cu := HI.out.pure 2 _ rfl (by simp [hpre])
                have e1 : U 3 = .int .i64 k := HI.out.pure 3 _ rfl (by simp [hpre])
                go_simp
                exact HK.out _ _ ⟨upd U 4 (.slice (some ⟨b, off, none⟩) k cu), by simp [upd, e0, e1], HI.out.pureStep rfl (by decide) (by decide) (by decide) (by decide) (by decide) (by decide)⟩
              · have e1 : U 4 = .slice (some ⟨b, off, none⟩) k cu := HI.out.pure 4 _ rfl (by simp [hpre])
                have l0 : L 0 = true := by simp [hpre]
                refine Sh.shal_step (A := itSh) (B := wr.heap.size) (xs := []) (ys := its.take k) rfl (.tmp 34) (.tmp 38) inf zz 40 Try.underlying23 HIn.out.1 HIn.out.2.1 HIn.out.2.2.1 HIn.out.2.2.2.1 HIn.out.2.2.2.2 (by decide) rfl (by rfl) (HI.out.nil l0 hLi) hzW (some ⟨b, off, none⟩) k cu (by simp [Act.eval, e1]) (by simp; omega) (Sh.Row.take (HRow.out W HI.out.low) rfl (by omega)) (by simp; omega) (by decide) fun v1 W1 hs1 hb1 ho1 hg1 => ?_
                exact HK.out _ _ ⟨upd U 5 v1, by simp [upd, Act.put], HI.out.oneStep (by decide) (by decide) (by decide) (by decide) (by decide) rfl l0 hLi (n11 hLi) (hd14 (by decide)) hs1 hb1 ho1 hg1⟩
              · go_simp
                exact HK.out _ _ ⟨upd U 6 (.pointer (some ⟨w1.heap.size, 0, none⟩)), by simp [upd], HI.out.pureStep rfl (by decide) (by decide) (by decide) (by decide) (by decide) (by decide)⟩
              · have e0 : U 6 = .pointer (some ⟨w1.heap.size, 0, none⟩) := HI.out.pure 6 _ rfl (by simp [hpre])
                go_simp
                exact HK.out _ _ ⟨upd U 7 (.slice (some ⟨b, off, none⟩) its.length cu), by simp [upd, e0], HI.out.pureStep rfl (by decide) (by decide) (by decide) (by decide) (by decide) (by decide)⟩
              · go_simp
                exact HK.out _ _ ⟨upd U 8 (.int .i64 k), by simp [upd], HI.out.pureStep rfl (by decide) (by decide) (by decide) (by decide) (by decide) (by decide)⟩
              · have e0 : U 8 = .int .i64 k := HI.out.pure 8 _ rfl (by simp [hpre])
                go_simp
                exact HK.out _ _ ⟨upd U 9 (.int .i64 ((k : Int) + 1)), by simp [upd, e0], HI.out.pureStep rfl (by decide) (by decide) (by decide) (by decide) (by decide) (by decide)⟩
              · have e0 : U 7 = .slice (some ⟨b, off, none⟩) its.length cu := HI.out.pure 7 _ rfl (by simp [hpre])
                have e1 : U 9 = .int .i64 ((k : Int) + 1) := HI.out.pure 9 _ rfl (by simp [hpre])
                by_cases hcu : cu = k + 1 <;> simp only [hcu, if_true, if_false] at ho2 <;> subst ho2
                all_goals go_simp
                all_goals exact HK.out _ _ ⟨upd U 10 (.slice (some ⟨b, _, none⟩) (its.length - (k + 1)) (cu - (k + 1))), by simp [upd, e0, e1, hcu], HI.out.pureStep rfl (by decide) (by decide) (by decide) (by decide) (by decide) (by decide)⟩
              · have e1 : U 10 = .slice (some ⟨b, off2, none⟩) (its.length - (k + 1)) (cu - (k + 1)) := HI.out.pure 10 _ rfl (by simp [hpre])
                have lp : L 5 = true := by simp [hpre]
                refine Sh.shal_step (A := itSh) (B := wr.heap.size) (xs := its.take k) (ys := its.drop (k + 1)) rfl (.tmp 39) (.tmp 44) inf zz 40 Try.underlying23 HIn.out.1 HIn.out.2.1 HIn.out.2.2.1 HIn.out.2.2.2.1 HIn.out.2.2.2.2 (by decide) rfl (by rfl) (HI.out.one lp hLi) hzW _ _ _ (by simp [Act.eval, e1]; done) (by simp) (HDr.out W HI.out.low) (by simp; omega) (by decide) fun v1 W1 hs1 hb1 ho1 hg1 => ?_
                exact HK.out _ _ ⟨upd U 11 v1, by simp [upd, Act.put], HI.out.twoStep (by decide) rfl lp hLi (n12 hLi) (hd14 (by decide)) hs1 hb1 ho1 hg1⟩
              · have l11 : L 11 = true := by simp [hpre]
                obtain ⟨A9, n9, c9, e9⟩ : ∃ A n c, U 11 = .slice A n c := by rcases (HI.out.two l11).form with ⟨e2, _⟩ | ⟨g, cap, e2, _⟩ <;> exact ⟨_, _, _, e2⟩
                go_simp
                exact HK.out _ _ ⟨upd U 12 (.agg #[U 11]), by simp [upd, e9], HI.out.aggStep (by decide) rfl⟩
              · go_simp
                exact HK.out _ _ ⟨upd U 13 (.pointer (some ⟨W.heap.size, 0, none⟩)), by simp [upd], HI.out.boxStep _ (by decide) rfl (hd14 (by decide))⟩
              · have lp : L 5 = true := by simp [hpre]
                have l11 : L 11 = true := by simp [hpre]
                have l12 : L 12 = true := by simp [hpre]
                have l13 : L 13 = true := by simp [hpre]
                obtain ⟨q, e0, hq, e12, A9, n9, c9, e9⟩ := HI.out.storeAt l11 l12 l13 hLi
                rw [e9] at e12
                have cq := hq.of 0 _ rfl
                have fq := hq.2.1 0
                clear hq
                go_simp
                rw [← e9]
                exact HK.out _ _ ⟨U, by simp [e0, e12, e9], HI.out.storeStep (by decide) rfl lp l11 l13 hLi e0⟩
            case hendA =>
              rintro L a W hL ⟨U, rfl, hI⟩
              obtain ⟨q, A9, n9, c9, e13, e11, hq, hr, hlow⟩ := hI.behind (hL 11 (by decide)) (hL 13 (by decide)) (hL 14 (by decide))
              have HF : Hid (Laid wr (its.take k ++ its.drop (k + 1)) (U 13) W) := ⟨q, A9, n9, c9, e13, hq, items_row.1 hr, hlow⟩
              clear hI hq hr hlow
              dsimp only
              go_wp2
              go_meet
              case rel => exact HF.out
          case rest =>
            obtain ⟨wB, rfl⟩ : ∃ y, y = wc := ⟨_, rfl⟩
            obtain ⟨p6, A6, n6, c6, rfl, hH6, hI6, hb6⟩ := hcut
            have H7 := Lib.hid (H6.out.next hb6)
            have HL6 := Lib.hid (And.intro hH6 hI6)
            have d7 := H7.out.hx.of 0 _ rfl
            have hz7 : w1.heap.size < wB.heap.size := H7.out.hx.1
            clear hH6 hI6 hb6 H6 d6 HS HRow HDr ho2
            have HS := Lib.hid fun (y : World) (hy : Below wB.heap.size wB y) => And.intro hy ((hy.cell (p := ⟨w1.heap.size, 0, none⟩) hz7).trans d7)
            have HRow := Lib.hid fun (y : World) (hy : Below wB.heap.size wB y) => items_row.2 ((H7.out.all).below hy)
            have HDr := Lib.hid fun (y : World) (hy : Below wB.heap.size wB y) => show itSh.Row y wB.heap.size (.slice (some ⟨b, off + k * 2, none⟩) (its.length - k) (cu - k)) (its.drop k) from row_rest (HRow.out y hy) (by omega)
            have f7 : ¬ cu = k := by omega
            have f8 : (k : Int) + 1 ≤ (cu : Int) := by omega
            go_upto_region 13 with fail
            go_cut [7] (fun u wd => Laid wB (its.take (k + 1) ++ its.drop k) u wd)
            case first =>
              refine wp_region_inv2 (by kernel_rfl) (twoInv itSh 37 (fun U => #[.slice A n c, undef, u2, .pointer (some ⟨w1.heap.size, 0, none⟩), .bool true, .int .i64 k, .pointer (some ⟨p6, 0, none⟩), U 13, .slice A n c, .int .i64 n, .bool (decide (1048576 < (n : Int))), .slice A n c, .agg #[.slice (some ⟨b, off, none⟩) its.length cu], .agg #[.slice (some ⟨b, off, none⟩) its.length cu], .bool true, .bool true, .agg #[.slice (some ⟨b, off, none⟩) its.length cu], .bool true, .bool false, .bool false, .agg #[.slice none 0 0], .bool true, .bool false, .bool false, .bool true, .bool false, undef, u27, u28, u29, u30, u31, u32, u33, u34, u35, u36, u37, u38, u39, u40, u41, u42, u43, u44, u45, u46, U 0, U 1, U 2, U 3, U 4, U 5, U 6, U 7, U 8, U 9, U 10, U 11, U 12, u60, u61, u62, u63, u64, u65, u66]) wB (its.take (k + 1)) (its.drop k) 6 (fun j => match j with | 1 => some (.pointer (some ⟨w1.heap.size, 0, none⟩)) | 2 => some (.slice (some ⟨b, off, none⟩) its.length cu) | 3 => some (.int .i64 k) | 4 => some (.int .i64 ((k : Int) + 1)) | 5 => some (.slice (some ⟨b, off, none⟩) (k + 1) cu) | 7 => some (.pointer (some ⟨w1.heap.size, 0, none⟩)) | 8 => some (.slice (some ⟨b, off, none⟩) its.length cu) | 9 => some (.int .i64 k) | 10 => some (.slice (some ⟨b, off + k * 2, none⟩) (its.length - k) (cu - k)) | _ => none)) (fun i o ho e he => (backB_at (by kernel_rfl) i o ho e he).1) (fun i o ho e he => (backB_at (by kernel_rfl) i o ho e he).2) ?h0B ?hstepB ?hendB
              case h0B =>
                exact ⟨fun j => #[u47, u48, u49, u50, u51, u52, u53, u54, u55, u56, u57, u58, u59, u7].getD j undef, rfl, (Below.refl _ _).drew, fun _ _ _ h => absurd h (by simp), fun h => absurd h (by simp), fun h => absurd h (by simp), fun h => absurd h (by simp), fun h => absurd h (by simp), fun h => absurd h (by simp)⟩
              case hstepB =>
                rintro L a W i o ho hLi hpre hdn ⟨U, rfl, hI⟩ K hK
                have hi : i < 15 := (Array.getElem?_eq_some_iff.1 ho).1
                have hd14 : i < 14 → L 14 = false := fun hj => hdn.notYet 1 14 14 (by kernel_rfl) hj hLi
                have n11 : L 6 = false → L 11 = false := fun h => by cases h1 : L 11 with | false => rfl | true => (have := hdn.reach 1 11 6 (by kernel_rfl) h1; rw [h] at this; cases this)
                have np : L 0 = false → L 6 = false := fun h => by cases h1 : L 6 with | false => rfl | true => (have := hdn.reach 1 6 0 (by kernel_rfl) h1; rw [h] at this; cases this)
                have n12 : L 11 = false → L 12 = false := fun h => by cases h1 : L 12 with | false => rfl | true => (have := hdn.reach 1 12 11 (by kernel_rfl) h1; rw [h] at this; cases this)
                clear hdn
                have HK := Lib.hid hK
                have HI := Lib.hid hI
                have cb := (HS.out W hI.low).2
                have hzW := hI.low.size
                clear hK hI
                rcases (by omega : i = 0 ∨ i = 1 ∨ i = 2 ∨ i = 3 ∨ i = 4 ∨ i = 5 ∨ i = 6 ∨ i = 7 ∨ i = 8 ∨ i = 9 ∨ i = 10 ∨ i = 11 ∨ i = 12 ∨ i = 13 ∨ i = 14) with rfl | rfl | rfl | rfl | rfl | rfl | rfl | rfl | rfl | rfl | rfl | rfl | rfl | rfl | rfl
                all_goals (simp at ho; subst ho; simp at hpre)
                · go_simp
                  exact HK.out _ _ ⟨upd U 0 (.slice (some ⟨W.heap.size, 0, none⟩) 0 0), by simp [upd], HI.out.litStep (by decide) rfl (np hLi) (n11 (np hLi)) (hd14 (by decide))⟩
                · go_simp
                  exact HK.out _ _ ⟨upd U 1 (.pointer (some ⟨w1.heap.size, 0, none⟩)), by simp [upd], HI.out.pureStep rfl (by decide) (by decide) (by decide) (by decide) (by decide) (by decide)⟩
                · have e0 : U 1 = .pointer (some ⟨w1.heap.size, 0, none⟩) := HI.out.pure 1 _ rfl (by simp [hpre])
                  go_simp
                  exact HK.out _ _ ⟨upd U 2 (.slice (some ⟨b, off, none⟩) its.length cu), by simp [upd, e0], HI.out.pureStep rfl (by decide) (by decide) (by decide) (by decide) (by decide) (by decide)⟩
                · go_simp
                  exact HK.out _ _ ⟨upd U 3 (.int .i64 k), by simp [upd], HI.out.pureStep rfl (by decide) (by decide) (by decide) (by decide) (by decide) (by decide)⟩
                · have e0 : U 3 = .int .i64 k := HI.out.pure 3 _ rfl (by simp [hpre])
                  go_simp
                  exact HK.out _ _ ⟨upd U 4 (.int .i64 ((k : Int) + 1)), by simp [upd, e0], HI.out.pureStep rfl (by decide) (by decide) (by decide) (by decide) (by decide) (by decide)⟩
                · have e0 : U 2 = .slice (some ⟨b, off, none⟩) its.length cu := HI.out.pure 2 _ rfl (by simp [hpre])
                  have e1 : U 4 = .int .i64 ((k : Int) + 1) := HI.out.pure 4 _ rfl (by simp [hpre])
                  go_simp
                  exact HK.out _ _ ⟨upd U 5 (.slice (some ⟨b, off, none⟩) (k + 1) cu), by simp [upd, e0, e1], HI.out.pureStep rfl (by decide) (by decide) (by decide) (by decide) (by decide) (by decide)⟩
                · have e1 : U 5 = .slice (some ⟨b, off, none⟩) (k + 1) cu := HI.out.pure 5 _ rfl (by simp [hpre])
                  have l0 : L 0 = true := by simp [hpre]
                  refine Sh.shal_step (A := itSh) (B := wB.heap.size) (xs := []) (ys := its.take (k + 1)) rfl (.tmp 47) (.tmp 52) inf zz 40 Try.underlying23 HIn.out.1 HIn.out.2.1 HIn.out.2.2.1 HIn.out.2.2.2.1 HIn.out.2.2.2.2 (by decide) rfl (by rfl) (HI.out.nil l0 hLi) hzW (some ⟨b, off, none⟩) (k + 1) cu (by simp [Act.eval, e1]) (by simp; omega) (Sh.Row.take (HRow.out W HI.out.low) rfl (by omega)) (by simp; omega) (by decide) fun v1 W1 hs1 hb1 ho1 hg1 => ?_
                  exact HK.out _ _ ⟨upd U 6 v1, by simp [upd, Act.put], HI.out.oneStep (by decide) (by decide) (by decide) (by decide) (by decide) rfl l0 hLi (n11 hLi) (hd14 (by decide)) hs1 hb1 ho1 hg1⟩
                · go_simp
                  exact HK.out _ _ ⟨upd U 7 (.pointer (some ⟨w1.heap.size, 0, none⟩)), by simp [upd], HI.out.pureStep rfl (by decide) (by decide) (by decide) (by decide) (by decide) (by decide)⟩
                · have e0 : U 7 = .pointer (some ⟨w1.heap.size, 0, none⟩) := HI.out.pure 7 _ rfl (by simp [hpre])
                  go_simp
                  exact HK.out _ _ ⟨upd U 8 (.slice (some ⟨b, off, none⟩) its.length cu), by simp [upd, e0], HI.out.pureStep rfl (by decide) (by decide) (by decide) (by decide) (by decide) (by decide)⟩
                · go_simp
                  exact HK.out _ _ ⟨upd U 9 (.int .i64 k), by simp [upd], HI.out.pureStep rfl (by decide) (by decide) (by decide) (by decide) (by decide) (by decide)⟩
                · have e0 : U 8 = .slice (some ⟨b, off, none⟩) its.length cu := HI.out.pure 8 _ rfl (by simp [hpre])
                  have e1 : U 9 = .int .i64 k := HI.out.pure 9 _ rfl (by simp [hpre])
                  go_simp
                  exact HK.out _ _ ⟨upd U 10 (.slice (some ⟨b, off + k * 2, none⟩) (its.length - k) (cu - k)), by simp [upd, e0, e1], HI.out.pureStep rfl (by decide) (by decide) (by decide) (by decide) (by decide) (by decide)⟩
                · have e1 : U 10 = .slice (some ⟨b, off + k * 2, none⟩) (its.length - k) (cu - k) := HI.out.pure 10 _ rfl (by simp [hpre])
                  have lp : L 6 = true := by simp [hpre]
                  refine Sh.shal_step (A := itSh) (B := wB.heap.size) (xs := its.take (k + 1)) (ys := its.drop k) rfl (.tmp 53) (.tmp 57) inf zz 40 Try.underlying23 HIn.out.1 HIn.out.2.1 HIn.out.2.2.1 HIn.out.2.2.2.1 HIn.out.2.2.2.2 (by decide) rfl (by rfl) (HI.out.one lp hLi) hzW _ _ _ (by simp [Act.eval, e1]; done) (by simp) (HDr.out W HI.out.low) (by simp; omega) (by decide) fun v1 W1 hs1 hb1 ho1 hg1 => ?_
                  exact HK.out _ _ ⟨upd U 11 v1, by simp [upd, Act.put], HI.out.twoStep (by decide) rfl lp hLi (n12 hLi) (hd14 (by decide)) hs1 hb1 ho1 hg1⟩
                · have l11 : L 11 = true := by simp [hpre]
                  obtain ⟨A9, n9, c9, e9⟩ : ∃ A n c, U 11 = .slice A n c := by rcases (HI.out.two l11).form with ⟨e2, _⟩ | ⟨g, cap, e2, _⟩ <;> exact ⟨_, _, _, e2⟩
                  go_simp
                  exact HK.out _ _ ⟨upd U 12 (.agg #[U 11]), by simp [upd, e9], HI.out.aggStep (by decide) rfl⟩
                · go_simp
                  exact HK.out _ _ ⟨upd U 13 (.pointer (some ⟨W.heap.size, 0, none⟩)), by simp [upd], HI.out.boxStep _ (by decide) rfl (hd14 (by decide))⟩
                · have lp : L 6 = true := by simp [hpre]
                  have l11 : L 11 = true := by simp [hpre]
                  have l12 : L 12 = true := by simp [hpre]
                  have l13 : L 13 = true := by simp [hpre]
                  obtain ⟨q, e0, hq, e12, A9, n9, c9, e9⟩ := HI.out.storeAt l11 l12 l13 hLi
                  rw [e9] at e12
                  have cq := hq.of 0 _ rfl
                  have fq := hq.2.1 0
                  clear hq
                  go_simp
                  rw [← e9]
                  exact HK.out _ _ ⟨U, by simp [e0, e12, e9], HI.out.storeStep (by decide) rfl lp l11 l13 hLi e0⟩
              case hendB =>
                rintro L a W hL ⟨U, rfl, hI⟩
                obtain ⟨q, A9, n9, c9, e13, e11, hq, hr, hlow⟩ := hI.behind (hL 11 (by decide)) (hL 13 (by decide)) (hL 14 (by decide))
                have HF : Hid (Laid wB (its.take (k + 1) ++ its.drop k) (U 13) W) := ⟨q, A9, n9, c9, e13, hq, items_row.1 hr, hlow⟩
                clear hI hq hr hlow
                dsimp only
                go_wp2
                go_meet
                case rel => exact HF.out
            case rest =>
              obtain ⟨p7, A7, n7, c7, rfl, hH7, hI7, hb7⟩ := hcut
              have H8 := Lib.hid (H7.out.next hb7)
              have hH6 := HL6.out.1.below hb7 HL6.out.1.1
              have HI6 := Lib.hid ((HL6.out.2.below hb7).more hb7.size)
              have d60 := hH6.of 0 _ rfl
              have HL7 := Lib.hid (And.intro hH7 hI7)
              clear hH7 hI7 hb7 hH6 HL6 H7 d7 HS HRow HDr
              go_wp2_with fail
              refine (implStoOk_any _ _ (its.take k ++ its.drop (k + 1)) HI6.out).mono ?_
              rintro e w8 ⟨rfl, hb8⟩
              rw [sto_less HSb.out]
              have H9 := Lib.hid (H8.out.next hb8)
              have hH7 := HL7.out.1.below hb8 HL7.out.1.1
              have HI7 := Lib.hid ((HL7.out.2.below hb8).more hb8.size)
              have d70 := hH7.of 0 _ rfl
              clear hH7 hb8 HL7 HI6 d60 H8
              go_wp2_with fail
              refine (implStoOk_any _ _ (its.take (k + 1) ++ its.drop k) HI7.out).mono ?_
              rintro e w9 ⟨rfl, hb9⟩
              rw [sto_twice hlt]
              have H10 := Lib.hid (H9.out.next hb9)
              clear hb9 HI7 d70 H9
              go_wp2
              exact ⟨⟨k + 1, by omega, by simp, H10.out⟩, by simp [intOf]; omega⟩
        · go_wp2
          go_ret
          exact ⟨rfl, H6.out.low⟩

end Go.Proofs.Ytgapjkcjnlbgaaa
