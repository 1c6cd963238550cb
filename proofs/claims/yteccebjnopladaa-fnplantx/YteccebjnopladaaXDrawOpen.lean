/- Texts that follow each other, merged: DrawOpen, DrawDo, DrawPlcOk, LPlcOk, RegInv3. -/
import Derived.Test.YteccebjnopladaaXIntsOne
import Derived.Test.YteccebjnopladaaXPlain
import Derived.Test.YteccebjnopladaaXDrawSto
import Derived.Test.YteccebjnopladaaXWrite
import Derived.Test.YteccebjnopladaaXDrawOp0
import Derived.Deep.CutRange
import Derived.Deep.DeepCutAuto
import Derived.Test.YteccebjnopladaaXPlanLaw
import Derived.Test.YteccebjnopladaaXCmp

/- A reader is opened over a code. -/
namespace Go.Proofs.Yteccebjnopladaa
open Go.RowKit

/-- What a draw out of a code leaves of a write. -/
def DrawnWrite (w : World) (e : Ending) (w' : World) : Prop :=
  ∃ s d v xs, e = .returned (.agg #[.string s, .bool d, v]) ∧ s.size ≤ 1000002 ∧ xs.length ≤ 4 ∧ Ints w' w'.heap.size v xs ∧ Below w.heap.size w w'

end Go.Proofs.Yteccebjnopladaa

/- A store and writes, drawn out of a code. -/
namespace Go.Proofs.Yteccebjnopladaa
open Go.RowKit

theorem oneLit (w : World) (lo : Nat) (h : lo ≤ w.heap.size) : OwnInts (w.alloc (.cells #[.int .i64 1] 3)) lo (.slice (some ⟨w.heap.size, 0, none⟩) 1 1) [1] :=
  World.ownsRow_lit w #[.int .i64 1] 1 h (by unfold maxLen; omega) rfl

/-- What is drawn: some store, some writes. -/
def DrewDo (w : World) (e : Ending) (w' : World) : Prop :=
  ∃ u its l ws, e = .returned (.tuple #[.agg #[u], l]) ∧ its.length ≤ 41 ∧ ws.length ≤ 60 ∧ Items w' w'.heap.size u its ∧ Wrts w' w'.heap.size l ws ∧ Below w.heap.size w w'

end Go.Proofs.Yteccebjnopladaa

/- A place, and what it keeps, are drawn. -/
namespace Go.Proofs.Yteccebjnopladaa
open Go.RowKit

/-- What is drawn. -/
def DrewPO (w : World) (e : Ending) (w' : World) : Prop :=
  ∃ (p : Int) (u : Value) (its : List Item), e = .returned (.tuple #[.int .i64 p, .agg #[u]]) ∧ 0 ≤ p ∧ p < 5 ∧ (its.length ≤ 13 ∨ its.length = 41) ∧ Items w' w'.heap.size u its ∧ Below w.heap.size w w'
theorem DrewPO.drew {w W : World} {e : Ending} (h : DrewPO w e W) : DrewPO w e W.drew := by
  obtain ⟨p, u, its, h1, h2, h3, h4, h5, h6⟩ := h
  exact ⟨p, u, its, h1, h2, h3, h4, show Items W.drew W.heap.size u its from h5.keep fun _ _ _ => rfl, h6.drew⟩

set_option maxRecDepth 100000 in
set_option maxHeartbeats 4000000 in
theorem drawPlcOk_any (w : World) (v : Value) (n : Nat) (hv : Code8 w v n) : Calls Try.prog 9 #[v] w (DrewPO w) := by
  have HV := Lib.hid (hv.below (belowOne w (.cells #[.slice none 0 0] 25)))
  have HH := Lib.hid (Held.new w #[.slice none 0 0] 25)
  clear hv
  go_enter Try.func9, Try.ntmps9
  go_wp2_with fail
  refine (l20Open_any _ _ _ HV.out).mono ?_
  rintro e w1 ⟨rfl, hr, hb1⟩
  have HH1 := Lib.hid (HH.out.below hb1 HH.out.1)
  have HB1 := Lib.hid (belowNext (belowOne _ _) hb1)
  rw [allocSize] at hr
  have HR := Lib.hid (show Rds w1 (w.heap.size + 1) 0 from ⟨0, by omega, by omega, hr⟩)
  have hz1 : w.heap.size + 1 < w1.heap.size := HR.out.lt
  clear hr hb1 HH HV
  go_wp2_with fail
  refine (pick_rds _ _ _ _ HR.out (by omega) (by omega)).mono ?_
  rintro e w2 ⟨m, rfl, m0, m1, hd⟩
  have m2 : m < 3 := m1 (by omega)
  obtain ⟨i, rfl⟩ := Int.eq_ofNat_of_zero_le m0
  have HH2 := Lib.hid (HH1.out.drew hd (by omega))
  have HB2 := Lib.hid (HB1.out.trans (hd.below (by omega) HB1.out.size))
  have HR2 := Lib.hid hd.1
  have hz2 : w1.heap.size ≤ w2.heap.size := hd.2.size
  have hwp : IntKind.i64.wrap (1 + (i : Int)) = 1 + (i : Int) := IntWalk.i64_in _ (by omega)
  clear hd m1 HH1 HB1 HR
  go_wp2_with fail
  refine (l20Glo_any _ _ _ HR2.out (by omega) (by omega)).mono ?_
  rintro e w3 ⟨ul, xs, rfl, hN, hL, hd⟩
  have HH3 := Lib.hid (HH2.out.drew hd (by omega))
  have HB3 := Lib.hid (HB2.out.trans (hd.below (by omega) HB2.out.size))
  have HR3 := Lib.hid hd.1
  have hz3 : w2.heap.size ≤ w3.heap.size := hd.2.size
  have hxl : xs.length = 3 := gloB_three hN.1
  have hix : i < xs.length := by omega
  obtain ⟨g, cap, z, cz, Sj, e2, hz, hSg, hgw, hoz, hSj, hcz, hfr, -, -⟩ := hL.at_ (j := i) hix
  obtain ⟨uz, rfl, huz⟩ := lsto_own.1 hoz
  have hzl : z.items.length ≤ 13 := hN.2 z (List.mem_of_getElem? hz)
  have g0 : w3.cell? ⟨g, i, none⟩ = some uz := by
    have h := hcz 0 _ rfl
    rwa [show i * lstoSh.wd + 0 = i from Nat.mul_one _] at h
  rw [hxl] at e2
  subst e2
  have f1 : (i : Int) < 3 := by omega
  have f2 : (0 : Int) ≤ (i : Int) := by omega
  have hw2 : IntKind.i64.wrap (1 + (i : Int) - 1) = (i : Int) := by rw [show 1 + (i : Int) - 1 = (i : Int) by omega]; exact IntWalk.i64_in _ (by omega)
  have hsub : 1 + (i : Int) - 1 = (i : Int) := by omega
  obtain ⟨Az, nz, cz2, hsf⟩ : ∃ A n c, uz = .slice A n c := by obtain ⟨A, c, e, -, -⟩ := huz.items.form; exact ⟨A, _, c, e⟩
  subst hsf
  have HI3 := Lib.hid (huz.keep (w' := w3) (S' := fun b => w2.heap.size ≤ b ∧ b < w3.heap.size) (fun _ _ _ => rfl) (Nat.le_refl _) (fun b _ h => (hSj b h).1))
  have HI3' := Lib.hid (HI3.out.keep (w' := w3.alloc (.cells #[.slice Az nz cz2] 25)) (S' := fun b => w2.heap.size ≤ b ∧ b < w3.heap.size) (fun b hlt _ => (belowOne w3 _).block b hlt) (by simp) (fun b hlt h => h))
  have HS3 := Lib.hid (Held.new w3 #[.slice Az nz cz2] 25)
  have HR3' := Lib.hid (HR3.out.alloc (.cells #[.slice Az nz cz2] 25))
  have HH3' := Lib.hid (HH3.out.after (.cells #[.slice Az nz cz2] 25))
  have HB3' := Lib.hid (HB3.out.alloc (by omega) (.cells #[.slice Az nz cz2] 25))
  have hz3' : (w3.alloc (.cells #[.slice Az nz cz2] 25)).heap.size = w3.heap.size + 1 := by simp
  have HZ3 := Lib.hid hz3'
  have HZl := Lib.hid hzl
  clear hz3' hoz hSj hcz hfr hd hN hL HH2 HB2 HR2 huz hz HR3 HH3 HB3 HI3 hgw hzl
  go_wp2_with fail
  refine (pick_rds _ _ _ _ HR3'.out (by omega) (by omega)).mono ?_
  rintro e w4 ⟨k, rfl, k0, k1, hd⟩
  have hz4 : w3.heap.size + 1 ≤ w4.heap.size := by have := hd.2.size; have := HZ3.out; omega
  have HH4 := Lib.hid (HH3'.out.drew hd (by omega))
  have HS4 := Lib.hid (HS3.out.drew hd (by omega))
  have HB4 := Lib.hid (HB3'.out.trans (hd.below (by omega) HB3'.out.size))
  have HI4 := Lib.hid (HI3'.out.keep (w' := w4) (S' := fun b => w2.heap.size ≤ b ∧ b < w3.heap.size) (fun b hb hS => hd.2.block b hb (fun e => by have := Option.some.inj e; omega)) hd.2.size (fun _ _ h => h))
  have HR4 := Lib.hid hd.1
  clear hd HH3' HS3 HB3' HI3' HR3' k1 g0
  have HFin : Hid (∀ (W : World) (A : Option Addr) (m c : Nat) (its : List Item) (p : Int), 0 ≤ p → p < 5 → (its.length ≤ 13 ∨ its.length = 41) → Held W w.heap.size [.slice none 0 0] → Held W w3.heap.size [.slice A m c] → Below w.heap.size w W → ItemsIn W (fun b => w2.heap.size ≤ b ∧ b ≠ w3.heap.size) (.slice A m c) its →
      (W.cell? ⟨w.heap.size, 0, none⟩ = some (.slice none 0 0) ∧ W.frozen? ⟨w.heap.size, 0, none⟩ = false ∧ W.cell? ⟨w3.heap.size, 0, none⟩ = some (.slice A m c)) ∧ (W.setCell ⟨w.heap.size, 0, none⟩ (.slice A m c)).cell? ⟨w.heap.size, 0, none⟩ = some (.slice A m c) ∧
      DrewPO w (.returned (.tuple #[.int .i64 p, .agg #[.slice A m c]])) (W.setCell ⟨w.heap.size, 0, none⟩ (.slice A m c))) := Lib.hid fun W A m c its p p0 p5 hl h1 h2 hb hi => by
    have hfar : ∀ b, b ≠ w.heap.size → (W.setCell ⟨w.heap.size, 0, none⟩ (.slice A m c)).heap[b]? = W.heap[b]? := fun b hb' => Below.heap_setCell _ _ _ _ hb'
    have hsz' : (W.setCell ⟨w.heap.size, 0, none⟩ (.slice A m c)).heap.size = W.heap.size := by simp [World.setCell]
    refine ⟨⟨h1.of 0 _ rfl, h1.2.1 0, h2.of 0 _ rfl⟩, (h1.set_ (i := 0) (.slice A m c)).of 0 _ rfl, p, _, its, rfl, p0, p5, hl, ?_, ?_⟩
    · exact (hi.keep (w' := W.setCell ⟨w.heap.size, 0, none⟩ (.slice A m c)) (S' := fun _ => True) (fun b hlt hS => hfar b (by omega)) (by rw [hsz']; exact Nat.le_refl _) (fun _ _ _ => trivial)).items
    · exact hb.setCell (Nat.le_refl _) _
  by_cases e0 : k = 0
  · subst e0
    go_wp2_with fail
    refine (l20Sto_two _ _ _ _ HR4.out (by omega) (by omega) (by omega)).mono ?_
    rintro e w5 ⟨us, its, rfl, hil, -, ho, hd⟩
    obtain ⟨As, ns, cs, hsf⟩ := ownSlice ho
    subst hsf
    have HH5 := Lib.hid (HH4.out.drew hd (by omega))
    have HS5 := Lib.hid (HS4.out.drew hd (by omega))
    have HB5 := Lib.hid (HB4.out.trans (hd.below (by omega) HB4.out.size))
    have HO5 := Lib.hid ((ho.toIn (S' := fun b => w4.heap.size ≤ b) (fun _ h => h) (fun _ h => h)).keep2 (w' := w5) (S' := fun b => w4.heap.size ≤ b ∧ b < w5.heap.size) (fun _ _ _ => rfl) (fun b hlt h => ⟨h, hlt⟩))
    have hz5 : w4.heap.size ≤ w5.heap.size := hd.2.size
    have r0 := HS5.out.of 0 _ rfl
    have rf := HS5.out.2.1 0
    obtain ⟨⟨r1, rg, s0⟩, q0, hfin⟩ := HFin.out (w5.setCell ⟨w3.heap.size, 0, none⟩ (.slice As ns cs)) As ns cs its (1 + (i : Int)) (by omega) (by omega) hil
      (HH5.out.far (p := ⟨w3.heap.size, 0, none⟩) (by show w.heap.size ≠ w3.heap.size; omega) _) (HS5.out.set_ (i := 0) (.slice As ns cs)) (HB5.out.setCell (by show w.heap.size ≤ w3.heap.size; omega) _)
      (HO5.out.keep (w' := w5.setCell ⟨w3.heap.size, 0, none⟩ (.slice As ns cs)) (S' := fun b => w2.heap.size ≤ b ∧ b ≠ w3.heap.size) (fun b hlt hS => Below.heap_setCell _ _ _ _ (by show b ≠ w3.heap.size; omega)) (by simp [World.setCell]) (fun b hlt hS => by omega))
    have HF := Lib.hid hfin
    have HQ := Lib.hid q0
    clear hfin q0 ho hd
    go_wp2
    go_region
    go_wp2
    exact bodyPost_ret (v := .tuple #[.int .i64 (1 + (i : Int)), .agg #[.slice As ns cs]]) (by simp [results, Try.results9, go_sem, HQ.out]) rfl HF.out.drew
  have kb0 : (k == 0) = false := by simp [e0]
  by_cases e1 : k = 1
  · subst e1
    go_wp2_with fail
    refine (pick_rds _ _ _ _ HR4.out (by omega) (by omega)).mono ?_
    rintro e w5 ⟨p, rfl, p0, p1, hd⟩
    have p5 : p < 5 := p1 (by omega)
    have HH5 := Lib.hid (HH4.out.drew hd (by omega))
    have HS5 := Lib.hid (HS4.out.drew hd (by omega))
    have HB5 := Lib.hid (HB4.out.trans (hd.below (by omega) HB4.out.size))
    have HI5 := Lib.hid (HI4.out.keep (w' := w5) (S' := fun b => w2.heap.size ≤ b ∧ b ≠ w3.heap.size) (fun b hb hS => hd.2.block b hb (fun e => by have := Option.some.inj e; omega)) hd.2.size (fun _ _ h => by omega))
    obtain ⟨⟨r1, rg, s0⟩, q0, hfin⟩ := HFin.out w5 Az nz cz2 _ p p0 p5 (.inl HZl.out) HH5.out HS5.out HB5.out HI5.out
    have HF := Lib.hid hfin
    have HQ := Lib.hid q0
    clear hfin q0 hd p1
    go_wp2
    go_region
    go_wp2
    exact bodyPost_ret (v := .tuple #[.int .i64 p, .agg #[.slice Az nz cz2]]) (by simp [results, Try.results9, go_sem, HQ.out]) rfl HF.out.drew
  have kb1 : (k == 1) = false := by simp [e1]
  have HI5 := Lib.hid (HI4.out.keep (w' := w4) (S' := fun b => w2.heap.size ≤ b ∧ b ≠ w3.heap.size) (fun b hb hS => rfl) (Nat.le_refl _) (fun _ _ h => by omega))
  obtain ⟨⟨r1, rg, s0⟩, q0, hfin⟩ := HFin.out w4 Az nz cz2 _ (1 + (i : Int)) (by omega) (by omega) (.inl HZl.out) HH4.out HS4.out HB4.out HI5.out
  have HF := Lib.hid hfin
  have HQ := Lib.hid q0
  clear hfin q0
  go_wp2
  go_region
  go_wp2
  exact bodyPost_ret (v := .tuple #[.int .i64 (1 + (i : Int)), .agg #[.slice Az nz cz2]]) (by simp [results, Try.results9, go_sem, HQ.out]) rfl HF.out.drew

end Go.Proofs.Yteccebjnopladaa

/- The walk of FnPlcOk. -/
namespace Go.Proofs.Yteccebjnopladaa
open Go.RowKit

theorem plcB_other {k : Nat} {p : Int} {its : List Item} (h : plcB p its = true) (hk : (k : Int) ≠ p) (hn : 0 < its.length) : plcB (k : Int) its = false := by
  cases e : plcB (k : Int) its with
  | false => rfl
  | true => exact absurd (plcB_only h e (fun e => by rw [e] at hn; simp at hn)) hk

set_option maxRecDepth 100000 in
set_option maxHeartbeats 4000000 in
theorem lawPlcOk_any (w : World) (v : Value) (n : Nat) (hv : Code8 w v n) :
    Calls Try.prog 3 #[v] w fun e w' => e = .returned (.bool true) ∧ Below w.heap.size w w' := by
  have HV := Lib.hid hv
  obtain ⟨A, c, f, rfl, h1, h2, -, -⟩ := hv
  unfold maxLen at h2
  by_cases hn : 1048576 < n
  · have hn' : (1048576 : Int) < (n : Int) := by omega
    go_enter Try.func3, Try.ntmps3
    go_wp2
    go_ret
    exact ⟨rfl, Below.refl _ _⟩
  have hn' : (n : Int) ≤ 1048576 := by omega
  clear hn
  go_enter Try.func3, Try.ntmps3
  go_wp2_with fail
  refine (drawPlcOk_any _ _ n HV.out).mono ?_
  rintro e w1 ⟨p, u, its, rfl, p0, p5, hil, hI, hb1⟩
  obtain ⟨Au, cu, rfl, -, -⟩ := hI.form
  have hil2 : its.length ≤ 41 := by omega
  have HX := Lib.hid (Held.new w1 #[.slice Au its.length cu] 25)
  have HB := Lib.hid (belowNext hb1 (belowOne w1 (.cells #[.slice Au its.length cu] 25)))
  have HI := Lib.hid ((hI.below (belowOne w1 (.cells #[.slice Au its.length cu] 25))).more (belowOne w1 (.cells #[.slice Au its.length cu] 25)).size)
  clear hI hb1 HV hil
  have x0 := HX.out.of 0 _ rfl
  go_wp2_with fail
  clear x0
  refine (implPlcOk_any _ p _ its HI.out).mono ?_
  rintro e w2 ⟨rfl, hb⟩
  replace HX := Lib.hid (HX.out.below hb HX.out.1)
  replace HB := Lib.hid (belowNext HB.out hb)
  replace HI := Lib.hid ((HI.out.below hb).more hb.size)
  clear hb
  have x0 := HX.out.of 0 _ rfl
  go_wp2_with fail
  clear x0
  refine (specPlcOk_any _ p _ its HI.out).mono ?_
  rintro e w3 ⟨rfl, hb⟩
  replace HX := Lib.hid (HX.out.below hb HX.out.1)
  replace HB := Lib.hid (belowNext HB.out hb)
  replace HI := Lib.hid ((HI.out.below hb).more hb.size)
  clear hb
  cases hp : plcB p its with
  | false =>
    have HPi := Lib.hid hp
    clear hp
    go_wp2
    go_loopw [6] (fun i wr => ∃ k : Nat, 1 ≤ k ∧ k ≤ 4 ∧ i = .int .i64 k ∧ Below w3.heap.size w3 wr) (fun i _ => 4 - (intOf i).toNat)
    case atStart => exact ⟨1, by omega, by omega, rfl, Below.refl _ _⟩
    case round =>
      obtain ⟨k, hk1, hk4, rfl, hb⟩ := hrel
      have HB' := Lib.hid hb
      clear hb
      by_cases hlt : k ≤ 3
      · have hlt' : (k : Int) ≤ 3 := by omega
        have HP := Lib.hid (show plcB (k : Int) [] = true from plcB_nil (by omega))
        go_wp2_with fail
        refine (implPlcOk_any _ (k : Int) _ [] ⟨none, 0, rfl, Nat.zero_le _, Nat.zero_le _, fun h => absurd h (by simp)⟩).mono ?_
        rintro e w4 ⟨rfl, hb4⟩
        rw [HP.out]
        have HB4 := Lib.hid (HB'.out.trans (hb4.mono HB'.out.size))
        clear hb4
        go_wp2
        go_roundw
        case rel => exact ⟨k + 1, by omega, by omega, by go_num, HB4.out⟩
        case measure => simp [intOf]; omega
      · have hlt' : ¬ (k : Int) ≤ 3 := by omega
        have HP := Lib.hid (show plcB 0 [] = false by decide)
        go_wp2_with fail
        refine (implPlcOk_any _ 0 _ [] ⟨none, 0, rfl, Nat.zero_le _, Nat.zero_le _, fun h => absurd h (by simp)⟩).mono ?_
        rintro e w4 ⟨rfl, hb4⟩
        rw [HP.out]
        have HB4 := Lib.hid (belowNext HB.out (HB'.out.trans (hb4.mono HB'.out.size)))
        clear hb4
        go_wp2
        go_ret
        exact ⟨rfl, HB4.out⟩
  | true =>
    have HPi := Lib.hid hp
    clear hp
    go_wp2
    go_loopw [6] (fun i wr => ∃ k : Nat, 1 ≤ k ∧ k ≤ 4 ∧ i = .int .i64 k ∧ Below w3.heap.size w3 wr) (fun i _ => 4 - (intOf i).toNat)
    case atStart => exact ⟨1, by omega, by omega, rfl, Below.refl _ _⟩
    case round =>
      obtain ⟨k, hk1, hk4, rfl, hb⟩ := hrel
      have HB' := Lib.hid hb
      clear hb
      by_cases hlt : k ≤ 3
      · have hlt' : (k : Int) ≤ 3 := by omega
        have HP := Lib.hid (show plcB (k : Int) [] = true from plcB_nil (by omega))
        go_wp2_with fail
        refine (implPlcOk_any _ (k : Int) _ [] ⟨none, 0, rfl, Nat.zero_le _, Nat.zero_le _, fun h => absurd h (by simp)⟩).mono ?_
        rintro e w4 ⟨rfl, hb4⟩
        rw [HP.out]
        have HB4 := Lib.hid (HB'.out.trans (hb4.mono HB'.out.size))
        clear hb4
        by_cases hkp : (k : Int) = p
        · have hb0 : ((k : Int) != p) = false := by simp [hkp]
          clear hkp
          go_wp2
          go_roundw
          case rel => exact ⟨k + 1, by omega, by omega, by go_num, HB4.out⟩
          case measure => simp [intOf]; omega
        · have hb0 : ((k : Int) != p) = true := by simp [hkp]
          have x0 := (HX.out.below HB4.out HX.out.1).of 0 _ rfl
          by_cases hl : 0 < its.length
          · have HN := Lib.hid (plcB_other HPi.out hkp hl)
            have hl' : (0 : Int) < (its.length : Int) := by omega
            go_wp2_with fail
            clear x0
            refine (implPlcOk_any _ (k : Int) _ its ((HI.out.below HB4.out).more HB4.out.size)).mono ?_
            rintro e w5 ⟨rfl, hb5⟩
            rw [HN.out]
            have HB5 := Lib.hid (HB4.out.trans (hb5.mono HB4.out.size))
            clear hb5
            go_wp2
            go_roundw
            case rel => exact ⟨k + 1, by omega, by omega, by go_num, HB5.out⟩
            case measure => simp [intOf]; omega
          · have hl' : ¬ (0 : Int) < (its.length : Int) := by omega
            go_wp2
            go_roundw
            case rel => exact ⟨k + 1, by omega, by omega, by go_num, HB4.out⟩
            case measure => simp [intOf]; omega
      · have hlt' : ¬ (k : Int) ≤ 3 := by omega
        have HP := Lib.hid (show plcB 0 [] = false by decide)
        go_wp2_with fail
        refine (implPlcOk_any _ 0 _ [] ⟨none, 0, rfl, Nat.zero_le _, Nat.zero_le _, fun h => absurd h (by simp)⟩).mono ?_
        rintro e w4 ⟨rfl, hb4⟩
        rw [HP.out]
        have HB4 := Lib.hid (belowNext HB.out (HB'.out.trans (hb4.mono HB'.out.size)))
        clear hb4
        go_wp2
        go_ret
        exact ⟨rfl, HB4.out⟩

end Go.Proofs.Yteccebjnopladaa

/- A region that draws its order, with edges that bind in some orders alone. Nothing of the program. -/
namespace Go.Proofs.Yteccebjnopladaa

section
variable {P : Program} {ops : Array Oper} {Q : Exit → Act → World → Prop}
/-- Each operation keeps I, whatever has come up before it; behind all I gives the post. -/
theorem wpAny_inv3 (I : (Nat → Bool) → Act → World → Prop)
    (hback : ∀ (i : Nat) (o : Oper), ops[i]? = some o → ∀ e ∈ o.after, Region.binds .any e = true → e.on < i)
    (hstep : ∀ (L : Nat → Bool) (a : Act) (w : World) (i : Nat) (o : Oper), ops[i]? = some o → L i = false → (∀ e ∈ o.after, Region.binds .any e = true → L e.on = true) → I L a w →
      ∀ K : Act → World → Prop, (∀ a' w', I (upd L i true) a' w' → K a' w') → if Region.wanted o (yielded ops a.tmps) = true then Oper.wp P o a w K Q else K (a.put o.dst undef) w)
    (hend : ∀ L a w, (∀ i, i < ops.size → L i = true) → I L a w → Q .normal a w) :
    ∀ (fuel : Nat) (l : Array Bool) (a : Act) (w : World), l.size = ops.size → left l ≤ fuel → I (fun j => l.getD j false) a w → wpAny P .any ops Q fuel l a w := by
  have hdone : ∀ (l : Array Bool), l.size = ops.size → Region.ready .any ops l = [] → ∀ i, i < ops.size → l.getD i false = true := by
    intro l hl hr i
    induction i using Nat.strongRecOn with
    | _ i ih =>
      intro hi
      cases hc : l.getD i false with
      | true => rfl
      | false =>
        have ho : ops[i]? = some ops[i] := Array.getElem?_eq_getElem hi
        have hm : i ∈ Region.ready .any ops l := by
          rw [mem_ready]
          refine ⟨?_, ops[i], ho, ?_⟩
          · simp only [Array.getD_eq_getD_getElem?] at hc ⊢
            rw [Array.getElem?_eq_getElem (by omega)] at hc ⊢
            simpa using hc
          · intro e he hbi
            exact ih e.on (hback i _ ho e he hbi) (Nat.lt_trans (hback i _ ho e he hbi) hi)
        rw [hr] at hm
        cases hm
  intro fuel
  induction fuel with
  | zero =>
    intro l a w hl hn hI
    have hr : Region.ready .any ops l = [] := by
      cases hr : Region.ready .any ops l with
      | nil => rfl
      | cons i rs =>
        have hm : i ∈ Region.ready .any ops l := by rw [hr]; simp
        obtain ⟨h1, o, ho, _⟩ := mem_ready.1 hm
        have hi : i < l.size := by rw [hl]; exact (Array.getElem?_eq_some_iff.1 ho).1
        have hf : l[i]? = some false := by
          rw [Array.getElem?_eq_getElem hi]
          simp only [Array.getD_eq_getD_getElem?, Array.getElem?_eq_getElem hi] at h1
          simpa using h1
        have := left_set hf
        omega
    exact ⟨hr, hend _ a w (hdone l hl hr) hI⟩
  | succ fuel ih =>
    intro l a w hl hn hI
    refine ⟨fun hr => hend _ a w (hdone l hl hr) hI, fun i hi => ?_⟩
    obtain ⟨h1, o, ho, h2⟩ := mem_ready.1 hi
    have hil : i < l.size := by rw [hl]; exact (Array.getElem?_eq_some_iff.1 ho).1
    have hf : l[i]? = some false := by
      rw [Array.getElem?_eq_getElem hil]
      simp only [Array.getD_eq_getD_getElem?, Array.getElem?_eq_getElem hil] at h1
      simpa using h1
    refine wpOp_step ho fun K hK => ?_
    refine hstep (fun j => l.getD j false) a w i o ho (by simp [Array.getD_eq_getD_getElem?, hf]) (fun e he hbi => h2 e he hbi) hI K fun a' w' h => hK a' w' ?_
    refine ih _ a' w' (by simpa using hl) (by have := left_set hf; omega) ?_
    have he : (fun j => (l.setIfInBounds i true).getD j false) = upd (fun j => l.getD j false) i true := by
      funext j
      simp only [Array.getD_eq_getD_getElem?, Array.getElem?_setIfInBounds, upd]
      by_cases hj : i = j
      · subst hj; simp [hil]
      · simp [hj, Ne.symm hj]
    rw [he]
    exact h

theorem wp_region_inv3 {id : Nat} {a : Act} {w : World} (hm : P.follows .mixedOrders = true) (I : (Nat → Bool) → Act → World → Prop)
    (hback : ∀ (i : Nat) (o : Oper), ops[i]? = some o → ∀ e ∈ o.after, Region.binds .any e = true → e.on < i)
    (h0 : I (fun _ => false) a w.drew)
    (hstep : ∀ (L : Nat → Bool) (a : Act) (w : World) (i : Nat) (o : Oper), ops[i]? = some o → L i = false → (∀ e ∈ o.after, Region.binds .any e = true → L e.on = true) → I L a w →
      ∀ K : Act → World → Prop, (∀ a' w', I (upd L i true) a' w' → K a' w') → if Region.wanted o (yielded ops a.tmps) = true then Oper.wp P o a w K Q else K (a.put o.dst undef) w)
    (hend : ∀ L a w, (∀ i, i < ops.size → L i = true) → I L a w → Q .normal a w) : (Code.region id ops true).wp P Q a w := by
  refine wp_region_any hm (wpAny_inv3 I hback hstep hend _ _ _ _ (by simp) ?_ ?_)
  · unfold left; exact Nat.le_trans (List.length_filter_le _ _) (by simp)
  · have he : (fun j => (Array.replicate ops.size false).getD j false) = fun _ => false := by
      funext j
      simp only [Array.getD_eq_getD_getElem?, Array.getElem?_replicate]
      split <;> rfl
    rw [he]; exact h0
end


/-- All edges of a region that bind go back. -/
def backB3 (ops : Array Oper) : Bool := (List.range ops.size).all fun i => match ops[i]? with
  | some o => o.after.all fun e => decide (e.on < i) || !Region.binds .any e
  | none => true
theorem backB3_at {ops : Array Oper} (h : backB3 ops = true) (i : Nat) (o : Oper) (ho : ops[i]? = some o) : ∀ e ∈ o.after, Region.binds .any e = true → e.on < i := by
  intro e he hbi
  have hi : i < ops.size := (Array.getElem?_eq_some_iff.1 ho).1
  have := List.all_eq_true.1 h i (List.mem_range.2 hi)
  simp only [ho] at this
  have := Array.all_eq_true_iff_forall_mem.1 this e he
  simpa [hbi] using this

/-- What has come up has come up behind all that it waits for in each order. -/
def Down3 (ops : Array Oper) (L : Nat → Bool) : Prop := ∀ (i : Nat) (o : Oper), ops[i]? = some o → L i = true → ∀ e ∈ o.after, Region.binds .any e = true → L e.on = true
theorem Down3.upd {ops : Array Oper} {L : Nat → Bool} {i : Nat} {o : Oper} (h : Down3 ops L) (ho : ops[i]? = some o) (hp : ∀ e ∈ o.after, Region.binds .any e = true → L e.on = true) : Down3 ops (upd L i true) := by
  intro j oj hj hL e he hbi
  by_cases e1 : e.on = i
  · rw [e1, upd_same]
  · rw [upd_other _ _ e1]
    by_cases e2 : j = i
    · subst e2
      rw [ho] at hj
      injection hj with hj
      subst hj
      exact hp e he hbi
    · rw [upd_other _ _ e2] at hL
      exact h j oj hj hL e he hbi
theorem wp_region_inv4 {P : Program} {ops : Array Oper} {Q : Exit → Act → World → Prop} {id : Nat} {a : Act} {w : World} (hm : P.follows .mixedOrders = true) (I : (Nat → Bool) → Act → World → Prop) (hback : backB3 ops = true)
    (h0 : I (fun _ => false) a w.drew)
    (hstep : ∀ (L : Nat → Bool) (a : Act) (w : World) (i : Nat) (o : Oper), ops[i]? = some o → L i = false → (∀ e ∈ o.after, Region.binds .any e = true → L e.on = true) → Down3 ops L → I L a w →
      ∀ K : Act → World → Prop, (∀ a' w', I (upd L i true) a' w' → K a' w') → if Region.wanted o (yielded ops a.tmps) = true then Oper.wp P o a w K Q else K (a.put o.dst undef) w)
    (hend : ∀ L a w, (∀ i, i < ops.size → L i = true) → I L a w → Q .normal a w) : (Code.region id ops true).wp P Q a w :=
  wp_region_inv3 hm (fun L a w => Down3 ops L ∧ I L a w) (backB3_at hback) ⟨fun _ _ _ h => by simp at h, h0⟩
    (fun L a w i o ho hL hp hI K hK => hstep L a w i o ho hL hp hI.1 hI.2 K fun a' w' h => hK a' w' ⟨hI.1.upd ho hp, h⟩)
    (fun L a w hL hI => hend L a w hL hI.2)
def reach3 (ops : Array Oper) : Nat → Nat → Nat → Bool
  | 0, i, j => i == j
  | f + 1, i, j => i == j || (match ops[i]? with
    | some o => o.after.any fun e => Region.binds .any e && reach3 ops f e.on j
    | none => false)
theorem Down3.reach {ops : Array Oper} {L : Nat → Bool} (h : Down3 ops L) : ∀ (f i j : Nat), reach3 ops f i j = true → L i = true → L j = true := by
  intro f
  induction f with
  | zero => intro i j hr hL; simp [reach3] at hr; subst hr; exact hL
  | succ f ih =>
    intro i j hr hL
    unfold reach3 at hr
    rcases Bool.or_eq_true_iff.1 hr with h1 | h1
    · simp at h1; subst h1; exact hL
    · split at h1
      · next o ho =>
        obtain ⟨n, hn, he⟩ := Array.any_eq_true.1 h1
        rw [Bool.and_eq_true] at he
        exact ih _ _ he.2 (h i o ho hL _ (Array.getElem_mem hn) he.1)
      · cases h1
theorem Down3.not {ops : Array Oper} {L : Nat → Bool} (h : Down3 ops L) (f m i : Nat) (hr : reach3 ops f m i = true) (hL : L i = false) : L m = false := by
  cases hm : L m with
  | false => rfl
  | true => have := h.reach f m i hr hm; rw [hL] at this; cases this
theorem Down3.notYet {ops : Array Oper} {L : Nat → Bool} (h : Down3 ops L) (f n m : Nat) (hr : ((List.range n).all fun j => reach3 ops f m j) = true) {i : Nat} (hi : i < n) (hL : L i = false) : L m = false :=
  h.not f m i (List.all_eq_true.1 hr i (List.mem_range.2 hi)) hL

end Go.Proofs.Yteccebjnopladaa
