/- Texts that follow each other, merged: DrawOpen, DrawDo. -/
import Derived.Test.YtgekggoenibnmaaXDrawWrt
import Derived.Test.YtgekggoenibnmaaXDrawKey
import Derived.Test.YtgekggoenibnmaaXDrawSto
import Derived.Test.YtgekggoenibnmaaXWrite

/- A reader is opened over a code. -/
namespace Go.Proofs.Ytgekggoenibnmaa
open Go.RowKit

/-- What a draw out of a code leaves of a write. -/
def DrawnWrite (w : World) (e : Ending) (w' : World) : Prop :=
  ∃ s d v xs, e = .returned (.agg #[.string s, .bool d, v]) ∧ s.size ≤ 1000002 ∧ xs.length ≤ 4 ∧ Ints w' w'.heap.size v xs ∧ Below w.heap.size w w'

end Go.Proofs.Ytgekggoenibnmaa

/- A store and writes, drawn out of a code. -/
namespace Go.Proofs.Ytgekggoenibnmaa
open Go.RowKit

theorem oneLit (w : World) (lo : Nat) (h : lo ≤ w.heap.size) : OwnInts (w.alloc (.cells #[.int .i64 1] 3)) lo (.slice (some ⟨w.heap.size, 0, none⟩) 1 1) [1] :=
  World.ownsRow_lit w #[.int .i64 1] 1 h (by unfold maxLen; omega) rfl

/-- What is drawn: some store, some writes. -/
def DrewDo (w : World) (e : Ending) (w' : World) : Prop :=
  ∃ u its l ws, e = .returned (.tuple #[.agg #[u], l]) ∧ its.length ≤ 41 ∧ ws.length ≤ 60 ∧ Items w' w'.heap.size u its ∧ Wrts w' w'.heap.size l ws ∧ Below w.heap.size w w'

set_option maxRecDepth 100000 in
set_option maxHeartbeats 2000000 in
theorem drawStoDo_any (w : World) (v : Value) (n : Nat) (hv : Code8 w v n) : Calls Try.prog 33 #[v] w (DrewDo w) := by
  have HV := Lib.hid (hv.below (belowOne w (.cells #[.slice none 0 0] 40)))
  have HH := Lib.hid (Held.new w #[.slice none 0 0] 40)
  clear hv
  go_enter Try.func33, Try.ntmps33
  go_wp2_with fail
  refine (l20Open_any _ _ _ HV.out).mono ?_
  rintro e w1 ⟨rfl, hr, hb1⟩
  have HH1 := Lib.hid (HH.out.below hb1 HH.out.1)
  have HB1 := Lib.hid (belowNext (belowOne _ _) hb1)
  have hsz : (w.alloc (.cells #[.slice none 0 0] 40)).heap.size = w.heap.size + 1 := by simp
  rw [hsz] at hr
  have HR := Lib.hid (show Rds w1 (w.heap.size + 1) 0 from ⟨0, by omega, by omega, hr⟩)
  have hz1 : w.heap.size + 1 < w1.heap.size := HR.out.lt
  clear hsz hr hb1 HH HV
  go_wp2_with fail
  refine (l20Sto_any _ _ _ _ HR.out (by omega) (by omega) (by omega)).mono ?_
  rintro e w2 ⟨u, its, rfl, hl, -, hown, hd⟩
  obtain ⟨Au, nu, cu, huf⟩ := ownSlice hown
  subst huf
  have HH2 := Lib.hid ((HH1.out.drew hd (by omega)).after (.cells #[.slice Au nu cu] 40))
  have hz2 : w1.heap.size ≤ w2.heap.size := hd.2.size
  have HB2 := Lib.hid ((HB1.out.trans (hd.below (by omega) HB1.out.size)).alloc (by omega) (.cells #[.slice Au nu cu] 40))
  have HI2 := Lib.hid ((hown.toIn (S' := fun b => w1.heap.size ≤ b) (fun _ h => h) (fun _ h => h)).keep (w' := w2.alloc (.cells #[.slice Au nu cu] 40)) (S' := fun b => w1.heap.size ≤ b ∧ b < w2.heap.size) (fun b hlt _ => (belowOne w2 _).block b hlt) (by simp) (fun b hlt h => ⟨h, hlt⟩))
  have HS2 := Lib.hid (Held.new w2 #[.slice Au nu cu] 40)
  have HR2 := Lib.hid (hd.1.alloc (.cells #[.slice Au nu cu] 40))
  have hz2' : (w2.alloc (.cells #[.slice Au nu cu] 40)).heap.size = w2.heap.size + 1 := by simp
  have HZ2 := Lib.hid hz2'
  clear hown hd HH1 HB1 HR hz2'
  go_wp2_with fail
  refine (l20Writes_any _ _ _ _ HR2.out (by omega) (by omega) (by omega)).mono ?_
  rintro e w3 ⟨l3, ws3, rfl, hl3, hown3, hd3⟩
  have hz3 : w2.heap.size + 1 ≤ w3.heap.size := by have := hd3.2.size; have := HZ2.out; omega
  have HH3 := Lib.hid (HH2.out.drew hd3 (by omega))
  have HS3 := Lib.hid (HS2.out.drew hd3 (by omega))
  have HB3 := Lib.hid (HB2.out.trans (hd3.below (by omega) HB2.out.size))
  have HI3 := Lib.hid (HI2.out.keep (w' := w3) (S' := fun b => w1.heap.size ≤ b ∧ b < w2.heap.size) (fun b hb hS => hd3.2.block b hb (fun e => by have := Option.some.inj e; omega)) hd3.2.size (fun _ _ h => h))
  have HO3 : Hid (OwnWr w3 (w2.heap.size + 1) (w2.heap.size + 1 ≤ ·) l3 ws3) := Lib.hid (by have h := hown3; rwa [HZ2.out] at h)
  have HR3 := Lib.hid hd3.1
  clear hown3 hd3 HH2 HB2 HS2 HI2 HR2
  go_wp2_with fail
  refine (odd_any _ _ _ _ HR3.out (by omega) (by omega)).mono ?_
  rintro e w5 ⟨bb, rfl, -, hd5⟩
  have hz5 : w2.heap.size + 1 ≤ w5.heap.size := Nat.le_trans hz3 hd5.2.size
  have HH5 := Lib.hid (HH3.out.drew hd5 (by omega))
  have HS5 := Lib.hid (HS3.out.drew hd5 (by omega))
  have HB5 := Lib.hid (HB3.out.trans (hd5.below (by omega) HB3.out.size))
  have HI5 := Lib.hid (HI3.out.keep (w' := w5) (S' := fun b => w1.heap.size ≤ b ∧ b < w2.heap.size) (fun b hb hS => hd5.2.block b hb (fun e => by have := Option.some.inj e; omega)) hd5.2.size (fun _ _ h => h))
  have HO5 := Lib.hid (HO3.out.drew hd5 (by omega))
  clear hd5 HH3 HS3 HB3 HI3 HO3 HR3
  have HEnd : Hid (∀ W l ws, Below (w2.heap.size + 1) w5 W → ws.length ≤ 60 → OwnWr W (w2.heap.size + 1) (w2.heap.size + 1 ≤ ·) l ws →
      (W.cell? ⟨w.heap.size, 0, none⟩ = some (.slice none 0 0) ∧ W.frozen? ⟨w.heap.size, 0, none⟩ = false ∧ W.cell? ⟨w2.heap.size, 0, none⟩ = some (.slice Au nu cu)) ∧ (W.setCell ⟨w.heap.size, 0, none⟩ (.slice Au nu cu)).cell? ⟨w.heap.size, 0, none⟩ = some (.slice Au nu cu) ∧
      DrewDo w (.returned (.tuple #[.agg #[.slice Au nu cu], l])) (W.setCell ⟨w.heap.size, 0, none⟩ (.slice Au nu cu))) := Lib.hid fun W l ws hb hw ho => by
    have h1 := HH5.out.below hb (by omega)
    have h2 := HS5.out.below hb (by omega)
    have hfar : ∀ b, b ≠ w.heap.size → (W.setCell ⟨w.heap.size, 0, none⟩ (.slice Au nu cu)).heap[b]? = W.heap[b]? := fun b hb' => Below.heap_setCell _ _ _ _ hb'
    have hsz' : (W.setCell ⟨w.heap.size, 0, none⟩ (.slice Au nu cu)).heap.size = W.heap.size := by simp [World.setCell]
    refine ⟨⟨h1.of 0 _ rfl, h1.2.1 0, h2.of 0 _ rfl⟩, (h1.set_ (i := 0) (.slice Au nu cu)).of 0 _ rfl, _, its, l, ws, rfl, hl, hw, ?_, ?_, ?_⟩
    · exact (HI5.out.keep (w' := W.setCell ⟨w.heap.size, 0, none⟩ (.slice Au nu cu)) (S' := fun _ => True) (fun b hlt hS => (hfar b (by omega)).trans (hb.block b (by omega))) (by rw [hsz']; exact hb.size) (fun _ _ _ => trivial)).items
    · exact (ho.keep (w' := W.setCell ⟨w.heap.size, 0, none⟩ (.slice Au nu cu)) (fun b _ hS => hfar b (by rcases hS with h | h <;> omega)) (by rw [hsz']; exact Nat.le_refl _)).wrts
    · exact (HB5.out.trans (hb.mono (by omega))).setCell (Nat.le_refl _) _
  clear HH5 HS5 HB5 HI5
  cases bb
  · obtain ⟨⟨r0, rf, s0⟩, q0, hfin⟩ := HEnd.out w5 l3 ws3 (Below.refl _ _) (by omega) HO5.out
    have HF := Lib.hid hfin
    have HQ := Lib.hid q0
    clear hfin q0
    go_wp2
    exact bodyPost_ret (v := .tuple #[.agg #[.slice Au nu cu], l3]) (by simp [results, Try.results33, go_sem, HQ.out]) rfl HF.out
  · obtain ⟨gl, cl, hlf, -, -, -, -⟩ := HO5.out.form
    subst hlf
    go_wp2
    go_loopw [6, 7] (fun l i wr => ∃ (ws : List Wr) (k : Nat), OwnWr wr (w2.heap.size + 1) (w2.heap.size + 1 ≤ ·) l ws ∧ i = .int .i64 k ∧ k ≤ 41 ∧ ws.length ≤ 6 + k ∧ Below (w2.heap.size + 1) w5 wr) (fun _ i _ => 41 - (intOf i).toNat)
    case atStart => exact ⟨ws3, 0, HO5.out, rfl, by omega, by omega, Below.refl _ _⟩
    case round =>
      clear HO5
      obtain ⟨ws, k, hown, rfl, hk, hwl, hb⟩ := hrel
      obtain ⟨go, co, rfl, -, -, -, -⟩ := hown.form
      have hzr := hb.size
      by_cases hlt : k < 41
      · have hk' : (k : Int) ≤ 40 := by omega
        have HO := Lib.hid hown
        have HB := Lib.hid hb
        clear hown hb
        go_wp2_with fail
        refine (l3Plain_any _ _ (by omega) (by omega)).mono ?_
        rintro e w6 ⟨s, rfl, hs, hb6⟩
        have hz6 := hb6.size
        have hss : (⟨#[122]⟩ ++ s : ByteArray).size ≤ 1000002 := by rw [append_size]; have : (⟨#[122]⟩ : ByteArray).size = 1 := rfl; omega
        have HO6 := Lib.hid (HO.out.below hb6)
        have HB6 := Lib.hid (HB.out.trans (hb6.mono (by omega)))
        have HQ := Lib.hid (oneWrite (w := (w6.alloc (.cells #[.int .i64 1] 3)).alloc (.cells #[.string (⟨#[122]⟩ ++ s), .bool false, .slice (some ⟨w6.heap.size, 0, none⟩) 1 1] 57)) (d := false) HO6.out hss (oneLit w6 w6.heap.size (Nat.le_refl _)) (by omega) _ rfl)
        have HO7 := Lib.hid ((HO6.out.alloc (.cells #[.int .i64 1] 3)).alloc (.cells #[.string (⟨#[122]⟩ ++ s), .bool false, .slice (some ⟨w6.heap.size, 0, none⟩) 1 1] 57))
        have HS7 := Lib.hid (Held.new (w6.alloc (.cells #[.int .i64 1] 3)) #[.string (⟨#[122]⟩ ++ s), .bool false, .slice (some ⟨w6.heap.size, 0, none⟩) 1 1] 57)
        have HB7 := Lib.hid ((HB6.out.alloc (by omega) (.cells #[.int .i64 1] 3)).alloc (by simp; omega) (.cells #[.string (⟨#[122]⟩ ++ s), .bool false, .slice (some ⟨w6.heap.size, 0, none⟩) 1 1] 57))
        have hz7 : (w6.alloc (.cells #[.int .i64 1] 3)).heap.size = w6.heap.size + 1 := by simp
        rw [hz7] at HS7
        clear hb6 HO HB HO6 HB6 hz7
        go_wp2_with (at_builtin; refine wpl_append_writes rfl _ _ rfl (w2.heap.size + 1) _ _ ws rfl HO7.out [((⟨⟨#[122]⟩ ++ s, false, [1]⟩, .slice (some ⟨w6.heap.size, 0, none⟩) 1 1) : Wr × Value)] ⟨w6.heap.size + 1, 0, none⟩ 1 rfl HQ.out (heldAdd HS7.out) (by simp; omega) (by simp; omega) ?_; intro u8 w8 hown8 hg8; have HO8 := Lib.hid hown8; have HG8 := Lib.hid hg8; clear hown8 hg8)
        have HB8 := Lib.hid (HB7.out.grown HG8.out (by simp; omega) (fun k hk => (HO7.out.lt k hk).1))
        clear HO7 HB7 HG8
        go_wp2
        go_roundw
        case rel => exact ⟨ws ++ [⟨⟨#[122]⟩ ++ s, false, [1]⟩], k + 1, HO8.out, by go_num, by omega, by simp; omega, HB8.out⟩
        case measure => simp [intOf]; omega
      · obtain ⟨⟨r0, rf, s0⟩, q0, hfin⟩ := HEnd.out wr _ ws hb (by omega) hown
        have HF := Lib.hid hfin
        have HQ := Lib.hid q0
        have hk' : ¬ ((k : Int) ≤ 40) := by omega
        clear hfin q0 hown hb
        go_wp2
        exact bodyPost_ret (v := .tuple #[.agg #[.slice Au nu cu], .slice (some ⟨go, 0, none⟩) ws.length co]) (by simp [results, Try.results33, go_sem, HQ.out]) rfl HF.out

end Go.Proofs.Ytgekggoenibnmaa
