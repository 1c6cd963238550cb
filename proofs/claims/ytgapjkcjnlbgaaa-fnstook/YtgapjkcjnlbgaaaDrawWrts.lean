/- Drawn writes. -/
import Derived.Test.YtgapjkcjnlbgaaaOwnWr
namespace Go.Proofs.Ytgapjkcjnlbgaaa
open Go.RowKit

theorem heldAdd {w : World} {g : Nat} {cs : List Value} (h : Held w g cs) : ∀ (j : Nat) (u : Value), cs[j]? = some u → w.cell? ((⟨g, 0, none⟩ : Addr).add j) = some u := by
  intro j u hu
  rw [← h.2.2 j u hu]
  congr 1
  unfold Addr.add
  by_cases h : j = 0 <;> simp [h]
/-- What is appended: one write, just made. -/
theorem oneWrite {w w1 w2 : World} {lo : Nat} {out : Value} {ws : List Wr} {s : ByteArray} {d : Bool} {A : Option Addr} {c : Nat} {xs : List Int} (hown : OwnWr w1 lo (lo ≤ ·) out ws) (hs : s.size ≤ 1000002) (hu : OwnInts w2 w1.heap.size (.slice A xs.length c) xs) (hlo : lo ≤ w1.heap.size) (o : Obj) (e : w = w2.alloc o) :
    ∀ p ∈ [((⟨s, d, xs⟩, .slice A xs.length c) : Wr × Value)], p.1.key.size ≤ maxLen ∧ IntsIn w (fun b => lo ≤ b ∧ out.ownBlock ≠ some b) p.2 p.1.val := by
  intro p hp
  have : p = ((⟨s, d, xs⟩, .slice A xs.length c) : Wr × Value) := by simpa using hp
  subst this
  subst e
  exact ⟨by unfold maxLen; show s.size ≤ _; omega, (hu.alloc o).toIn.keep (fun _ _ _ => rfl) (Nat.le_refl _) fun b _ hb => ⟨Nat.le_trans hlo hb, fun h => by have := (hown.lt b h).2; omega⟩⟩

set_option maxRecDepth 100000 in
set_option maxHeartbeats 1000000 in
theorem l20Writes_any (w : World) (g : Nat) (P n : Int) (hr : Rds w g P) (hP0 : 0 ≤ P) (hP : P ≤ 700000000) (hn : n ≤ 1000000) :
    Calls Try.prog 54 #[.pointer (some ⟨g, 0, none⟩), .int .i64 n] w fun e w' => ∃ v ws, e = .returned v ∧ ws.length ≤ 6 ∧ OwnWr w' w.heap.size (w.heap.size ≤ ·) v ws ∧ Drew g (P + 300) w w' := by
  have hgw := hr.lt
  have HA := Lib.hid (show Drew g P w (w.alloc (.cells #[] 45)) from ⟨hr.alloc _, World.grownBy_alloc _ _ _⟩)
  have HO := Lib.hid (OwnWr.empty w w.heap.size (w.heap.size ≤ ·) (Nat.le_refl _))
  clear hr
  go_enter Try.func54, Try.ntmps54
  go_wp2_with fail
  refine (pick_rds _ g _ _ HA.out.1 (by omega) (by omega)).mono ?_
  rintro e w2 ⟨k, rfl, hk0, hk1, hd2⟩
  obtain ⟨k, rfl⟩ := Int.eq_ofNat_of_zero_le hk0
  have hk : k < 6 := by have := hk1 (by omega); omega
  have HD2 := Lib.hid (HA.out.trans hd2)
  have HO2 := Lib.hid (HO.out.drew hd2 hgw)
  clear hk0 hk1 hd2 HA HO
  go_wp2
  go_loopw [5, 6] (fun a b wr => ∃ (ws : List Wr) (j : Nat), OwnWr wr w.heap.size (w.heap.size ≤ ·) a ws ∧ b = .int .i64 j ∧ j ≤ 5 ∧ ws.length + j ≤ 5 ∧ Drew g (P + 201 - 40 * j) w wr) (fun _ b _ => (intOf b).toNat)
  case atStart => exact ⟨[], k, HO2.out, rfl, by omega, by simp; omega, HD2.out.1.more (by omega), HD2.out.2⟩
  case round =>
    clear HD2 HO2
    obtain ⟨ws, j, hown, rfl, hj2, hxj, hd⟩ := hrel
    obtain ⟨go, co, rfl, -, -, -, -⟩ := hown.form
    have HO := Lib.hid hown
    have HD := Lib.hid hd
    have hz : w.heap.size ≤ wr.heap.size := hd.2.size
    clear hown hd
    by_cases hj : 0 < j
    · go_wp2_with fail
      refine (l20Write_any _ g _ _ HD.out.1 (by omega) (by omega) (by omega)).mono ?_
      rintro e w3 ⟨s, d, v, xs, rfl, hs, hxs, hown3, hd3⟩
      obtain ⟨Av, cv, hvf, -, -⟩ := hown3.ints.form
      subst hvf
      have HD3 := Lib.hid (HD.out.trans hd3)
      have HQ := Lib.hid (oneWrite (w := w3.alloc (.cells #[.string s, .bool d, .slice Av xs.length cv] 45)) (d := d) HO.out hs hown3 hz _ rfl)
      have HO3 := Lib.hid ((HO.out.drew hd3 hgw).alloc (.cells #[.string s, .bool d, .slice Av xs.length cv] 45))
      have HS3 := Lib.hid (Held.new w3 #[.string s, .bool d, .slice Av xs.length cv] 45)
      have hz3 : w.heap.size ≤ w3.heap.size := Nat.le_trans hz hd3.2.size
      clear hd3 hown3 HD HO hz
      go_wp2_with (at_builtin; refine wpl_append_writes rfl _ _ rfl w.heap.size _ _ ws rfl HO3.out [((⟨s, d, xs⟩, .slice Av xs.length cv) : Wr × Value)] ⟨w3.heap.size, 0, none⟩ 1 rfl HQ.out (heldAdd HS3.out) (by simp; omega) (by simp; omega) ?_; intro u w4 hown4 hg4; have HO4 := Lib.hid hown4; have HG4 := Lib.hid hg4; clear hown4 hg4)
      have HD4 := Lib.hid ((HD3.out.alloc _).grown HG4.out (fun k hk => (HO3.out.lt k hk).1) hgw)
      clear HD3 HO3 HG4
      go_wp2
      go_roundw
      case rel => exact ⟨ws ++ [⟨s, d, xs⟩], j - 1, HO4.out, by go_num, by omega, by simp; omega, HD4.out.1.more (by omega), HD4.out.2⟩
      case measure => simp [intOf]; omega
    · go_wp2_with fail
      refine (odd_any _ g _ _ HD.out.1 (by omega) hn).mono ?_
      rintro e w5 ⟨bb, rfl, hbb, hd5⟩
      have HD5 := Lib.hid (HD.out.trans hd5)
      have HO5 := Lib.hid (HO.out.drew hd5 hgw)
      have hz5 : w.heap.size ≤ w5.heap.size := Nat.le_trans hz hd5.2.size
      clear hbb hd5 HD HO hz
      cases bb
      · go_wp2
        go_ret
        exact ⟨_, ws, rfl, by omega, HO5.out, HD5.out.1.more (by omega), HD5.out.2⟩
      · go_wp2_with fail
        refine (l20Write_any _ g _ _ HD5.out.1 (by omega) (by omega) (by omega)).mono ?_
        rintro e w3 ⟨s, d, v, xs, rfl, hs, hxs, hown3, hd3⟩
        obtain ⟨Av, cv, hvf, -, -⟩ := hown3.ints.form
        subst hvf
        have HD3 := Lib.hid (HD5.out.trans hd3)
        have HQ := Lib.hid (oneWrite (w := w3.alloc (.cells #[.string s, .bool d, .slice Av xs.length cv] 45)) (d := d) HO5.out hs hown3 hz5 _ rfl)
        have HO3 := Lib.hid ((HO5.out.drew hd3 hgw).alloc (.cells #[.string s, .bool d, .slice Av xs.length cv] 45))
        have HS3 := Lib.hid (Held.new w3 #[.string s, .bool d, .slice Av xs.length cv] 45)
        have hz3 : w.heap.size ≤ w3.heap.size := Nat.le_trans hz5 hd3.2.size
        clear hd3 hown3 HD5 HO5 hz5
        go_wp2_with (at_builtin; refine wpl_append_writes rfl _ _ rfl w.heap.size _ _ ws rfl HO3.out [((⟨s, d, xs⟩, .slice Av xs.length cv) : Wr × Value)] ⟨w3.heap.size, 0, none⟩ 1 rfl HQ.out (heldAdd HS3.out) (by simp; omega) (by simp; omega) ?_; intro u w4 hown4 hg4; have HO4 := Lib.hid hown4; have HG4 := Lib.hid hg4; clear hown4 hg4)
        have HD4 := Lib.hid ((HD3.out.alloc _).grown HG4.out (fun k hk => (HO3.out.lt k hk).1) hgw)
        clear HD3 HO3 HG4
        go_wp2
        go_ret
        exact ⟨u, ws ++ [⟨s, d, xs⟩], rfl, by simp; omega, HO4.out, HD4.out.1.more (by omega), HD4.out.2⟩

end Go.Proofs.Ytgapjkcjnlbgaaa
