/- A reader is opened over a code. -/
import Derived.Test.YtlmcpkijcadalaaDrawKey
namespace Go.Proofs.Ytlmcpkijcadalaa
open Go.RowKit

/-- A slice of bytes that came in. -/
def Code8 (w : World) (v : Value) (n : Nat) : Prop :=
  ∃ A c, ∃ f : Nat → Int, v = .slice A n c ∧ n ≤ c ∧ c ≤ maxLen ∧ (∀ j, 0 ≤ f j ∧ f j ≤ 255) ∧ (0 < n → ∃ b off, A = some ⟨b, off, none⟩ ∧ b < w.heap.size ∧ ∀ j, j < n → w.cell? ⟨b, off + j, none⟩ = some (.int .u8 (f j)))
theorem Code8.below {w w' : World} {v : Value} {n : Nat} (h : Code8 w v n) (hb : Below w.heap.size w w') : Code8 w' v n := by
  obtain ⟨A, c, f, hv, h1, h2, h3, h4⟩ := h
  refine ⟨A, c, f, hv, h1, h2, h3, fun hn => ?_⟩
  obtain ⟨b, off, hA, hlt, hc⟩ := h4 hn
  exact ⟨b, off, hA, Nat.lt_of_lt_of_le hlt hb.size, fun j hj => (hb.cell (p := ⟨b, off + j, none⟩) hlt).trans (hc j hj)⟩

theorem rd_new (w : World) (A : Option Addr) (n c : Nat) (f : Nat → Int) (h1 : n ≤ 2000) (h2 : n ≤ c) (h3 : c ≤ maxLen) (h4 : ∀ j, 0 ≤ f j ∧ f j ≤ 255)
    (h5 : 0 < n → ∃ b off, A = some ⟨b, off, none⟩ ∧ b < w.heap.size ∧ ∀ j, j < n → w.cell? ⟨b, off + j, none⟩ = some (.int .u8 (f j))) :
    Rd (w.alloc (.cells #[.slice A n c, .int .i64 0] 144)) w.heap.size 0 := by
  refine ⟨A, n, c, f, Go.Deep.blk_alloc_new _ _, h1, h2, h3, h4, fun hn => ?_⟩
  obtain ⟨b, off, hA, hlt, hc⟩ := h5 hn
  exact ⟨b, off, hA, hlt, fun j hj => ((belowOne w _).cell (p := ⟨b, off + j, none⟩) hlt).trans (hc j hj)⟩

theorem l20Open_any (w : World) (v : Value) (n : Nat) (hv : Code8 w v n) :
    Calls Try.prog 53 #[v] w fun e w' => e = .returned (.pointer (some ⟨w.heap.size, 0, none⟩)) ∧ Rd w' w.heap.size 0 ∧ Below w.heap.size w w' := by
  obtain ⟨A, c, f, rfl, h1, h2, h3, h4⟩ := hv
  by_cases hn : 2000 < n
  · obtain ⟨b, off, rfl, hlt, hc⟩ := h4 (by omega)
    have HR := Lib.hid (rd_new w (some ⟨b, off, none⟩) 2000 c f (Nat.le_refl _) (by omega) h2 h3 (fun _ => ⟨b, off, rfl, hlt, fun j hj => hc j (by omega)⟩))
    unfold maxLen at h2
    clear h3 h4 hc
    go_enter Try.func53, Try.ntmps53
    go_wp2
    go_ret
    exact ⟨rfl, HR.out, belowOne _ _⟩
  · have HR := Lib.hid (rd_new w A n c f (by omega) h1 h2 h3 h4)
    unfold maxLen at h2
    clear h3 h4
    go_enter Try.func53, Try.ntmps53
    go_wp2
    go_ret
    exact ⟨rfl, HR.out, belowOne _ _⟩

end Go.Proofs.Ytlmcpkijcadalaa
