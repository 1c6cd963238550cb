/- How long a mark's text is. -/
import Derived.Test.YtecdibpiojgppaaMark
namespace Go.Proofs.Ytecdibpiojgppaa
open Go.RowKit

theorem decs_size : ∀ (n : Nat) (k : Int) (s : ByteArray), k.toNat ≤ n → (decs k s).size ≤ n + s.size
  | n, k, s, h => by
    by_cases hk : 0 < k
    · cases n with
      | zero => omega
      | succ n =>
        rw [← decs_step s hk]
        have := decs_size n (k / 10) (digT (k % 10) ++ s) (by omega)
        rw [ByteArray.size_append, digT_size] at this
        omega
    · rw [decs_end s (by omega)]; omega
theorem markS_size {k : Int} (h : k ≤ 1000000000000000) : (markS k).size ≤ maxLen := by
  unfold markS maxLen
  rw [ByteArray.size_append]
  have h1 := decs_size k.toNat k ⟨#[]⟩ (Nat.le_refl _)
  have h2 : (⟨#[]⟩ : ByteArray).size = 0 := rfl
  have h3 : (⟨#[109]⟩ : ByteArray).size = 1 := rfl
  omega

end Go.Proofs.Ytecdibpiojgppaa
