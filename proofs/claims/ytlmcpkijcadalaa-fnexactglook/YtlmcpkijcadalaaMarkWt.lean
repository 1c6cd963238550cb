/- How much weighs what bears marks. -/
import Derived.Test.YtlmcpkijcadalaaShapes
import Derived.Test.YtlmcpkijcadalaaMarkSize
namespace Go.Proofs.Ytlmcpkijcadalaa
open Go.RowKit

theorem markS_small {k : Int} : (markS k).size ≤ k.toNat + 1 := by
  unfold markS
  rw [ByteArray.size_append]
  have h1 := decs_size k.toNat k ⟨#[]⟩ (Nat.le_refl _)
  have h2 : (⟨#[]⟩ : ByteArray).size = 0 := rfl
  have h3 : (⟨#[109]⟩ : ByteArray).size = 1 := rfl
  omega
/-- What bears marks up to M weighs at most so much a mark. -/
def WtLe {α : Type} (A : Sh α) (M c : Nat) : Prop := ∀ (k : Int) (x : α), A.mkd k x → 0 ≤ k → k + A.cnt x ≤ M → A.wt x ≤ A.cnt x * c
section
variable {α β : Type} {A : Sh α} {B : Sh β} {M c : Nat}
theorem WtLe.int : WtLe Sh.int M c := fun _ _ _ _ _ => Nat.zero_le _
theorem WtLe.bool : WtLe Sh.bool M c := fun _ _ _ _ _ => Nat.zero_le _
theorem WtLe.str (hMc : M + 2 ≤ c) : WtLe strSh M c := fun k x h h0 hM => by
  have e : x = markS k := h
  have hc : strSh.cnt x = 1 := rfl
  rw [hc] at hM ⊢
  have hw : strSh.wt x = x.size := rfl
  rw [hw, e]
  have := markS_small (k := k)
  omega
theorem WtLe.pair (hA : WtLe A M c) (hB : WtLe B M c) : WtLe (A.pair B) M c := fun k x h h0 hM => by
  obtain ⟨h1, h2⟩ := h
  have hc : (A.pair B).cnt x = A.cnt x.1 + B.cnt x.2 := rfl
  have hw : (A.pair B).wt x = A.wt x.1 + B.wt x.2 := rfl
  rw [hc] at hM ⊢
  rw [hw, Nat.add_mul]
  have a := hA k x.1 h1 h0 (by omega)
  have b := hB _ x.2 h2 (by omega) (by omega)
  omega
theorem WtLe.conv {f : β → α} {g : α → β} {hg : f (g A.z) = A.z} (hA : WtLe A M c) : WtLe (A.conv f g hg) M c := fun k x h h0 hM => hA k (f x) h h0 hM
theorem WtLe.rows (hA : WtLe A M c) : ∀ (l : List α) (k : Int), mkdL A.cnt A.mkd k l → 0 ≤ k → k + cntL A.cnt l ≤ M → wtL A.wt l ≤ l.length + cntL A.cnt l * c
  | [], _, _, _, _ => by simp [wtL, cntL]
  | x :: l, k, h, h0, hM => by
    obtain ⟨h1, h2⟩ := h
    have hc : cntL A.cnt (x :: l) = A.cnt x + cntL A.cnt l := rfl
    have hw : wtL A.wt (x :: l) = 1 + A.wt x + wtL A.wt l := rfl
    rw [hc] at hM ⊢
    rw [hw, Nat.add_mul, List.length_cons]
    have a := hA k x h1 h0 (by omega)
    have b := WtLe.rows hA l _ h2 (by omega) (by omega)
    omega
theorem ints_wt (x : List Int) : intsSh.wt x = x.length := by
  show wtL (fun _ => 0) x = x.length
  induction x with
  | nil => rfl
  | cons a l ih => simp only [wtL, List.length_cons]; omega
theorem ints_cnt (x : List Int) : intsSh.cnt x = x.length := by
  show cntL (fun _ => 1) x = x.length
  induction x with
  | nil => rfl
  | cons a l ih => simp only [cntL, List.length_cons]; omega
theorem WtLe.ints (hc : 1 ≤ c) : WtLe intsSh M c := fun k x _ _ _ => by
  rw [ints_wt, ints_cnt]
  exact Nat.le_mul_of_pos_right _ (by omega)
theorem WtLe.it (h : M + 2 ≤ c) : WtLe itSh M c := WtLe.conv (WtLe.pair (WtLe.str h) (WtLe.ints (by omega)))
theorem WtLe.wr (h : M + 2 ≤ c) : WtLe wrSh M c := WtLe.conv (WtLe.pair (WtLe.str h) (WtLe.pair WtLe.bool (WtLe.ints (by omega))))
/-- Things, as many as they are: each bears a mark. -/
theorem its_len (l : List Item) : l.length ≤ cntL itSh.cnt l := by
  induction l with
  | nil => simp
  | cons a l ih =>
    have : itSh.cnt a = 1 + intsSh.cnt a.val := rfl
    simp only [cntL, List.length_cons]; omega
theorem its_wt {M : Nat} {l : List Item} {k : Int} (h : mkdL itSh.cnt itSh.mkd k l) (h0 : 0 ≤ k) (hM : k + cntL itSh.cnt l ≤ M) : wtL itSh.wt l ≤ cntL itSh.cnt l * (M + 3) := by
  have h1 := WtLe.rows (WtLe.it (Nat.le_refl (M + 2))) l k h h0 hM
  have h2 := its_len l
  have h3 : cntL itSh.cnt l * (M + 3) = cntL itSh.cnt l * (M + 2) + cntL itSh.cnt l := by rw [show M + 3 = M + 2 + 1 by omega, Nat.mul_succ]
  omega
end
/-- How many marks things bear that are short. -/
theorem its_cnt {its : List Item} (h : ∀ it ∈ its, it.val.length ≤ 3) : cntL itSh.cnt its ≤ 4 * its.length := by
  induction its with
  | nil => simp [cntL]
  | cons x l ih =>
    have h1 := h x (List.mem_cons_self ..)
    have h2 := ih fun y hy => h y (List.mem_cons_of_mem _ hy)
    have hc : itSh.cnt x = 1 + intsSh.cnt x.val := rfl
    have hc2 := ints_cnt x.val
    simp only [cntL, List.length_cons]
    omega

end Go.Proofs.Ytlmcpkijcadalaa
